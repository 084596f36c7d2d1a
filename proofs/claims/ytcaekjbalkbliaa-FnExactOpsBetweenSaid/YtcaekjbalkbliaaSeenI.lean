/- Contract of SeenAt of the program (chapter 7). Conditions: the versions lie in a row; they are few; their texts are no longer than memory. -/
import Derived.Test.YtcaekjbalkbliaaSortP
import Derived.Test.YtcaekjbalkbliaaVerW
import Derived.Test.YtcaekjbalkbliaaOut
set_option linter.unusedVariables false
set_option linter.unusedSimpArgs false
namespace Go.Proofs.Ytcaekjbalkbliaa
open Go.RowKit Go.ChangeShapes Go.WideShapes Go.Maps

/-- as wpList_range_vm, with how many entries there are -/
theorem wpList_range_vmN {P : Program} {k t e : TypeId} {w : World} {b n : Nat} {f : List UInt8 → Option Vr} {ops : Array Oper} {rest : List Oper} {o : Oper} {a : Act} {Q : Exit → Act → World → Prop}
    (h : VMap P k w b n f) (hk : P.underlying k = some .string) (ht : P.underlying t = some (.map k e)) (hg : o.guard = none) (m : Operand) (hop : o.op = Op.range t m) (hm : a.eval m = .map (some b))
    (hK : ∀ w' cnt', cnt' ≤ n → VRng P k w' b w.heap.size n f (fun s => (f s).isSome) cnt' → w.grownBy w' none → w'.heap.size = w.heap.size + 1 → wpList P ops Q rest (a.put o.dst (.pointer (some ⟨w.heap.size, 0, none⟩))) w') : wpList P ops Q (o :: rest) a w := by
  obtain ⟨D, hown, hR⟩ := h
  exact wpList_range_own w hg m t hop k e (string_keyed hk) ht vElem b n D hm hown (fun w' h1 h2 h3 => hK w' _ hown.size_le ⟨D, _, h1, hR, fun s => (hR s).1⟩ h2 h3)
/-- the pairs that are collected while keys are still to come -/
structure CollAt (l : List Vr) (at_ : Int) (w3 : World) (mb mm r m : Nat) (Q : List Pr) (A : Option Addr) (c : Nat) (lf : List UInt8 → Bool) (cnt : Nat) (W : World) : Prop where
  rg : VRng Try.prog 9 W mb r mm (lastA l at_) lf cnt
  len : m = Q.length
  few : m + cnt ≤ mm
  co : Coll (lastA l at_) lf Q
  own : W.ownsRow (r + 1) 52 2 (.slice A m c) m (prsC Q)
  hb : Below r w3 W
section
variable {l : List Vr} {at_ : Int} {w3 : World} {mb mm r m c cnt : Nat} {Q : List Pr} {A : Option Addr} {lf : List UInt8 → Bool} {W W' : World}
theorem CollAt.ne (h : CollAt l at_ w3 mb mm r m Q A c lf cnt W) : (Value.slice A m c).ownBlock = none ∨ (Value.slice A m c).ownBlock ≠ some r := by
  cases A with
  | none => exact .inl rfl
  | some a => exact .inr (fun e => by have := (h.own.lt a.block rfl).1; injection e with e; omega)
theorem CollAt.alloc (h : CollAt l at_ w3 mb mm r m Q A c lf cnt W) (o : Obj) : CollAt l at_ w3 mb mm r m Q A c lf cnt (W.alloc o) :=
  { h with rg := h.rg.alloc o, own := h.own.alloc o, hb := h.hb.alloc (Nat.le_of_lt h.rg.lt) o }
end

set_option maxRecDepth 100000 in
set_option maxHeartbeats 4000000 in
theorem iSeen_any (A : Option Addr) (n c : Nat) (l : List Vr) (at_ : Int) (w : World) (hr : RowAt w w.heap.size A (vrsC l)) (hn : n = l.length) (hs : n ≤ 1048576) (hw : WfVr l) (hc1 : n ≤ c) (hc2 : c ≤ maxLen) :
    Calls Try.prog 27 #[.slice A n c, .int .i64 at_] w (PutPrPost (seenR l at_) w) := by
  obtain ⟨i0, hi0, hz0, hz1, hz2⟩ := info_parts prInfo
  have HI := Lib.hid (And.intro hi0 (And.intro hz0 (And.intro hz1 hz2))); clear hi0 hz0 hz1 hz2
  have HV := Lib.hid (iMayR_any A n c l at_ w hr hn hs hw hc1 hc2)
  have HL := Lib.hid (fun (h : sweepB okVr l at_ = true) W (hb : Below w.heap.size w W) => iLast_any A n c l at_ W ((hr.below hb).mono hb.size) hn hs hw (sweepB_up h))
  have HNO := Lib.hid (fun h => seenR_no (l := l) (at_ := at_) h)
  have HYY := Lib.hid (fun h => seenR_yes (l := l) (at_ := at_) h)
  have HKEY := Lib.hid (fun k v (h : lastA l at_ k = some v) => lastA_key h)
  clear hr hn hs hw hc1 hc2
  generalize seenR l at_ = rk at *
  cases h1 : sweepB okVr l at_
  · rw [h1] at HV
    have HE := Lib.hid (HNO.out h1)
    clear h1 HL HYY HNO
    go_enter Try.func27, Try.ntmps27
    go_wp2_with fail
    refine (HV.out).mono ?_
    rintro e w2 ⟨rfl, hb2⟩
    have HB2 := Lib.hid hb2; clear hb2
    go_wp2_with fail
    go_ret
    rw [HE.out]
    exact ⟨_, rfl, ⟨none, 0, rfl, World.ownsRow_nil _ _ _ _⟩, HB2.out⟩
  have HL1 := Lib.hid (HL.out h1)
  have HE := Lib.hid (HYY.out h1)
  rw [h1] at HV
  clear h1 HL HYY HNO
  go_enter Try.func27, Try.ntmps27
  go_wp2_with fail
  refine (HV.out).mono ?_
  rintro e w2 ⟨rfl, hb2⟩
  have HB2 := Lib.hid hb2; clear hb2
  go_wp2_with fail
  refine (HL1.out _ HB2.out).mono ?_
  rintro e w3 ⟨mb, mm, rfl, hmb, hmm, hvm, hb3⟩
  have HB3 := Lib.hid (HB2.out.trans (hb3.mono HB2.out.size)); clear hb3
  have HVM := Lib.hid hvm; clear hvm
  have HMB := Lib.hid hmb; clear hmb
  have HML := Lib.hid HVM.out.lt
  go_wp2_with (at_range; refine wpList_range_vmN HVM.out Try.underlying9 Try.underlying79 rfl _ rfl rfl ?_)
  intro w4 cnt4 hcnt4 hrg4 hg4 hsz4
  have HC4 := Lib.hid ({ rg := hrg4, len := rfl, few := by omega, co := coll_start _, own := World.ownsRow_nil _ _ _ _, hb := (Below.refl _ _).grown hg4 (Nat.le_refl _) (fun q hq => by cases hq) } : CollAt l at_ w3 mb mm w3.heap.size 0 [] none 0 (fun s => (lastA l at_ s).isSome) cnt4 w4)
  clear hrg4 hg4 hcnt4
  generalize hr3 : w3.heap.size = r at *
  have HR3 := Lib.hid hr3; clear hr3
  go_wp2_with fail
  go_loopw [5] (fun q wr => ∃ (m : Nat) (Q : List Pr) (A' : Option Addr) (c' : Nat) (lf : List UInt8 → Bool) (cnt : Nat), q = .slice A' m c' ∧ CollAt l at_ w3 mb mm r m Q A' c' lf cnt wr) (fun _ wr => wr.rangeLeft mb r)
  case atStart => exact ⟨0, [], none, 0, _, cnt4, rfl, HC4.out⟩
  case round =>
    obtain ⟨m, Q, A', c', lf, cnt, rfl, hco⟩ := hrel
    clear HC4
    have HC := Lib.hid hco; clear hco
    have HFEW := Lib.hid HC.out.few
    have HLE := Lib.hid HC.out.rg.left_eq
    go_wp2_with (at_next; refine wpList_next_vm HC.out.rg Try.underlying9 rfl _ rfl rfl (fun hc0 hdone => ?_) (fun x p w5 cnt5 hlx hfx hrg5 hcnt hg5 hsz5 hent => ?_); rotate_left; obtain ⟨y0, y1, y2, y3⟩ := p; unfold vVal at hent ⊢; dsimp only at hent ⊢; change Aside _; rotate_left)
    rotate_left
    · unfold Aside
      refine Or.inl ?_
      have hne5 := HC.out.ne
      have HO5 := Lib.hid (show w5.ownsRow (r + 1) 52 2 (.slice A' m c') m (prsC Q) from HC.out.own.kept hg5 hne5)
      have HB5 := Lib.hid (show Below r w3 w5 from HC.out.hb.grown hg5 (Nat.le_of_lt HC.out.rg.lt) (fun q hq => by injection hq with hq; omega))
      have HCO5 := Lib.hid (coll_step HKEY.out HC.out.co hlx hfx)
      have HRG5 := Lib.hid hrg5
      have HCNT := Lib.hid hcnt
      have HLN5 := Lib.hid HC.out.len
      clear hlx hfx hrg5 hcnt hg5 hne5 hsz5
      have hm1 : m ≤ 1048576 := by have := HFEW.out; omega
      have HSZ5 := Lib.hid (show r + 1 ≤ w5.heap.size from HRG5.out.lt)
      have hbase : r + 1 ≤ w5.heap.size + 1 := by have := HSZ5.out; omega
      have HOA := Lib.hid (fun o o' => ((HO5.out.alloc o).alloc o'))
      have HRA := Lib.hid (fun o o' => ((HRG5.out.alloc o).alloc o'))
      have HBA := Lib.hid (fun o o' => ((HB5.out.alloc (by have := HSZ5.out; omega) o).alloc (by have := HSZ5.out; simp; omega) o'))
      go_wp2_with (at_builtin; refine wpList_append_own _ rfl _ _ 26 rfl (r + 1) 52 i0 (.agg #[.string ⟨#[]⟩, .string ⟨#[]⟩]) 2 32 Try.underlying26 HI.out.1 HI.out.2.1 HI.out.2.2.1 HI.out.2.2.2 rfl (by decide) (.slice A' m c') m (prsC Q) rfl (HOA.out _ _) ⟨w5.heap.size + 1, 0, none⟩ 1 1 [.string x, .string y1] rfl rfl ?c1 ?c2 ?c3 ?c4 ?c5 ?_)
      try (case c1 => exact fun j u hj => by simpa using cells_at0 (w5.alloc (.cells #[.string y0, .string y1, .bool y2, .int .i64 y3] 71)) [.string x, .string y1] 52 j u hj)
      try (case c2 => first | exact ⟨rfl, rfl⟩ | (intro u hu; simp at hu; rcases hu with rfl | rfl <;> rfl))
      try (case c3 => first | omega | (unfold maxLen; omega))
      try (case c4 => omega)
      try (case c5 => first | omega | (have := HSZ5.out; simp; omega))
      intro v' w6 hown' hgrow _
      obtain ⟨A6, c6, rfl⟩ : ∃ (A6 : Option Addr) (c6 : Nat), v' = .slice A6 (m + 1) c6 := by
        rcases hown'.2 with ⟨a1, a2⟩ | ⟨g, N, cur, a1, _⟩
        · omega
        · exact ⟨_, _, a1⟩
      have hnb : ∀ q, (Value.slice A' m c').ownBlock = some q → r + 1 ≤ q := fun q hq => (HO5.out.lt q hq).1
      have HC6 := Lib.hid ({ rg := (HRA.out _ _).kept hgrow (fun e => by have := hnb mb e.symm; have := HML.out; omega) (fun e => by have := hnb r e.symm; omega), len := by rw [List.length_append, ← HLN5.out]; rfl, few := by have := HFEW.out; have := HCNT.out; omega, co := HCO5.out, own := by rw [prsC_snoc]; exact hown', hb := (HBA.out _ _).grown hgrow (by have := HSZ5.out; simp; omega) (fun q hq => by have := hnb q hq; omega) } : CollAt l at_ w3 mb mm r (m + 1) (Q ++ [(x, y1)]) A6 c6 (fun s => lf s && !(s == x.toList)) cnt5 w6)
      clear hown' hgrow hnb
      have hme : w6.rangeLeft mb r < wr.rangeLeft mb r := by rw [HC6.out.rg.left_eq, HLE.out]; exact HCNT.out
      go_wp2_with fail
      go_roundw
      case rel => exact ⟨m + 1, Q ++ [(x, y1)], A6, c6, _, cnt5, rfl, HC6.out⟩
      case measure => exact hme
    have HDN := Lib.hid hdone; clear hdone
    have hm1 : m ≤ 1048576 := by have := HFEW.out; omega
    have HSO := Lib.hid (sort_own (r + 1) m c' Q A' wr HC.out.own HC.out.len hm1)
    go_wp2_with fail
    refine (HSO.out).mono ?_
    rintro e w7 ⟨rfl, R, hp, hso, ho7, hg7⟩
    have HR7 := Lib.hid (show rk = R by rw [HE.out]; exact pm_same (seenA_pm l at_) (coll_end HKEY.out HC.out.co HDN.out hp hso))
    have HM7 := Lib.hid (show m = R.length by rw [HC.out.len, hp.length_eq])
    have HB7 := Lib.hid (show Below w.heap.size w w7 from HB3.out.trans ((HC.out.hb.grown hg7 (Nat.le_of_lt HC.out.rg.lt) (fun q hq => by have := (HC.out.own.lt q hq).1; omega)).mono (by rw [← HR3.out]; exact HB3.out.size)))
    have HO7 := Lib.hid (own_leV ho7 (show w.heap.size ≤ r + 1 by have := HB3.out.size; have := HR3.out; omega))
    clear hp hso ho7 hg7
    go_wp2_with fail
    go_ret
    rw [HR7.out]
    have hM := HM7.out
    subst hM
    exact ⟨_, rfl, ⟨A', c', rfl, HO7.out⟩, HB7.out⟩
end Go.Proofs.Ytcaekjbalkbliaa
