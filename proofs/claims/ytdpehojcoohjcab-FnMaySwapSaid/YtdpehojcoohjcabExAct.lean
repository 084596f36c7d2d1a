/- Contracts of the exact laws' own helpers on lists of Act: sz, to, eq, and how such an argument is opened. Conditions: the elements lie in a row; they are few. -/
import Derived.Test.YtdpehojcoohjcabKey
import Derived.Test.YtdpehojcoohjcabOpen
import Derived.StillTailTactics
import Derived.Deep.RegionWith
set_option linter.unusedVariables false
set_option linter.unusedSimpArgs false
namespace Go.Proofs.Ytdpehojcoohjcab
open Go.RowKit Go.ChangeShapes Go.WideShapes

abbrev Ac := Int × Int × Bool
def acC (p : Ac) : List Value := [.int .i64 p.1, .int .i64 p.2.1, .bool p.2.2]
theorem acC_len (p : Ac) : (acC p).length = 3 := rfl
def acsC (l : List Ac) : List Value := l.flatMap acC
theorem acsC_len (l : List Ac) : (acsC l).length = l.length * 3 := flat_len acC 3 acC_len l
theorem acsC_app (a b : List Ac) : acsC (a ++ b) = acsC a ++ acsC b := by unfold acsC; rw [List.flatMap_append]
theorem acsC_snoc (A : List Ac) (x : Ac) : acsC (A ++ [x]) = acsC A ++ acC x := by rw [acsC_app]; simp [acsC]
theorem acsC_at0 {l : List Ac} {k : Nat} (h : k < l.length) : (acsC l)[k * 3]? = some (.int .i64 l[k].1) := by
  have := flat_at acC 3 acC_len l k 0 (by omega)
  rw [Nat.add_zero] at this
  rw [acsC, this, List.getElem?_eq_getElem h]; rfl
theorem acsC_at1 {l : List Ac} {k : Nat} (h : k < l.length) : (acsC l)[k * 3 + 1]? = some (.int .i64 l[k].2.1) := by
  have := flat_at acC 3 acC_len l k 1 (by omega)
  rw [acsC, this, List.getElem?_eq_getElem h]; rfl
theorem acsC_at2 {l : List Ac} {k : Nat} (h : k < l.length) : (acsC l)[k * 3 + 2]? = some (.bool l[k].2.2) := by
  have := flat_at acC 3 acC_len l k 2 (by omega)
  rw [acsC, this, List.getElem?_eq_getElem h]; rfl
theorem acs_at {w : World} {B : Nat} {A : Option Addr} {l : List Ac} {k : Nat} (h : RowAt w B A (acsC l)) (hk : k < l.length) :
    ∃ b off, A = some ⟨b, off, none⟩ ∧ b < B ∧ w.cell? ⟨b, off + k * 3, none⟩ = some (.int .i64 l[k].1) ∧ w.cell? ⟨b, off + k * 3 + 1, none⟩ = some (.int .i64 l[k].2.1) ∧ w.cell? ⟨b, off + k * 3 + 2, none⟩ = some (.bool l[k].2.2) := by
  obtain ⟨b, off, rfl, hb, hc⟩ := h (by intro h0; have := acsC_len l; rw [h0] at this; simp at this; omega)
  exact ⟨b, off, rfl, hb, hc _ _ (acsC_at0 hk), by rw [Nat.add_assoc]; exact hc _ _ (acsC_at1 hk), by rw [Nat.add_assoc]; exact hc _ _ (acsC_at2 hk)⟩
theorem acInfo : (Try.prog.info? 47).map (fun i => (i.zero, i.size, i.bytes)) = some (some (.agg #[.int .i64 0, .int .i64 0, .bool false]), 3, 24) := by kernel_rfl
def GoodAc (p : Ac) : Prop := (-9223372036854775808 ≤ p.1 ∧ p.1 ≤ 9223372036854775807) ∧ (-9223372036854775808 ≤ p.2.1 ∧ p.2.1 ≤ 9223372036854775807)
def SmallAc (p : Ac) : Prop := True
def WfAc (l : List Ac) : Prop := ∀ p ∈ l, GoodAc p

theorem ac_cells : Try.prog.cellsOf 54 = 3 := by kernel_rfl
theorem ac_cells_bool : Try.prog.cellsOf 4 = 1 := by kernel_rfl
theorem ac_cells_int : Try.prog.cellsOf 3 = 1 := by kernel_rfl
section
variable {H : Type} {enc : TypeId × Value → H} {P : Program} {w : World} {base : Nat} {spare : Nat → Bool} {held : Bool}
theorem ac_shape {t e : TypeId} {fuel : Nat} {v : Value} {x : DataW H × List MemPlace} (ht : P.underlying t = some (.slice e)) (h : DataW.trod enc P w base spare held fuel t [v] = some x) : ∃ A n c, v = .slice A n c := by
  rcases Go.Deep.open_slice ht h with ⟨hcs, _⟩ | ⟨ad, len, cap, m, q, D, Pl, hcs, _⟩
  · exact ⟨none, 0, 0, by simpa using hcs⟩
  · exact ⟨some ad, len, cap, by simpa using hcs⟩
set_option maxRecDepth 100000 in
theorem ac_wf {n : Int} (h : (Lit.int .i64 n).wf = true) : -9223372036854775808 ≤ n ∧ n ≤ 9223372036854775807 := by
  simpa [Lit.wf, IntKind.min, IntKind.max, IntKind.signed, IntKind.bits] using h
set_option maxRecDepth 100000 in
theorem ac_read (m : Nat) (cs : List Value) (y : DataW H × List MemPlace) (hy : DataW.trod enc Try.prog w base spare held m 54 cs = some y) : ∃ a, cs = acC a ∧ GoodAc a := by
  obtain ⟨y0, y1, y2, q, _, hl, h0, h1, h2⟩ := Go.Deep.trod_struct3 Try.underlying54 hy
  rw [ac_cells] at hl
  match cs, hl with
  | [v0, v1, v2], _ =>
    obtain ⟨a0, e0, _, w0⟩ := DataW.trod_int Try.underlying3 h0
    obtain ⟨a1, e1, _, w1⟩ := DataW.trod_int Try.underlying3 h1
    obtain ⟨a2, e2, _⟩ := DataW.trod_bool Try.underlying4 h2
    rw [ac_cells_int] at e0
    rw [ac_cells_int] at e1
    rw [ac_cells_bool] at e2
    simp at e0 e1 e2
    subst e0 e1 e2
    exact ⟨(a0, a1, a2), rfl, ac_wf w0, ac_wf w1⟩
/-- a list of Act as an argument, as it was read -/
def AcArg (w : World) (A : Option Addr) (n c : Nat) (l : List Ac) : Prop := n = l.length ∧ n ≤ c ∧ c ≤ maxLen ∧ RowAt w w.heap.size A (acsC l) ∧ WfAc l
theorem open_ac {fuel : Nat} {A : Option Addr} {n c : Nat} {x : DataW H × List MemPlace} (h : DataW.trod enc Try.prog w base spare held fuel 22 [.slice A n c] = some x) : ∃ l : List Ac, AcArg w A n c l := by
  have hE : ∀ (m : Nat) (cs : List Value) (y : DataW H × List MemPlace), DataW.trod enc Try.prog w base spare held m 54 cs = some y → ∃ a, cs = acC a ∧ GoodAc a := ac_read
  obtain ⟨l, h1, h2, h3, h4, h5⟩ := open_rows acC GoodAc 3 (by decide) acC_len Try.underlying22 ac_cells hE h
  exact ⟨l, h1, h2, h3, h4, h5⟩
end

theorem szActS_any (A : Option Addr) (n c : Nat) (L : Int) (w : World) (hm : n ≤ maxLen) (h0 : 0 ≤ L) (hL : L ≤ 1048576) :
    Calls Try.prog 10 #[.slice A n c, .int .i64 L] w fun e w' => (∃ v : Int, e = .returned (.int .i64 v) ∧ (v < 0 ∨ (0 ≤ v ∧ v ≤ L ∧ n ≤ 1048576))) ∧ w' = w := by
  unfold maxLen at hm
  go_enter Try.func10, Try.ntmps10
  go_wp2
  all_goals go_ret
  all_goals first | exact ⟨⟨_, rfl, Or.inl (by omega)⟩, rfl⟩ | exact ⟨⟨_, rfl, Or.inr ⟨by omega, by omega, by omega⟩⟩, rfl⟩
theorem toAct_any (x0 : Int) (x1 : Int) (x2 : Bool) (w : World) :
    Calls Try.prog 39 #[.agg #[.int .i64 x0, .int .i64 x1, .bool x2]] w fun e w' => e = .returned (.agg #[.int .i64 x0, .int .i64 x1, .bool x2]) ∧ Below w.heap.size w w' := by
  go_enter Try.func39, Try.ntmps39
  go_wp2
  refine bodyPost_ret (v := .agg #[.int .i64 x0, .int .i64 x1, .bool x2]) (by simp [results, Try.results39, go_sem]) rfl ⟨rfl, ?_⟩
  exact (((Below.refl _ _).alloc (Nat.le_refl _) _).alloc (by simp) _).alloc (by simp; omega) _
theorem set_appAc {α : Type} (A : List α) (r v : α) (R : List α) (k : Nat) (hk : k = A.length) : (A ++ r :: R).set k v = (A ++ [v]) ++ R := by
  subst hk
  rw [List.set_append_right _ _ (Nat.le_refl _)]
  simp
/-- the row that the call fills: k of its elements are there -/
def FillAc (w : World) (g n : Nat) (l : List Ac) (k : Nat) (wr : World) : Prop :=
  k ≤ n ∧ w.heap.size ≤ g ∧ (∃ R : List Value, R.length = (n - k) * 3 ∧ wr.ownsRow w.heap.size 47 3 (.slice (some ⟨g, 0, none⟩) n n) n (acsC (l.take k) ++ R)) ∧ Below w.heap.size w wr
theorem FillAc.keep {w wr W : World} {g n : Nat} {l : List Ac} {k : Nat} (h : FillAc w g n l k wr) (hb : Below wr.heap.size wr W) : FillAc w g n l k W := by
  obtain ⟨h1, h2, ⟨R, hR, ho⟩, hB⟩ := h
  exact ⟨h1, h2, ⟨R, hR, ho.kept (grown_of_below (row := none) hb) (by simp [Value.ownBlock])⟩, hB.trans (hb.mono hB.size)⟩
theorem FillAc.put {w wr : World} {g n : Nat} {l : List Ac} {k : Nat} (h : FillAc w g n l k wr) (hn : n = l.length) (hk : k < n) :
    FillAc w g n l (k + 1) (((wr.setCell ⟨g, k * 3, none⟩ (.int .i64 (l[k]'(by omega)).1)).setCell ⟨g, k * 3 + 1, none⟩ (.int .i64 (l[k]'(by omega)).2.1)).setCell ⟨g, k * 3 + 2, none⟩ (.bool (l[k]'(by omega)).2.2)) := by
  obtain ⟨_, hg, ⟨R, hR, ho⟩, hB⟩ := h
  have hlen : (acsC (l.take k)).length = k * 3 := by rw [acsC_len, List.length_take]; congr 1; omega
  match R, hR with
  | [], hR => simp at hR; omega
  | [_], hR => simp at hR; omega
  | [_, _], hR => simp at hR; omega
  | r0 :: r1 :: r2 :: R, hR =>
    have o0 := (ho.stored (k * 3) (.int .i64 (l[k]'(by omega)).1)).1
    rw [set_appAc _ _ _ _ _ hlen.symm] at o0
    have o1 := (o0.stored (k * 3 + 1) (.int .i64 (l[k]'(by omega)).2.1)).1
    rw [set_appAc _ _ _ _ _ (by simp [hlen])] at o1
    have o2 := (o1.stored (k * 3 + 2) (.bool (l[k]'(by omega)).2.2)).1
    rw [set_appAc _ _ _ _ _ (by simp [hlen])] at o2
    refine ⟨by omega, hg, ⟨R, by simp at hR; omega, ?_⟩, (((hB.setCell hg _).setCell hg _).setCell hg _)⟩
    have e : acsC (l.take (k + 1)) = acsC (l.take k) ++ [.int .i64 (l[k]'(by omega)).1] ++ [.int .i64 (l[k]'(by omega)).2.1] ++ [.bool (l[k]'(by omega)).2.2] := by
      rw [List.take_succ_eq_append_getElem (by omega), acsC_snoc, List.append_assoc, List.append_assoc]; rfl
    rw [e]
    exact o2
theorem FillAc.start {w w1 : World} {n : Nat} {l : List Ac} {z : Array Value} (hown : w1.ownsRow w.heap.size 47 3 (.slice (some ⟨w.heap.size, 0, none⟩) n n) n (madeCells z (n * 3)).toList) (hg : w.grownBy w1 none) : FillAc w w.heap.size n l 0 w1 :=
  ⟨by omega, by omega, ⟨(madeCells z (n * 3)).toList, by simp [size_madeCells], by simpa [acsC] using hown⟩, (Below.refl _ _).grown hg (Nat.le_refl _) (by simp)⟩
theorem FillAc.cells {w wr : World} {g n : Nat} {l : List Ac} {k : Nat} (h : FillAc w g n l k wr) (hk : k < n) :
    (∃ u, wr.cell? ⟨g, k * 3, none⟩ = some u) ∧ (∃ u, wr.cell? ⟨g, k * 3 + 1, none⟩ = some u) ∧ (∃ u, wr.cell? ⟨g, k * 3 + 2, none⟩ = some u) ∧ wr.frozen? ⟨g, k * 3, none⟩ = false ∧ wr.frozen? ⟨g, k * 3 + 1, none⟩ = false ∧ wr.frozen? ⟨g, k * 3 + 2, none⟩ = false := by
  obtain ⟨_, hg, ⟨R, hR, ho⟩, hB⟩ := h
  have c0 := ho.cellAt (k * 3) (by omega)
  have c1 := ho.cellAt (k * 3 + 1) (by omega)
  have c2 := ho.cellAt (k * 3 + 2) (by omega)
  rw [List.getElem?_eq_getElem (by rw [ho.1]; omega)] at c0 c1 c2
  exact ⟨⟨_, c0⟩, ⟨_, c1⟩, ⟨_, c2⟩, ho.frozenAt _, ho.frozenAt _, ho.frozenAt _⟩
/-- a list of the call's own, in a row -/
def OwnAc (B : Nat) (l : List Ac) (v : Value) (w : World) : Prop :=
  ∃ (A : Option Addr) (c : Nat), v = .slice A l.length c ∧ w.ownsRow B 47 3 (.slice A l.length c) l.length (acsC l)
theorem FillAc.done {w wr : World} {g n : Nat} {l : List Ac} (h : FillAc w g n l n wr) (hn : n = l.length) : OwnAc w.heap.size l (.slice (some ⟨g, 0, none⟩) n n) wr ∧ Below w.heap.size w wr := by
  obtain ⟨_, hg, ⟨R, hR, ho⟩, hB⟩ := h
  have : R = [] := List.eq_nil_of_length_eq_zero (by omega)
  subst this
  rw [List.append_nil, hn, List.take_length] at ho
  subst hn
  exact ⟨⟨_, _, rfl, ho⟩, hB⟩
def AcsPost (l : List Ac) (w : World) (e : Ending) (w' : World) : Prop := ∃ v, e = .returned v ∧ OwnAc w.heap.size l v w' ∧ Below w.heap.size w w'

set_option maxRecDepth 100000 in
set_option maxHeartbeats 1000000 in
theorem toActS_any (A : Option Addr) (n c : Nat) (l : List Ac) (w : World) (hr : RowAt w w.heap.size A (acsC l)) (hn : n = l.length) (hs : n ≤ 1048576) :
    Calls Try.prog 12 #[.slice A n c] w (AcsPost l w) := by
  obtain ⟨i0, hi0, hz0, hz1, hz2⟩ := info_parts acInfo
  have HR := Lib.hid hr; clear hr
  have HN := Lib.hid hn; clear hn
  have hb2 : i0.bytes * n ≤ 281474976710656 := by rw [hz2]; omega
  have HI := Lib.hid (And.intro hi0 (And.intro hz0 (And.intro hz1 hz2))); clear hi0 hz0 hz1 hz2
  go_enter Try.func12, Try.ntmps12
  go_wp2_with ((refine wpList_make_full _ rfl _ _ 26 rfl w.heap.size 47 i0 (.agg #[.int .i64 0, .int .i64 0, .bool false]) 3 Try.underlying26 HI.out.1 HI.out.2.1 HI.out.2.2.1 .i64 .i64 _ _ n rfl rfl rfl rfl hb2 (by unfold maxLen; omega) (Nat.le_refl _) ?_
                intro w1 hown hg1
                have HF := Lib.hid (FillAc.start (l := l) hown hg1)
                clear hown hg1))
  clear hb2
  go_loopw [4] (fun i wr => ∃ k : Nat, i = .int .i64 k ∧ FillAc w w.heap.size n l k wr) (fun i _ => n - (intOf i).toNat)
  case atStart => exact ⟨0, rfl, HF.out⟩
  case round =>
    clear HF
    obtain ⟨k, rfl, hf⟩ := hrel
    have HF := Lib.hid hf; clear hf
    have hk := HF.out.1
    by_cases hlt : k < n
    · have hkl : k < l.length := by have := HN.out; omega
      obtain ⟨b, off, rfl, hbw, e0, e1, e2⟩ := acs_at (HR.out.below HF.out.2.2.2) hkl
      have HT := Lib.hid (fun w => toAct_any l[k].1 l[k].2.1 l[k].2.2 w)
      have HS := Lib.hid (fun W hb => (HF.out.keep (W := W) hb).put HN.out hlt)
      have HC := Lib.hid (fun W hb => (HF.out.keep (W := W) hb).cells hlt)
      generalize hx0 : l[k].1 = x0 at *
      generalize hx1 : l[k].2.1 = x1 at *
      generalize hx2 : l[k].2.2 = x2 at *
      clear hx0 hx1 hx2
      go_wp2_with fail
      refine (HT.out _).mono ?_
      rintro e w3 ⟨rfl, hb3⟩
      have HB3 := Lib.hid hb3; clear hb3
      obtain ⟨⟨u0, c0⟩, ⟨u1, c1⟩, ⟨u2, c2⟩, f0, f1, f2⟩ := HC.out _ HB3.out
      go_wp2_with fail
      go_roundw
      case rel => exact ⟨k + 1, by go_num, HS.out _ HB3.out⟩
      case measure => simp [intOf]; omega
    · obtain rfl : k = n := by omega
      have HD := Lib.hid (HF.out.done HN.out)
      go_wp2_with fail
      go_ret
      exact ⟨_, rfl, HD.out⟩

theorem eqAct_same (x0 : Int) (x1 : Int) (x2 : Bool) (w : World)  :
    Calls Try.prog 43 #[.agg #[.int .i64 x0, .int .i64 x1, .bool x2], .agg #[.int .i64 x0, .int .i64 x1, .bool x2]] w fun e w' => e = .returned (.bool true) ∧ Below w.heap.size w w' := by
  have hB : ∀ o1 o2, Below w.heap.size w ((w.alloc o1).alloc o2) := fun o1 o2 => ((Below.refl _ _).alloc (Nat.le_refl _) _).alloc (by simp) _
  cases x2
  all_goals
    have q0 : (x0 == x0) = true := by simp
    have r0 : (x0 != x0) = false := by simp
    have q1 : (x1 == x1) = true := by simp
    have r1 : (x1 != x1) = false := by simp
    go_enter Try.func43, Try.ntmps43
    go_wp2
    go_ret
    exact ⟨rfl, hB _ _⟩

set_option maxHeartbeats 1000000 in
set_option maxRecDepth 100000 in
theorem eqActS_same (A1 A2 : Option Addr) (n c1 c2 : Nat) (l : List Ac) (w : World) (h1 : RowAt w w.heap.size A1 (acsC l)) (h2 : RowAt w w.heap.size A2 (acsC l)) (hn : n = l.length) (hs : n ≤ 1048576) (hw : ∀ p ∈ l, GoodAc p) :
    Calls Try.prog 15 #[.slice A1 n c1, .slice A2 n c2] w fun e w' => e = .returned (.bool true) ∧ Below w.heap.size w w' := by
  have H1 := Lib.hid h1; clear h1
  have H2 := Lib.hid h2; clear h2
  have HN := Lib.hid hn; clear hn
  have HW := Lib.hid hw; clear hw
  go_enter Try.func15, Try.ntmps15
  go_wp2
  go_loopw [5] (fun i wr => ∃ k : Nat, k ≤ n ∧ i = .int .i64 k ∧ Below w.heap.size w wr) (fun i _ => n - (intOf i).toNat)
  case atStart => exact ⟨0, by omega, rfl, Below.refl _ _⟩
  case round =>
    obtain ⟨k, hk, rfl, hb⟩ := hrel
    have HB := Lib.hid hb; clear hb
    by_cases hlt : k < n
    · have hk1 : k < l.length := by have := HN.out; omega
      obtain ⟨b, off, rfl, hbw, e0, e1, e2⟩ := acs_at (H1.out.below HB.out) hk1
      obtain ⟨b2, off2, rfl, hbw2, d0, d1, d2⟩ := acs_at (H2.out.below HB.out) hk1
      have hg := HW.out l[k] (List.getElem_mem hk1)
      unfold GoodAc at hg
      have HE := Lib.hid (fun w => eqAct_same l[k].1 l[k].2.1 l[k].2.2 w )
      clear hg
      generalize hx0 : l[k].1 = x0 at *
      generalize hx1 : l[k].2.1 = x1 at *
      generalize hx2 : l[k].2.2 = x2 at *
      clear hx0 hx1 hx2
      go_wp2_with fail
      go_still_tail 8, (by kernel_rfl)
      go_wp2_with fail
      refine (HE.out _).mono ?_
      rintro e w3 ⟨rfl, hb3⟩
      have HB3 := Lib.hid (HB.out.trans ((below_drewN _ _).trans (hb3.mono HB.out.size))); clear hb3
      go_wp2_with fail
      go_roundw
      case rel => exact ⟨k + 1, by omega, by go_num, HB3.out⟩
      case measure => simp [intOf]; omega
    · obtain rfl : k = n := by omega
      go_wp2_with fail
      go_ret
      exact ⟨rfl, HB.out⟩

end Go.Proofs.Ytdpehojcoohjcab
