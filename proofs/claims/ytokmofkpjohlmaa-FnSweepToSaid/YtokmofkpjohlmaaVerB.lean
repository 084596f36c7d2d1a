/- Contract of AddAt in the model (chapter 7). Conditions: the lists lie in rows; they are few; their texts are no longer than memory. -/
import Derived.Test.YtokmofkpjohlmaaVerC
import Derived.Test.YtokmofkpjohlmaaVerW
import Derived.BigRegion
import Derived.Deep.RegionWith
import Derived.Test.YtokmofkpjohlmaaVerA
set_option linter.unusedVariables false
set_option linter.unusedSimpArgs false
namespace Go.Proofs.Ytokmofkpjohlmaa
open Go.RowKit Go.ChangeShapes Go.WideShapes

theorem step_append_ownW {P : Program} {w : World} {ops : Array Oper} {o : Oper} {a : Act} {K : Act → World → Prop} {Q : Exit → Act → World → Prop} {E : Prop} (hgd : o.guard = none) (s x : Operand) (t : TypeId)
    (ho : o.op = .call { callee := .builtin .append, args := #[s, x], argTypes := #[t, t] })
    (base : Nat) (e : TypeId) (i : TypeInfo) (z : Value) (size bytes : Nat) (ht : P.underlying t = some (.slice e)) (hi : P.info? e = some i) (hz : i.zero = some z)
    (hsize : i.size = size) (hby : i.bytes = bytes) (hzs : z.cells.size = size) (hsz : 0 < size)
    (v : Value) (n : Nat) (xs : List Value) (hs : a.eval s = v) (hown : w.ownsRow base e size v n xs)
    (ad : Addr) (m c : Nat) (news : List Value) (hx : a.eval x = .slice (some ad) m c) (hl : news.length = m * size) (hnews : ∀ j u, news[j]? = some u → w.cell? (ad.add j) = some u) (h1 : ∀ u ∈ news, u.oneCell' = true)
    (h63 : n + m ≤ maxLen) (hbytes : (n + m) * bytes ≤ 140737488355328) (hbase : base ≤ w.heap.size)
    (h : ∀ v' w', w'.ownsRow base e size v' (n + m) (xs ++ news) → w.grownBy w' v.ownBlock → (v' = .slice none 0 0 ↔ v = .slice none 0 0 ∧ m = 0) → K (a.put o.dst v') w') :
    if Region.wanted o (yielded ops a.tmps) = true then Oper.wp P o a w K Q else E := by
  have hw : Region.wanted o (yielded ops a.tmps) = true := by simp [Region.wanted, hgd]
  rw [if_pos hw]
  exact wp_append_own w s x t ho base e i z size bytes ht hi hz hsize hby hzs hsz v n xs hs hown ad m c news hx hl hnews h1 h63 hbytes hbase h
set_option maxRecDepth 100000 in
set_option maxHeartbeats 8000000 in
theorem sAdd_any (A1 : Option Addr) (n1 c1 : Nat) (l : List Vr) (A2 : Option Addr) (n2 c2 : Nat) (ops : List Cg) (at_ : Int) (w : World) (hr1 : RowAt w w.heap.size A1 (vrsC l)) (hn1 : n1 = l.length) (hs1 : n1 ≤ 1048576) (hw1 : WfVr l)
    (hr2 : RowAt w w.heap.size A2 (cgsC ops)) (hn2 : n2 = ops.length) (hs2 : n2 ≤ 1048576) (hw2 : WfCg ops) (hA1 : A1 = none → c1 = 0) (hA2 : A2 = none → c2 = 0) :
    Calls Try.prog 27 #[.slice A1 n1 c1, .slice A2 n2 c2, .int .i64 at_] w (AddPost (addR l ops at_) w) := by
  obtain ⟨i0, hi0, hz0, hz1, hz2⟩ := info_parts vrInfo
  have HI := Lib.hid (And.intro hi0 (And.intro hz0 (And.intro hz1 hz2))); clear hi0 hz0 hz1 hz2
  have HV := Lib.hid (sVers_any A1 n1 c1 l w hr1 hn1 hs1 hw1)
  have HOP := Lib.hid (fun W (hb : Below w.heap.size w W) => sOps_any A2 n2 c2 ops W ((hr2.below hb).mono hb.size) hn2 hs2 hw2)
  have HSH := Lib.hid (fun W (hb : Below w.heap.size w W) => sShort_any A2 n2 c2 ops W ((hr2.below hb).mono hb.size) hn2 hs2)
  have HT := Lib.hid (fun W => inRange_any at_ 1 20 W)
  have HB := Lib.hid (addB_model l ops at_)
  have HNO := Lib.hid (fun h => addR_no (l := l) (ops := ops) (at_ := at_) h)
  have HYY := Lib.hid (fun h => addR_yes (l := l) (ops := ops) (at_ := at_) h)
  have HOPK := Lib.hid (fun (h : opsB ops = true) => (opsB_ok h).1)
  have HVK := Lib.hid (fun (h : versB l = true) => (versB_ok h).1)
  have HR1 := Lib.hid hr1; clear hr1
  have HN1 := Lib.hid hn1; clear hn1
  have HR2 := Lib.hid hr2; clear hr2
  have HN2 := Lib.hid hn2; clear hn2
  have HA1 := Lib.hid hA1; clear hA1
  clear hw1 hw2 hA2
  have HLN := Lib.hid (fun (h : l = []) => (show laterT l at_ = true by rw [h]; exact laterT_nil at_))
  have HLL := Lib.hid (fun (h : 0 < l.length) => laterT_last (l := l) (at_ := at_) h)
  have HTB := Lib.hid (show timeB at_ = (decide (1 ≤ at_) && decide (at_ ≤ 20)) from rfl)
  generalize addR l ops at_ = rk at *
  generalize addB l ops at_ = rb at *
  go_enter Try.func27, Try.ntmps27
  go_wp2_with fail
  refine (HV.out).mono ?_
  rintro e w2 ⟨rfl, hb2⟩
  have HB2 := Lib.hid hb2; clear hb2 HV
  cases h1 : versB l
  · rw [h1] at HB
    clear h1
    go_wp2_with fail
    go_ret2
    rw [HNO.out (by rw [HB.out]; simp)]
    exact addPost_no HB2.out
  rw [h1] at HB
  have hn30 : n1 ≤ 30 := by have := HVK.out h1; have := HN1.out; omega
  clear h1 HVK
  go_wp2_with fail
  refine (HOP.out _ HB2.out).mono ?_
  rintro e w3 ⟨rfl, hb3⟩
  have HB3 := Lib.hid (HB2.out.trans (hb3.mono HB2.out.size)); clear hb3 HOP
  cases h2 : opsB ops
  · rw [h2] at HB
    clear h2
    go_wp2_with fail
    go_ret2
    rw [HNO.out (by rw [HB.out]; simp)]
    exact addPost_no HB3.out
  rw [h2] at HB
  have hn48 : n2 ≤ 48 := by have := HOPK.out h2; have := HN2.out; omega
  clear h2 HOPK
  go_wp2_with fail
  refine (HSH.out _ HB3.out).mono ?_
  rintro e w4 ⟨_, rfl, ⟨A4, c4, rfl, _⟩, hb4⟩
  have HB4 := Lib.hid (HB3.out.trans (hb4.mono HB3.out.size)); clear hb4 HSH
  by_cases h3 : (shortK ops).length = ops.length
  rotate_left
  · rw [decide_eq_false h3] at HB
    have hq : (((shortK ops).length : Int) != (n2 : Int)) = true := by have := HN2.out; simp; omega
    generalize (shortK ops).length = q at *
    clear h3
    go_wp2_with fail
    go_ret2
    rw [HNO.out (by rw [HB.out]; simp)]
    exact addPost_no HB4.out
  rw [decide_eq_true h3] at HB
  have hq : (((shortK ops).length : Int) != (n2 : Int)) = false := by have := HN2.out; simp; omega
  generalize (shortK ops).length = q at *
  clear h3
  by_cases h4 : 1 ≤ at_ ∧ at_ ≤ 20
  rotate_left
  · have hT : (decide ((1 : Int) ≤ at_) && decide (at_ ≤ 20)) = false := by simp; omega
    rw [hT] at HT HTB
    rw [HTB.out] at HB
    clear h4 hT
    go_wp2_with (go_at_call 67; refine (HT.out _).mono ?_; rintro e w' ⟨rfl, rfl⟩)
    go_ret2
    rw [HNO.out (by rw [HB.out]; simp)]
    exact addPost_no HB4.out
  have hT : (decide ((1 : Int) ≤ at_) && decide (at_ ≤ 20)) = true := by simp; omega
  rw [hT] at HT HTB
  rw [HTB.out] at HB
  clear h4 hT
  go_wp2_with fail
  refine (HT.out _).mono ?_
  rintro e w5 ⟨rfl, hw5⟩
  obtain rfl := hw5.symm
  clear HT HTB
  cases hlt : laterT l at_
  · rw [hlt] at HB
    by_cases h0 : 0 < n1
    · have hl0 : 0 < l.length := by have := HN1.out; omega
      have hll := HLL.out hl0
      rw [hlt] at hll
      have hge : ¬ (l[l.length - 1]'(by omega)).2.2.2 < at_ := by simpa using hll.symm
      obtain ⟨b, off, hA, hbw, e0, e1, e2, e3⟩ := vrs_at (HR1.out.below HB4.out) (show l.length - 1 < l.length by omega)
      subst hA
      have hge2 : at_ ≤ (l[l.length - 1]'(by omega)).2.2.2 := by omega
      generalize (l[l.length - 1]'(by omega)).2.2.2 = y3 at *
      rw [← HN1.out] at e3
      have hi1 : ((n1 - 1 : Nat) : Int) < (n1 : Int) := by omega
      have hi2 : (n1 : Int) - 1 = ((n1 - 1 : Nat) : Int) := by omega
      have hi3 : (0 : Int) < (n1 : Int) := by omega
      have hi4 : IntKind.i64.wrap ((n1 - 1 : Nat) : Int) = ((n1 - 1 : Nat) : Int) := IntWalk.i64_in _ (by omega)
      have hi5 : (0 : Int) ≤ ((n1 - 1 : Nat) : Int) := by omega
      clear e0 e1 e2 hll hge hl0 hlt HLL HLN
      generalize n1 - 1 = j at *
      go_wp2_with fail
      go_ret2
      rw [HNO.out (by rw [HB.out]; simp)]
      exact addPost_no HB4.out
    · have hl0 : l = [] := List.eq_nil_of_length_eq_zero (by have := HN1.out; omega)
      rw [HLN.out hl0] at hlt
      cases hlt
  rw [hlt] at HB
  have HB9 := Lib.hid (show rb = decide (l.length + ops.length ≤ 30) by rw [HB.out]; simp)
  have HO := Lib.hid (own_leV (own_startV w4 57 4) HB4.out.size)
  have HB5 := Lib.hid (HB4.out.alloc HB4.out.size (.cells #[] 57))
  have HGO := Lib.hid (show ∃ b off y3 j, (0 < n1 → A1 = some ⟨b, off, none⟩ ∧ w4.cell? ⟨b, off + j * 4 + 3, none⟩ = some (.int .i64 y3) ∧ y3 < at_ ∧ (n1 : Int) - 1 = ((j : Nat) : Int) ∧ (j : Int) < (n1 : Int)) from by
    by_cases h0 : 0 < n1
    · have hl0 : 0 < l.length := by have := HN1.out; omega
      have hll := HLL.out hl0
      rw [hlt] at hll
      obtain ⟨b, off, hA, hbw, e0, e1, e2, e3⟩ := vrs_at (HR1.out.below HB4.out) (show l.length - 1 < l.length by omega)
      refine ⟨b, off, _, l.length - 1, fun _ => ⟨hA, e3, of_decide_eq_true hll.symm, ?_, ?_⟩⟩
      · have := HN1.out; omega
      · have := HN1.out; omega
    · exact ⟨0, 0, 0, 0, fun h => absurd h h0⟩)
  have HNO9 := Lib.hid HNO.out
  clear hlt HLL HLN HB HNO
  obtain ⟨b, off, y3, j, hgo⟩ := HGO.out
  clear HGO
  have HCP := Lib.hid (fun (K : Prop) (h : K) => h)
  by_cases h0 : 0 < n1
  · obtain ⟨hA, e3, hlt, hi2, hi1⟩ := hgo h0
    have hi3 : (0 : Int) < (n1 : Int) := by omega
    have hge : ¬ at_ ≤ y3 := by omega
    have hi4 : IntKind.i64.wrap (j : Int) = (j : Int) := IntWalk.i64_in _ (by omega)
    have hi5 : (0 : Int) ≤ (j : Int) := by omega
    subst hA
    clear hgo h0
    go_wp2_with (at_builtin; refine wpList_append_row rfl _ _ 25 rfl w.heap.size 57 i0 (.agg #[.string ⟨#[]⟩, .string ⟨#[]⟩, .bool false, .int .i64 0]) 4 48 Try.underlying25 HI.out.1 HI.out.2.1 HI.out.2.2.1 HI.out.2.2.2 rfl (by decide) _ 0 [] rfl HO.out _ n1 c1 w.heap.size (vrsC l) rfl ?c0 ?c1 (HR1.out.below HB5.out) (vrs_one l) ?c3 ?c4 ?c5 ?_)
    try (case c0 => exact HA1.out)
    try (case c1 => rw [vrsC_len, ← HN1.out])
    try (case c3 => unfold maxLen; omega)
    try (case c4 => omega)
    try (case c5 => exact HB5.out.size)
    intro v1 w6 hown1 hgrow1
    obtain ⟨A6, c6, rfl⟩ := own_shapeV hown1
    try rw [List.nil_append] at hown1
    try simp only [Nat.zero_add] at hown1
    have HO6 := Lib.hid (show OutR 57 4 w (vrsC l) n1 A6 c6 w6 from ⟨hown1, HB5.out.grown hgrow1 HB5.out.size (fun q hq => (HO.out.lt q hq).1)⟩)
    clear hown1 hgrow1
    try simp only [Nat.zero_add]
    go_wp2_with fail
    go_loopw [8, 9] (fun q i wr => ∃ (k m : Nat) (out : List Vr) (A' : Option Addr) (c' : Nat), q = .slice A' m c' ∧ i = .int .i64 k ∧ k ≤ n2 ∧ addL l (ops.take k) at_ = out ∧ m = out.length ∧ m = n1 + k ∧ OutR 57 4 w (vrsC out) m A' c' wr) (fun _ i _ => n2 - (intOf i).toNat)
    case atStart => exact ⟨0, n1, l, _, _, rfl, rfl, by omega, addL_zero _ _ _, HN1.out, by omega, HO6.out⟩
    case round =>
      obtain ⟨k, m, out, A', c', rfl, rfl, hk, hf, hm, hmk, ho⟩ := hrel
      clear HO6
      have HM := Lib.hid hm; clear hm
      have HF := Lib.hid hf; clear hf
      have HO9 := Lib.hid ho; clear ho
      have HMK := Lib.hid hmk
      have hm78 : m ≤ 78 := by omega
      clear hmk
      by_cases hlt : k < n2
      · have hkl : k < ops.length := by have := HN2.out; omega
        obtain ⟨b, off, hA, hbw, e0, e1, e2⟩ := cgs_at (HR2.out.below HO9.out.2) hkl
        subst hA
        have HSZ := Lib.hid HO9.out.2.size
        have HFS := Lib.hid (addL_succ (l := l) (at_ := at_) hkl)
        have HO := Lib.hid HO9.out
        have hi1 : (k : Int) < (n2 : Int) := by omega
        generalize ops[k].1 = x0 at *
        generalize ops[k].2.1 = x1 at *
        generalize ops[k].2.2 = x2 at *
        go_wp2_with fail
        refine wp_region_any (by kernel_rfl) ?_
        try (change wpAny _ _ _ _ _ _ _ (World.drew _))
        have HO1 := Lib.hid (show OutR 57 4 w (vrsC out) m A' c' wr.drew from HO.out.keep (Below.drew (Below.refl _ _)))
        have d0 : wr.drew.cell? ⟨b, off + k * 3, none⟩ = some (.string x0) := e0
        have d1 : wr.drew.cell? ⟨b, off + k * 3 + 1, none⟩ = some (.string x1) := e1
        have d2 : wr.drew.cell? ⟨b, off + k * 3 + 2, none⟩ = some (.bool x2) := e2
        have HSZ1 := Lib.hid (show w.heap.size ≤ wr.drew.heap.size from HSZ.out)
        have HOK := Lib.hid (fun o => HO1.out.keep ((Below.refl wr.drew.heap.size wr.drew).alloc (Nat.le_refl _) o))
        have hbase : w.heap.size ≤ (wr.drew.alloc (.cells #[.string x0, .string x1, .bool x2, .int .i64 at_] 57)).heap.size := by have := HSZ.out; simp; omega
        have HCA := Lib.hid (cells_at0 wr.drew [.string x0, .string x1, .bool x2, .int .i64 at_] 57)
        generalize wr.drew = W0 at *
        refine wpAny_take (i := 0) (v := ?_) rfl (by kernel_rfl) (by kernel_rfl) (by kernel_rfl) (fun _ _ _ h => h) (Or.inl ⟨by kernel_rfl, ?_⟩) ?_
        rotate_left
        · (intro w; go_simp; first | done | with_reducible rfl)
        conv => arg 7; simp [Act.put]
        refine wpAny_take (i := 1) (v := ?_) rfl (by kernel_rfl) (by kernel_rfl) (by kernel_rfl) (fun _ _ _ h => h) (Or.inl ⟨by kernel_rfl, ?_⟩) ?_
        rotate_left
        · (intro w; go_simp; first | done | with_reducible rfl)
        conv => arg 7; simp [Act.put]
        refine wpAny_take (i := 2) (v := ?_) rfl (by kernel_rfl) (by kernel_rfl) (by kernel_rfl) (fun _ _ _ h => h) (Or.inl ⟨by kernel_rfl, ?_⟩) ?_
        rotate_left
        · (intro w; go_simp; first | done | with_reducible rfl)
        conv => arg 7; simp [Act.put]
        refine wpAny_take (i := 3) (v := ?_) rfl (by kernel_rfl) (by kernel_rfl) (by kernel_rfl) (fun _ _ _ h => h) (Or.inl ⟨by kernel_rfl, ?_⟩) ?_
        rotate_left
        · (intro w; go_simp; first | done | with_reducible rfl)
        conv => arg 7; simp [Act.put]
        refine wpAny_take (i := 4) (v := ?_) rfl (by kernel_rfl) (by kernel_rfl) (by kernel_rfl) (fun _ _ _ h => h) (Or.inl ⟨by kernel_rfl, ?_⟩) ?_
        rotate_left
        · (intro w; go_simp; first | done | with_reducible rfl)
        conv => arg 7; simp [Act.put]
        refine wpAny_take (i := 6) (v := ?_) rfl (by kernel_rfl) (by kernel_rfl) (by kernel_rfl) (fun _ _ _ h => h) (Or.inl ⟨by kernel_rfl, ?_⟩) ?_
        rotate_left
        · (intro w; go_simp; first | done | with_reducible rfl)
        conv => arg 7; simp [Act.put]
        refine wpAny_take (i := 7) (v := ?_) rfl (by kernel_rfl) (by kernel_rfl) (by kernel_rfl) (fun _ _ _ h => h) (Or.inl ⟨by kernel_rfl, ?_⟩) ?_
        rotate_left
        · (intro w; go_simp; first | done | with_reducible rfl)
        conv => arg 7; simp [Act.put]
        refine wpAny_take (i := 8) (v := ?_) rfl (by kernel_rfl) (by kernel_rfl) (by kernel_rfl) (fun _ _ _ h => h) (Or.inl ⟨by kernel_rfl, ?_⟩) ?_
        rotate_left
        · (intro w; go_simp; first | done | with_reducible rfl)
        conv => arg 7; simp [Act.put]
        refine wpAny_take (i := 9) (v := ?_) rfl (by kernel_rfl) (by kernel_rfl) (by kernel_rfl) (fun _ _ _ h => h) (Or.inl ⟨by kernel_rfl, ?_⟩) ?_
        rotate_left
        · (intro w; go_simp; first | done | with_reducible rfl)
        conv => arg 7; simp [Act.put]
        refine wpAny_take (i := 11) (v := ?_) rfl (by kernel_rfl) (by kernel_rfl) (by kernel_rfl) (fun _ _ _ h => h) (Or.inl ⟨by kernel_rfl, ?_⟩) ?_
        rotate_left
        · (intro w; go_simp; first | done | with_reducible rfl)
        conv => arg 7; simp [Act.put]
        refine wpAny_take (i := 12) (v := ?_) rfl (by kernel_rfl) (by kernel_rfl) (by kernel_rfl) (fun _ _ _ h => h) (Or.inl ⟨by kernel_rfl, ?_⟩) ?_
        rotate_left
        · (intro w; go_simp; first | done | with_reducible rfl)
        conv => arg 7; simp [Act.put]
        refine wpAny_take (i := 13) (v := ?_) rfl (by kernel_rfl) (by kernel_rfl) (by kernel_rfl) (fun _ _ _ h => h) (Or.inl ⟨by kernel_rfl, ?_⟩) ?_
        rotate_left
        · (intro w; go_simp; first | done | with_reducible rfl)
        conv => arg 7; simp [Act.put]
        refine wpAny_take (i := 14) (v := ?_) rfl (by kernel_rfl) (by kernel_rfl) (by kernel_rfl) (fun _ _ _ h => h) (Or.inl ⟨by kernel_rfl, ?_⟩) ?_
        rotate_left
        · (intro w; go_simp; first | done | with_reducible rfl)
        conv => arg 7; simp [Act.put]
        refine wpAny_take (i := 16) (v := ?_) rfl (by kernel_rfl) (by kernel_rfl) (by kernel_rfl) (fun _ _ _ h => h) (Or.inl ⟨by kernel_rfl, ?_⟩) ?_
        rotate_left
        · (intro w; go_simp; first | done | with_reducible rfl)
        conv => arg 7; simp [Act.put]
        refine wpAny_ready (rs := [5, 10, 15]) (by kernel_rfl) (by simp) ?_
        refine AllReady.cons rfl (fun K hK => ?_) (AllReady.cons rfl (fun K hK => ?_) (AllReady.cons rfl (fun K hK => ?_) AllReady.nil))
        · go_simp
          refine hK _ _ ?_; clear hK K
          refine wpAny_ready (rs := [10, 15]) (by kernel_rfl) (by simp) ?_
          refine AllReady.cons rfl (fun K hK => ?_) (AllReady.cons rfl (fun K hK => ?_) AllReady.nil)
          · go_simp
            refine hK _ _ ?_; clear hK K
            refine wpAny_ready (rs := [15]) (by kernel_rfl) (by simp) ?_
            refine AllReady.cons rfl (fun K hK => ?_) AllReady.nil
            go_simp
            refine hK _ _ ?_; clear hK K
            refine wpAny_take (i := 17) (v := ?_) rfl (by kernel_rfl) (by kernel_rfl) (by kernel_rfl) (fun _ _ _ h => h) (Or.inl ⟨by kernel_rfl, ?_⟩) ?_
            rotate_left
            · (intro w; go_simp; first | done | with_reducible rfl)
            conv => arg 7; simp [Act.put]
            refine wpAny_ready (rs := [18]) (by kernel_rfl) (by simp) ?_
            refine AllReady.cons rfl (fun K hK => ?_) AllReady.nil
            go_simp
            refine hK _ _ ?_; clear hK K
            refine wpAny_ready (rs := [19]) (by kernel_rfl) (by simp) ?_
            refine AllReady.cons rfl (fun K hK => ?_) (AllReady.nil)
            refine step_append_ownW (by rfl) _ _ 25 (by rfl) w.heap.size 57 i0 (.agg #[.string ⟨#[]⟩, .string ⟨#[]⟩, .bool false, .int .i64 0]) 4 48 Try.underlying25 HI.out.1 HI.out.2.1 HI.out.2.2.1 HI.out.2.2.2 rfl (by decide) (.slice A' m c') m (vrsC out) (by rfl) (HOK.out _).1 ⟨W0.heap.size, 0, none⟩ 1 1 [.string x0, .string x1, .bool x2, .int .i64 at_] (by rfl) (by rfl) (fun j u hj => HCA.out j u hj) (by intro u hu; simp at hu; rcases hu with rfl | rfl | rfl | rfl <;> rfl) (by unfold maxLen; omega) (by omega) hbase ?_
            intro v' w4 hown' hgrow _
            obtain ⟨A4, c4, rfl, ho4⟩ := (HOK.out _).app hown' hgrow
            have HO4 := Lib.hid ho4; clear ho4 hown' hgrow
            refine hK _ _ ?_; clear hK K
            conv => arg 7; simp [Act.put]
            refine wpAny_take (i := 20) (v := ?_) rfl (by kernel_rfl) (by kernel_rfl) (by kernel_rfl) (fun _ _ _ h => h) (Or.inl ⟨by kernel_rfl, ?_⟩) ?_
            rotate_left
            · (intro w; go_simp; first | done | with_reducible rfl)
            conv => arg 7; simp [Act.put]
            refine wpAny_done (by kernel_rfl) ?_ _
            go_wp2_with fail
            go_roundw
            case rel => exact ⟨k + 1, m + 1, out ++ [(x0, x1, x2, at_)], A4, c4, rfl, by go_num, by omega, by rw [HFS.out, HF.out], by rw [List.length_append, ← HM.out]; rfl, by have := HMK.out; omega, by rw [vrsC_snoc]; exact HO4.out⟩
            case measure => simp [intOf]; omega
          · go_simp
            refine hK _ _ ?_; clear hK K
            refine wpAny_ready (rs := [10]) (by kernel_rfl) (by simp) ?_
            refine AllReady.cons rfl (fun K hK => ?_) AllReady.nil
            go_simp
            refine hK _ _ ?_; clear hK K
            refine wpAny_take (i := 17) (v := ?_) rfl (by kernel_rfl) (by kernel_rfl) (by kernel_rfl) (fun _ _ _ h => h) (Or.inl ⟨by kernel_rfl, ?_⟩) ?_
            rotate_left
            · (intro w; go_simp; first | done | with_reducible rfl)
            conv => arg 7; simp [Act.put]
            refine wpAny_ready (rs := [18]) (by kernel_rfl) (by simp) ?_
            refine AllReady.cons rfl (fun K hK => ?_) AllReady.nil
            go_simp
            refine hK _ _ ?_; clear hK K
            refine wpAny_ready (rs := [19]) (by kernel_rfl) (by simp) ?_
            refine AllReady.cons rfl (fun K hK => ?_) (AllReady.nil)
            refine step_append_ownW (by rfl) _ _ 25 (by rfl) w.heap.size 57 i0 (.agg #[.string ⟨#[]⟩, .string ⟨#[]⟩, .bool false, .int .i64 0]) 4 48 Try.underlying25 HI.out.1 HI.out.2.1 HI.out.2.2.1 HI.out.2.2.2 rfl (by decide) (.slice A' m c') m (vrsC out) (by rfl) (HOK.out _).1 ⟨W0.heap.size, 0, none⟩ 1 1 [.string x0, .string x1, .bool x2, .int .i64 at_] (by rfl) (by rfl) (fun j u hj => HCA.out j u hj) (by intro u hu; simp at hu; rcases hu with rfl | rfl | rfl | rfl <;> rfl) (by unfold maxLen; omega) (by omega) hbase ?_
            intro v' w4 hown' hgrow _
            obtain ⟨A4, c4, rfl, ho4⟩ := (HOK.out _).app hown' hgrow
            have HO4 := Lib.hid ho4; clear ho4 hown' hgrow
            refine hK _ _ ?_; clear hK K
            conv => arg 7; simp [Act.put]
            refine wpAny_take (i := 20) (v := ?_) rfl (by kernel_rfl) (by kernel_rfl) (by kernel_rfl) (fun _ _ _ h => h) (Or.inl ⟨by kernel_rfl, ?_⟩) ?_
            rotate_left
            · (intro w; go_simp; first | done | with_reducible rfl)
            conv => arg 7; simp [Act.put]
            refine wpAny_done (by kernel_rfl) ?_ _
            go_wp2_with fail
            go_roundw
            case rel => exact ⟨k + 1, m + 1, out ++ [(x0, x1, x2, at_)], A4, c4, rfl, by go_num, by omega, by rw [HFS.out, HF.out], by rw [List.length_append, ← HM.out]; rfl, by have := HMK.out; omega, by rw [vrsC_snoc]; exact HO4.out⟩
            case measure => simp [intOf]; omega
        · go_simp
          refine hK _ _ ?_; clear hK K
          refine wpAny_ready (rs := [5, 15]) (by kernel_rfl) (by simp) ?_
          refine AllReady.cons rfl (fun K hK => ?_) (AllReady.cons rfl (fun K hK => ?_) AllReady.nil)
          · go_simp
            refine hK _ _ ?_; clear hK K
            refine wpAny_ready (rs := [15]) (by kernel_rfl) (by simp) ?_
            refine AllReady.cons rfl (fun K hK => ?_) AllReady.nil
            go_simp
            refine hK _ _ ?_; clear hK K
            refine wpAny_take (i := 17) (v := ?_) rfl (by kernel_rfl) (by kernel_rfl) (by kernel_rfl) (fun _ _ _ h => h) (Or.inl ⟨by kernel_rfl, ?_⟩) ?_
            rotate_left
            · (intro w; go_simp; first | done | with_reducible rfl)
            conv => arg 7; simp [Act.put]
            refine wpAny_ready (rs := [18]) (by kernel_rfl) (by simp) ?_
            refine AllReady.cons rfl (fun K hK => ?_) AllReady.nil
            go_simp
            refine hK _ _ ?_; clear hK K
            refine wpAny_ready (rs := [19]) (by kernel_rfl) (by simp) ?_
            refine AllReady.cons rfl (fun K hK => ?_) (AllReady.nil)
            refine step_append_ownW (by rfl) _ _ 25 (by rfl) w.heap.size 57 i0 (.agg #[.string ⟨#[]⟩, .string ⟨#[]⟩, .bool false, .int .i64 0]) 4 48 Try.underlying25 HI.out.1 HI.out.2.1 HI.out.2.2.1 HI.out.2.2.2 rfl (by decide) (.slice A' m c') m (vrsC out) (by rfl) (HOK.out _).1 ⟨W0.heap.size, 0, none⟩ 1 1 [.string x0, .string x1, .bool x2, .int .i64 at_] (by rfl) (by rfl) (fun j u hj => HCA.out j u hj) (by intro u hu; simp at hu; rcases hu with rfl | rfl | rfl | rfl <;> rfl) (by unfold maxLen; omega) (by omega) hbase ?_
            intro v' w4 hown' hgrow _
            obtain ⟨A4, c4, rfl, ho4⟩ := (HOK.out _).app hown' hgrow
            have HO4 := Lib.hid ho4; clear ho4 hown' hgrow
            refine hK _ _ ?_; clear hK K
            conv => arg 7; simp [Act.put]
            refine wpAny_take (i := 20) (v := ?_) rfl (by kernel_rfl) (by kernel_rfl) (by kernel_rfl) (fun _ _ _ h => h) (Or.inl ⟨by kernel_rfl, ?_⟩) ?_
            rotate_left
            · (intro w; go_simp; first | done | with_reducible rfl)
            conv => arg 7; simp [Act.put]
            refine wpAny_done (by kernel_rfl) ?_ _
            go_wp2_with fail
            go_roundw
            case rel => exact ⟨k + 1, m + 1, out ++ [(x0, x1, x2, at_)], A4, c4, rfl, by go_num, by omega, by rw [HFS.out, HF.out], by rw [List.length_append, ← HM.out]; rfl, by have := HMK.out; omega, by rw [vrsC_snoc]; exact HO4.out⟩
            case measure => simp [intOf]; omega
          · go_simp
            refine hK _ _ ?_; clear hK K
            refine wpAny_ready (rs := [5]) (by kernel_rfl) (by simp) ?_
            refine AllReady.cons rfl (fun K hK => ?_) AllReady.nil
            go_simp
            refine hK _ _ ?_; clear hK K
            refine wpAny_take (i := 17) (v := ?_) rfl (by kernel_rfl) (by kernel_rfl) (by kernel_rfl) (fun _ _ _ h => h) (Or.inl ⟨by kernel_rfl, ?_⟩) ?_
            rotate_left
            · (intro w; go_simp; first | done | with_reducible rfl)
            conv => arg 7; simp [Act.put]
            refine wpAny_ready (rs := [18]) (by kernel_rfl) (by simp) ?_
            refine AllReady.cons rfl (fun K hK => ?_) AllReady.nil
            go_simp
            refine hK _ _ ?_; clear hK K
            refine wpAny_ready (rs := [19]) (by kernel_rfl) (by simp) ?_
            refine AllReady.cons rfl (fun K hK => ?_) (AllReady.nil)
            refine step_append_ownW (by rfl) _ _ 25 (by rfl) w.heap.size 57 i0 (.agg #[.string ⟨#[]⟩, .string ⟨#[]⟩, .bool false, .int .i64 0]) 4 48 Try.underlying25 HI.out.1 HI.out.2.1 HI.out.2.2.1 HI.out.2.2.2 rfl (by decide) (.slice A' m c') m (vrsC out) (by rfl) (HOK.out _).1 ⟨W0.heap.size, 0, none⟩ 1 1 [.string x0, .string x1, .bool x2, .int .i64 at_] (by rfl) (by rfl) (fun j u hj => HCA.out j u hj) (by intro u hu; simp at hu; rcases hu with rfl | rfl | rfl | rfl <;> rfl) (by unfold maxLen; omega) (by omega) hbase ?_
            intro v' w4 hown' hgrow _
            obtain ⟨A4, c4, rfl, ho4⟩ := (HOK.out _).app hown' hgrow
            have HO4 := Lib.hid ho4; clear ho4 hown' hgrow
            refine hK _ _ ?_; clear hK K
            conv => arg 7; simp [Act.put]
            refine wpAny_take (i := 20) (v := ?_) rfl (by kernel_rfl) (by kernel_rfl) (by kernel_rfl) (fun _ _ _ h => h) (Or.inl ⟨by kernel_rfl, ?_⟩) ?_
            rotate_left
            · (intro w; go_simp; first | done | with_reducible rfl)
            conv => arg 7; simp [Act.put]
            refine wpAny_done (by kernel_rfl) ?_ _
            go_wp2_with fail
            go_roundw
            case rel => exact ⟨k + 1, m + 1, out ++ [(x0, x1, x2, at_)], A4, c4, rfl, by go_num, by omega, by rw [HFS.out, HF.out], by rw [List.length_append, ← HM.out]; rfl, by have := HMK.out; omega, by rw [vrsC_snoc]; exact HO4.out⟩
            case measure => simp [intOf]; omega
        · go_simp
          refine hK _ _ ?_; clear hK K
          refine wpAny_ready (rs := [5, 10]) (by kernel_rfl) (by simp) ?_
          refine AllReady.cons rfl (fun K hK => ?_) (AllReady.cons rfl (fun K hK => ?_) AllReady.nil)
          · go_simp
            refine hK _ _ ?_; clear hK K
            refine wpAny_ready (rs := [10]) (by kernel_rfl) (by simp) ?_
            refine AllReady.cons rfl (fun K hK => ?_) AllReady.nil
            go_simp
            refine hK _ _ ?_; clear hK K
            refine wpAny_take (i := 17) (v := ?_) rfl (by kernel_rfl) (by kernel_rfl) (by kernel_rfl) (fun _ _ _ h => h) (Or.inl ⟨by kernel_rfl, ?_⟩) ?_
            rotate_left
            · (intro w; go_simp; first | done | with_reducible rfl)
            conv => arg 7; simp [Act.put]
            refine wpAny_ready (rs := [18]) (by kernel_rfl) (by simp) ?_
            refine AllReady.cons rfl (fun K hK => ?_) AllReady.nil
            go_simp
            refine hK _ _ ?_; clear hK K
            refine wpAny_ready (rs := [19]) (by kernel_rfl) (by simp) ?_
            refine AllReady.cons rfl (fun K hK => ?_) (AllReady.nil)
            refine step_append_ownW (by rfl) _ _ 25 (by rfl) w.heap.size 57 i0 (.agg #[.string ⟨#[]⟩, .string ⟨#[]⟩, .bool false, .int .i64 0]) 4 48 Try.underlying25 HI.out.1 HI.out.2.1 HI.out.2.2.1 HI.out.2.2.2 rfl (by decide) (.slice A' m c') m (vrsC out) (by rfl) (HOK.out _).1 ⟨W0.heap.size, 0, none⟩ 1 1 [.string x0, .string x1, .bool x2, .int .i64 at_] (by rfl) (by rfl) (fun j u hj => HCA.out j u hj) (by intro u hu; simp at hu; rcases hu with rfl | rfl | rfl | rfl <;> rfl) (by unfold maxLen; omega) (by omega) hbase ?_
            intro v' w4 hown' hgrow _
            obtain ⟨A4, c4, rfl, ho4⟩ := (HOK.out _).app hown' hgrow
            have HO4 := Lib.hid ho4; clear ho4 hown' hgrow
            refine hK _ _ ?_; clear hK K
            conv => arg 7; simp [Act.put]
            refine wpAny_take (i := 20) (v := ?_) rfl (by kernel_rfl) (by kernel_rfl) (by kernel_rfl) (fun _ _ _ h => h) (Or.inl ⟨by kernel_rfl, ?_⟩) ?_
            rotate_left
            · (intro w; go_simp; first | done | with_reducible rfl)
            conv => arg 7; simp [Act.put]
            refine wpAny_done (by kernel_rfl) ?_ _
            go_wp2_with fail
            go_roundw
            case rel => exact ⟨k + 1, m + 1, out ++ [(x0, x1, x2, at_)], A4, c4, rfl, by go_num, by omega, by rw [HFS.out, HF.out], by rw [List.length_append, ← HM.out]; rfl, by have := HMK.out; omega, by rw [vrsC_snoc]; exact HO4.out⟩
            case measure => simp [intOf]; omega
          · go_simp
            refine hK _ _ ?_; clear hK K
            refine wpAny_ready (rs := [5]) (by kernel_rfl) (by simp) ?_
            refine AllReady.cons rfl (fun K hK => ?_) AllReady.nil
            go_simp
            refine hK _ _ ?_; clear hK K
            refine wpAny_take (i := 17) (v := ?_) rfl (by kernel_rfl) (by kernel_rfl) (by kernel_rfl) (fun _ _ _ h => h) (Or.inl ⟨by kernel_rfl, ?_⟩) ?_
            rotate_left
            · (intro w; go_simp; first | done | with_reducible rfl)
            conv => arg 7; simp [Act.put]
            refine wpAny_ready (rs := [18]) (by kernel_rfl) (by simp) ?_
            refine AllReady.cons rfl (fun K hK => ?_) AllReady.nil
            go_simp
            refine hK _ _ ?_; clear hK K
            refine wpAny_ready (rs := [19]) (by kernel_rfl) (by simp) ?_
            refine AllReady.cons rfl (fun K hK => ?_) (AllReady.nil)
            refine step_append_ownW (by rfl) _ _ 25 (by rfl) w.heap.size 57 i0 (.agg #[.string ⟨#[]⟩, .string ⟨#[]⟩, .bool false, .int .i64 0]) 4 48 Try.underlying25 HI.out.1 HI.out.2.1 HI.out.2.2.1 HI.out.2.2.2 rfl (by decide) (.slice A' m c') m (vrsC out) (by rfl) (HOK.out _).1 ⟨W0.heap.size, 0, none⟩ 1 1 [.string x0, .string x1, .bool x2, .int .i64 at_] (by rfl) (by rfl) (fun j u hj => HCA.out j u hj) (by intro u hu; simp at hu; rcases hu with rfl | rfl | rfl | rfl <;> rfl) (by unfold maxLen; omega) (by omega) hbase ?_
            intro v' w4 hown' hgrow _
            obtain ⟨A4, c4, rfl, ho4⟩ := (HOK.out _).app hown' hgrow
            have HO4 := Lib.hid ho4; clear ho4 hown' hgrow
            refine hK _ _ ?_; clear hK K
            conv => arg 7; simp [Act.put]
            refine wpAny_take (i := 20) (v := ?_) rfl (by kernel_rfl) (by kernel_rfl) (by kernel_rfl) (fun _ _ _ h => h) (Or.inl ⟨by kernel_rfl, ?_⟩) ?_
            rotate_left
            · (intro w; go_simp; first | done | with_reducible rfl)
            conv => arg 7; simp [Act.put]
            refine wpAny_done (by kernel_rfl) ?_ _
            go_wp2_with fail
            go_roundw
            case rel => exact ⟨k + 1, m + 1, out ++ [(x0, x1, x2, at_)], A4, c4, rfl, by go_num, by omega, by rw [HFS.out, HF.out], by rw [List.length_append, ← HM.out]; rfl, by have := HMK.out; omega, by rw [vrsC_snoc]; exact HO4.out⟩
            case measure => simp [intOf]; omega
      · obtain rfl : k = n2 := by omega
        have HE := Lib.hid (show addL l ops at_ = out by rw [← HF.out, HN2.out, addL_full])
        by_cases h30 : m ≤ 30
        · have HE2 := Lib.hid (HYY.out (by rw [HB9.out]; have := HN1.out; have := HN2.out; have := HMK.out; exact decide_eq_true (by omega)))
          have hi1 : ¬ (30 : Int) < (m : Int) := by omega
          go_wp2_with fail
          go_ret2
          rw [HE2.out, HE.out]
          have hM := HM.out
          subst hM
          exact ⟨_, rfl, ⟨A', c', rfl, HO9.out.1⟩, HO9.out.2⟩
        · have HE2 := Lib.hid (HNO9.out (by rw [HB9.out]; have := HN1.out; have := HN2.out; have := HMK.out; exact decide_eq_false (by omega)))
          have hi1 : (30 : Int) < (m : Int) := by omega
          go_wp2_with fail
          go_ret2
          rw [HE2.out]
          exact addPost_no HO9.out.2
  · have hi3 : ¬ (0 : Int) < (n1 : Int) := by omega
    clear hgo h0
    go_wp2_with (at_builtin; refine wpList_append_row rfl _ _ 25 rfl w.heap.size 57 i0 (.agg #[.string ⟨#[]⟩, .string ⟨#[]⟩, .bool false, .int .i64 0]) 4 48 Try.underlying25 HI.out.1 HI.out.2.1 HI.out.2.2.1 HI.out.2.2.2 rfl (by decide) _ 0 [] rfl HO.out _ n1 c1 w.heap.size (vrsC l) rfl ?c0 ?c1 (HR1.out.below HB5.out) (vrs_one l) ?c3 ?c4 ?c5 ?_)
    try (case c0 => exact HA1.out)
    try (case c1 => rw [vrsC_len, ← HN1.out])
    try (case c3 => unfold maxLen; omega)
    try (case c4 => omega)
    try (case c5 => exact HB5.out.size)
    intro v1 w6 hown1 hgrow1
    obtain ⟨A6, c6, rfl⟩ := own_shapeV hown1
    try rw [List.nil_append] at hown1
    try simp only [Nat.zero_add] at hown1
    have HO6 := Lib.hid (show OutR 57 4 w (vrsC l) n1 A6 c6 w6 from ⟨hown1, HB5.out.grown hgrow1 HB5.out.size (fun q hq => (HO.out.lt q hq).1)⟩)
    clear hown1 hgrow1
    try simp only [Nat.zero_add]
    go_wp2_with fail
    go_loopw [8, 9] (fun q i wr => ∃ (k m : Nat) (out : List Vr) (A' : Option Addr) (c' : Nat), q = .slice A' m c' ∧ i = .int .i64 k ∧ k ≤ n2 ∧ addL l (ops.take k) at_ = out ∧ m = out.length ∧ m = n1 + k ∧ OutR 57 4 w (vrsC out) m A' c' wr) (fun _ i _ => n2 - (intOf i).toNat)
    case atStart => exact ⟨0, n1, l, _, _, rfl, rfl, by omega, addL_zero _ _ _, HN1.out, by omega, HO6.out⟩
    case round =>
      obtain ⟨k, m, out, A', c', rfl, rfl, hk, hf, hm, hmk, ho⟩ := hrel
      clear HO6
      have HM := Lib.hid hm; clear hm
      have HF := Lib.hid hf; clear hf
      have HO9 := Lib.hid ho; clear ho
      have HMK := Lib.hid hmk
      have hm78 : m ≤ 78 := by omega
      clear hmk
      by_cases hlt : k < n2
      · have hkl : k < ops.length := by have := HN2.out; omega
        obtain ⟨b, off, hA, hbw, e0, e1, e2⟩ := cgs_at (HR2.out.below HO9.out.2) hkl
        subst hA
        have HSZ := Lib.hid HO9.out.2.size
        have HFS := Lib.hid (addL_succ (l := l) (at_ := at_) hkl)
        have HO := Lib.hid HO9.out
        have hi1 : (k : Int) < (n2 : Int) := by omega
        generalize ops[k].1 = x0 at *
        generalize ops[k].2.1 = x1 at *
        generalize ops[k].2.2 = x2 at *
        go_wp2_with fail
        refine wp_region_any (by kernel_rfl) ?_
        try (change wpAny _ _ _ _ _ _ _ (World.drew _))
        have HO1 := Lib.hid (show OutR 57 4 w (vrsC out) m A' c' wr.drew from HO.out.keep (Below.drew (Below.refl _ _)))
        have d0 : wr.drew.cell? ⟨b, off + k * 3, none⟩ = some (.string x0) := e0
        have d1 : wr.drew.cell? ⟨b, off + k * 3 + 1, none⟩ = some (.string x1) := e1
        have d2 : wr.drew.cell? ⟨b, off + k * 3 + 2, none⟩ = some (.bool x2) := e2
        have HSZ1 := Lib.hid (show w.heap.size ≤ wr.drew.heap.size from HSZ.out)
        have HOK := Lib.hid (fun o => HO1.out.keep ((Below.refl wr.drew.heap.size wr.drew).alloc (Nat.le_refl _) o))
        have hbase : w.heap.size ≤ (wr.drew.alloc (.cells #[.string x0, .string x1, .bool x2, .int .i64 at_] 57)).heap.size := by have := HSZ.out; simp; omega
        have HCA := Lib.hid (cells_at0 wr.drew [.string x0, .string x1, .bool x2, .int .i64 at_] 57)
        generalize wr.drew = W0 at *
        refine wpAny_take (i := 0) (v := ?_) rfl (by kernel_rfl) (by kernel_rfl) (by kernel_rfl) (fun _ _ _ h => h) (Or.inl ⟨by kernel_rfl, ?_⟩) ?_
        rotate_left
        · (intro w; go_simp; first | done | with_reducible rfl)
        conv => arg 7; simp [Act.put]
        refine wpAny_take (i := 1) (v := ?_) rfl (by kernel_rfl) (by kernel_rfl) (by kernel_rfl) (fun _ _ _ h => h) (Or.inl ⟨by kernel_rfl, ?_⟩) ?_
        rotate_left
        · (intro w; go_simp; first | done | with_reducible rfl)
        conv => arg 7; simp [Act.put]
        refine wpAny_take (i := 2) (v := ?_) rfl (by kernel_rfl) (by kernel_rfl) (by kernel_rfl) (fun _ _ _ h => h) (Or.inl ⟨by kernel_rfl, ?_⟩) ?_
        rotate_left
        · (intro w; go_simp; first | done | with_reducible rfl)
        conv => arg 7; simp [Act.put]
        refine wpAny_take (i := 3) (v := ?_) rfl (by kernel_rfl) (by kernel_rfl) (by kernel_rfl) (fun _ _ _ h => h) (Or.inl ⟨by kernel_rfl, ?_⟩) ?_
        rotate_left
        · (intro w; go_simp; first | done | with_reducible rfl)
        conv => arg 7; simp [Act.put]
        refine wpAny_take (i := 4) (v := ?_) rfl (by kernel_rfl) (by kernel_rfl) (by kernel_rfl) (fun _ _ _ h => h) (Or.inl ⟨by kernel_rfl, ?_⟩) ?_
        rotate_left
        · (intro w; go_simp; first | done | with_reducible rfl)
        conv => arg 7; simp [Act.put]
        refine wpAny_take (i := 6) (v := ?_) rfl (by kernel_rfl) (by kernel_rfl) (by kernel_rfl) (fun _ _ _ h => h) (Or.inl ⟨by kernel_rfl, ?_⟩) ?_
        rotate_left
        · (intro w; go_simp; first | done | with_reducible rfl)
        conv => arg 7; simp [Act.put]
        refine wpAny_take (i := 7) (v := ?_) rfl (by kernel_rfl) (by kernel_rfl) (by kernel_rfl) (fun _ _ _ h => h) (Or.inl ⟨by kernel_rfl, ?_⟩) ?_
        rotate_left
        · (intro w; go_simp; first | done | with_reducible rfl)
        conv => arg 7; simp [Act.put]
        refine wpAny_take (i := 8) (v := ?_) rfl (by kernel_rfl) (by kernel_rfl) (by kernel_rfl) (fun _ _ _ h => h) (Or.inl ⟨by kernel_rfl, ?_⟩) ?_
        rotate_left
        · (intro w; go_simp; first | done | with_reducible rfl)
        conv => arg 7; simp [Act.put]
        refine wpAny_take (i := 9) (v := ?_) rfl (by kernel_rfl) (by kernel_rfl) (by kernel_rfl) (fun _ _ _ h => h) (Or.inl ⟨by kernel_rfl, ?_⟩) ?_
        rotate_left
        · (intro w; go_simp; first | done | with_reducible rfl)
        conv => arg 7; simp [Act.put]
        refine wpAny_take (i := 11) (v := ?_) rfl (by kernel_rfl) (by kernel_rfl) (by kernel_rfl) (fun _ _ _ h => h) (Or.inl ⟨by kernel_rfl, ?_⟩) ?_
        rotate_left
        · (intro w; go_simp; first | done | with_reducible rfl)
        conv => arg 7; simp [Act.put]
        refine wpAny_take (i := 12) (v := ?_) rfl (by kernel_rfl) (by kernel_rfl) (by kernel_rfl) (fun _ _ _ h => h) (Or.inl ⟨by kernel_rfl, ?_⟩) ?_
        rotate_left
        · (intro w; go_simp; first | done | with_reducible rfl)
        conv => arg 7; simp [Act.put]
        refine wpAny_take (i := 13) (v := ?_) rfl (by kernel_rfl) (by kernel_rfl) (by kernel_rfl) (fun _ _ _ h => h) (Or.inl ⟨by kernel_rfl, ?_⟩) ?_
        rotate_left
        · (intro w; go_simp; first | done | with_reducible rfl)
        conv => arg 7; simp [Act.put]
        refine wpAny_take (i := 14) (v := ?_) rfl (by kernel_rfl) (by kernel_rfl) (by kernel_rfl) (fun _ _ _ h => h) (Or.inl ⟨by kernel_rfl, ?_⟩) ?_
        rotate_left
        · (intro w; go_simp; first | done | with_reducible rfl)
        conv => arg 7; simp [Act.put]
        refine wpAny_take (i := 16) (v := ?_) rfl (by kernel_rfl) (by kernel_rfl) (by kernel_rfl) (fun _ _ _ h => h) (Or.inl ⟨by kernel_rfl, ?_⟩) ?_
        rotate_left
        · (intro w; go_simp; first | done | with_reducible rfl)
        conv => arg 7; simp [Act.put]
        refine wpAny_ready (rs := [5, 10, 15]) (by kernel_rfl) (by simp) ?_
        refine AllReady.cons rfl (fun K hK => ?_) (AllReady.cons rfl (fun K hK => ?_) (AllReady.cons rfl (fun K hK => ?_) AllReady.nil))
        · go_simp
          refine hK _ _ ?_; clear hK K
          refine wpAny_ready (rs := [10, 15]) (by kernel_rfl) (by simp) ?_
          refine AllReady.cons rfl (fun K hK => ?_) (AllReady.cons rfl (fun K hK => ?_) AllReady.nil)
          · go_simp
            refine hK _ _ ?_; clear hK K
            refine wpAny_ready (rs := [15]) (by kernel_rfl) (by simp) ?_
            refine AllReady.cons rfl (fun K hK => ?_) AllReady.nil
            go_simp
            refine hK _ _ ?_; clear hK K
            refine wpAny_take (i := 17) (v := ?_) rfl (by kernel_rfl) (by kernel_rfl) (by kernel_rfl) (fun _ _ _ h => h) (Or.inl ⟨by kernel_rfl, ?_⟩) ?_
            rotate_left
            · (intro w; go_simp; first | done | with_reducible rfl)
            conv => arg 7; simp [Act.put]
            refine wpAny_ready (rs := [18]) (by kernel_rfl) (by simp) ?_
            refine AllReady.cons rfl (fun K hK => ?_) AllReady.nil
            go_simp
            refine hK _ _ ?_; clear hK K
            refine wpAny_ready (rs := [19]) (by kernel_rfl) (by simp) ?_
            refine AllReady.cons rfl (fun K hK => ?_) (AllReady.nil)
            refine step_append_ownW (by rfl) _ _ 25 (by rfl) w.heap.size 57 i0 (.agg #[.string ⟨#[]⟩, .string ⟨#[]⟩, .bool false, .int .i64 0]) 4 48 Try.underlying25 HI.out.1 HI.out.2.1 HI.out.2.2.1 HI.out.2.2.2 rfl (by decide) (.slice A' m c') m (vrsC out) (by rfl) (HOK.out _).1 ⟨W0.heap.size, 0, none⟩ 1 1 [.string x0, .string x1, .bool x2, .int .i64 at_] (by rfl) (by rfl) (fun j u hj => HCA.out j u hj) (by intro u hu; simp at hu; rcases hu with rfl | rfl | rfl | rfl <;> rfl) (by unfold maxLen; omega) (by omega) hbase ?_
            intro v' w4 hown' hgrow _
            obtain ⟨A4, c4, rfl, ho4⟩ := (HOK.out _).app hown' hgrow
            have HO4 := Lib.hid ho4; clear ho4 hown' hgrow
            refine hK _ _ ?_; clear hK K
            conv => arg 7; simp [Act.put]
            refine wpAny_take (i := 20) (v := ?_) rfl (by kernel_rfl) (by kernel_rfl) (by kernel_rfl) (fun _ _ _ h => h) (Or.inl ⟨by kernel_rfl, ?_⟩) ?_
            rotate_left
            · (intro w; go_simp; first | done | with_reducible rfl)
            conv => arg 7; simp [Act.put]
            refine wpAny_done (by kernel_rfl) ?_ _
            go_wp2_with fail
            go_roundw
            case rel => exact ⟨k + 1, m + 1, out ++ [(x0, x1, x2, at_)], A4, c4, rfl, by go_num, by omega, by rw [HFS.out, HF.out], by rw [List.length_append, ← HM.out]; rfl, by have := HMK.out; omega, by rw [vrsC_snoc]; exact HO4.out⟩
            case measure => simp [intOf]; omega
          · go_simp
            refine hK _ _ ?_; clear hK K
            refine wpAny_ready (rs := [10]) (by kernel_rfl) (by simp) ?_
            refine AllReady.cons rfl (fun K hK => ?_) AllReady.nil
            go_simp
            refine hK _ _ ?_; clear hK K
            refine wpAny_take (i := 17) (v := ?_) rfl (by kernel_rfl) (by kernel_rfl) (by kernel_rfl) (fun _ _ _ h => h) (Or.inl ⟨by kernel_rfl, ?_⟩) ?_
            rotate_left
            · (intro w; go_simp; first | done | with_reducible rfl)
            conv => arg 7; simp [Act.put]
            refine wpAny_ready (rs := [18]) (by kernel_rfl) (by simp) ?_
            refine AllReady.cons rfl (fun K hK => ?_) AllReady.nil
            go_simp
            refine hK _ _ ?_; clear hK K
            refine wpAny_ready (rs := [19]) (by kernel_rfl) (by simp) ?_
            refine AllReady.cons rfl (fun K hK => ?_) (AllReady.nil)
            refine step_append_ownW (by rfl) _ _ 25 (by rfl) w.heap.size 57 i0 (.agg #[.string ⟨#[]⟩, .string ⟨#[]⟩, .bool false, .int .i64 0]) 4 48 Try.underlying25 HI.out.1 HI.out.2.1 HI.out.2.2.1 HI.out.2.2.2 rfl (by decide) (.slice A' m c') m (vrsC out) (by rfl) (HOK.out _).1 ⟨W0.heap.size, 0, none⟩ 1 1 [.string x0, .string x1, .bool x2, .int .i64 at_] (by rfl) (by rfl) (fun j u hj => HCA.out j u hj) (by intro u hu; simp at hu; rcases hu with rfl | rfl | rfl | rfl <;> rfl) (by unfold maxLen; omega) (by omega) hbase ?_
            intro v' w4 hown' hgrow _
            obtain ⟨A4, c4, rfl, ho4⟩ := (HOK.out _).app hown' hgrow
            have HO4 := Lib.hid ho4; clear ho4 hown' hgrow
            refine hK _ _ ?_; clear hK K
            conv => arg 7; simp [Act.put]
            refine wpAny_take (i := 20) (v := ?_) rfl (by kernel_rfl) (by kernel_rfl) (by kernel_rfl) (fun _ _ _ h => h) (Or.inl ⟨by kernel_rfl, ?_⟩) ?_
            rotate_left
            · (intro w; go_simp; first | done | with_reducible rfl)
            conv => arg 7; simp [Act.put]
            refine wpAny_done (by kernel_rfl) ?_ _
            go_wp2_with fail
            go_roundw
            case rel => exact ⟨k + 1, m + 1, out ++ [(x0, x1, x2, at_)], A4, c4, rfl, by go_num, by omega, by rw [HFS.out, HF.out], by rw [List.length_append, ← HM.out]; rfl, by have := HMK.out; omega, by rw [vrsC_snoc]; exact HO4.out⟩
            case measure => simp [intOf]; omega
        · go_simp
          refine hK _ _ ?_; clear hK K
          refine wpAny_ready (rs := [5, 15]) (by kernel_rfl) (by simp) ?_
          refine AllReady.cons rfl (fun K hK => ?_) (AllReady.cons rfl (fun K hK => ?_) AllReady.nil)
          · go_simp
            refine hK _ _ ?_; clear hK K
            refine wpAny_ready (rs := [15]) (by kernel_rfl) (by simp) ?_
            refine AllReady.cons rfl (fun K hK => ?_) AllReady.nil
            go_simp
            refine hK _ _ ?_; clear hK K
            refine wpAny_take (i := 17) (v := ?_) rfl (by kernel_rfl) (by kernel_rfl) (by kernel_rfl) (fun _ _ _ h => h) (Or.inl ⟨by kernel_rfl, ?_⟩) ?_
            rotate_left
            · (intro w; go_simp; first | done | with_reducible rfl)
            conv => arg 7; simp [Act.put]
            refine wpAny_ready (rs := [18]) (by kernel_rfl) (by simp) ?_
            refine AllReady.cons rfl (fun K hK => ?_) AllReady.nil
            go_simp
            refine hK _ _ ?_; clear hK K
            refine wpAny_ready (rs := [19]) (by kernel_rfl) (by simp) ?_
            refine AllReady.cons rfl (fun K hK => ?_) (AllReady.nil)
            refine step_append_ownW (by rfl) _ _ 25 (by rfl) w.heap.size 57 i0 (.agg #[.string ⟨#[]⟩, .string ⟨#[]⟩, .bool false, .int .i64 0]) 4 48 Try.underlying25 HI.out.1 HI.out.2.1 HI.out.2.2.1 HI.out.2.2.2 rfl (by decide) (.slice A' m c') m (vrsC out) (by rfl) (HOK.out _).1 ⟨W0.heap.size, 0, none⟩ 1 1 [.string x0, .string x1, .bool x2, .int .i64 at_] (by rfl) (by rfl) (fun j u hj => HCA.out j u hj) (by intro u hu; simp at hu; rcases hu with rfl | rfl | rfl | rfl <;> rfl) (by unfold maxLen; omega) (by omega) hbase ?_
            intro v' w4 hown' hgrow _
            obtain ⟨A4, c4, rfl, ho4⟩ := (HOK.out _).app hown' hgrow
            have HO4 := Lib.hid ho4; clear ho4 hown' hgrow
            refine hK _ _ ?_; clear hK K
            conv => arg 7; simp [Act.put]
            refine wpAny_take (i := 20) (v := ?_) rfl (by kernel_rfl) (by kernel_rfl) (by kernel_rfl) (fun _ _ _ h => h) (Or.inl ⟨by kernel_rfl, ?_⟩) ?_
            rotate_left
            · (intro w; go_simp; first | done | with_reducible rfl)
            conv => arg 7; simp [Act.put]
            refine wpAny_done (by kernel_rfl) ?_ _
            go_wp2_with fail
            go_roundw
            case rel => exact ⟨k + 1, m + 1, out ++ [(x0, x1, x2, at_)], A4, c4, rfl, by go_num, by omega, by rw [HFS.out, HF.out], by rw [List.length_append, ← HM.out]; rfl, by have := HMK.out; omega, by rw [vrsC_snoc]; exact HO4.out⟩
            case measure => simp [intOf]; omega
          · go_simp
            refine hK _ _ ?_; clear hK K
            refine wpAny_ready (rs := [5]) (by kernel_rfl) (by simp) ?_
            refine AllReady.cons rfl (fun K hK => ?_) AllReady.nil
            go_simp
            refine hK _ _ ?_; clear hK K
            refine wpAny_take (i := 17) (v := ?_) rfl (by kernel_rfl) (by kernel_rfl) (by kernel_rfl) (fun _ _ _ h => h) (Or.inl ⟨by kernel_rfl, ?_⟩) ?_
            rotate_left
            · (intro w; go_simp; first | done | with_reducible rfl)
            conv => arg 7; simp [Act.put]
            refine wpAny_ready (rs := [18]) (by kernel_rfl) (by simp) ?_
            refine AllReady.cons rfl (fun K hK => ?_) AllReady.nil
            go_simp
            refine hK _ _ ?_; clear hK K
            refine wpAny_ready (rs := [19]) (by kernel_rfl) (by simp) ?_
            refine AllReady.cons rfl (fun K hK => ?_) (AllReady.nil)
            refine step_append_ownW (by rfl) _ _ 25 (by rfl) w.heap.size 57 i0 (.agg #[.string ⟨#[]⟩, .string ⟨#[]⟩, .bool false, .int .i64 0]) 4 48 Try.underlying25 HI.out.1 HI.out.2.1 HI.out.2.2.1 HI.out.2.2.2 rfl (by decide) (.slice A' m c') m (vrsC out) (by rfl) (HOK.out _).1 ⟨W0.heap.size, 0, none⟩ 1 1 [.string x0, .string x1, .bool x2, .int .i64 at_] (by rfl) (by rfl) (fun j u hj => HCA.out j u hj) (by intro u hu; simp at hu; rcases hu with rfl | rfl | rfl | rfl <;> rfl) (by unfold maxLen; omega) (by omega) hbase ?_
            intro v' w4 hown' hgrow _
            obtain ⟨A4, c4, rfl, ho4⟩ := (HOK.out _).app hown' hgrow
            have HO4 := Lib.hid ho4; clear ho4 hown' hgrow
            refine hK _ _ ?_; clear hK K
            conv => arg 7; simp [Act.put]
            refine wpAny_take (i := 20) (v := ?_) rfl (by kernel_rfl) (by kernel_rfl) (by kernel_rfl) (fun _ _ _ h => h) (Or.inl ⟨by kernel_rfl, ?_⟩) ?_
            rotate_left
            · (intro w; go_simp; first | done | with_reducible rfl)
            conv => arg 7; simp [Act.put]
            refine wpAny_done (by kernel_rfl) ?_ _
            go_wp2_with fail
            go_roundw
            case rel => exact ⟨k + 1, m + 1, out ++ [(x0, x1, x2, at_)], A4, c4, rfl, by go_num, by omega, by rw [HFS.out, HF.out], by rw [List.length_append, ← HM.out]; rfl, by have := HMK.out; omega, by rw [vrsC_snoc]; exact HO4.out⟩
            case measure => simp [intOf]; omega
        · go_simp
          refine hK _ _ ?_; clear hK K
          refine wpAny_ready (rs := [5, 10]) (by kernel_rfl) (by simp) ?_
          refine AllReady.cons rfl (fun K hK => ?_) (AllReady.cons rfl (fun K hK => ?_) AllReady.nil)
          · go_simp
            refine hK _ _ ?_; clear hK K
            refine wpAny_ready (rs := [10]) (by kernel_rfl) (by simp) ?_
            refine AllReady.cons rfl (fun K hK => ?_) AllReady.nil
            go_simp
            refine hK _ _ ?_; clear hK K
            refine wpAny_take (i := 17) (v := ?_) rfl (by kernel_rfl) (by kernel_rfl) (by kernel_rfl) (fun _ _ _ h => h) (Or.inl ⟨by kernel_rfl, ?_⟩) ?_
            rotate_left
            · (intro w; go_simp; first | done | with_reducible rfl)
            conv => arg 7; simp [Act.put]
            refine wpAny_ready (rs := [18]) (by kernel_rfl) (by simp) ?_
            refine AllReady.cons rfl (fun K hK => ?_) AllReady.nil
            go_simp
            refine hK _ _ ?_; clear hK K
            refine wpAny_ready (rs := [19]) (by kernel_rfl) (by simp) ?_
            refine AllReady.cons rfl (fun K hK => ?_) (AllReady.nil)
            refine step_append_ownW (by rfl) _ _ 25 (by rfl) w.heap.size 57 i0 (.agg #[.string ⟨#[]⟩, .string ⟨#[]⟩, .bool false, .int .i64 0]) 4 48 Try.underlying25 HI.out.1 HI.out.2.1 HI.out.2.2.1 HI.out.2.2.2 rfl (by decide) (.slice A' m c') m (vrsC out) (by rfl) (HOK.out _).1 ⟨W0.heap.size, 0, none⟩ 1 1 [.string x0, .string x1, .bool x2, .int .i64 at_] (by rfl) (by rfl) (fun j u hj => HCA.out j u hj) (by intro u hu; simp at hu; rcases hu with rfl | rfl | rfl | rfl <;> rfl) (by unfold maxLen; omega) (by omega) hbase ?_
            intro v' w4 hown' hgrow _
            obtain ⟨A4, c4, rfl, ho4⟩ := (HOK.out _).app hown' hgrow
            have HO4 := Lib.hid ho4; clear ho4 hown' hgrow
            refine hK _ _ ?_; clear hK K
            conv => arg 7; simp [Act.put]
            refine wpAny_take (i := 20) (v := ?_) rfl (by kernel_rfl) (by kernel_rfl) (by kernel_rfl) (fun _ _ _ h => h) (Or.inl ⟨by kernel_rfl, ?_⟩) ?_
            rotate_left
            · (intro w; go_simp; first | done | with_reducible rfl)
            conv => arg 7; simp [Act.put]
            refine wpAny_done (by kernel_rfl) ?_ _
            go_wp2_with fail
            go_roundw
            case rel => exact ⟨k + 1, m + 1, out ++ [(x0, x1, x2, at_)], A4, c4, rfl, by go_num, by omega, by rw [HFS.out, HF.out], by rw [List.length_append, ← HM.out]; rfl, by have := HMK.out; omega, by rw [vrsC_snoc]; exact HO4.out⟩
            case measure => simp [intOf]; omega
          · go_simp
            refine hK _ _ ?_; clear hK K
            refine wpAny_ready (rs := [5]) (by kernel_rfl) (by simp) ?_
            refine AllReady.cons rfl (fun K hK => ?_) AllReady.nil
            go_simp
            refine hK _ _ ?_; clear hK K
            refine wpAny_take (i := 17) (v := ?_) rfl (by kernel_rfl) (by kernel_rfl) (by kernel_rfl) (fun _ _ _ h => h) (Or.inl ⟨by kernel_rfl, ?_⟩) ?_
            rotate_left
            · (intro w; go_simp; first | done | with_reducible rfl)
            conv => arg 7; simp [Act.put]
            refine wpAny_ready (rs := [18]) (by kernel_rfl) (by simp) ?_
            refine AllReady.cons rfl (fun K hK => ?_) AllReady.nil
            go_simp
            refine hK _ _ ?_; clear hK K
            refine wpAny_ready (rs := [19]) (by kernel_rfl) (by simp) ?_
            refine AllReady.cons rfl (fun K hK => ?_) (AllReady.nil)
            refine step_append_ownW (by rfl) _ _ 25 (by rfl) w.heap.size 57 i0 (.agg #[.string ⟨#[]⟩, .string ⟨#[]⟩, .bool false, .int .i64 0]) 4 48 Try.underlying25 HI.out.1 HI.out.2.1 HI.out.2.2.1 HI.out.2.2.2 rfl (by decide) (.slice A' m c') m (vrsC out) (by rfl) (HOK.out _).1 ⟨W0.heap.size, 0, none⟩ 1 1 [.string x0, .string x1, .bool x2, .int .i64 at_] (by rfl) (by rfl) (fun j u hj => HCA.out j u hj) (by intro u hu; simp at hu; rcases hu with rfl | rfl | rfl | rfl <;> rfl) (by unfold maxLen; omega) (by omega) hbase ?_
            intro v' w4 hown' hgrow _
            obtain ⟨A4, c4, rfl, ho4⟩ := (HOK.out _).app hown' hgrow
            have HO4 := Lib.hid ho4; clear ho4 hown' hgrow
            refine hK _ _ ?_; clear hK K
            conv => arg 7; simp [Act.put]
            refine wpAny_take (i := 20) (v := ?_) rfl (by kernel_rfl) (by kernel_rfl) (by kernel_rfl) (fun _ _ _ h => h) (Or.inl ⟨by kernel_rfl, ?_⟩) ?_
            rotate_left
            · (intro w; go_simp; first | done | with_reducible rfl)
            conv => arg 7; simp [Act.put]
            refine wpAny_done (by kernel_rfl) ?_ _
            go_wp2_with fail
            go_roundw
            case rel => exact ⟨k + 1, m + 1, out ++ [(x0, x1, x2, at_)], A4, c4, rfl, by go_num, by omega, by rw [HFS.out, HF.out], by rw [List.length_append, ← HM.out]; rfl, by have := HMK.out; omega, by rw [vrsC_snoc]; exact HO4.out⟩
            case measure => simp [intOf]; omega
      · obtain rfl : k = n2 := by omega
        have HE := Lib.hid (show addL l ops at_ = out by rw [← HF.out, HN2.out, addL_full])
        by_cases h30 : m ≤ 30
        · have HE2 := Lib.hid (HYY.out (by rw [HB9.out]; have := HN1.out; have := HN2.out; have := HMK.out; exact decide_eq_true (by omega)))
          have hi1 : ¬ (30 : Int) < (m : Int) := by omega
          go_wp2_with fail
          go_ret2
          rw [HE2.out, HE.out]
          have hM := HM.out
          subst hM
          exact ⟨_, rfl, ⟨A', c', rfl, HO9.out.1⟩, HO9.out.2⟩
        · have HE2 := Lib.hid (HNO9.out (by rw [HB9.out]; have := HN1.out; have := HN2.out; have := HMK.out; exact decide_eq_false (by omega)))
          have hi1 : (30 : Int) < (m : Int) := by omega
          go_wp2_with fail
          go_ret2
          rw [HE2.out]
          exact addPost_no HO9.out.2
end Go.Proofs.Ytokmofkpjohlmaa
