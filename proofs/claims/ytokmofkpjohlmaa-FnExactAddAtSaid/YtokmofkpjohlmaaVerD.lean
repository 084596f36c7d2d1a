/- Contract of AddAt of the program (chapter 7). Conditions: the lists lie in rows; they are few; their texts are no longer than memory. -/
import Derived.Test.YtokmofkpjohlmaaVerC
import Derived.Test.YtokmofkpjohlmaaVerW
import Derived.Test.YtokmofkpjohlmaaVerA
set_option linter.unusedVariables false
set_option linter.unusedSimpArgs false
namespace Go.Proofs.Ytokmofkpjohlmaa
open Go.RowKit Go.ChangeShapes Go.WideShapes

theorem own_capsW {w : World} {B n c z : Nat} {e : TypeId} {A : Option Addr} {xs : List Value} (h : w.ownsRow B e z (.slice A n c) n xs) : n ≤ c ∧ c ≤ maxLen := by
  rcases h.2 with ⟨hv, hn⟩ | ⟨g, cap, cur, hv, _, _, h1, h2, _⟩
  · injection hv with _ h1 h2
    subst h1 h2
    exact ⟨Nat.le_refl _, Nat.zero_le _⟩
  · injection hv with _ h3 h4
    subst h4
    exact ⟨h1, h2⟩
theorem addL_wf {l : List Vr} {ops : List Cg} {at_ : Int} (h1 : WfVr l) (h2 : WfCg ops) (h3 : timeB at_ = true) : WfVr (addL l ops at_) := fun p hp => by
  unfold timeB at h3
  rw [Bool.and_eq_true, decide_eq_true_iff, decide_eq_true_iff] at h3
  unfold addL at hp
  rcases List.mem_append.1 hp with hp | hp
  · exact h1 p hp
  · obtain ⟨o, ho, rfl⟩ := List.mem_map.1 hp
    exact ⟨(h2 o ho).1, (h2 o ho).2, by show (-9223372036854775808 : Int) ≤ at_; omega, by show at_ ≤ (9223372036854775807 : Int); omega⟩
set_option maxRecDepth 100000 in
set_option maxHeartbeats 8000000 in
theorem iAdd_any (A1 : Option Addr) (n1 c1 : Nat) (l : List Vr) (A2 : Option Addr) (n2 c2 : Nat) (ops : List Cg) (at_ : Int) (w : World) (hr1 : RowAt w w.heap.size A1 (vrsC l)) (hn1 : n1 = l.length) (hs1 : n1 ≤ 1048576) (hw1 : WfVr l) (hc1 : n1 ≤ c1) (hm1 : c1 ≤ maxLen)
    (hr2 : RowAt w w.heap.size A2 (cgsC ops)) (hn2 : n2 = ops.length) (hs2 : n2 ≤ 1048576) (hw2 : WfCg ops) (hc2 : n2 ≤ c2) (hm2 : c2 ≤ maxLen) :
    Calls Try.prog 29 #[.slice A1 n1 c1, .slice A2 n2 c2, .int .i64 at_] w (AddPost (addR l ops at_) w) := by
  obtain ⟨i0, hi0, hz0, hz1, hz2⟩ := info_parts vrInfo
  have HI := Lib.hid (And.intro hi0 (And.intro hz0 (And.intro hz1 hz2))); clear hi0 hz0 hz1 hz2
  have HV := Lib.hid (iVers_any A1 n1 c1 l w hr1 hn1 hs1 hw1 hc1 hm1)
  have HOP := Lib.hid (fun W (hb : Below w.heap.size w W) => iOps_any A2 n2 c2 ops W ((hr2.below hb).mono hb.size) hn2 hs2 hw2)
  have HCL := Lib.hid (fun W (hb : Below w.heap.size w W) => cloneVr_any A1 n1 c1 l W ((hr1.below hb).mono hb.size) hn1 hs1)
  have HT := Lib.hid (fun W => iTime_any at_ W)
  have HB := Lib.hid (show addB l ops at_ = (versB l && opsB ops && timeB at_ && laterT l at_ && versB (addL l ops at_)) from rfl)
  have HNO := Lib.hid (fun h => addR_no (l := l) (ops := ops) (at_ := at_) h)
  have HYY := Lib.hid (fun h => addR_yes (l := l) (ops := ops) (at_ := at_) h)
  have HOPK := Lib.hid (fun (h : opsB ops = true) => (opsB_ok h).1)
  have HVK := Lib.hid (fun (h : versB l = true) => (versB_ok h).1)
  have HWF := Lib.hid (fun (h : timeB at_ = true) => addL_wf hw1 hw2 h)
  have HR1 := Lib.hid hr1; clear hr1
  have HN1 := Lib.hid hn1; clear hn1
  have HR2 := Lib.hid hr2; clear hr2
  have HN2 := Lib.hid hn2; clear hn2
  clear hw1 hw2 hc1 hm1 hc2 hm2
  have HLN := Lib.hid (fun (h : l = []) => (show laterT l at_ = true by rw [h]; exact laterT_nil at_))
  have HLL := Lib.hid (fun (h : 0 < l.length) => laterT_last (l := l) (at_ := at_) h)
  generalize addR l ops at_ = rk at *
  generalize addB l ops at_ = rb at *
  go_enter Try.func29, Try.ntmps29
  go_wp2_with fail
  refine (HV.out).mono ?_
  rintro e w2 ⟨rfl, hb2⟩
  have HB2 := Lib.hid hb2; clear hb2 HV
  cases h1 : versB l
  · rw [h1] at HB
    clear h1
    go_wp2_with fail
    go_ret2
    rw [HNO.out (by rw [HB.out]; simp)]
    exact addPost_no HB2.out
  rw [h1] at HB
  have hn30 : n1 ≤ 30 := by have := HVK.out h1; have := HN1.out; omega
  clear h1 HVK
  go_wp2_with fail
  refine (HOP.out _ HB2.out).mono ?_
  rintro e w3 ⟨rfl, hb3⟩
  have HB3 := Lib.hid (HB2.out.trans (hb3.mono HB2.out.size)); clear hb3 HOP
  cases h2 : opsB ops
  · rw [h2] at HB
    clear h2
    go_wp2_with fail
    go_ret2
    rw [HNO.out (by rw [HB.out]; simp)]
    exact addPost_no HB3.out
  rw [h2] at HB
  have hn48 : n2 ≤ 48 := by have := HOPK.out h2; have := HN2.out; omega
  clear h2 HOPK
  go_wp2_with fail
  refine (HT.out _).mono ?_
  rintro e w5 ⟨rfl, hw5⟩
  obtain rfl := hw5.symm
  cases h4 : timeB at_
  · rw [h4] at HB
    clear h4
    go_wp2_with fail
    go_ret2
    rw [HNO.out (by rw [HB.out]; simp)]
    exact addPost_no HB3.out
  rw [h4] at HB
  have HWF1 := Lib.hid (HWF.out h4)
  clear h4 HT HWF
  cases hlt : laterT l at_
  · rw [hlt] at HB
    by_cases h0 : 0 < n1
    · have hl0 : 0 < l.length := by have := HN1.out; omega
      have hll := HLL.out hl0
      rw [hlt] at hll
      have hge : ¬ (l[l.length - 1]'(by omega)).2.2.2 < at_ := by simpa using hll.symm
      obtain ⟨b, off, hA, hbw, e0, e1, e2, e3⟩ := vrs_at (HR1.out.below HB3.out) (show l.length - 1 < l.length by omega)
      subst hA
      have hge2 : at_ ≤ (l[l.length - 1]'(by omega)).2.2.2 := by omega
      generalize (l[l.length - 1]'(by omega)).2.2.2 = y3 at *
      rw [← HN1.out] at e3
      have hi1 : ((n1 - 1 : Nat) : Int) < (n1 : Int) := by omega
      have hi2 : (n1 : Int) - 1 = ((n1 - 1 : Nat) : Int) := by omega
      have hi3 : (0 : Int) < (n1 : Int) := by omega
      have hi4 : IntKind.i64.wrap ((n1 - 1 : Nat) : Int) = ((n1 - 1 : Nat) : Int) := IntWalk.i64_in _ (by omega)
      have hi5 : (0 : Int) ≤ ((n1 - 1 : Nat) : Int) := by omega
      clear e0 e1 e2 hll hge hl0 hlt HLL HLN
      generalize n1 - 1 = j at *
      go_wp2_with fail
      go_ret2
      rw [HNO.out (by rw [HB.out]; simp)]
      exact addPost_no HB3.out
    · have hl0 : l = [] := List.eq_nil_of_length_eq_zero (by have := HN1.out; omega)
      rw [HLN.out hl0] at hlt
      cases hlt
  rw [hlt] at HB
  have HB9 := Lib.hid (show rb = versB (addL l ops at_) by rw [HB.out]; simp)
  have HGO := Lib.hid (show ∃ b off y3 j, (0 < n1 → A1 = some ⟨b, off, none⟩ ∧ w3.cell? ⟨b, off + j * 4 + 3, none⟩ = some (.int .i64 y3) ∧ y3 < at_ ∧ (n1 : Int) - 1 = ((j : Nat) : Int) ∧ (j : Int) < (n1 : Int)) from by
    by_cases h0 : 0 < n1
    · have hl0 : 0 < l.length := by have := HN1.out; omega
      have hll := HLL.out hl0
      rw [hlt] at hll
      obtain ⟨b, off, hA, hbw, e0, e1, e2, e3⟩ := vrs_at (HR1.out.below HB3.out) (show l.length - 1 < l.length by omega)
      refine ⟨b, off, _, l.length - 1, fun _ => ⟨hA, e3, of_decide_eq_true hll.symm, ?_, ?_⟩⟩
      · have := HN1.out; omega
      · have := HN1.out; omega
    · exact ⟨0, 0, 0, 0, fun h => absurd h h0⟩)
  have HNO9 := Lib.hid HNO.out
  clear hlt HLL HLN HB HNO
  obtain ⟨b, off, y3, j, hgo⟩ := HGO.out
  clear HGO
  by_cases h0 : 0 < n1
  · obtain ⟨hA, e3, hlt, hi2, hi1⟩ := hgo h0
    have hi3 : (0 : Int) < (n1 : Int) := by omega
    have hge : ¬ at_ ≤ y3 := by omega
    have hi4 : IntKind.i64.wrap (j : Int) = (j : Int) := IntWalk.i64_in _ (by omega)
    have hi5 : (0 : Int) ≤ (j : Int) := by omega
    subst hA
    clear hgo h0
    go_wp2_with fail
    refine (HCL.out _ HB3.out).mono ?_
    rintro e w6 ⟨_, rfl, ⟨A6, c6, rfl, ho6⟩, hb6⟩
    have HO6 := Lib.hid (show OutR 57 4 w (vrsC l) n1 A6 c6 w6 from ⟨by rw [HN1.out]; exact own_leV ho6 HB3.out.size, HB3.out.trans (hb6.mono HB3.out.size)⟩)
    clear ho6 hb6
    rw [← HN1.out]
    go_wp2_with fail
    go_loopw [8, 42] (fun q i wr => ∃ (k m : Nat) (out : List Vr) (A' : Option Addr) (c' : Nat), q = .slice A' m c' ∧ i = .int .i64 k ∧ k ≤ n2 ∧ addL l (ops.take k) at_ = out ∧ m = out.length ∧ m = n1 + k ∧ OutR 57 4 w (vrsC out) m A' c' wr) (fun _ i _ => n2 - (intOf i).toNat)
    case atStart => exact ⟨0, n1, l, _, _, rfl, rfl, by omega, addL_zero _ _ _, HN1.out, by omega, HO6.out⟩
    case round =>
      obtain ⟨k, m, out, A', c', rfl, rfl, hk, hf, hm, hmk, ho⟩ := hrel
      clear HO6
      have HM := Lib.hid hm; clear hm
      have HF := Lib.hid hf; clear hf
      have HO9 := Lib.hid ho; clear ho
      have HMK := Lib.hid hmk
      have hm78 : m ≤ 78 := by omega
      clear hmk
      by_cases hlt : k < n2
      · have hkl : k < ops.length := by have := HN2.out; omega
        obtain ⟨b2, off2, hA2, hbw2, e0, e1, e2⟩ := cgs_at (HR2.out.below HO9.out.2) hkl
        subst hA2
        have HSZ := Lib.hid HO9.out.2.size
        have HFS := Lib.hid (addL_succ (l := l) (at_ := at_) hkl)
        have HOK := Lib.hid (fun o o' => (HO9.out.keep ((Below.refl wr.heap.size wr).alloc (Nat.le_refl _) o)).keep ((Below.refl (wr.alloc o).heap.size (wr.alloc o)).alloc (Nat.le_refl _) o'))
        have hbs : b2 < wr.heap.size := by have := HSZ.out; omega
        have hi1 : (k : Int) < (n2 : Int) := by omega
        generalize ops[k].1 = x0 at *
        generalize ops[k].2.1 = x1 at *
        generalize ops[k].2.2 = x2 at *
        go_wp2_with (at_builtin; refine wpList_append_own _ rfl _ _ 25 rfl w.heap.size 57 i0 (.agg #[.string ⟨#[]⟩, .string ⟨#[]⟩, .bool false, .int .i64 0]) 4 48 Try.underlying25 HI.out.1 HI.out.2.1 HI.out.2.2.1 HI.out.2.2.2 rfl (by decide) (.slice A' m c') m (vrsC out) rfl (HOK.out _ _).1 ⟨wr.heap.size + 1, 0, none⟩ 1 1 [.string x0, .string x1, .bool x2, .int .i64 at_] rfl rfl ?c1 ?c2 ?c3 ?c4 ?c5 ?_)
        try (case c1 => exact fun j u hj => by simpa using cells_at0 (wr.alloc (.cells #[.string x0, .string x1, .bool x2] 82)) [.string x0, .string x1, .bool x2, .int .i64 at_] 57 j u hj)
        try (case c2 => first | exact ⟨rfl, rfl, rfl, rfl⟩ | (intro u hu; simp at hu; rcases hu with rfl | rfl | rfl | rfl <;> rfl))
        try (case c3 => first | omega | (unfold maxLen; omega))
        try (case c4 => omega)
        try (case c5 => first | omega | (have := HSZ.out; simp; omega))
        intro v' w4 hown' hgrow _
        obtain ⟨A4, c4, rfl, ho4⟩ := (HOK.out _ _).app hown' hgrow
        have HO4 := Lib.hid ho4; clear ho4 hown' hgrow
        go_wp2_with fail
        go_roundw
        case rel => exact ⟨k + 1, m + 1, out ++ [(x0, x1, x2, at_)], A4, c4, rfl, by go_num, by omega, by rw [HFS.out, HF.out], by rw [List.length_append, ← HM.out]; rfl, by have := HMK.out; omega, by rw [vrsC_snoc]; exact HO4.out⟩
        case measure => simp [intOf]; omega
      · obtain rfl : k = n2 := by omega
        have HE := Lib.hid (show addL l ops at_ = out by rw [← HF.out, HN2.out, addL_full])
        rw [HE.out] at HWF1 HB9 HYY
        have HVV := Lib.hid (fun W (hb : Below wr.heap.size wr W) => iVers_any A' m c' out W ((RowAt.of_own (HO9.out.keep hb).1)) HM.out (by omega) HWF1.out (own_capsW HO9.out.1).1 (own_capsW HO9.out.1).2)
        have HVW := Lib.hid (HVV.out wr (Below.refl _ _)); clear HVV
        go_wp2_with fail
        refine (HVW.out).mono ?_
        rintro e w7 ⟨rfl, hb7⟩
        have HO7 := Lib.hid (HO9.out.keep hb7); clear hb7
        cases hv9 : versB out
        · rw [hv9] at HB9
          have HE2 := Lib.hid (HNO9.out HB9.out)
          clear hv9
          go_wp2_with fail
          go_ret2
          rw [HE2.out]
          exact addPost_no HO7.out.2
        · rw [hv9] at HB9
          have HE2 := Lib.hid (HYY.out HB9.out)
          clear hv9
          go_wp2_with fail
          go_ret2
          rw [HE2.out]
          have hM := HM.out
          subst hM
          exact ⟨_, rfl, ⟨A', c', rfl, HO7.out.1⟩, HO7.out.2⟩
  · have hi3 : ¬ (0 : Int) < (n1 : Int) := by omega
    clear hgo h0
    go_wp2_with fail
    refine (HCL.out _ HB3.out).mono ?_
    rintro e w6 ⟨_, rfl, ⟨A6, c6, rfl, ho6⟩, hb6⟩
    have HO6 := Lib.hid (show OutR 57 4 w (vrsC l) n1 A6 c6 w6 from ⟨by rw [HN1.out]; exact own_leV ho6 HB3.out.size, HB3.out.trans (hb6.mono HB3.out.size)⟩)
    clear ho6 hb6
    rw [← HN1.out]
    go_wp2_with fail
    go_loopw [8, 42] (fun q i wr => ∃ (k m : Nat) (out : List Vr) (A' : Option Addr) (c' : Nat), q = .slice A' m c' ∧ i = .int .i64 k ∧ k ≤ n2 ∧ addL l (ops.take k) at_ = out ∧ m = out.length ∧ m = n1 + k ∧ OutR 57 4 w (vrsC out) m A' c' wr) (fun _ i _ => n2 - (intOf i).toNat)
    case atStart => exact ⟨0, n1, l, _, _, rfl, rfl, by omega, addL_zero _ _ _, HN1.out, by omega, HO6.out⟩
    case round =>
      obtain ⟨k, m, out, A', c', rfl, rfl, hk, hf, hm, hmk, ho⟩ := hrel
      clear HO6
      have HM := Lib.hid hm; clear hm
      have HF := Lib.hid hf; clear hf
      have HO9 := Lib.hid ho; clear ho
      have HMK := Lib.hid hmk
      have hm78 : m ≤ 78 := by omega
      clear hmk
      by_cases hlt : k < n2
      · have hkl : k < ops.length := by have := HN2.out; omega
        obtain ⟨b2, off2, hA2, hbw2, e0, e1, e2⟩ := cgs_at (HR2.out.below HO9.out.2) hkl
        subst hA2
        have HSZ := Lib.hid HO9.out.2.size
        have HFS := Lib.hid (addL_succ (l := l) (at_ := at_) hkl)
        have HOK := Lib.hid (fun o o' => (HO9.out.keep ((Below.refl wr.heap.size wr).alloc (Nat.le_refl _) o)).keep ((Below.refl (wr.alloc o).heap.size (wr.alloc o)).alloc (Nat.le_refl _) o'))
        have hbs : b2 < wr.heap.size := by have := HSZ.out; omega
        have hi1 : (k : Int) < (n2 : Int) := by omega
        generalize ops[k].1 = x0 at *
        generalize ops[k].2.1 = x1 at *
        generalize ops[k].2.2 = x2 at *
        go_wp2_with (at_builtin; refine wpList_append_own _ rfl _ _ 25 rfl w.heap.size 57 i0 (.agg #[.string ⟨#[]⟩, .string ⟨#[]⟩, .bool false, .int .i64 0]) 4 48 Try.underlying25 HI.out.1 HI.out.2.1 HI.out.2.2.1 HI.out.2.2.2 rfl (by decide) (.slice A' m c') m (vrsC out) rfl (HOK.out _ _).1 ⟨wr.heap.size + 1, 0, none⟩ 1 1 [.string x0, .string x1, .bool x2, .int .i64 at_] rfl rfl ?c1 ?c2 ?c3 ?c4 ?c5 ?_)
        try (case c1 => exact fun j u hj => by simpa using cells_at0 (wr.alloc (.cells #[.string x0, .string x1, .bool x2] 82)) [.string x0, .string x1, .bool x2, .int .i64 at_] 57 j u hj)
        try (case c2 => first | exact ⟨rfl, rfl, rfl, rfl⟩ | (intro u hu; simp at hu; rcases hu with rfl | rfl | rfl | rfl <;> rfl))
        try (case c3 => first | omega | (unfold maxLen; omega))
        try (case c4 => omega)
        try (case c5 => first | omega | (have := HSZ.out; simp; omega))
        intro v' w4 hown' hgrow _
        obtain ⟨A4, c4, rfl, ho4⟩ := (HOK.out _ _).app hown' hgrow
        have HO4 := Lib.hid ho4; clear ho4 hown' hgrow
        go_wp2_with fail
        go_roundw
        case rel => exact ⟨k + 1, m + 1, out ++ [(x0, x1, x2, at_)], A4, c4, rfl, by go_num, by omega, by rw [HFS.out, HF.out], by rw [List.length_append, ← HM.out]; rfl, by have := HMK.out; omega, by rw [vrsC_snoc]; exact HO4.out⟩
        case measure => simp [intOf]; omega
      · obtain rfl : k = n2 := by omega
        have HE := Lib.hid (show addL l ops at_ = out by rw [← HF.out, HN2.out, addL_full])
        rw [HE.out] at HWF1 HB9 HYY
        have HVV := Lib.hid (fun W (hb : Below wr.heap.size wr W) => iVers_any A' m c' out W ((RowAt.of_own (HO9.out.keep hb).1)) HM.out (by omega) HWF1.out (own_capsW HO9.out.1).1 (own_capsW HO9.out.1).2)
        have HVW := Lib.hid (HVV.out wr (Below.refl _ _)); clear HVV
        go_wp2_with fail
        refine (HVW.out).mono ?_
        rintro e w7 ⟨rfl, hb7⟩
        have HO7 := Lib.hid (HO9.out.keep hb7); clear hb7
        cases hv9 : versB out
        · rw [hv9] at HB9
          have HE2 := Lib.hid (HNO9.out HB9.out)
          clear hv9
          go_wp2_with fail
          go_ret2
          rw [HE2.out]
          exact addPost_no HO7.out.2
        · rw [hv9] at HB9
          have HE2 := Lib.hid (HYY.out HB9.out)
          clear hv9
          go_wp2_with fail
          go_ret2
          rw [HE2.out]
          have hM := HM.out
          subst hM
          exact ⟨_, rfl, ⟨A', c', rfl, HO7.out.1⟩, HO7.out.2⟩
end Go.Proofs.Ytokmofkpjohlmaa
