/- Contracts of ValidGroup, in the program and in the model (chapter 10). Conditions: the logs lie in memory; they are few. -/
import Derived.Test.YtgoonccjdoajnabGrV
set_option linter.unusedVariables false
set_option linter.unusedSimpArgs false
namespace Go.Proofs.Ytgoonccjdoajnab
open Go.RowKit Go.ChangeShapes Go.WideShapes

/-- a group in a box of the call's own -/
structure BoxG (w : World) (A : Option Addr) (n c : Nat) (ld tm : Int) (wr : World) : Prop where
  hb : Below w.heap.size w wr
  sz : w.heap.size < wr.heap.size
  c0 : wr.cell? ⟨w.heap.size, 0, none⟩ = some (.slice A n c)
  c1 : wr.cell? ⟨w.heap.size, 1, none⟩ = some (.int .i64 ld)
  c2 : wr.cell? ⟨w.heap.size, 2, none⟩ = some (.int .i64 tm)
section
variable {w wr W : World} {A : Option Addr} {n c : Nat} {ld tm : Int}
theorem BoxG.keep (h : BoxG w A n c ld tm wr) (hb : Below wr.heap.size wr W) : BoxG w A n c ld tm W :=
  ⟨h.hb.trans (hb.mono h.hb.size), Nat.lt_of_lt_of_le h.sz hb.size, (hb.cell (p := ⟨w.heap.size, 0, none⟩) h.sz).trans h.c0, (hb.cell (p := ⟨w.heap.size, 1, none⟩) h.sz).trans h.c1, (hb.cell (p := ⟨w.heap.size, 2, none⟩) h.sz).trans h.c2⟩
theorem BoxG.start : BoxG w A n c ld tm (w.alloc (.cells #[.slice A n c, .int .i64 ld, .int .i64 tm] 25)) :=
  ⟨(Below.refl _ _).alloc (Nat.le_refl _) _, by simp, by simp, by simp, by simp⟩
end
theorem okG_no {L : List (List En)} {ld tm : Int} (h : ¬ okG L ld tm) : decide (okG L ld tm) = false := by simpa using h
theorem okG_bad {L : List (List En)} {ld tm : Int} {k : Nat} (hk : k < L.length) (h : decide (okLog tm L[k]) = false) : decide (okG L ld tm) = false := by
  simp only [decide_eq_false_iff_not] at h ⊢
  exact fun q => h (q.2.2.2 _ (List.getElem_mem hk))
/-- the first k logs are logs -/
def okTo (tm : Int) (L : List (List En)) (k : Nat) : Prop := ∀ i (h : i < L.length), i < k → okLog tm L[i]
theorem okTo_step {tm : Int} {L : List (List En)} {k : Nat} (h : okTo tm L k) (hk : k < L.length) (h1 : decide (okLog tm L[k]) = true) : okTo tm L (k + 1) := fun i hi hik => by
  rcases Nat.lt_or_ge i k with h2 | h2
  · exact h i hi h2
  · obtain rfl : i = k := by omega
    simpa using h1
theorem okTo_all {tm : Int} {L : List (List En)} (h : okTo tm L L.length) : ∀ l ∈ L, okLog tm l := fun l hl => by
  obtain ⟨i, hi, rfl⟩ := List.getElem_of_mem hl
  exact h i hi hi
theorem isPeer_is {A : Option Addr} {n c : Nat} {ld tm x : Int} {b : Bool} (hb : decide (0 ≤ x ∧ x < (n : Int)) = b) (w : World) :
    Calls Try.prog 44 #[.agg #[.slice A n c, .int .i64 ld, .int .i64 tm], .int .i64 x] w fun e w' => e = .returned (.bool b) ∧ Below w.heap.size w w' := by
  rw [← hb]; exact isPeer_any A n c ld tm x w

set_option maxRecDepth 100000 in
set_option maxHeartbeats 2000000 in
theorem iGrp_any (A : Option Addr) (n c : Nat) (L : List (List En)) (ld tm : Int) (w : World) (hr : GvAt w w.heap.size A L) (hn : n = L.length) (hs : n ≤ 1048576) (hsm : SmallGv L) :
    Calls Try.prog 12 #[.agg #[.slice A n c, .int .i64 ld, .int .i64 tm]] w fun e w' => e = .returned (.bool (decide (okG L ld tm))) ∧ Below w.heap.size w w' := by
  have HR := Lib.hid hr; clear hr
  have HN := Lib.hid hn; clear hn
  have HSM := Lib.hid hsm; clear hsm
  have HB0 := Lib.hid (fun o => (Below.refl w.heap.size w).alloc (Nat.le_refl _) o)
  by_cases hlong : 5 < n
  · have HF := Lib.hid (okG_no (L := L) (ld := ld) (tm := tm) (fun q => by have := q.1.2; have := HN.out; omega))
    go_enter Try.func12, Try.ntmps12
    go_wp2_with fail
    go_ret
    exact ⟨ret_bool HF.out.symm, HB0.out _⟩
  by_cases g1 : 0 ≤ ld ∧ ld < (n : Int)
  · have HP := Lib.hid (fun w => isPeer_is (A := A) (c := c) (ld := ld) (tm := tm) (decide_eq_true g1) w)
    by_cases g2 : tm < 1
    · have HF := Lib.hid (okG_no (L := L) (ld := ld) (tm := tm) (fun q => by have := q.2.2.1.1; omega))
      clear g1
      go_enter Try.func12, Try.ntmps12
      go_wp2_with fail
      refine (HP.out _).mono ?_
      rintro e w2 ⟨rfl, hb2⟩
      have HX := Lib.hid (BoxG.start.keep hb2); clear hb2
      have x0 := HX.out.c0
      have x2 := HX.out.c2
      go_wp2_with fail
      go_ret
      exact ⟨ret_bool HF.out.symm, HX.out.hb⟩
    · by_cases g3 : tm > 9
      · have HF := Lib.hid (okG_no (L := L) (ld := ld) (tm := tm) (fun q => by have := q.2.2.1.2; omega))
        clear g1
        go_enter Try.func12, Try.ntmps12
        go_wp2_with fail
        refine (HP.out _).mono ?_
        rintro e w2 ⟨rfl, hb2⟩
        have HX := Lib.hid (BoxG.start.keep hb2); clear hb2
        have x0 := HX.out.c0
        have x2 := HX.out.c2
        go_wp2_with fail
        go_ret
        exact ⟨ret_bool HF.out.symm, HX.out.hb⟩
      · have HG := Lib.hid (show (∀ l ∈ L, okLog tm l) → decide (okG L ld tm) = true from fun h => decide_eq_true ⟨⟨by have := HN.out; omega, by have := HN.out; omega⟩, by rw [← HN.out]; exact g1, ⟨by omega, by omega⟩, h⟩)
        clear g1
        go_enter Try.func12, Try.ntmps12
        go_wp2_with fail
        refine (HP.out _).mono ?_
        rintro e w2 ⟨rfl, hb2⟩
        have HX2 := Lib.hid (BoxG.start.keep hb2); clear hb2
        have x0 := HX2.out.c0
        have x1 := HX2.out.c1
        have x2 := HX2.out.c2
        go_wp2_with fail
        go_loopw [4, 29] (fun q i wr => ∃ k : Nat, i = .int .i64 k ∧ k ≤ n ∧ okTo tm L k ∧ BoxG w A n c ld tm wr) (fun _ i _ => n - (intOf i).toNat)
        case atStart => exact ⟨0, rfl, by omega, fun i _ h => by omega, HX2.out⟩
        case round =>
          clear x0 x1 x2 HX2
          obtain ⟨k, rfl, hk, hu, hx⟩ := hrel
          have HU := Lib.hid hu; clear hu
          have HX := Lib.hid hx; clear hx
          by_cases hlt : k < n
          · have hkl : k < L.length := by have := HN.out; omega
            obtain ⟨b, off, A', c', hA, hbw, e0, hrow⟩ := (HR.out.below HX.out.hb).at_ hkl
            have HA := Lib.hid hA
            have x0 := HX.out.c0
            have x1 := HX.out.c1
            have x2 := HX.out.c2
            rw [hA] at x0
            clear hA
            have HV := Lib.hid (isLog_any A' L[k].length c' L[k] tm wr (hrow.mono HX.out.hb.size) rfl (HSM.out _ (List.getElem_mem hkl)))
            have HNO := Lib.hid (fun h => okG_bad (L := L) (ld := ld) (tm := tm) (k := k) hkl h)
            have HYES := Lib.hid (fun h => okTo_step HU.out hkl h)
            have hi1 : (k : Int) < (n : Int) := by omega
            clear hrow
            obtain ⟨m, hm⟩ : ∃ m, L[k].length = m := ⟨_, rfl⟩
            rw [hm] at HV e0
            clear hm
            rw [HA.out]
            cases hv : decide (okLog tm L[k])
            · rw [hv] at HV
              have HF := Lib.hid (HNO.out hv)
              clear hv
              go_wp2_with fail
              refine (HV.out).mono ?_
              rintro e w3 ⟨rfl, hb3⟩
              have HX3 := Lib.hid (HX.out.keep hb3); clear hb3
              go_wp2_with fail
              go_ret
              exact ⟨ret_bool HF.out.symm, HX3.out.hb⟩
            · rw [hv] at HV
              have HF := Lib.hid (HYES.out hv)
              clear hv
              go_wp2_with fail
              refine (HV.out).mono ?_
              rintro e w3 ⟨rfl, hb3⟩
              have HX3 := Lib.hid (HX.out.keep hb3); clear hb3
              go_wp2_with fail
              go_roundw
              case rel => exact ⟨k + 1, by go_num, by omega, HF.out, by rw [← HA.out]; exact HX3.out⟩
              case measure => simp [intOf]; omega
          · obtain rfl : k = n := by omega
            have HF := Lib.hid (HG.out (okTo_all (by rw [← HN.out]; exact HU.out)))
            go_wp2_with fail
            go_ret
            exact ⟨ret_bool HF.out.symm, HX.out.hb⟩
  · have HP := Lib.hid (fun w => isPeer_is (A := A) (c := c) (ld := ld) (tm := tm) (decide_eq_false g1) w)
    have HF := Lib.hid (okG_no (L := L) (ld := ld) (tm := tm) (fun q => g1 (by rw [HN.out]; exact q.2.1)))
    clear g1
    go_enter Try.func12, Try.ntmps12
    go_wp2_with fail
    refine (HP.out _).mono ?_
    rintro e w2 ⟨rfl, hb2⟩
    have HX := Lib.hid (BoxG.start.keep hb2); clear hb2
    go_wp2_with fail
    go_ret
    exact ⟨ret_bool HF.out.symm, HX.out.hb⟩

set_option maxRecDepth 100000 in
set_option maxHeartbeats 2000000 in
theorem sGrp_any (A : Option Addr) (n c : Nat) (L : List (List En)) (ld tm : Int) (w : World) (hr : GvAt w w.heap.size A L) (hn : n = L.length) (hs : n ≤ 1048576) (hsm : SmallGv L) :
    Calls Try.prog 46 #[.agg #[.slice A n c, .int .i64 ld, .int .i64 tm]] w fun e w' => e = .returned (.bool (decide (okG L ld tm))) ∧ Below w.heap.size w w' := by
  have HR := Lib.hid hr; clear hr
  have HN := Lib.hid hn; clear hn
  have HSM := Lib.hid hsm; clear hsm
  go_enter Try.func46, Try.ntmps46
  go_wp2_with fail
  go_loopw [3] (fun i wr => ∃ k : Nat, i = .int .i64 k ∧ k ≤ n ∧ okTo tm L k ∧ BoxG w A n c ld tm wr) (fun i _ => n - (intOf i).toNat)
  case atStart => exact ⟨0, rfl, by omega, fun i _ h => by omega, BoxG.start⟩
  case round =>
    obtain ⟨k, rfl, hk, hu, hx⟩ := hrel
    have HU := Lib.hid hu; clear hu
    have HX := Lib.hid hx; clear hx
    have x0 := HX.out.c0
    have x1 := HX.out.c1
    have x2 := HX.out.c2
    have hbs := HX.out.sz
    by_cases hlt : k < n
    · have hkl : k < L.length := by have := HN.out; omega
      obtain ⟨b, off, A', c', hA, hbw, e0, hrow⟩ := (HR.out.below HX.out.hb).at_ hkl
      subst hA
      have HV := Lib.hid (sEnts_any A' L[k].length c' L[k] tm wr.drew ((hrow.mono HX.out.hb.size).keep (fun _ _ => rfl)) rfl (HSM.out _ (List.getElem_mem hkl)))
      have HNO := Lib.hid (fun h => okG_bad (L := L) (ld := ld) (tm := tm) (k := k) hkl h)
      have HYES := Lib.hid (fun h => okTo_step HU.out hkl h)
      have hi1 : (k : Int) < (n : Int) := by omega
      have hbw2 : b < wr.heap.size := Nat.lt_of_lt_of_le hbw HX.out.hb.size
      have HXD := Lib.hid (HX.out.keep (W := wr.drew) (below_drewN _ 1))
      clear hrow
      obtain ⟨m, hm⟩ : ∃ m, L[k].length = m := ⟨_, rfl⟩
      rw [hm] at HV e0
      clear hm
      cases hv : decide (okLog tm L[k])
      · rw [hv] at HV
        have HF := Lib.hid (HNO.out hv)
        clear hv
        go_wp2_with fail
        go_still_tail 7, (by kernel_rfl)
        change wpList _ _ _ _ _ wr.drew
        clear e0 x0 x1 x2
        generalize wr.drew = W at *
        go_wp2_with fail
        refine (HV.out).mono ?_
        rintro e w3 ⟨rfl, hb3⟩
        have HX3 := Lib.hid (HXD.out.keep hb3); clear hb3
        go_wp2_with fail
        go_ret
        exact ⟨ret_bool HF.out.symm, HX3.out.hb⟩
      · rw [hv] at HV
        have HF := Lib.hid (HYES.out hv)
        clear hv
        go_wp2_with fail
        go_still_tail 7, (by kernel_rfl)
        change wpList _ _ _ _ _ wr.drew
        clear e0 x0 x1 x2
        generalize wr.drew = W at *
        go_wp2_with fail
        refine (HV.out).mono ?_
        rintro e w3 ⟨rfl, hb3⟩
        have HX3 := Lib.hid (HXD.out.keep hb3); clear hb3
        go_wp2_with fail
        go_roundw
        case rel => exact ⟨k + 1, by go_num, by omega, HF.out, HX3.out⟩
        case measure => simp [intOf]; omega
    · obtain rfl : k = n := by omega
      have HA := Lib.hid (okTo_all (show okTo tm L L.length by rw [← HN.out]; exact HU.out))
      have HG := Lib.hid (show decide (okG L ld tm) = ((decide (1 ≤ (k : Int)) && decide ((k : Int) ≤ 5)) && (decide (0 ≤ ld) && decide (ld ≤ (k : Int) - 1)) && (decide (1 ≤ tm) && decide (tm ≤ 9))) by
        have h1 := HN.out
        rw [Bool.eq_iff_iff]
        simp only [Bool.and_eq_true, decide_eq_true_eq]
        constructor
        · intro q
          obtain ⟨q1, q2, q3, _⟩ := q
          rw [← h1] at q1 q2
          omega
        · intro q
          refine ⟨?_, ?_, by omega, HA.out⟩ <;> rw [← h1] <;> omega)
      have hd1 : ((k : Int)) - 1 ≤ 9223372036854775807 := by omega
      have H1 := Lib.hid (fun w => inRg_any (n := (k : Int)) (lo := 1) (hi := 5) rfl w)
      have H2 := Lib.hid (fun w => inRg_any (n := ld) (lo := 0) (hi := (k : Int) - 1) rfl w)
      have H3 := Lib.hid (fun w => inRg_any (n := tm) (lo := 1) (hi := 9) rfl w)
      generalize (decide (1 ≤ (k : Int)) && decide ((k : Int) ≤ 5)) = b1 at *
      generalize (decide (0 ≤ ld) && decide (ld ≤ (k : Int) - 1)) = b2 at *
      generalize (decide (1 ≤ tm) && decide (tm ≤ 9)) = b3 at *
      cases b1
      · go_wp2_with fail
        refine (H1.out _).mono ?_
        rintro e w3 ⟨rfl, hw3⟩
        obtain rfl := hw3.symm
        go_wp2_with fail
        go_ret
        exact ⟨ret_bool (by rw [HG.out]; rfl), HX.out.hb⟩
      · cases b2
        · go_wp2_with fail
          refine (H1.out _).mono ?_
          rintro e w3 ⟨rfl, hw3⟩
          obtain rfl := hw3.symm
          go_wp2_with fail
          refine (H2.out _).mono ?_
          rintro e w4 ⟨rfl, hw4⟩
          obtain rfl := hw4.symm
          go_wp2_with fail
          go_ret
          exact ⟨ret_bool (by rw [HG.out]; rfl), HX.out.hb⟩
        · go_wp2_with fail
          refine (H1.out _).mono ?_
          rintro e w3 ⟨rfl, hw3⟩
          obtain rfl := hw3.symm
          go_wp2_with fail
          refine (H2.out _).mono ?_
          rintro e w4 ⟨rfl, hw4⟩
          obtain rfl := hw4.symm
          go_wp2_with fail
          refine (H3.out _).mono ?_
          rintro e w5 ⟨rfl, hw5⟩
          obtain rfl := hw5.symm
          go_wp2_with fail
          go_ret
          exact ⟨ret_bool (by rw [HG.out]; cases b3 <;> rfl), HX.out.hb⟩
theorem sGrpV_any (A : Option Addr) (n c : Nat) (L : List (List En)) (ld tm : Int) (w : World) (hr : GvAt w w.heap.size A L) (hn : n = L.length) (hs : n ≤ 1048576) (hsm : SmallGv L) :
    Calls Try.prog 13 #[.agg #[.slice A n c, .int .i64 ld, .int .i64 tm]] w fun e w' => e = .returned (.bool (decide (okG L ld tm))) ∧ Below w.heap.size w w' := by
  have HB0 := Lib.hid (fun o => (Below.refl w.heap.size w).alloc (Nat.le_refl _) o)
  have HP := Lib.hid (fun o => sGrp_any A n c L ld tm (w.alloc o) ((hr.below (HB0.out o)).mono (HB0.out o).size) hn hs hsm)
  clear hr hn hsm
  go_enter Try.func13, Try.ntmps13
  go_wp2_with fail
  refine (HP.out _).mono ?_
  rintro e w2 ⟨rfl, hb2⟩
  have HB := Lib.hid ((HB0.out _).trans (hb2.mono (HB0.out _).size)); clear hb2
  go_wp2_with fail
  go_ret
  exact ⟨rfl, HB.out⟩
end Go.Proofs.Ytgoonccjdoajnab
