/- Contracts of ValidPool, in the program and in the model (chapter 2). Conditions: the frames lie in a row; they are few. -/
import Derived.Test.YtompbkphdjjpdaaTraceC
import Derived.Test.YtompbkphdjjpdaaExPool
import Derived.Deep.QuietTactic
import Derived.BigQuiet
import Derived.Outline
set_option linter.unusedVariables false
set_option linter.unusedSimpArgs false
namespace Go.Proofs.Ytompbkphdjjpdaa
open Go.RowKit Go.ChangeShapes Go.WideShapes

theorem isEmpty_any (a b : Int) (x : Bool) (w : World) :
    Calls Try.prog 74 #[.agg #[.int .i64 a, .int .i64 b, .bool x]] w fun e w' => e = .returned (.bool (emptyF (a, b, x))) ∧ Below w.heap.size w w' := by
  cases x
  all_goals
    go_enter Try.func74, Try.ntmps74
    go_wp2
    all_goals go_ret
    all_goals refine ⟨ret_bool ?_, (Below.refl _ _).alloc (Nat.le_refl _) _⟩
    all_goals (unfold emptyF; simp [*])

/-- which pages were seen -/
def seenC (d : List Fr) : List Value := (List.range 10).map fun p : Nat => .bool (hasP d (p : Int))
theorem seenC_len (d : List Fr) : (seenC d).length = 10 := by simp [seenC]
theorem seenC_at (d : List Fr) {p : Nat} (h : p < 10) : (seenC d)[p]? = some (.bool (hasP d (p : Int))) := by simp [seenC, h]
theorem seenC_empty {d : List Fr} {f : Fr} (h : f.1 = -1) : seenC (d ++ [f]) = seenC d := by
  unfold seenC
  refine List.map_congr_left fun p hp => ?_
  rw [hasP_snoc, h]
  have : ((-1 : Int) == (p : Int)) = false := by simp
  rw [this]; simp
theorem seenC_set {d : List Fr} {f : Fr} {p : Nat} (h : f.1 = (p : Int)) (hp : p < 10) : (seenC d).toArray.setIfInBounds p (.bool true) = (seenC (d ++ [f])).toArray := by
  apply Array.ext
  · simp [seenC_len]
  · intro i h1 h2
    have hi : i < 10 := by simpa [seenC_len] using h1
    rw [Array.getElem_setIfInBounds (by simpa using h1)]
    simp only [List.getElem_toArray, seenC, List.getElem_map, List.getElem_range, hasP_snoc, h]
    split
    · rename_i h3; subst h3; simp
    · rename_i h3
      have : ((p : Int) == (i : Int)) = false := by simp; omega
      rw [this]; simp

/-- while the program looks at its frames -/
def PRel (w : World) (l : List Fr) (g k : Nat) (wr : World) : Prop :=
  w.heap.size ≤ g ∧ okL (l.take k) (l.drop k) = okL [] l ∧ wr.heap[g]? = some (.cells (seenC (l.take k)).toArray 85 (0, 0)) ∧ Below w.heap.size w wr
theorem PRel.lt {w wr : World} {l : List Fr} {g k : Nat} (h : PRel w l g k wr) : g < wr.heap.size := (Array.getElem?_eq_some_iff.1 h.2.2.1).1
theorem PRel.keep {w wr W : World} {l : List Fr} {g k : Nat} (h : PRel w l g k wr) (hb : Below wr.heap.size wr W) : PRel w l g k W :=
  ⟨h.1, h.2.1, (hb.block g h.lt).trans h.2.2.1, h.2.2.2.trans (hb.mono h.2.2.2.size)⟩
theorem PRel.free {w wr : World} {l : List Fr} {g k : Nat} (h : PRel w l g k wr) (hk : k < l.length) (he : emptyF l[k] = true) : PRel w l g (k + 1) wr := by
  obtain ⟨e1, e2, e3⟩ := emptyF_iff.1 he
  refine ⟨h.1, ?_, ?_, h.2.2.2⟩
  · rw [← h.2.1, okL_next hk (by unfold goodF; rw [he]; rfl) (by rw [e1]; simp)]
  · rw [List.take_succ_eq_append_getElem hk, seenC_empty e1]; exact h.2.2.1
theorem PRel.mark {w wr : World} {l : List Fr} {g k p : Nat} (h : PRel w l g k wr) (hk : k < l.length) (hp : l[k].1 = (p : Int)) (h10 : p < 10) (hg : goodF l[k] = true) (hd : hasP (l.take k) l[k].1 = false) :
    PRel w l g (k + 1) (wr.setCell ⟨g, p, none⟩ (.bool true)) := by
  refine ⟨h.1, ?_, ?_, h.2.2.2.setCell h.1 _⟩
  · rw [← h.2.1, okL_next hk hg (by rw [hd]; simp)]
  · rw [heap_setCell_same wr g p _ _ _ h.2.2.1, List.take_succ_eq_append_getElem hk, seenC_set hp h10]
theorem PRel.cell {w wr : World} {l : List Fr} {g k p : Nat} (h : PRel w l g k wr) (h10 : p < 10) : wr.cell? ⟨g, p, none⟩ = some (.bool (hasP (l.take k) (p : Int))) ∧ wr.frozen? ⟨g, p, none⟩ = false := by
  refine ⟨?_, frozen_of_row wr _ _ _ _ h.2.2.1⟩
  rw [cell_of_row wr g p _ _ _ h.2.2.1]
  simpa using seenC_at (l.take k) h10

set_option maxRecDepth 100000 in
set_option maxHeartbeats 4000000 in
theorem iPool_any (A : Option Addr) (n c : Nat) (l : List Fr) (h : Int) (w : World) (hr : RowAt w w.heap.size A (frsC l)) (hn : n = l.length) (hs : n ≤ 1048576) :
    Calls Try.prog 29 #[.agg #[.slice A n c, .int .i64 h]] w fun e w' => e = .returned (.bool (poolB l h)) ∧ Below w.heap.size w w' := by
  have HR := Lib.hid hr; clear hr
  have HN := Lib.hid hn; clear hn
  have HC := Lib.hid (fun w => isCount_any (n : Int) w)
  have HP := Lib.hid (show poolB l h = (countB (n : Int) && decide (0 ≤ h) && decide (h < (n : Int)) && okL [] l) by
    unfold poolB countB
    rw [← HN.out]
    congr 3
    by_cases h1 : 1 ≤ n <;> by_cases h2 : n ≤ 5 <;> simp [h1, h2] <;> omega)
  have HB0 := Lib.hid ((Below.refl w.heap.size w).alloc (Nat.le_refl _) (.cells #[.slice A n c, .int .i64 h] 28))
  cases hcb : countB (n : Int)
  · rw [hcb] at HC
    have HF := Lib.hid (show poolB l h = false by rw [HP.out, hcb]; simp)
    clear hcb
    go_enter Try.func29, Try.ntmps29
    go_wp2_with fail
    refine (HC.out _).mono ?_
    rintro e w2 ⟨rfl, rfl⟩
    go_wp2_with fail
    go_ret
    exact ⟨ret_bool HF.out.symm, HB0.out⟩
  · rw [hcb] at HC
    have hn5 : 1 ≤ n ∧ n ≤ 5 := by
      unfold countB at hcb
      simp only [Bool.and_eq_true, decide_eq_true_eq] at hcb
      omega
    obtain ⟨hn1, hn5⟩ := hn5
    by_cases h0 : h < 0
    · have HF := Lib.hid (show poolB l h = false by rw [HP.out]; simp; omega)
      clear hcb
      go_enter Try.func29, Try.ntmps29
      go_wp2_with fail
      refine (HC.out _).mono ?_
      rintro e w2 ⟨rfl, rfl⟩
      go_wp2_with fail
      go_ret
      exact ⟨ret_bool HF.out.symm, HB0.out⟩
    · by_cases hhn : h < (n : Int)
      · have HF := Lib.hid (show poolB l h = okL [] l by rw [HP.out, hcb]; simp [hhn]; intro _; omega)
        clear hcb
        go_enter Try.func29, Try.ntmps29
        go_wp2_with fail
        refine (HC.out _).mono ?_
        rintro e w2 ⟨rfl, hw2⟩
        obtain rfl := hw2.symm
        go_wp2_with fail
        go_loopw [27] (fun i wr => ∃ k : Nat, i = .int .i64 k ∧ k ≤ n ∧ PRel w l (w.heap.size + 1) k wr) (fun i _ => n - (intOf i).toNat)
        case atStart =>
          refine ⟨0, rfl, by omega, by omega, rfl, ?_, HB0.out.alloc (by simp) _⟩
          rw [List.take_zero, show (seenC []).toArray = #[.bool false, .bool false, .bool false, .bool false, .bool false, .bool false, .bool false, .bool false, .bool false, .bool false] from rfl]
          exact heap_alloc2_new w _ _
        case round =>
          obtain ⟨k, rfl, hk, hp⟩ := hrel
          have HRL := Lib.hid hp; clear hp
          by_cases hlt : k < n
          · have hkl : k < l.length := by have := HN.out; omega
            obtain ⟨b, off, rfl, hbw, e0, e1, e2⟩ := frames_at (HR.out.below HRL.out.2.2.2) hkl
            have HE := Lib.hid (fun w => isEmpty_any l[k].1 l[k].2.1 l[k].2.2 w)
            have HFR := Lib.hid (fun W (hb : Below wr.heap.size wr W) he => (HRL.out.keep hb).free hkl he)
            have HMK := Lib.hid (fun W (hb : Below wr.heap.size wr W) p hp h10 hg hd => (HRL.out.keep hb).mark (p := p) hkl hp h10 hg hd)
            have HCL := Lib.hid (fun W (hb : Below wr.heap.size wr W) p (h10 : p < 10) => (HRL.out.keep hb).cell h10)
            have HPG := Lib.hid (fun w => isPage_any l[k].1 w)
            have HBAD := Lib.hid (fun hg => (HF.out.trans (HRL.out.2.1.symm.trans (okL_bad hkl hg))))
            have HDUP := Lib.hid (fun h0 hg => (HF.out.trans (HRL.out.2.1.symm.trans (okL_dup hkl h0 hg))))
            have hgs : w.heap.size + 1 < wr.heap.size := HRL.out.lt
            have HBR := Lib.hid HRL.out.2.2.2
            have HFE := Lib.hid (show l[k] = (l[k].1, l[k].2.1, l[k].2.2) from rfl)
            generalize hx1 : l[k].1 = x1 at *
            generalize hx2 : l[k].2.1 = x2 at *
            generalize hx3 : l[k].2.2 = x3 at *
            rw [HFE.out] at HFR HMK HBAD
            clear hx1 hx2 hx3
            cases he : emptyF (x1, x2, x3)
            · rw [he] at HE
              have HGP := Lib.hid (show goodF (x1, x2, x3) = pageF (x1, x2, x3) by unfold goodF; rw [he]; rfl)
              clear he
              go_wp2_with fail
              refine (HE.out _).mono ?_
              rintro e w2 ⟨rfl, hb2⟩
              have m0 : w2.cell? ⟨wr.heap.size, 0, none⟩ = some (.int .i64 x1) := (hb2.cell (p := ⟨wr.heap.size, 0, none⟩) (by simp)).trans (by simp)
              have m1 : w2.cell? ⟨wr.heap.size, 1, none⟩ = some (.int .i64 x2) := (hb2.cell (p := ⟨wr.heap.size, 1, none⟩) (by simp)).trans (by simp)
              have m2 : w2.cell? ⟨wr.heap.size, 2, none⟩ = some (.bool x3) := (hb2.cell (p := ⟨wr.heap.size, 2, none⟩) (by simp)).trans (by simp)
              have hb2r : Below wr.heap.size wr w2 := ((Below.refl _ _).alloc (Nat.le_refl _) _).trans (hb2.mono (by simp))
              have HB2 := Lib.hid hb2r; clear hb2 hb2r
              have HBW := Lib.hid (HBR.out.trans (HB2.out.mono HBR.out.size))
              cases hpg : pageI x1
              · rw [hpg] at HPG
                have HX := Lib.hid (HBAD.out (by rw [HGP.out]; unfold pageF; unfold pageI at hpg; rw [hpg]; rfl))
                clear hpg
                go_wp2_with fail
                refine (HPG.out _).mono ?_
                rintro e w3 ⟨rfl, hw3⟩
                obtain rfl := hw3.symm
                go_wp2_with fail
                go_ret
                exact ⟨ret_bool HX.out.symm, HBW.out⟩
              · rw [hpg] at HPG
                have hp9 : 0 ≤ x1 ∧ x1 ≤ 9 := by
                  unfold pageI at hpg
                  simpa [Bool.and_eq_true, decide_eq_true_eq] using hpg
                obtain ⟨hp0, hp9⟩ := hp9
                have HPF := Lib.hid (show pageF (x1, x2, x3) = (decide (0 ≤ x2) && decide (x2 ≤ 3)) by
                  unfold pageF; unfold pageI at hpg; simp [hp0, hp9])
                clear hpg
                by_cases h2 : x2 < 0
                · have HX := Lib.hid (HBAD.out (by rw [HGP.out, HPF.out]; simp; omega))
                  go_wp2_with fail
                  refine (HPG.out _).mono ?_
                  rintro e w3 ⟨rfl, hw3⟩
                  obtain rfl := hw3.symm
                  go_wp2_with fail
                  go_ret
                  exact ⟨ret_bool HX.out.symm, HBW.out⟩
                · by_cases h3 : 3 < x2
                  · have HX := Lib.hid (HBAD.out (by rw [HGP.out, HPF.out]; simp; omega))
                    go_wp2_with fail
                    refine (HPG.out _).mono ?_
                    rintro e w3 ⟨rfl, hw3⟩
                    obtain rfl := hw3.symm
                    go_wp2_with fail
                    go_ret
                    exact ⟨ret_bool HX.out.symm, HBW.out⟩
                  · have HGT := Lib.hid (show goodF (x1, x2, x3) = true by rw [HGP.out, HPF.out]; simp; omega)
                    obtain ⟨p, rfl⟩ := Int.eq_ofNat_of_zero_le hp0
                    have hp10 : p < 10 := by omega
                    obtain ⟨cs, fs⟩ := HCL.out _ HB2.out p hp10
                    cases hd : hasP (l.take k) (p : Int)
                    · rw [hd] at cs
                      have HX := Lib.hid (HMK.out _ HB2.out p rfl hp10 HGT.out hd)
                      clear hd
                      go_wp2_with fail
                      refine (HPG.out _).mono ?_
                      rintro e w3 ⟨rfl, hw3⟩
                      obtain rfl := hw3.symm
                      go_wp2_with fail
                      go_roundw
                      case rel => exact ⟨k + 1, by go_num, by omega, HX.out⟩
                      case measure => simp [intOf]; omega
                    · rw [hd] at cs
                      have HX := Lib.hid (HDUP.out hp0 hd)
                      clear hd
                      go_wp2_with fail
                      refine (HPG.out _).mono ?_
                      rintro e w3 ⟨rfl, hw3⟩
                      obtain rfl := hw3.symm
                      go_wp2_with fail
                      go_ret
                      exact ⟨ret_bool HX.out.symm, HBW.out⟩
            · rw [he] at HE
              have HX := Lib.hid (fun W hb => HFR.out W hb he)
              clear he
              go_wp2_with fail
              refine (HE.out _).mono ?_
              rintro e w2 ⟨rfl, hb2⟩
              have hb2r : Below wr.heap.size wr w2 := ((Below.refl _ _).alloc (Nat.le_refl _) _).trans (hb2.mono (by simp))
              have HB2 := Lib.hid hb2r; clear hb2 hb2r
              go_wp2_with fail
              go_roundw
              case rel => exact ⟨k + 1, by go_num, by omega, HX.out _ HB2.out⟩
              case measure => simp [intOf]; omega
          · obtain rfl : k = n := by omega
            have HT := Lib.hid (show poolB l h = true by
              rw [HF.out, ← HRL.out.2.1, HN.out, List.drop_length]; rfl)
            go_wp2_with fail
            go_ret
            exact ⟨ret_bool HT.out.symm, HRL.out.2.2.2⟩
      · have HF := Lib.hid (show poolB l h = false by rw [HP.out]; simp; omega)
        clear hcb
        go_enter Try.func29, Try.ntmps29
        go_wp2_with fail
        refine (HC.out _).mono ?_
        rintro e w2 ⟨rfl, rfl⟩
        go_wp2_with fail
        go_ret
        exact ⟨ret_bool HF.out.symm, HB0.out⟩

end Go.Proofs.Ytompbkphdjjpdaa
