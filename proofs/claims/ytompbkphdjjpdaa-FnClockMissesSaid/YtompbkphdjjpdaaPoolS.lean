/- The contract of the model's validPool (chapter 2). Conditions: the frames lie in a row; they are few. -/
import Derived.Test.YtompbkphdjjpdaaPoolV
set_option linter.unusedVariables false
set_option linter.unusedSimpArgs false
namespace Go.Proofs.Ytompbkphdjjpdaa
open Go.RowKit Go.ChangeShapes Go.WideShapes

theorem hasP_step {l : List Fr} {k : Nat} (h : k < l.length) (p : Int) : hasP (l.take (k + 1)) p = (hasP (l.take k) p || l[k].1 == p) := by
  rw [List.take_succ_eq_append_getElem h, hasP_snoc]
theorem hasP_more {l : List Fr} {j k : Nat} {p : Int} (h : j ≤ k) (hp : hasP (l.take j) p = true) : hasP (l.take k) p = true := by
  unfold hasP at *
  rw [List.any_eq_true] at *
  obtain ⟨x, hx, e⟩ := hp
  exact ⟨x, (List.take_sublist_take_left h).subset hx, e⟩

/-- while the model looks at its frames -/
def QRel (w : World) (o : Obj) (l : List Fr) (k : Nat) (wr : World) : Prop :=
  okL (l.take k) (l.drop k) = okL [] l ∧ Below (w.alloc o).heap.size (w.alloc o) wr
theorem QRel.below {w wr : World} {o : Obj} {l : List Fr} {k : Nat} (h : QRel w o l k wr) : Below w.heap.size w wr := ((Below.refl _ _).alloc (Nat.le_refl _) _).trans (h.2.mono (by simp))

theorem below_of_alloc {w W : World} {o : Obj} (h : Below (w.alloc o).heap.size (w.alloc o) W) : Below w.heap.size w W := ((Below.refl _ _).alloc (Nat.le_refl _) _).trans (h.mono (by simp))

set_option maxRecDepth 100000 in
set_option maxHeartbeats 4000000 in
theorem sPoolV_any (A : Option Addr) (n c : Nat) (l : List Fr) (h : Int) (w : World) (hr : RowAt w w.heap.size A (frsC l)) (hn : n = l.length) (hs : n ≤ 1048576) :
    Calls Try.prog 55 #[.agg #[.slice A n c, .int .i64 h]] w fun e w' => e = .returned (.bool (poolB l h)) ∧ Below w.heap.size w w' := by
  have HR := Lib.hid hr; clear hr
  have HN := Lib.hid hn; clear hn
  have HC := Lib.hid (fun w => inRange_w (n : Int) 1 5 w)
  have HC2 := Lib.hid (fun w => inRange_w h 0 ((n : Int) - 1) w)
  have HP := Lib.hid (show poolB l h = (okL [] l && ((decide ((1 : Int) ≤ (n : Int)) && decide ((n : Int) ≤ 5)) && (decide (0 ≤ h) && decide (h ≤ (n : Int) - 1)))) by
    unfold poolB
    rw [← HN.out]
    cases okL [] l <;> simp
    by_cases h1 : 1 ≤ n <;> by_cases h2 : n ≤ 5 <;> by_cases h3 : 0 ≤ h <;> by_cases h4 : h < (n : Int) <;> simp [h1, h2, h3, h4] <;> omega)
  have HB0 := Lib.hid ((Below.refl w.heap.size w).alloc (Nat.le_refl _) (.cells #[.slice A n c, .int .i64 h] 28))
  go_enter Try.func55, Try.ntmps55
  go_wp2_with fail
  go_loopw [4] (fun i wr => ∃ k : Nat, i = .int .i64 k ∧ k ≤ n ∧ QRel w (.cells #[.slice A n c, .int .i64 h] 28) l k wr) (fun i _ => n - (intOf i).toNat)
  case atStart => exact ⟨0, rfl, by omega, rfl, Below.refl _ _⟩
  case round =>
    obtain ⟨k, rfl, hk, hq⟩ := hrel
    have HQ := Lib.hid hq; clear hq
    have hsz : w.heap.size < wr.heap.size := by have := HQ.out.2.size; simp at this; omega
    have b0 : wr.cell? ⟨w.heap.size, 0, none⟩ = some (.slice A n c) := (HQ.out.2.cell (p := ⟨w.heap.size, 0, none⟩) (by simp)).trans (by simp)
    have b1 : wr.cell? ⟨w.heap.size, 1, none⟩ = some (.int .i64 h) := (HQ.out.2.cell (p := ⟨w.heap.size, 1, none⟩) (by simp)).trans (by simp)
    by_cases hlt : k < n
    · have hkl : k < l.length := by have := HN.out; omega
      obtain ⟨b, off, rfl, hbw, e0, e1, e2⟩ := frames_at (HR.out.below HQ.out.below) hkl
      have HBAD := Lib.hid (fun hg => (show poolB l h = false by rw [HP.out, ← HQ.out.1, okL_bad hkl hg]; rfl))
      have HDUP := Lib.hid (fun h0 hg => (show poolB l h = false by rw [HP.out, ← HQ.out.1, okL_dup hkl h0 hg]; rfl))
      have HNEXT := Lib.hid (fun hg hd => (HQ.out.1.symm.trans (okL_next hkl hg hd)).symm)
      have HFE := Lib.hid (show l[k] = (l[k].1, l[k].2.1, l[k].2.2) from rfl)
      have HI1 := Lib.hid (fun w => inRange_w l[k].1 (-1) 9 w)
      have HI2 := Lib.hid (fun w => inRange_w l[k].2.1 0 3 w)
      generalize hx1 : l[k].1 = x1 at *
      generalize hx2 : l[k].2.1 = x2 at *
      generalize hx3 : l[k].2.2 = x3 at *
      rw [HFE.out] at HBAD HNEXT
      clear hx2 hx3
      have HX1 := Lib.hid hx1; clear hx1
      have HBW := Lib.hid (fun o => HQ.out.below.trans (((Below.refl _ _).alloc (Nat.le_refl _) o).mono HQ.out.below.size))
      cases hp : (decide (-1 ≤ x1) && decide (x1 ≤ 9))
      · rw [hp] at HI1
        have HX := Lib.hid (HBAD.out (by
          unfold goodF emptyF pageF
          simp only [Bool.and_eq_false_iff, decide_eq_false_iff_not] at hp
          simp; omega))
        clear hp
        go_wp2_with fail
        refine (HI1.out _).mono ?_
        rintro e w3 ⟨rfl, hw3⟩
        obtain rfl := hw3.symm
        go_wp2_with fail
        go_ret
        exact ⟨ret_bool HX.out.symm, HBW.out _⟩
      · rw [hp] at HI1
        simp only [Bool.and_eq_true, decide_eq_true_eq] at hp
        cases hp2 : (decide (0 ≤ x2) && decide (x2 ≤ 3))
        · rw [hp2] at HI2
          have HX := Lib.hid (HBAD.out (by
            unfold goodF emptyF pageF
            simp only [Bool.and_eq_false_iff, decide_eq_false_iff_not] at hp2
            simp; omega))
          clear hp hp2
          go_wp2_with fail
          refine (HI1.out _).mono ?_
          rintro e w3 ⟨rfl, hw3⟩
          obtain rfl := hw3.symm
          go_wp2_with fail
          refine (HI2.out _).mono ?_
          rintro e w3 ⟨rfl, hw3⟩
          obtain rfl := hw3.symm
          go_wp2_with fail
          go_ret
          exact ⟨ret_bool HX.out.symm, HBW.out _⟩
        · rw [hp2] at HI2
          simp only [Bool.and_eq_true, decide_eq_true_eq] at hp2
          by_cases hbad : x1 < 0 ∧ (0 < x2 ∨ x3 = true)
          · obtain ⟨hneg, hbad⟩ := hbad
            have HX := Lib.hid (HBAD.out (by
              unfold goodF emptyF pageF
              simp
              rcases hbad with h1 | h1
              · omega
              · simp [h1]; omega))
            by_cases h2 : 0 < x2
            · clear hbad hp hp2
              go_wp2_with fail
              refine (HI1.out _).mono ?_
              rintro e w3 ⟨rfl, hw3⟩
              obtain rfl := hw3.symm
              go_wp2_with fail
              refine (HI2.out _).mono ?_
              rintro e w3 ⟨rfl, hw3⟩
              obtain rfl := hw3.symm
              go_wp2_with fail
              go_ret
              exact ⟨ret_bool HX.out.symm, HBW.out _⟩
            · have h3 : x3 = true := by rcases hbad with h1 | h1 <;> first | omega | exact h1
              subst h3
              clear hbad hp hp2
              go_wp2_with fail
              refine (HI1.out _).mono ?_
              rintro e w3 ⟨rfl, hw3⟩
              obtain rfl := hw3.symm
              go_wp2_with fail
              refine (HI2.out _).mono ?_
              rintro e w3 ⟨rfl, hw3⟩
              obtain rfl := hw3.symm
              go_wp2_with fail
              go_ret
              exact ⟨ret_bool HX.out.symm, HBW.out _⟩
          · have HGD := Lib.hid (show goodF (x1, x2, x3) = true by
              unfold goodF
              rcases Int.lt_or_le x1 0 with h1 | h1
              · have : x3 = false := by
                  cases x3
                  · rfl
                  · exact absurd ⟨h1, .inr rfl⟩ hbad
                have h2 : ¬ 0 < x2 := fun h2 => hbad ⟨h1, .inl h2⟩
                rw [emptyF_iff.2 ⟨by show x1 = -1; omega, by show x2 = 0; omega, this⟩]; rfl
              · rw [pageF_iff.2 ⟨h1, hp.2, hp2.1, hp2.2⟩]; simp)
            have HM0 := Lib.hid (fun W (hb : Below (wr.alloc (.cells #[.int .i64 x1, .int .i64 x2, .bool x3] 49)).heap.size (wr.alloc (.cells #[.int .i64 x1, .int .i64 x2, .bool x3] 49)) W) =>
              (show W.cell? ⟨wr.heap.size, 0, none⟩ = some (.int .i64 x1) from (hb.cell (p := ⟨wr.heap.size, 0, none⟩) (by simp)).trans (by simp)))
            have HB0C := Lib.hid (fun W (hb : Below (wr.alloc (.cells #[.int .i64 x1, .int .i64 x2, .bool x3] 49)).heap.size (wr.alloc (.cells #[.int .i64 x1, .int .i64 x2, .bool x3] 49)) W) =>
              (show W.cell? ⟨w.heap.size, 0, none⟩ = some (.slice (some ⟨b, off, none⟩) n c) from (hb.cell (p := ⟨w.heap.size, 0, none⟩) (by simp; omega)).trans ((World.cell?_alloc_lt wr _ ⟨w.heap.size, 0, none⟩ hsz).trans b0)))
            have HRJ := Lib.hid (fun W (hb : Below (wr.alloc (.cells #[.int .i64 x1, .int .i64 x2, .bool x3] 49)).heap.size (wr.alloc (.cells #[.int .i64 x1, .int .i64 x2, .bool x3] 49)) W) j (hj : j < l.length) =>
              frames_at (HR.out.below ((HBW.out _).trans (hb.mono (by have := HQ.out.below.size; simp; omega)))) hj)
            have HEND := Lib.hid (fun W (hb : Below (wr.alloc (.cells #[.int .i64 x1, .int .i64 x2, .bool x3] 49)).heap.size (wr.alloc (.cells #[.int .i64 x1, .int .i64 x2, .bool x3] 49)) W) =>
              (HQ.out.2.trans (((Below.refl _ _).alloc (Nat.le_refl _) _ |>.trans (hb.mono (by simp))).mono HQ.out.2.size)))
            have HQB := Lib.hid HQ.out.below.size
            by_cases hneg : x1 < 0
            · have hx20 : ¬ (0 < x2) := fun h2 => hbad ⟨hneg, .inl h2⟩
              have hx3 : x3 = false := by
                cases x3
                · rfl
                · exact absurd ⟨hneg, .inr rfl⟩ hbad
              subst hx3
              have hng : decide (0 ≤ x1) = false := by simpa using hneg
              have HG := Lib.hid (HNEXT.out HGD.out (by rw [hng]; rfl))
              clear hbad hp hp2
              go_wp2_with fail
              refine (HI1.out _).mono ?_
              rintro e w3 ⟨rfl, hw3⟩
              obtain rfl := hw3.symm
              go_wp2_with fail
              refine (HI2.out _).mono ?_
              rintro e w3 ⟨rfl, hw3⟩
              obtain rfl := hw3.symm
              go_wp2_with fail
              clear e0 e1 e2 b0 b1
              go_loopw [6] (fun i wi => ∃ j : Nat, i = .int .i64 j ∧ j ≤ k ∧ Below (wr.alloc (.cells #[.int .i64 x1, .int .i64 x2, .bool false] 49)).heap.size (wr.alloc (.cells #[.int .i64 x1, .int .i64 x2, .bool false] 49)) wi) (fun i _ => k - (intOf i).toNat)
              case atStart => exact ⟨0, rfl, by omega, Below.refl _ _⟩
              case round =>
                rename_i wi _ _ _
                obtain ⟨j, rfl, hj, hbi⟩ := hrel
                have HBI := Lib.hid hbi; clear hbi
                have m0 := HM0.out _ HBI.out
                by_cases hjk : j < k
                · go_wp2_with fail
                  go_quiet (fail)
                  go_wp2_with fail
                  go_roundw
                  case rel => exact ⟨j + 1, by go_num, by omega, HBI.out.trans (below_drewN _ _)⟩
                  case measure => simp [intOf]; omega
                · obtain rfl : j = k := by omega
                  go_wp2_with fail
                  go_roundw
                  case rel => exact ⟨j + 1, by go_num, by omega, HG.out, HEND.out _ HBI.out⟩
                  case measure => simp [intOf]; omega
            · have hpos : 0 ≤ x1 := by omega
              have hpg : decide (0 ≤ x1) = true := by simpa using hpos
              have HST := Lib.hid (fun j (hj : j < l.length) => hasP_step hj x1)
              have HMR := Lib.hid (fun j (hj : j ≤ k) => hasP_more (l := l) (p := x1) hj)
              clear hbad hp hp2
              go_wp2_with fail
              refine (HI1.out _).mono ?_
              rintro e w3 ⟨rfl, hw3⟩
              obtain rfl := hw3.symm
              go_wp2_with fail
              refine (HI2.out _).mono ?_
              rintro e w3 ⟨rfl, hw3⟩
              obtain rfl := hw3.symm
              go_wp2_with fail
              clear e0 e1 e2 b0 b1
              go_loopw [6] (fun i wi => ∃ j : Nat, i = .int .i64 j ∧ j ≤ k ∧ hasP (l.take j) x1 = false ∧ Below (wr.alloc (.cells #[.int .i64 x1, .int .i64 x2, .bool x3] 49)).heap.size (wr.alloc (.cells #[.int .i64 x1, .int .i64 x2, .bool x3] 49)) wi) (fun i _ => k - (intOf i).toNat)
              case atStart => exact ⟨0, rfl, by omega, rfl, Below.refl _ _⟩
              case round =>
                rename_i wi _ _ _
                obtain ⟨j, rfl, hj, hno, hbi⟩ := hrel
                have HNO := Lib.hid hno; clear hno
                have HBI := Lib.hid hbi; clear hbi
                have m0 := HM0.out _ HBI.out
                have b0 := HB0C.out _ HBI.out
                by_cases hjk : j < k
                · have hjl : j < l.length := by omega
                  obtain ⟨bj, oj, ej, _, cj, _, _⟩ := HRJ.out _ HBI.out j hjl
                  cases ej
                  have HSJ := Lib.hid (HST.out j hjl)
                  generalize l[j].1 = y at *
                  have i1 : (j : Int) < (n : Int) := by omega
                  have i3 : (0 : Int) ≤ (j : Int) := by omega
                  by_cases he : y = x1
                  · have q0 : (y == x1) = true := by simpa using he
                    have HX := Lib.hid (HDUP.out hpos (HMR.out (j + 1) (by omega) (by rw [HSJ.out, q0]; simp)))
                    clear he
                    go_wp2_with fail
                    go_quiet (fail)
                    go_wp2_with fail
                    go_ret
                    exact ⟨ret_bool HX.out.symm, (below_of_alloc (HEND.out _ HBI.out)).trans (below_drewN _ _)⟩
                  · have q0 : (y == x1) = false := by simpa using he
                    have HX := Lib.hid (show hasP (l.take (j + 1)) x1 = false by rw [HSJ.out, q0, HNO.out]; rfl)
                    clear he
                    go_wp2_with fail
                    go_quiet (fail)
                    go_wp2_with fail
                    go_roundw
                    case rel => exact ⟨j + 1, by go_num, by omega, HX.out, HBI.out.trans (below_drewN _ _)⟩
                    case measure => simp [intOf]; omega
                · obtain rfl : j = k := by omega
                  have HG := Lib.hid (HNEXT.out HGD.out (by rw [HNO.out]; simp))
                  go_wp2_with fail
                  go_roundw
                  case rel => exact ⟨j + 1, by go_num, by omega, HG.out, HEND.out _ HBI.out⟩
                  case measure => simp [intOf]; omega
    · obtain rfl : k = n := by omega
      have HD := Lib.hid (show okL [] l = true by rw [← HQ.out.1, HN.out, List.drop_length]; rfl)
      cases hp : (decide ((1 : Int) ≤ (k : Int)) && decide ((k : Int) ≤ 5))
      · rw [hp] at HC
        have HX := Lib.hid (show poolB l h = false by rw [HP.out, hp]; simp)
        clear hp
        go_wp2_with fail
        refine (HC.out _).mono ?_
        rintro e w3 ⟨rfl, hw3⟩
        obtain rfl := hw3.symm
        go_wp2_with fail
        go_ret
        exact ⟨ret_bool HX.out.symm, HQ.out.below⟩
      · rw [hp] at HC
        have HX := Lib.hid (show poolB l h = (decide (0 ≤ h) && decide (h ≤ (k : Int) - 1)) by rw [HP.out, hp, HD.out]; simp)
        clear hp
        go_wp2_with fail
        refine (HC.out _).mono ?_
        rintro e w3 ⟨rfl, hw3⟩
        obtain rfl := hw3.symm
        go_wp2_with fail
        refine (HC2.out _).mono ?_
        rintro e w3 ⟨rfl, hw3⟩
        obtain rfl := hw3.symm
        go_wp2_with fail
        go_ret
        exact ⟨ret_bool HX.out.symm, HQ.out.below⟩

theorem sPool_any (A : Option Addr) (n c : Nat) (l : List Fr) (h : Int) (w : World) (hr : RowAt w w.heap.size A (frsC l)) (hn : n = l.length) (hs : n ≤ 1048576) :
    Calls Try.prog 30 #[.agg #[.slice A n c, .int .i64 h]] w fun e w' => e = .returned (.bool (poolB l h)) ∧ Below w.heap.size w w' := by
  have HC := Lib.hid (fun W (hb : Below w.heap.size w W) => sPoolV_any A n c l h W ((hr.below hb).mono hb.size) hn hs)
  have HB0 := Lib.hid ((Below.refl w.heap.size w).alloc (Nat.le_refl _) (.cells #[.slice A n c, .int .i64 h] 28))
  clear hr hn
  go_enter Try.func30, Try.ntmps30
  go_wp2_with fail
  refine (HC.out _ HB0.out).mono ?_
  rintro e w2 ⟨rfl, hb2⟩
  have HB2 := Lib.hid (HB0.out.trans (hb2.mono HB0.out.size)); clear hb2
  go_wp2_with fail
  go_ret
  exact ⟨rfl, HB2.out⟩
end Go.Proofs.Ytompbkphdjjpdaa
