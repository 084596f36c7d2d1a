/- Contracts of isWhole and ValidJobs of the program, of validJobs of the model (chapter 8). Conditions: the jobs lie in a row; they are few. -/
import Derived.Test.YtdpehojcoohjcabIdx
import Derived.Test.YtdpehojcoohjcabActC
set_option linter.unusedVariables false
set_option linter.unusedSimpArgs false
namespace Go.Proofs.Ytdpehojcoohjcab
open Go.RowKit Go.ChangeShapes Go.WideShapes

theorem iSet_any (x : Int) (w : World) : Calls Try.prog 82 #[.int .i64 x] w fun e w' => e = .returned (.bool (decide (0 ≤ x) && decide (x ≤ 7))) ∧ w' = w := by
  go_enter Try.func82, Try.ntmps82
  by_cases h1 : 0 ≤ x
  · by_cases h2 : x < 8
    · go_wp2
      go_ret
      exact ⟨retb (by simp; omega), rfl⟩
    · go_wp2
      go_ret
      exact ⟨retb (by simp; omega), rfl⟩
  · go_wp2
    go_ret
    exact ⟨retb (by simp; omega), rfl⟩
set_option maxHeartbeats 2000000 in
theorem iWholeJ_any (x0 x1 x2 x3 : Int) (w : World) :
    Calls Try.prog 64 #[.agg #[.int .i64 x0, .int .i64 x1, .int .i64 x2, .int .i64 x3]] w fun e w' => e = .returned (.bool (okJb (x0, x1, x2, x3))) ∧ Below w.heap.size w w' := by
  have HB := Lib.hid ((Below.refl w.heap.size w).alloc (Nat.le_refl _) (.cells #[.int .i64 x0, .int .i64 x1, .int .i64 x2, .int .i64 x3] 69))
  have H2 := Lib.hid (fun W => iSet_any x2 W)
  have H3 := Lib.hid (fun W => iSet_any x3 W)
  by_cases h0 : 0 ≤ x0
  rotate_left
  · go_enter Try.func64, Try.ntmps64
    go_wp2
    go_ret
    exact ⟨retb (by simp [okJb]; omega), HB.out⟩
  by_cases h1 : x0 < x1
  rotate_left
  · go_enter Try.func64, Try.ntmps64
    go_wp2
    go_ret
    exact ⟨retb (by simp [okJb]; omega), HB.out⟩
  by_cases h2 : x1 ≤ 20
  rotate_left
  · go_enter Try.func64, Try.ntmps64
    go_wp2
    go_ret
    exact ⟨retb (by simp [okJb]; omega), HB.out⟩
  cases h3 : (decide (0 ≤ x2) && decide (x2 ≤ 7))
  · rw [h3] at H2
    have HF := Lib.hid (show okJb (x0, x1, x2, x3) = false by
      rw [Bool.and_eq_false_iff] at h3
      simp at h3
      simp [okJb]; omega)
    clear h3
    go_enter Try.func64, Try.ntmps64
    go_wp2_with fail
    refine (H2.out _).mono ?_
    rintro e w2 ⟨rfl, hw2⟩
    obtain rfl := hw2.symm
    go_wp2_with fail
    go_ret
    exact ⟨retb HF.out.symm, HB.out⟩
  · rw [h3] at H2
    have HF := Lib.hid (show okJb (x0, x1, x2, x3) = (decide (0 ≤ x3) && decide (x3 ≤ 7)) by
      rw [Bool.and_eq_true] at h3
      simp at h3
      simp [okJb, h0, h1, h2, h3])
    clear h3
    go_enter Try.func64, Try.ntmps64
    go_wp2_with fail
    refine (H2.out _).mono ?_
    rintro e w2 ⟨rfl, hw2⟩
    obtain rfl := hw2.symm
    go_wp2_with fail
    refine (H3.out _).mono ?_
    rintro e w2 ⟨rfl, hw2⟩
    obtain rfl := hw2.symm
    generalize (decide (0 ≤ x3) && decide (x3 ≤ 7)) = q at *
    go_wp2_with fail
    go_ret
    exact ⟨retb HF.out.symm, HB.out⟩
theorem sameEnd_any (x : Jb) (g : Nat) (y : Int) (w : World) (hg : g < w.heap.size) (hc : w.cell? ⟨g, 1, none⟩ = some (.int .i64 y)) :
    Calls Try.prog 63 #[.agg #[.int .i64 x.1, .int .i64 x.2.1, .int .i64 x.2.2.1, .int .i64 x.2.2.2], .pointer (some ⟨g, 0, none⟩)] w fun e w' => e = .returned (.bool (decide (x.2.1 = y))) ∧ Below w.heap.size w w' := by
  obtain ⟨x0, x1, x2, x3⟩ := x
  simp only
  have HB := Lib.hid ((Below.refl w.heap.size w).alloc (Nat.le_refl _) (.cells #[.int .i64 x0, .int .i64 x1, .int .i64 x2, .int .i64 x3] 69))
  have hc2 : (w.alloc (.cells #[.int .i64 x0, .int .i64 x1, .int .i64 x2, .int .i64 x3] 69)).cell? ⟨g, 1, none⟩ = some (.int .i64 y) := (HB.out.cell (p := ⟨g, 1, none⟩) hg).trans hc
  have hne : ¬ (w.heap.size = g) := by omega
  by_cases h : x1 = y
  · subst h
    go_enter Try.func63, Try.ntmps63
    go_wp2
    go_ret
    exact ⟨retb (by simp), HB.out⟩
  · have hb : (x1 == y) = false := by simpa using h
    go_enter Try.func63, Try.ntmps63
    go_wp2
    go_ret
    exact ⟨retb (by simp [h]), HB.out⟩
theorem jobsB_long {l : List JbT} (h : 6 < l.length) : jobsB l = false := by
  unfold jobsB
  rw [decide_eq_false (by omega), Bool.false_and]
theorem jobsB_no {l : List JbT} {k : Nat} (h : k < l.length) (hb : goodJ l k = false) : jobsB l = false := by
  unfold jobsB
  have : (List.range l.length).all (goodJ l) = false := List.all_eq_false.2 ⟨k, by simpa using h, by simp [hb]⟩
  rw [this, Bool.and_false]
theorem jobsB_yes {l : List JbT} (h : l.length ≤ 6) (hu : (List.range l.length).all (goodJ l) = true) : jobsB l = true := by
  unfold jobsB
  rw [hu, decide_eq_true h]; rfl
theorem upJ_succ {l : List JbT} {k : Nat} (hu : (List.range k).all (goodJ l) = true) (hk : goodJ l k = true) : (List.range (k + 1)).all (goodJ l) = true := by
  rw [List.range_succ, List.all_append, hu]; simp [hk]
theorem goodJ_at {l : List JbT} {k : Nat} (h : k < l.length) : goodJ l k = (okJb l[k] && !(l.take k).any (fun o => decide (o.2.1 = l[k].2.1))) := by
  unfold goodJ
  simp [List.getD_eq_getElem?_getD, h]
theorem row_takeJb {w : World} {B : Nat} {A : Option Addr} {l : List Jb} (h : RowAt w B A (jbsC l)) (k : Nat) : RowAt w B A (jbsC (l.take k)) := fun h0 => by
  have e : jbsC l = jbsC (l.take k) ++ jbsC (l.drop k) := by rw [← jbsC_app, List.take_append_drop]
  obtain ⟨b, off, rfl, hb, hc⟩ := h (by rw [e]; intro h1; exact h0 (List.append_eq_nil_iff.1 h1).1)
  refine ⟨b, off, rfl, hb, fun i v hi => hc i v ?_⟩
  rw [e, List.getElem?_append_left (by
    rcases Nat.lt_or_ge i (jbsC (l.take k)).length with h1 | h1
    · exact h1
    · rw [List.getElem?_eq_none h1] at hi; cases hi)]
  exact hi
set_option maxRecDepth 100000 in
set_option maxHeartbeats 4000000 in
theorem iJobs_any (A : Option Addr) (n c : Nat) (l : List Jb) (w : World) (hr : RowAt w w.heap.size A (jbsC l)) (hn : n = l.length) (hs : n ≤ 1048576) (hnc : n ≤ c) (hcm : c ≤ maxLen) :
    Calls Try.prog 31 #[.slice A n c] w fun e w' => e = .returned (.bool (jobsB l)) ∧ Below w.heap.size w w' := by
  have HR := Lib.hid hr; clear hr
  have HN := Lib.hid hn; clear hn
  unfold maxLen at hcm
  by_cases hlong : 6 < n
  · have HF := Lib.hid (show jobsB l = false from jobsB_long (by rw [← HN.out]; exact hlong))
    go_enter Try.func31, Try.ntmps31
    go_wp2_with fail
    go_ret
    exact ⟨retb HF.out.symm, Below.refl _ _⟩
  go_enter Try.func31, Try.ntmps31
  go_wp2_with fail
  go_loopw [11] (fun i wr => ∃ k : Nat, i = .int .i64 k ∧ k ≤ n ∧ (List.range k).all (goodJ l) = true ∧ Below w.heap.size w wr) (fun i _ => n - (intOf i).toNat)
  case atStart => exact ⟨0, rfl, by omega, rfl, Below.refl _ _⟩
  case round =>
    obtain ⟨k, rfl, hk, hu, hb⟩ := hrel
    have HU := Lib.hid hu; clear hu
    have HB := Lib.hid hb; clear hb
    by_cases hlt : k < n
    · have hkl : k < l.length := by have := HN.out; omega
      obtain ⟨b, off, hA, hbw, e0, e1, e2, e3⟩ := jbs_at (HR.out.below HB.out) hkl
      subst hA
      have HK := Lib.hid (fun w => iWholeJ_any l[k].1 l[k].2.1 l[k].2.2.1 l[k].2.2.2 w)
      have HG := Lib.hid (goodJ_at hkl)
      have HNO := Lib.hid (fun (h : goodJ l k = false) => (show jobsB l = false from jobsB_no hkl h))
      have HYES := Lib.hid (fun (h : goodJ l k = true) => upJ_succ HU.out h)
      rw [show okJb l[k] = okJb (l[k].1, l[k].2.1, l[k].2.2.1, l[k].2.2.2) from rfl] at HG
      have hbs : b < wr.heap.size := Nat.lt_of_lt_of_le hbw HB.out.size
      have hi3 : ¬ (c : Int) < (k : Int) := by omega
      have hi4 : (k : Int) ≤ (c : Int) := by omega
      have hi5 : k ≤ c := by omega
      have HCF := Lib.hid (fun W g y (hb : Below w.heap.size w W) (hg : g < W.heap.size) (hc : W.cell? ⟨g, 1, none⟩ = some (.int .i64 y)) =>
        iHas_V (some ⟨b, off, none⟩) k c (l.take k) (fun o => decide (o.2.1 = y)) (.pointer (some ⟨g, 0, none⟩)) W ((row_takeJb (HR.out.below hb) k).mono hb.size) (by rw [List.length_take]; omega) (by omega) (fun W' x hb' => sameEnd_any x g y W' (Nat.lt_of_lt_of_le hg hb'.size) ((hb'.cell (p := ⟨g, 1, none⟩) hg).trans hc)))
      generalize l[k].1 = x0 at *
      generalize l[k].2.1 = x1 at *
      generalize l[k].2.2.1 = x2 at *
      generalize l[k].2.2.2 = x3 at *
      generalize okJb (x0, x1, x2, x3) = r at *
      have HCF1 := Lib.hid (fun W g hb hg hc => HCF.out W g x1 hb hg hc)
      generalize (l.take k).any (fun o => decide (o.2.1 = x1)) = r2 at *
      have HB2 := Lib.hid (HB.out.alloc HB.out.size (.cells #[.int .i64 x0, .int .i64 x1, .int .i64 x2, .int .i64 x3] 69))
      cases r
      · go_wp2_with fail
        refine (HK.out _).mono ?_
        rintro e w3 ⟨rfl, hb3⟩
        have HB3 := Lib.hid (HB2.out.trans (hb3.mono HB2.out.size)); clear hb3
        go_wp2_with fail
        go_ret
        exact ⟨retb (HNO.out (by rw [HG.out]; rfl)).symm, HB3.out⟩
      · go_wp2_with fail
        refine (HK.out _).mono ?_
        rintro e w3 ⟨rfl, hb3⟩
        have hc3 : w3.cell? ⟨wr.heap.size, 1, none⟩ = some (.int .i64 x1) := (hb3.cell (p := ⟨wr.heap.size, 1, none⟩) (by simp)).trans (by simp)
        have hs3 : wr.heap.size < w3.heap.size := by have := hb3.size; simp at this; omega
        have HB3 := Lib.hid (HB2.out.trans (hb3.mono HB2.out.size)); clear hb3
        have HC4 := Lib.hid (HCF1.out w3 wr.heap.size HB3.out hs3 hc3)
        go_wp2_with fail
        refine (HC4.out).mono ?_
        rintro e w4 ⟨rfl, hb4⟩
        have HB4 := Lib.hid (HB3.out.trans (hb4.mono HB3.out.size)); clear hb4
        cases r2
        · go_wp2_with fail
          go_roundw
          case rel => exact ⟨k + 1, by go_num, by omega, HYES.out (by rw [HG.out]; rfl), HB4.out⟩
          case measure => simp [intOf]; omega
        · go_wp2_with fail
          go_ret
          exact ⟨retb (HNO.out (by rw [HG.out]; rfl)).symm, HB4.out⟩
    · obtain rfl : k = n := by omega
      have HF := Lib.hid (show jobsB l = true from jobsB_yes (by have := HN.out; omega) (by rw [← HN.out]; exact HU.out))
      go_wp2_with fail
      go_ret
      exact ⟨retb HF.out.symm, HB.out⟩
end Go.Proofs.Ytdpehojcoohjcab
