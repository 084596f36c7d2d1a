/- Contracts of the exact laws' own helpers on pages: szPage, toPage, eqPage. Conditions: the slots lie in a row. -/
import Derived.Test.YtjnaeefgbekmdaaPageM
import Derived.StillTailTactics
import Derived.Deep.RegionWith
set_option linter.unusedVariables false
set_option linter.unusedSimpArgs false
namespace Go.Proofs.Ytjnaeefgbekmdaa
open Go.RowKit Go.ChangeShapes Go.WideShapes

theorem szSlotS_any (A : Option Addr) (n c : Nat) (left : Int) (w : World) (hn : n ≤ maxLen) (h0 : 0 ≤ left) (h1 : left ≤ 1048576) :
    Calls Try.prog 78 #[.slice A n c, .int .i64 left] w fun e w' => (∃ v : Int, e = .returned (.int .i64 v) ∧ ((v < 0 ∧ left < n) ∨ (v = left - n ∧ (n : Int) ≤ left))) ∧ w' = w := by
  unfold maxLen at hn
  go_enter Try.func78, Try.ntmps78
  go_wp2
  · go_ret
    exact ⟨⟨_, rfl, Or.inl ⟨by omega, by omega⟩⟩, rfl⟩
  · go_ret
    exact ⟨⟨_, rfl, Or.inr ⟨rfl, by omega⟩⟩, rfl⟩

/-- what is left of 2^20 behind a page: below 0, or the page is small -/
theorem szPage_any (s : ByteArray) (A : Option Addr) (n c : Nat) (w : World) (hs : s.size ≤ maxLen) (hn : n ≤ maxLen) :
    Calls Try.prog 36 #[.agg #[.string s, .slice A n c], .int .i64 1048576] w fun e w' => (∃ v : Int, e = .returned (.int .i64 v) ∧ (v < 0 ∨ (0 ≤ v ∧ s.size ≤ 1048576 ∧ n ≤ 1048576))) ∧ Below w.heap.size w w' := by
  by_cases h1 : s.size ≤ 1048576
  · have HC := Lib.hid (fun w => szSlotS_any A n c (1048576 - (s.size : Int)) w hn (by omega) (by omega))
    unfold maxLen at hs hn
    go_enter Try.func36, Try.ntmps36
    go_wp2_with fail
    refine (HC.out _).mono ?_
    rintro e w' ⟨⟨v, rfl, hv⟩, rfl⟩
    go_wp2_with fail
    all_goals go_ret
    · exact ⟨⟨_, rfl, Or.inl (by omega)⟩, (Below.refl _ _).alloc (Nat.le_refl _) _⟩
    · exact ⟨⟨_, rfl, Or.inr ⟨by omega, by omega, by omega⟩⟩, (Below.refl _ _).alloc (Nat.le_refl _) _⟩
  · unfold maxLen at hs hn
    go_enter Try.func36, Try.ntmps36
    go_wp2_with fail
    go_ret
    exact ⟨⟨_, rfl, Or.inl (by omega)⟩, (Below.refl _ _).alloc (Nat.le_refl _) _⟩

theorem eqSlot_any (a b c d : Int) (w : World) :
    Calls Try.prog 107 #[.agg #[.int .i64 a, .int .i64 b], .agg #[.int .i64 c, .int .i64 d]] w fun e w' => e = .returned (.bool (a == c && b == d)) ∧ Below w.heap.size w w' := by
  have hB : ∀ o1 o2, Below w.heap.size w ((w.alloc o1).alloc o2) := fun o1 o2 => ((Below.refl _ _).alloc (Nat.le_refl _) _).alloc (by simp) _
  by_cases h1 : a = c
  · subst h1
    by_cases h2 : b = d
    · subst h2
      go_enter Try.func107, Try.ntmps107
      go_wp2
      go_ret
      exact ⟨ret_bool (by simp), hB _ _⟩
    · have hb : (b == d) = false := by simpa using h2
      have hb' : (b != d) = true := by simpa using h2
      clear h2
      go_enter Try.func107, Try.ntmps107
      go_wp2
      go_ret
      exact ⟨ret_bool (by simp [hb]), hB _ _⟩
  · have hb : (a == c) = false := by simpa using h1
    have hb' : (a != c) = true := by simpa using h1
    clear h1
    go_enter Try.func107, Try.ntmps107
    go_wp2
    go_ret
    exact ⟨ret_bool (by simp [hb]), hB _ _⟩

set_option maxHeartbeats 1000000 in
set_option maxRecDepth 100000 in
theorem eqSlotS_any (A1 A2 : Option Addr) (n1 n2 c1 c2 : Nat) (l1 l2 : List Sl) (w : World) (h1 : RowAt w w.heap.size A1 (slC l1)) (h2 : RowAt w w.heap.size A2 (slC l2)) (hn1 : n1 = l1.length) (hn2 : n2 = l2.length) (hs : n1 ≤ 1048576) :
    Calls Try.prog 80 #[.slice A1 n1 c1, .slice A2 n2 c2] w fun e w' => e = .returned (.bool (decide (l1 = l2))) ∧ Below w.heap.size w w' := by
  by_cases hn : n1 = n2
  · subst hn
    have H1 := Lib.hid h1; clear h1
    have H2 := Lib.hid h2; clear h2
    have HN := Lib.hid (And.intro hn1 hn2); clear hn1 hn2
    go_enter Try.func80, Try.ntmps80
    go_wp2
    go_loopw [5] (fun i wr => ∃ k : Nat, k ≤ n1 ∧ i = .int .i64 k ∧ l1.take k = l2.take k ∧ Below w.heap.size w wr) (fun i _ => n1 - (intOf i).toNat)
    case atStart => exact ⟨0, by omega, rfl, rfl, Below.refl _ _⟩
    case round =>
      obtain ⟨k, hk, rfl, ht, hb⟩ := hrel
      have HT := Lib.hid ht; clear ht
      have HB := Lib.hid hb; clear hb
      by_cases hlt : k < n1
      · have hk1 : k < l1.length := by have := HN.out; omega
        have hk2 : k < l2.length := by have := HN.out; omega
        obtain ⟨b, off, rfl, hbw, e0, e1⟩ := slots_at (H1.out.below HB.out) hk1
        obtain ⟨b2, off2, rfl, hbw2, e2, e3⟩ := slots_at (H2.out.below HB.out) hk2
        have HE := Lib.hid (fun w => eqSlot_any l1[k].1 l1[k].2 l2[k].1 l2[k].2 w)
        generalize hx1 : l1[k].1 = x1 at *
        generalize hx2 : l1[k].2 = x2 at *
        generalize hx3 : l2[k].1 = x3 at *
        generalize hx4 : l2[k].2 = x4 at *
        have HX := Lib.hid (And.intro hx1 (And.intro hx2 (And.intro hx3 hx4))); clear hx1 hx2 hx3 hx4
        go_wp2_with fail
        go_still_tail 8, (by kernel_rfl)
        go_wp2_with fail
        refine (HE.out _).mono ?_
        rintro e w3 ⟨rfl, hb3⟩
        have HB3 := Lib.hid (HB.out.trans ((below_drewN _ _).trans (hb3.mono HB.out.size))); clear hb3
        by_cases hq : x1 = x3 ∧ x2 = x4
        · obtain ⟨rfl, rfl⟩ := hq
          have HK := Lib.hid (take_eq_step hk1 hk2 HT.out (Prod.ext (HX.out.1.trans HX.out.2.2.1.symm) (HX.out.2.1.trans HX.out.2.2.2.symm)))
          have hbb : (x1 == x1 && x2 == x2) = true := by simp
          rw [hbb]
          go_wp2_with fail
          go_roundw
          case rel => exact ⟨k + 1, by omega, by go_num, HK.out, HB3.out⟩
          case measure => simp [intOf]; omega
        · have hbb : (x1 == x3 && x2 == x4) = false := by
            cases h : (x1 == x3 && x2 == x4)
            · rfl
            · simp only [Bool.and_eq_true, beq_iff_eq] at h
              exact absurd h hq
          rw [hbb]
          have HD := Lib.hid (show decide (l1 = l2) = false by
            rw [decide_eq_false_iff_not]
            rintro rfl
            exact hq ⟨HX.out.1.symm.trans HX.out.2.2.1, HX.out.2.1.symm.trans HX.out.2.2.2⟩)
          clear hq hbb
          go_wp2_with fail
          go_ret
          exact ⟨ret_bool HD.out.symm, HB3.out⟩
      · obtain rfl : k = n1 := by omega
        have HD := Lib.hid (show decide (l1 = l2) = true by
          have := HT.out
          rw [decide_eq_true_iff]
          rw [HN.out.1, List.take_length, ← HN.out.1, HN.out.2, List.take_length] at this
          exact this)
        go_wp2_with fail
        go_ret
        exact ⟨ret_bool HD.out.symm, HB.out⟩
  · have HD := Lib.hid (show decide (l1 = l2) = false by
      rw [decide_eq_false_iff_not]
      rintro rfl
      omega)
    have hb : ((n1 : Int) == n2) = false := by simp; omega
    have hb' : ((n1 : Int) != n2) = true := by simpa using hb
    clear h1 h2 hn1 hn2 hn
    go_enter Try.func80, Try.ntmps80
    go_wp2
    go_ret
    exact ⟨ret_bool HD.out.symm, Below.refl _ _⟩

theorem eqPage_any (s1 s2 : ByteArray) (A1 A2 : Option Addr) (n1 n2 c1 c2 : Nat) (l1 l2 : List Sl) (w : World) (h1 : RowAt w w.heap.size A1 (slC l1)) (h2 : RowAt w w.heap.size A2 (slC l2)) (hn1 : n1 = l1.length) (hn2 : n2 = l2.length) (hs : n1 ≤ 1048576) :
    Calls Try.prog 38 #[.agg #[.string s1, .slice A1 n1 c1], .agg #[.string s2, .slice A2 n2 c2]] w fun e w' => e = .returned (.bool (decide (s1 = s2) && decide (l1 = l2))) ∧ Below w.heap.size w w' := by
  have HB0 := Lib.hid (fun o1 o2 => ((Below.refl w.heap.size w).alloc (Nat.le_refl _) o1).alloc (by simp) o2)
  by_cases hq : s1 = s2
  · subst hq
    have HC := Lib.hid (fun W (hb : Below w.heap.size w W) => eqSlotS_any A1 A2 n1 n2 c1 c2 l1 l2 W ((h1.below hb).mono hb.size) ((h2.below hb).mono hb.size) hn1 hn2 hs)
    clear h1 h2 hn1 hn2
    have hb1 : (s1.toList == s1.toList) = true := by simp
    cases hd : decide (l1 = l2)
    · rw [hd] at HC
      clear hd
      go_enter Try.func38, Try.ntmps38
      go_wp2_with fail
      refine (HC.out _ (HB0.out _ _)).mono ?_
      rintro e w' ⟨rfl, hb⟩
      have HB := Lib.hid ((HB0.out _ _).trans (hb.mono (HB0.out _ _).size)); clear hb
      go_wp2_with fail
      go_ret
      exact ⟨ret_bool (by simp), HB.out⟩
    · rw [hd] at HC
      clear hd
      go_enter Try.func38, Try.ntmps38
      go_wp2_with fail
      refine (HC.out _ (HB0.out _ _)).mono ?_
      rintro e w' ⟨rfl, hb⟩
      have HB := Lib.hid ((HB0.out _ _).trans (hb.mono (HB0.out _ _).size)); clear hb
      go_wp2_with fail
      go_ret
      exact ⟨ret_bool (by simp), HB.out⟩
  · have hb1 : (s1.toList == s2.toList) = false := by
      simp only [beq_eq_false_iff_ne, ne_eq]
      intro h
      rw [ByteArray.toList_eq, ByteArray.toList_eq] at h
      exact hq (bytes_inj h)
    have HD := Lib.hid (show decide (s1 = s2) = false by simpa using hq)
    clear hq h1 h2
    go_enter Try.func38, Try.ntmps38
    go_wp2_with fail
    go_ret
    exact ⟨ret_bool (by rw [HD.out]; simp), HB0.out _ _⟩
end Go.Proofs.Ytjnaeefgbekmdaa
