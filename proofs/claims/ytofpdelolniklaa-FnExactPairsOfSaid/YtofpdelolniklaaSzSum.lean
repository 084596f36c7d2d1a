/- The size of lists of items tells how many there are; the marks of lists of lists. Conditions: the rows lie in memory. -/
import Derived.Test.YtofpdelolniklaaExItemM
import Derived.Test.YtofpdelolniklaaExLv
set_option linter.unusedVariables false
set_option linter.unusedSimpArgs false
namespace Go.Proofs.Ytofpdelolniklaa
open Go.RowKit Go.ChangeShapes Go.WideShapes

def sumI (L : List (List It)) : Nat := (L.map List.length).sum
theorem sumI_step {L : List (List It)} {k : Nat} (h : k < L.length) : sumI (L.take (k + 1)) = sumI (L.take k) + L[k].length := by
  unfold sumI; rw [List.take_succ_eq_append_getElem h, List.map_append, List.sum_append]; simp
theorem sumI_le (L : List (List It)) (k : Nat) : sumI (L.take k) ≤ sumI L := by
  have h : sumI L = sumI (L.take k) + sumI (L.drop k) := by
    unfold sumI; rw [← List.sum_append, ← List.map_append, List.take_append_drop]
  omega
set_option maxRecDepth 100000 in
set_option maxHeartbeats 1000000 in
theorem szItemS_sum (A : Option Addr) (n c : Nat) (l : List It) (L : Int) (w : World) (hr : RowAt w w.heap.size A (itsC l)) (hn : n = l.length) (hm : n ≤ maxLen) (hw : WfIt l) (h0 : 0 ≤ L) (hL : L ≤ 1048576) :
    Calls Try.prog 34 #[.slice A n c, .int .i64 L] w fun e w' => (∃ v : Int, e = .returned (.int .i64 v) ∧ (v < 0 ∨ (0 ≤ v ∧ v + (n : Int) ≤ L ∧ n ≤ 1048576 ∧ ∀ p ∈ l, SmallIt p))) ∧ Below w.heap.size w w' := by
  unfold maxLen at hm
  have HR := Lib.hid hr; clear hr
  have HN := Lib.hid hn; clear hn
  have HW := Lib.hid hw; clear hw
  by_cases hnl : (n : Int) ≤ L
  · go_enter Try.func34, Try.ntmps34
    go_wp2_with fail
    go_loopw [1, 5] (fun q i wr => ∃ (k : Nat) (v : Int), i = .int .i64 k ∧ q = .int .i64 v ∧ k ≤ n ∧ 0 ≤ v ∧ v + (n : Int) ≤ L ∧ (∀ p ∈ l.take k, SmallIt p) ∧ Below w.heap.size w wr) (fun _ i _ => n - (intOf i).toNat)
    case atStart => exact ⟨0, L - n, rfl, rfl, Nat.zero_le _, by omega, by omega, by simp, Below.refl _ _⟩
    case round =>
      obtain ⟨k, v, rfl, rfl, hk, hv0, hv1, hs, hb⟩ := hrel
      have HS := Lib.hid hs; clear hs
      have HB := Lib.hid hb; clear hb
      by_cases hlt : k < n
      · have hkl : k < l.length := by have := HN.out; omega
        obtain ⟨b, off, rfl, hbw, e0, e1, e2⟩ := its_at (HR.out.below HB.out) hkl
        have hg := HW.out l[k] (List.getElem_mem hkl)
        have HT := Lib.hid (show l.take (k + 1) = l.take k ++ [l[k]] from List.take_succ_eq_append_getElem hkl)
        unfold GoodIt at hg
        obtain ⟨g0, g1⟩ := hg
        have HC := Lib.hid (fun w => szItem_any l[k].1 l[k].2.1 l[k].2.2 v w g0 g1 hv0 (by omega))
        go_wp2_with fail
        refine (HC.out _).mono ?_
        rintro e w3 ⟨⟨v2, rfl, hv2⟩, hb3⟩
        have HB3 := Lib.hid (HB.out.trans (hb3.mono HB.out.size)); clear hb3
        rcases Int.lt_or_le v2 0 with hneg | hpos
        · clear hv2
          go_wp2_with fail
          go_ret
          exact ⟨⟨_, rfl, Or.inl (by omega)⟩, HB3.out⟩
        · have hv3 : v2 ≤ v ∧ l[k].1.size ≤ 1048576 ∧ l[k].2.1.size ≤ 1048576 := by
            rcases hv2 with h | h
            · omega
            · exact h.2
          have HS3 := Lib.hid (show ∀ p ∈ l.take (k + 1), SmallIt p by
            rw [HT.out]
            intro p hp
            rcases List.mem_append.1 hp with h | h
            · exact HS.out p h
            · rw [List.mem_singleton.1 h]; exact hv3.2)
          have hv4 := hv3.1
          clear hv2 hv3
          go_wp2_with fail
          go_roundw
          case rel => exact ⟨k + 1, v2, by go_num, rfl, by omega, hpos, by omega, HS3.out, HB3.out⟩
          case measure => simp [intOf]; omega
      · obtain rfl : k = n := by omega
        have HS2 := Lib.hid (show ∀ p ∈ l, SmallIt p by
          have := HS.out; rw [HN.out, List.take_length] at this; exact this)
        go_wp2_with fail
        go_ret
        exact ⟨⟨_, rfl, Or.inr ⟨hv0, hv1, by omega, HS2.out⟩⟩, HB.out⟩
  · go_enter Try.func34, Try.ntmps34
    go_wp2_with fail
    go_ret
    exact ⟨⟨_, rfl, Or.inl (by omega)⟩, Below.refl _ _⟩

set_option maxRecDepth 100000 in
set_option maxHeartbeats 1000000 in
theorem szItemSS_sum (A : Option Addr) (n c : Nat) (L : List (List It)) (M : Int) (w : World) (hr : LvAt w w.heap.size A L) (hn : n = L.length) (hm : n ≤ maxLen) (hw : WfLv L) (h0 : 0 ≤ M) (hM : M ≤ 1048576) :
    Calls Try.prog 23 #[.slice A n c, .int .i64 M] w fun e w' => (∃ v : Int, e = .returned (.int .i64 v) ∧ (v < 0 ∨ (0 ≤ v ∧ v + (sumI L : Int) ≤ M ∧ n ≤ 1048576 ∧ SmallLv L))) ∧ Below w.heap.size w w' := by
  unfold maxLen at hm
  have HR := Lib.hid hr; clear hr
  have HN := Lib.hid hn; clear hn
  have HW := Lib.hid hw; clear hw
  by_cases hnl : (n : Int) ≤ M
  · go_enter Try.func23, Try.ntmps23
    go_wp2_with fail
    go_loopw [1, 5] (fun q i wr => ∃ (k : Nat) (v : Int), i = .int .i64 k ∧ q = .int .i64 v ∧ k ≤ n ∧ 0 ≤ v ∧ v + (sumI (L.take k) : Int) ≤ M ∧ SmallLv (L.take k) ∧ Below w.heap.size w wr) (fun _ i _ => n - (intOf i).toNat)
    case atStart => exact ⟨0, M - n, rfl, rfl, Nat.zero_le _, by omega, by simp [sumI]; omega, fun r hr => by simp at hr, Below.refl _ _⟩
    case round =>
      obtain ⟨k, v, rfl, rfl, hk, hv0, hv1, hs, hb⟩ := hrel
      have HS := Lib.hid hs; clear hs
      have HB := Lib.hid hb; clear hb
      by_cases hlt : k < n
      · have hkl : k < L.length := by have := HN.out; omega
        obtain ⟨b, off, A', c', hA, hbw, e0, hrow⟩ := (HR.out.below HB.out).at_ hkl
        subst hA
        obtain ⟨g1, g2⟩ := HW.out L[k] (List.getElem_mem hkl)
        have HT := Lib.hid (show L.take (k + 1) = L.take k ++ [L[k]] from List.take_succ_eq_append_getElem hkl)
        have HC := Lib.hid (szItemS_sum A' L[k].length c' L[k] v wr (hrow.mono HB.out.size) rfl g1 g2 hv0 (by have h1 : (0 : Int) ≤ (sumI (L.take k) : Int) := Int.natCast_nonneg _; omega))
        have hi1 : (k : Int) < (n : Int) := by omega
        have HSU := Lib.hid (sumI_step hkl)
        clear g1 g2 hrow
        generalize L[k] = r at *
        obtain ⟨m, hm2⟩ : ∃ m, r.length = m := ⟨_, rfl⟩
        have HML := Lib.hid hm2
        rw [hm2] at HC e0
        clear hm2
        go_wp2_with fail
        refine (HC.out).mono ?_
        rintro e w3 ⟨⟨v2, rfl, hv2⟩, hb3⟩
        have HB3 := Lib.hid (HB.out.trans (hb3.mono HB.out.size)); clear hb3
        rcases Int.lt_or_le v2 0 with hneg | hpos
        · clear hv2
          go_wp2_with fail
          go_ret
          exact ⟨⟨_, rfl, Or.inl (by omega)⟩, HB3.out⟩
        · have hv3 : v2 + (m : Int) ≤ v ∧ m ≤ 1048576 ∧ ∀ p ∈ r, SmallIt p := by
            rcases hv2 with h | h
            · omega
            · exact h.2
          have HS3 := Lib.hid (show SmallLv (L.take (k + 1)) by
            rw [HT.out]
            intro p hp
            rcases List.mem_append.1 hp with h | h
            · exact HS.out p h
            · rw [List.mem_singleton.1 h]; exact ⟨by rw [HML.out]; exact hv3.2.1, hv3.2.2⟩)
          have hv4 := hv3.1
          have hsu : (sumI (L.take (k + 1)) : Int) = (sumI (L.take k) : Int) + (m : Int) := by rw [HSU.out, HML.out]; push_cast; rfl
          clear hv2 hv3
          go_wp2_with fail
          go_roundw
          case rel => exact ⟨k + 1, v2, by go_num, rfl, by omega, hpos, by rw [hsu]; omega, HS3.out, HB3.out⟩
          case measure => simp [intOf]; omega
      · obtain rfl : k = n := by omega
        have HS2 := Lib.hid (show SmallLv L by
          have := HS.out; rw [HN.out, List.take_length] at this; exact this)
        go_wp2_with fail
        go_ret
        exact ⟨⟨_, rfl, Or.inr ⟨hv0, by have h1 := hv1; rw [HN.out, List.take_length] at h1; exact h1, by have h1 : (0 : Int) ≤ (sumI (L.take k) : Int) := Int.natCast_nonneg _; omega, HS2.out⟩⟩, HB.out⟩
  · go_enter Try.func23, Try.ntmps23
    go_wp2_with fail
    go_ret
    exact ⟨⟨_, rfl, Or.inl (by omega)⟩, Below.refl _ _⟩
end Go.Proofs.Ytofpdelolniklaa
