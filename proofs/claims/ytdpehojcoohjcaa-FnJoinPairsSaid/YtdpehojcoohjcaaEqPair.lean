/- The laws' helper equalPairs at lists that are the same. Conditions: they lie in rows; they are few. -/
import Derived.Test.YtdpehojcoohjcaaExPair
set_option linter.unusedVariables false
set_option linter.unusedSimpArgs false
namespace Go.Proofs.Ytdpehojcoohjcaa
open Go.RowKit Go.ChangeShapes Go.WideShapes

set_option maxHeartbeats 1000000 in
set_option maxRecDepth 100000 in
theorem equalPairs_same (A1 A2 : Option Addr) (n c1 c2 : Nat) (l : List Pr) (w : World) (h1 : RowAt w w.heap.size A1 (prsC l)) (h2 : RowAt w w.heap.size A2 (prsC l)) (hn : n = l.length) (hs : n ≤ 1048576) (hw : ∀ p ∈ l, GoodPr p) :
    Calls Try.prog 13 #[.slice A1 n c1, .slice A2 n c2] w fun e w' => e = .returned (.bool true) ∧ Below w.heap.size w w' := by
  have H1 := Lib.hid h1; clear h1
  have H2 := Lib.hid h2; clear h2
  have HN := Lib.hid hn; clear hn
  clear hw
  have hnn : ((n : Int) != (n : Int)) = false := by simp
  go_enter Try.func13, Try.ntmps13
  go_wp2
  go_loopw [5] (fun i wr => ∃ k : Nat, k ≤ n ∧ i = .int .i64 k ∧ Below w.heap.size w wr) (fun i _ => n - (intOf i).toNat)
  case atStart => exact ⟨0, by omega, rfl, Below.refl _ _⟩
  case round =>
    obtain ⟨k, hk, rfl, hb⟩ := hrel
    have HB := Lib.hid hb; clear hb
    by_cases hlt : k < n
    · have hk1 : k < l.length := by have := HN.out; omega
      obtain ⟨b, off, rfl, hbw, e0, e1⟩ := prs_at (H1.out.below HB.out) hk1
      obtain ⟨b2, off2, rfl, hbw2, d0, d1⟩ := prs_at (H2.out.below HB.out) hk1
      generalize hx0 : l[k].1 = x0 at *
      generalize hx1 : l[k].2 = x1 at *
      clear hx0 hx1
      have q0 : (x0.toList == x0.toList) = true := by simp
      have q1 : (x1.toList == x1.toList) = true := by simp
      go_wp2_with fail
      go_still_tail 8, (by kernel_rfl)
      go_wp2_with fail
      go_roundw
      case rel => exact ⟨k + 1, by omega, by go_num, HB.out.trans (below_drewN _ _)⟩
      case measure => simp [intOf]; omega
    · obtain rfl : k = n := by omega
      go_wp2_with fail
      go_ret
      exact ⟨rfl, HB.out⟩
theorem own_atPr {w : World} {B n c z : Nat} {e : TypeId} {A : Option Addr} {xs : List Value} (h : w.ownsRow B e z (.slice A n c) n xs) (h0 : 0 < n) : ∃ g, A = some ⟨g, 0, none⟩ ∧ n ≤ c ∧ c ≤ maxLen ∧ B ≤ g := by
  rcases h.2 with ⟨hv, hn⟩ | ⟨g, cap, cur, hv, hg, _, h1, h2, _⟩
  · omega
  · injection hv with h3 _ h4
    subst h3 h4
    exact ⟨g, rfl, h1, h2, hg⟩
end Go.Proofs.Ytdpehojcoohjcaa
