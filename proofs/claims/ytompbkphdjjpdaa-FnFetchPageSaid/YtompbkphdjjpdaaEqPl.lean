/- The laws' helper equalPool at pools that are equal. Conditions: the frames lie in rows; they are few. -/
import Derived.Test.YtompbkphdjjpdaaExPool
set_option linter.unusedVariables false
set_option linter.unusedSimpArgs false
namespace Go.Proofs.Ytompbkphdjjpdaa
open Go.RowKit Go.ChangeShapes Go.WideShapes

/-! the law's own helpers -/
set_option maxHeartbeats 1000000 in
set_option maxRecDepth 100000 in
theorem equalFrames_same (A1 A2 : Option Addr) (n c1 c2 : Nat) (l : List Fr) (w : World) (h1 : RowAt w w.heap.size A1 (frsC l)) (h2 : RowAt w w.heap.size A2 (frsC l)) (hn : n = l.length) (hs : n ≤ 1048576) :
    Calls Try.prog 80 #[.slice A1 n c1, .slice A2 n c2] w fun e w' => e = .returned (.bool true) ∧ Below w.heap.size w w' := by
  have H1 := Lib.hid h1; clear h1
  have H2 := Lib.hid h2; clear h2
  have HN := Lib.hid hn; clear hn
  go_enter Try.func80, Try.ntmps80
  go_wp2
  go_loopw [5] (fun i wr => ∃ k : Nat, k ≤ n ∧ i = .int .i64 k ∧ Below w.heap.size w wr) (fun i _ => n - (intOf i).toNat)
  case atStart => exact ⟨0, by omega, rfl, Below.refl _ _⟩
  case round =>
    obtain ⟨k, hk, rfl, hb⟩ := hrel
    have HB := Lib.hid hb; clear hb
    by_cases hlt : k < n
    · have hk1 : k < l.length := by have := HN.out; omega
      obtain ⟨b, off, rfl, hbw, e0, e1, e2⟩ := frames_at (H1.out.below HB.out) hk1
      obtain ⟨b2, off2, rfl, hbw2, e3, e4, e5⟩ := frames_at (H2.out.below HB.out) hk1
      generalize hx1 : l[k].1 = x1 at *
      generalize hx2 : l[k].2.1 = x2 at *
      generalize hx3 : l[k].2.2 = x3 at *
      clear hx1 hx2 hx3
      have q0 : (x1 == x1) = true := by simp
      have q1 : (x1 != x1) = false := by simp
      have q2 : (x2 == x2) = true := by simp
      have q3 : (x2 != x2) = false := by simp
      have q4 : (x3 == x3) = true := by simp
      go_wp2_with fail
      go_still_tail 8, (by kernel_rfl)
      go_wp2_with fail
      go_roundw
      case rel => exact ⟨k + 1, by omega, by go_num, HB.out.trans (below_drewN _ _)⟩
      case measure => simp [intOf]; omega
    · obtain rfl : k = n := by omega
      go_wp2_with fail
      go_ret
      exact ⟨rfl, HB.out⟩

set_option maxHeartbeats 1000000 in
set_option maxRecDepth 100000 in
theorem equalPool_same (A1 A2 : Option Addr) (n c1 c2 : Nat) (l : List Fr) (h : Int) (w : World) (h1 : RowAt w w.heap.size A1 (frsC l)) (h2 : RowAt w w.heap.size A2 (frsC l)) (hn : n = l.length) (hs : n ≤ 1048576) :
    Calls Try.prog 34 #[.agg #[.slice A1 n c1, .int .i64 h], .agg #[.slice A2 n c2, .int .i64 h]] w fun e w' => e = .returned (.bool true) ∧ Below w.heap.size w w' := by
  have HB0 := Lib.hid (fun o1 o2 => ((Below.refl w.heap.size w).alloc (Nat.le_refl _) o1).alloc (by simp) o2)
  have HC := Lib.hid (fun W (hb : Below w.heap.size w W) => equalFrames_same A1 A2 n c1 c2 l W ((h1.below hb).mono hb.size) ((h2.below hb).mono hb.size) hn hs)
  clear h1 h2 hn
  have q0 : (h == h) = true := by simp
  have q1 : (h != h) = false := by simp
  go_enter Try.func34, Try.ntmps34
  go_wp2_with fail
  refine (HC.out _ (HB0.out _ _)).mono ?_
  rintro e w' ⟨rfl, hb⟩
  have HB := Lib.hid ((HB0.out _ _).trans (hb.mono (HB0.out _ _).size)); clear hb
  go_wp2_with fail
  go_ret
  exact ⟨rfl, HB.out⟩

end Go.Proofs.Ytompbkphdjjpdaa
