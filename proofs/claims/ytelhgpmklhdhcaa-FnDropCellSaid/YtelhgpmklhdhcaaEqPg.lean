/- The laws' helpers equalSlots, equalPage, equalTexts at what is equal. Conditions: the rows lie; they are few. -/
import Derived.Test.YtelhgpmklhdhcaaCells
import Derived.Test.YtelhgpmklhdhcaaPageP
import Derived.StillTailTactics
set_option linter.unusedVariables false
set_option linter.unusedSimpArgs false
namespace Go.Proofs.Ytelhgpmklhdhcaa
open Go.RowKit Go.ChangeShapes Go.WideShapes

set_option maxHeartbeats 1000000 in
set_option maxRecDepth 100000 in
theorem equalSlots_same (A1 A2 : Option Addr) (n c1 c2 : Nat) (l : List Sl) (w : World) (h1 : RowAt w w.heap.size A1 (slC l)) (h2 : RowAt w w.heap.size A2 (slC l)) (hn : n = l.length) (hs : n ≤ 1048576) :
    Calls Try.prog 64 #[.slice A1 n c1, .slice A2 n c2] w fun e w' => e = .returned (.bool true) ∧ Below w.heap.size w w' := by
  have H1 := Lib.hid h1; clear h1
  have H2 := Lib.hid h2; clear h2
  have HN := Lib.hid hn; clear hn
  go_enter Try.func64, Try.ntmps64
  go_wp2
  go_loopw [5] (fun i wr => ∃ k : Nat, k ≤ n ∧ i = .int .i64 k ∧ Below w.heap.size w wr) (fun i _ => n - (intOf i).toNat)
  case atStart => exact ⟨0, by omega, rfl, Below.refl _ _⟩
  case round =>
    obtain ⟨k, hk, rfl, hb⟩ := hrel
    have HB := Lib.hid hb; clear hb
    by_cases hlt : k < n
    · have hk1 : k < l.length := by have := HN.out; omega
      obtain ⟨b, off, rfl, hbw, e0, e1⟩ := slots_at (H1.out.below HB.out) hk1
      obtain ⟨b2, off2, rfl, hbw2, e3, e4⟩ := slots_at (H2.out.below HB.out) hk1
      generalize hx1 : l[k].1 = x1 at *
      generalize hx2 : l[k].2 = x2 at *
      clear hx1 hx2
      have q0 : (x1 == x1) = true := by simp
      have q1 : (x1 != x1) = false := by simp
      have q2 : (x2 == x2) = true := by simp
      have q3 : (x2 != x2) = false := by simp
      go_wp2_with fail
      go_still_tail 8, (by kernel_rfl)
      go_wp2_with fail
      go_roundw
      case rel => exact ⟨k + 1, by omega, by go_num, HB.out.trans (below_drewN _ _)⟩
      case measure => simp [intOf]; omega
    · obtain rfl : k = n := by omega
      go_wp2_with fail
      go_ret
      exact ⟨rfl, HB.out⟩

set_option maxHeartbeats 1000000 in
set_option maxRecDepth 100000 in
theorem equalPage_same (s : ByteArray) (A1 A2 : Option Addr) (n c1 c2 : Nat) (l : List Sl) (w : World) (h1 : RowAt w w.heap.size A1 (slC l)) (h2 : RowAt w w.heap.size A2 (slC l)) (hn : n = l.length) (hs : n ≤ 1048576) :
    Calls Try.prog 18 #[.agg #[.string s, .slice A1 n c1], .agg #[.string s, .slice A2 n c2]] w fun e w' => e = .returned (.bool true) ∧ Below w.heap.size w w' := by
  have HB0 := Lib.hid (fun o1 o2 => ((Below.refl w.heap.size w).alloc (Nat.le_refl _) o1).alloc (by simp) o2)
  have HC := Lib.hid (fun W (hb : Below w.heap.size w W) => equalSlots_same A1 A2 n c1 c2 l W ((h1.below hb).mono hb.size) ((h2.below hb).mono hb.size) hn hs)
  clear h1 h2 hn
  have q0 : (s.toList == s.toList) = true := by simp
  go_enter Try.func18, Try.ntmps18
  go_wp2_with fail
  refine (HC.out _ (HB0.out _ _)).mono ?_
  rintro e w' ⟨rfl, hb⟩
  have HB := Lib.hid ((HB0.out _ _).trans (hb.mono (HB0.out _ _).size)); clear hb
  go_wp2_with fail
  go_ret
  exact ⟨rfl, HB.out⟩

theorem textsP_at {w : World} {B : Nat} {A : Option Addr} {l : List ByteArray} {k : Nat} (h : RowAt w B A (strC l)) (hk : k < l.length) :
    ∃ b off, A = some ⟨b, off, none⟩ ∧ b < B ∧ w.cell? ⟨b, off + k, none⟩ = some (.string l[k]) := by
  obtain ⟨b, off, rfl, hb, hc⟩ := h (by intro h0; have := strC_len l; rw [h0] at this; simp at this; omega)
  exact ⟨b, off, rfl, hb, hc _ _ (by simp [strC, hk])⟩
end Go.Proofs.Ytelhgpmklhdhcaa
