/- What the law FnKeptBy asks: the draw, the comparison of truth values, what is kept. Conditions: rows; few. -/
import Derived.Test.YtkfpedalkiopcabDrawJd
import Derived.Test.YtkfpedalkiopcabKepV
import Derived.Test.YtkfpedalkiopcabExBlM
import Derived.Test.YtkfpedalkiopcabMark
import Derived.StillTailTactics
set_option linter.unusedVariables false
set_option linter.unusedSimpArgs false
namespace Go.Proofs.Ytkfpedalkiopcab
open Go.RowKit Go.ChangeShapes Go.WideShapes

set_option maxHeartbeats 1000000 in
set_option maxRecDepth 100000 in
theorem equalBools_same (A1 A2 : Option Addr) (n c1 c2 : Nat) (l : List Bool) (w : World) (h1 : RowAt w w.heap.size A1 (blC l)) (h2 : RowAt w w.heap.size A2 (blC l)) (hn : n = l.length) (hs : n ≤ 1048576) :
    Calls Try.prog 39 #[.slice A1 n c1, .slice A2 n c2] w fun e w' => e = .returned (.bool true) ∧ Below w.heap.size w w' := by
  have H1 := Lib.hid h1; clear h1
  have H2 := Lib.hid h2; clear h2
  have HN := Lib.hid hn; clear hn
  go_enter Try.func39, Try.ntmps39
  go_wp2
  go_loopw [5] (fun i wr => ∃ k : Nat, k ≤ n ∧ i = .int .i64 k ∧ Below w.heap.size w wr) (fun i _ => n - (intOf i).toNat)
  case atStart => exact ⟨0, by omega, rfl, Below.refl _ _⟩
  case round =>
    obtain ⟨k, hk, rfl, hb⟩ := hrel
    have HB := Lib.hid hb; clear hb
    by_cases hlt : k < n
    · have hk1 : k < l.length := by have := HN.out; omega
      obtain ⟨b, off, rfl, hbw, e0⟩ := bls_at (H1.out.below HB.out) hk1
      obtain ⟨b2, off2, rfl, hbw2, e2⟩ := bls_at (H2.out.below HB.out) hk1
      generalize hx1 : l[k] = x1 at *
      clear hx1
      have q0 : (x1 == x1) = true := by simp
      have q1 : (x1 != x1) = false := by simp
      go_wp2_with fail
      go_still_tail 8, (by kernel_rfl)
      go_wp2_with fail
      go_roundw
      case rel => exact ⟨k + 1, by omega, by go_num, HB.out.trans (below_drewN _ _)⟩
      case measure => simp [intOf]; omega
    · obtain rfl : k = n := by omega
      go_wp2_with fail
      go_ret
      exact ⟨rfl, HB.out⟩
def KindGot (w : World) (e : Ending) (w' : World) : Prop := ∃ (l : List Jb) (A : Option Addr) (m c : Nat) (s : ByteArray), e = .returned (.tuple #[.slice A m c, .string s]) ∧ m = l.length ∧ m ≤ 6 ∧ WfJb l ∧ w'.ownsRow w.heap.size 46 4 (.slice A m c) m (jbsC l) ∧ Below w.heap.size w w'
theorem drawKeptBy_any (A : Option Addr) (n c : Nat) (w : World) (h : BytesIn w A n c) :
    Calls Try.prog 37 #[.slice A n c] w (KindGot w) := by
  have HP := Lib.hid (newReader_any A n c w h)
  go_enter Try.func37, Try.ntmps37
  go_wp2_with fail
  refine (HP.out).mono ?_
  rintro e w1 ⟨rfl, hr1, hb1⟩
  have HB := Lib.hid hb1; clear hb1
  have hrl := hr1.lt
  have HK := Lib.hid (someJobs_any w.heap.size 0 w1 hr1 (by omega)); clear hr1
  go_wp2_with fail
  refine (HK.out).mono ?_
  rintro e w2 ⟨l, A2, m2, c2, rfl, hm, hm2, hf, hr⟩
  have HG := Lib.hid hr; clear hr
  have HM := Lib.hid hm; clear hm
  have HF := Lib.hid hf; clear hf
  have HO := Lib.hid (fun cs m c t hm hm0 hm1 hs => ofNew_any w.heap.size 60 m c cs t _ HG.out.rd (by omega) hm hm0 hm1 hs)
  go_wp2_with fail
  refine (HO.out _ _ _ _ (by rfl) (by omega) (by omega) (by rfl)).mono ?_
  rintro e w3 ⟨s, rfl, _, hr3, hg3⟩
  have HG3 := Lib.hid (HG.out.grow hrl hg3 hr3); clear hr3 hg3
  go_wp2_with fail
  go_ret2
  exact ⟨l, A2, m2, c2, s, rfl, HM.out, hm2, HF.out, own_le HG3.out.own HB.out.size, HB.out.trans (below_of_grown HG3.out.gr (Nat.le_refl _) HB.out.size)⟩
theorem okJ_at {l : List Jb} (h : jobsB l = true) {i : Nat} (hi : i < l.length) : okJb l[i] = true := (jobsB_iff.1 h).2.1 i hi
theorem ends_at {l : List Jb} (h : jobsB l = true) {i k : Nat} (hi : i < l.length) (hk : k < l.length) (hne : i ≠ k) : l[i].2.1 ≠ l[k].2.1 := by
  rcases Nat.lt_or_gt_of_ne hne with h1 | h1
  · exact (jobsB_iff.1 h).2.2 k i hk h1
  · exact fun e => (jobsB_iff.1 h).2.2 i k hi h1 e.symm
theorem okJ_end {x : Jb} (h : okJb x = true) : 0 ≤ x.2.1 ∧ x.2.1 ≤ 20 ∧ 0 ≤ x.2.2.2 ∧ x.2.2.2 ≤ 7 := by
  simp only [okJb, Bool.and_eq_true, decide_eq_true_eq] at h
  omega
theorem kept_get {l : List Jb} {rd : Bool} {i : Nat} (hi : i < l.length) (h2 : i < (keptL l rd 21).length) : (keptL l rd 21)[i] = keptF l rd i := by
  simp [keptL, keptF]
/-- two that are kept and overlap write nothing in common -/
theorem kept_apart {l : List Jb} (h : jobsB l = true) {i k : Nat} (hi : i < l.length) (hk : k < l.length) (hne : i ≠ k) (h1 : keptF l false i = true) (h2 : keptF l false k = true)
    (h3 : l[i].1 < l[k].2.1) (h4 : l[k].1 < l[i].2.1) : meetB l[i].2.2.2 l[k].2.2.2 = false := by
  have ei := okJ_end (okJ_at h hi)
  have ek := okJ_end (okJ_at h hk)
  have hee := ends_at h hi hk hne
  rcases (by omega : l[k].2.1 < l[i].2.1 ∨ l[i].2.1 < l[k].2.1) with ho | ho
  · have := (keptF_iff (l := l) (rd := false) (i := i) (by rw [jAt_get hi]; exact ei.1) (by rw [jAt_get hi]; exact ei.2.1)).1 h1 k hk h2 (by rw [jAt_get hi, jAt_get hk]; exact ho) (by rw [jAt_get hi, jAt_get hk]; exact h3)
    rw [jAt_get hi, jAt_get hk] at this
    unfold mineJ at this
    unfold meetB at this ⊢
    rw [Nat.and_comm]
    simpa using this
  · have := (keptF_iff (l := l) (rd := false) (i := k) (by rw [jAt_get hk]; exact ek.1) (by rw [jAt_get hk]; exact ek.2.1)).1 h2 i hi h1 (by rw [jAt_get hi, jAt_get hk]; exact ho) (by rw [jAt_get hi, jAt_get hk]; exact h4)
    rw [jAt_get hi, jAt_get hk] at this
    unfold mineJ at this
    simpa using this
/-- the first one to end is kept -/
theorem kept_first {l : List Jb} {rd : Bool} (h : jobsB l = true) {i : Nat} (hi : i < l.length) (hf : ∀ k (hk : k < l.length), l[i].2.1 ≤ l[k].2.1) : keptF l rd i = true := by
  have ei := okJ_end (okJ_at h hi)
  refine (keptF_iff (l := l) (rd := rd) (i := i) (by rw [jAt_get hi]; exact ei.1) (by rw [jAt_get hi]; exact ei.2.1)).2 ?_
  intro k hk _ h2 _
  rw [jAt_get hi, jAt_get hk] at h2
  have := hf k hk
  omega
end Go.Proofs.Ytkfpedalkiopcab
