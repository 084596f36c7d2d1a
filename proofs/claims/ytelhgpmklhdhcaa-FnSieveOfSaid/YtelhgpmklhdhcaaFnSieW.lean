/- The walk of the law FnSieveOf. Condition: the code lies in a row. -/
import Derived.Test.YtelhgpmklhdhcaaDrawRn
import Derived.Test.YtelhgpmklhdhcaaSieveC
set_option linter.unusedVariables false
set_option linter.unusedSimpArgs false
namespace Go.Proofs.Ytelhgpmklhdhcaa
open Go.RowKit Go.ChangeShapes Go.WideShapes

theorem sieve_has {l : List It} {k : Nat} (h : k < l.length) : bits BinOp.and IntKind.i64 (marksI l[k].1.data.toList) (sieveN l : Int) = marksI l[k].1.data.toList := by
  obtain ⟨h1, h2, _⟩ := marksN_ok l[k].1.data.toList
  have h3 := sieveN_lt l
  rw [h1, and_i64 _ _ (by omega) (by omega), sieveN_has l l[k] (List.getElem_mem h)]
theorem sieve_zero {l : List It} (h : 0 = l.length) : (sieveN l : Int) = 0 := by
  have := List.eq_nil_of_length_eq_zero h.symm
  rw [this]; rfl
theorem sieve_more {l : List It} (h : 0 < l.length) : 0 < (sieveN l : Int) := by
  have := sieveN_pos (l := l) (by intro e; rw [e] at h; simp at h)
  omega
set_option maxRecDepth 100000 in
set_option maxHeartbeats 2000000 in
theorem walk_FnSieveOf (A : Option Addr) (n c : Nat) (w : World) (h : BytesIn w A n c) :
    Calls Try.prog 6 #[.slice A n c] w fun e w' => e = .returned (.bool true) ∧ Below w.heap.size w w' := by
  have HD := Lib.hid (drawSieveOf_any A n c w h)
  obtain ⟨hc, hm, _⟩ := h
  unfold maxLen at hm
  by_cases hb : n ≤ 1048576
  · go_enter Try.func6, Try.ntmps6
    go_wp2_with fail
    refine (HD.out).mono ?_
    rintro e w1 ⟨l, A1, m, c1, rfl, hml, hm25, hf, ho, hb1⟩
    have HB1 := Lib.hid hb1
    have hwf := hf.wf
    have HI := Lib.hid (fun W (hb : Below w1.heap.size w1 W) => iSieve_any A1 m c1 l W (((RowAt.of_own ho).below hb).mono hb.size) hml (by omega) hwf)
    have HS := Lib.hid (fun W (hb : Below w1.heap.size w1 W) => sSieve_any A1 m c1 l W (((RowAt.of_own ho).below hb).mono hb.size) hml (by omega) hwf)
    have HRW := Lib.hid (RowAt.of_own ho)
    have HWF := Lib.hid hwf
    have HN := Lib.hid hml
    clear hb1 hwf hf ho hml
    cases hv : runB l
    · have hr : sieveR l = -1 := by unfold sieveR; rw [hv]; rfl
      rw [hr] at HI HS
      clear hv hr
      go_wp2_with fail
      refine (HI.out _ (Below.refl _ _)).mono ?_
      rintro e w2 ⟨rfl, hb2⟩
      have HB2 := Lib.hid hb2; clear hb2
      go_wp2_with fail
      refine (HS.out _ HB2.out).mono ?_
      rintro e w3 ⟨rfl, hb3⟩
      have HB3 := Lib.hid (HB2.out.trans (hb3.mono HB2.out.size)); clear hb3
      go_wp2_with fail
      refine (HS.out _ HB3.out).mono ?_
      rintro e w4 ⟨rfl, hb4⟩
      have HB4 := Lib.hid (HB3.out.trans (hb4.mono HB3.out.size)); clear hb4
      go_wp2_with fail
      go_ret
      exact ⟨rfl, HB1.out.trans (HB4.out.mono HB1.out.size)⟩
    · have hr : sieveR l = (sieveN l : Int) := by unfold sieveR; rw [hv]; rfl
      rw [hr] at HI HS
      have HK := Lib.hid (fun k (hk : k < l.length) => runB_key hv hk)
      have HH := Lib.hid (fun k (hk : k < l.length) => sieve_has (l := l) hk)
      have HZ := Lib.hid (fun (h : 0 = l.length) => sieve_zero h)
      have HP := Lib.hid (fun (h : 0 < l.length) => sieve_more h)
      have h0 : 0 ≤ (sieveN l : Int) := by omega
      have h9 : (sieveN l : Int) < 16777216 := by have := sieveN_lt l; omega
      clear hv hr
      generalize (sieveN l : Int) = o at *
      have q0 : (o == o) = true := by simp
      have q1 : (o != o) = false := by simp
      go_wp2_with fail
      refine (HI.out _ (Below.refl _ _)).mono ?_
      rintro e w2 ⟨rfl, hb2⟩
      have HB2 := Lib.hid hb2; clear hb2
      go_wp2_with fail
      refine (HS.out _ HB2.out).mono ?_
      rintro e w3 ⟨rfl, hb3⟩
      have HB3 := Lib.hid (HB2.out.trans (hb3.mono HB2.out.size)); clear hb3
      go_wp2_with fail
      go_loopw [5] (fun i wr => ∃ k : Nat, i = .int .i64 k ∧ k ≤ m ∧ Below w1.heap.size w1 wr) (fun i _ => m - (intOf i).toNat)
      case atStart => exact ⟨0, rfl, by omega, HB3.out⟩
      case round =>
        obtain ⟨k, rfl, hk, hb⟩ := hrel
        have HB := Lib.hid hb; clear hb
        by_cases hlt : k < m
        · have hkl : k < l.length := by have := HN.out; omega
          obtain ⟨b, off, hA, hbw, e0, e1, e2⟩ := its_at (HRW.out.below HB.out) hkl
          subst hA
          have hmk : marksR l[k].1 = marksI l[k].1.data.toList := by unfold marksR; rw [HK.out k hkl]; rfl
          have HM := Lib.hid (fun w => iMarksOf_any l[k].1 w (HWF.out l[k] (List.getElem_mem hkl)).1)
          rw [hmk] at HM
          have hq := HH.out k hkl
          have hi1 : (k : Int) < (m : Int) := by omega
          clear hmk e1 e2
          generalize marksI l[k].1.data.toList = y at *
          generalize l[k].1 = x0 at *
          have q2 : (y == y) = true := by simp
          have q3 : (y != y) = false := by simp
          go_wp2_with fail
          refine (HM.out _).mono ?_
          rintro e w' ⟨rfl, rfl⟩
          go_wp2_with fail
          go_roundw
          case rel => exact ⟨k + 1, by go_num, by omega, HB.out⟩
          case measure => simp [intOf]; omega
        · obtain rfl : k = m := by omega
          cases k with
          | zero =>
            have hz := HZ.out HN.out
            subst hz
            go_wp2_with fail
            go_ret
            exact ⟨rfl, HB1.out.trans (HB.out.mono HB1.out.size)⟩
          | succ j =>
            have hp := HP.out (by have := HN.out; omega)
            have h2 : (o == 0) = false := by simp; omega
            have h3 : (((j + 1 : Nat) : Int) == 0) = false := by simp; omega
            go_wp2_with fail
            go_ret
            exact ⟨rfl, HB1.out.trans (HB.out.mono HB1.out.size)⟩
  · go_enter Try.func6, Try.ntmps6
    go_wp2
    go_ret
    exact ⟨rfl, Below.refl _ _⟩
end Go.Proofs.Ytelhgpmklhdhcaa
