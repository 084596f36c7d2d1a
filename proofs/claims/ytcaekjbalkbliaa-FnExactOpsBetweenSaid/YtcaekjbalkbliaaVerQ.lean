/- Contracts of mayBeRead, lastAt and ReadAt of the program (chapter 7). Conditions: the versions lie in a row; they are few; their texts are no longer than memory. -/
import Derived.Test.YtcaekjbalkbliaaVerR
import Derived.Carry
set_option linter.unusedVariables false
set_option linter.unusedSimpArgs false
namespace Go.Proofs.Ytcaekjbalkbliaa
open Go.RowKit Go.ChangeShapes Go.WideShapes Go.Maps

theorem vr_zero (w : World) : (zeroValue 71).run Try.prog w = .ok (vVal zeroVr) w := by kernel_rfl
theorem sweepB_time {l : List Vr} {at_ : Int} : sweepB okVr l at_ = ((decide (at_ = 0) || timeB at_) && versB l) := by
  unfold sweepB timeB
  show (versB l && _ && _) = _
  cases versB l
  · simp
  · by_cases h0 : at_ = 0
    · subst h0; simp
    · have : (decide ((0 : Int) ≤ at_) && decide (at_ ≤ 20)) = (decide ((1 : Int) ≤ at_) && decide (at_ ≤ 20)) := by
        by_cases h1 : 1 ≤ at_
        · rw [decide_eq_true h1, decide_eq_true (by omega : (0 : Int) ≤ at_)]
        · rw [decide_eq_false h1, decide_eq_false (by omega : ¬ (0 : Int) ≤ at_)]
      rw [Bool.true_and, this, decide_eq_false h0]; simp
set_option maxHeartbeats 1000000 in
theorem iMayR_any (A : Option Addr) (n c : Nat) (l : List Vr) (at_ : Int) (w : World) (hr : RowAt w w.heap.size A (vrsC l)) (hn : n = l.length) (hs : n ≤ 1048576) (hw : WfVr l) (hc1 : n ≤ c) (hc2 : c ≤ maxLen) :
    Calls Try.prog 45 #[.slice A n c, .int .i64 at_] w fun e w' => e = .returned (.bool (sweepB okVr l at_)) ∧ Below w.heap.size w w' := by
  have HV := Lib.hid (iVers_any A n c l w hr hn hs hw hc1 hc2)
  have HT := Lib.hid (fun W => iTime_any at_ W)
  have HB := Lib.hid (sweepB_time (l := l) (at_ := at_))
  clear hr hn hs hw hc1 hc2
  generalize sweepB okVr l at_ = r at *
  by_cases h0 : at_ = 0
  · rw [decide_eq_true h0] at HB
    subst h0
    go_enter Try.func45, Try.ntmps45
    go_wp2_with fail
    refine (HV.out).mono ?_
    rintro e w2 ⟨rfl, hb2⟩
    have HB2 := Lib.hid hb2; clear hb2
    go_wp2_with fail
    go_ret
    exact ⟨ret_bool (by rw [HB.out]; rfl), HB2.out⟩
  · have h0b : (at_ == 0) = false := by simpa using h0
    rw [decide_eq_false h0] at HB
    cases h1 : timeB at_
    · rw [h1] at HT HB
      clear h1 h0
      go_enter Try.func45, Try.ntmps45
      go_wp2_with fail
      refine (HT.out _).mono ?_
      rintro e w2 ⟨rfl, hw2⟩
      obtain rfl := hw2.symm
      go_wp2_with fail
      go_ret
      exact ⟨ret_bool (by rw [HB.out]; rfl), Below.refl _ _⟩
    · rw [h1] at HT HB
      clear h1 h0
      go_enter Try.func45, Try.ntmps45
      go_wp2_with fail
      refine (HT.out _).mono ?_
      rintro e w2 ⟨rfl, hw2⟩
      obtain rfl := hw2.symm
      go_wp2_with fail
      refine (HV.out).mono ?_
      rintro e w2 ⟨rfl, hb2⟩
      have HB2 := Lib.hid hb2; clear hb2
      go_wp2_with fail
      go_ret
      exact ⟨ret_bool (by rw [HB.out]; rfl), HB2.out⟩

/-- the map that lastAt makes -/
def LastPost (l : List Vr) (at_ : Int) (w : World) (e : Ending) (w' : World) : Prop := ∃ b m, e = .returned (.map (some b)) ∧ w.heap.size ≤ b ∧ m ≤ 1048576 ∧ VMap Try.prog 9 w' b m (lastA l at_) ∧ Below w.heap.size w w'
set_option maxRecDepth 100000 in
set_option maxHeartbeats 2000000 in
theorem iLast_any (A : Option Addr) (n c : Nat) (l : List Vr) (at_ : Int) (w : World) (hr : RowAt w w.heap.size A (vrsC l)) (hn : n = l.length) (hs : n ≤ 1048576) (hw : WfVr l) (hv : upV okVr l l.length = true) :
    Calls Try.prog 51 #[.slice A n c, .int .i64 at_] w (LastPost l at_ w) := by
  have HR := Lib.hid hr; clear hr
  have HN := Lib.hid hn; clear hn
  have HW := Lib.hid hw; clear hw
  have HSTOP := Lib.hid (fun k (h : k < l.length) ht => lastA_stop hv h (at_ := at_) ht)
  have HM0 := Lib.hid (show VMap Try.prog 9 (w.alloc (.map #[] 0)) w.heap.size 0 (lastA (l.take 0) at_) by rw [lastA_zero]; exact VMap.made w)
  have HB0 := Lib.hid ((Below.refl w.heap.size w).alloc (Nat.le_refl _) (.map #[] 0))
  have HFULL := Lib.hid (show lastA (l.take l.length) at_ = lastA l at_ by rw [List.take_length])
  clear hv
  have hmm := @run_makeMap Try.prog
  go_enter Try.func51, Try.ntmps51
  go_wp2_with fail
  go_loopw [11] (fun i wr => ∃ k : Nat, i = .int .i64 k ∧ k ≤ n ∧ VMap Try.prog 9 wr w.heap.size k (lastA (l.take k) at_) ∧ Below w.heap.size w wr) (fun i _ => n - (intOf i).toNat)
  case atStart => exact ⟨0, rfl, by omega, HM0.out, HB0.out⟩
  case round =>
    obtain ⟨k, rfl, hk, hm, hb⟩ := hrel
    clear HM0 HB0 hmm
    have HM := Lib.hid hm; clear hm
    have HB := Lib.hid hb; clear hb
    by_cases hlt : k < n
    · have hkl : k < l.length := by have := HN.out; omega
      obtain ⟨b, off, rfl, hbw, e0, e1, e2, e3⟩ := vrs_at (HR.out.below HB.out) hkl
      obtain ⟨g1, g2, _⟩ := HW.out l[k] (List.getElem_mem hkl)
      have HST := Lib.hid (HSTOP.out k hkl)
      have HSK := Lib.hid (fun (h : l[k].2.2.2 ≤ at_) => lastA_step hkl h)
      have hi1 : (k : Int) < (n : Int) := by omega
      have hbs : b < wr.heap.size := Nat.lt_of_lt_of_le hbw HB.out.size
      have HL := Lib.hid HM.out.lt
      have HSZ := Lib.hid HB.out.size
      rw [show l[k] = (l[k].1, l[k].2.1, l[k].2.2.1, l[k].2.2.2) from rfl] at HSK
      dsimp only at HSK
      clear HSTOP g2
      have G1 := Lib.hid g1; clear g1
      generalize l[k].1 = x0 at *
      generalize l[k].2.1 = x1 at *
      generalize l[k].2.2.1 = x2 at *
      generalize l[k].2.2.2 = x3 at *
      by_cases ht : x3 ≤ at_
      · have HSK2 := Lib.hid (HSK.out ht)
        have hnt : ¬ at_ < x3 := by omega
        have HMA := Lib.hid (fun o => HM.out.alloc o)
        have HBA := Lib.hid (fun o => HB.out.alloc HB.out.size o)
        clear HST HSK
        cases x2
        · go_wp2_with (at_mapUpdate; refine wpList_put_vm (HMA.out _) Try.underlying9 Try.underlying79 ?c1 rfl _ _ _ rfl rfl x0 rfl G1.out (x0, x1, false, x3) rfl ?_)
          try (case c1 => unfold maxLen; omega)
          intro w4 hv4 hg4
          have HV4 := Lib.hid (show VMap Try.prog 9 w4 w.heap.size (k + 1) (lastA (l.take (k + 1)) at_) from hv4.same (fun s => by rw [HSK2.out]; rfl))
          have HB4 := Lib.hid (Below.grown (HBA.out _) hg4 (by have := HSZ.out; simp; omega) (fun q hq => by injection hq with hq; omega))
          clear hv4 hg4
          go_wp2_with fail
          go_roundw
          case rel => exact ⟨k + 1, by go_num, by omega, HV4.out, HB4.out⟩
          case measure => simp [intOf]; omega
        · go_wp2_with (at_delete; refine wpList_del_vm (HMA.out _) Try.underlying9 Try.underlying79 rfl _ _ rfl rfl x0 rfl G1.out ?_)
          intro w4 hv4 hg4
          have HV4 := Lib.hid (show VMap Try.prog 9 w4 w.heap.size (k + 1) (lastA (l.take (k + 1)) at_) from (hv4.mono (Nat.le_succ k)).same (fun s => by rw [HSK2.out]; rfl))
          have HB4 := Lib.hid (Below.grown (HBA.out _) hg4 (by have := HSZ.out; simp; omega) (fun q hq => by injection hq with hq; omega))
          clear hv4 hg4
          go_wp2_with fail
          go_roundw
          case rel => exact ⟨k + 1, by go_num, by omega, HV4.out, HB4.out⟩
          case measure => simp [intOf]; omega
      · have HE := Lib.hid (HST.out (by omega))
        have hnt : at_ < x3 := by omega
        have HP := Lib.hid (fun o => (⟨w.heap.size, k, rfl, Nat.le_refl _, by omega, by rw [← HE.out]; exact HM.out.alloc o, HB.out.alloc HB.out.size o⟩ : LastPost l at_ w (.returned (.map (some w.heap.size))) (wr.alloc o)))
        go_wp2_with fail
        go_ret
        exact HP.out _
    · obtain rfl : k = n := by omega
      have HP := Lib.hid ((⟨w.heap.size, k, rfl, Nat.le_refl _, by omega, by rw [← HFULL.out, ← HN.out]; exact HM.out, HB.out⟩ : LastPost l at_ w (.returned (.map (some w.heap.size))) wr))
      go_wp2_with fail
      go_ret
      exact HP.out

end Go.Proofs.Ytcaekjbalkbliaa
