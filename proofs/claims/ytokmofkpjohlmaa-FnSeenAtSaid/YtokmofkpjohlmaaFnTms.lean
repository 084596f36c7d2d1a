/- The walk of the law FnTimesOf. Condition: the code lies in a row. -/
import Derived.Test.YtokmofkpjohlmaaDrawV
import Derived.Test.YtokmofkpjohlmaaVerT
import Derived.Test.YtokmofkpjohlmaaMark
import Derived.Deep.QuietTactic
import Derived.BigQuiet
set_option linter.unusedVariables false
set_option linter.unusedSimpArgs false
namespace Go.Proofs.Ytokmofkpjohlmaa
open Go.RowKit Go.ChangeShapes Go.WideShapes

set_option maxHeartbeats 1000000 in
set_option maxRecDepth 100000 in
theorem equalInts_sameT (A1 A2 : Option Addr) (n c1 c2 : Nat) (l : List Int) (w : World) (h1 : RowAt w w.heap.size A1 (intC l)) (h2 : RowAt w w.heap.size A2 (intC l)) (hn : n = l.length) (hs : n ≤ 1048576) :
    Calls Try.prog 44 #[.slice A1 n c1, .slice A2 n c2] w fun e w' => e = .returned (.bool true) ∧ Below w.heap.size w w' := by
  have H1 := Lib.hid h1; clear h1
  have H2 := Lib.hid h2; clear h2
  have HN := Lib.hid hn; clear hn
  go_enter Try.func44, Try.ntmps44
  go_wp2
  go_loopw [5] (fun i wr => ∃ k : Nat, k ≤ n ∧ i = .int .i64 k ∧ Below w.heap.size w wr) (fun i _ => n - (intOf i).toNat)
  case atStart => exact ⟨0, by omega, rfl, Below.refl _ _⟩
  case round =>
    obtain ⟨k, hk, rfl, hb⟩ := hrel
    have HB := Lib.hid hb; clear hb
    by_cases hlt : k < n
    · have hk1 : k < l.length := by have := HN.out; omega
      obtain ⟨b, off, rfl, hbw, e0⟩ := ints_at (H1.out.below HB.out) hk1
      obtain ⟨b2, off2, rfl, hbw2, e2⟩ := ints_at (H2.out.below HB.out) hk1
      generalize hx1 : l[k] = x1 at *
      clear hx1
      have q0 : (x1 == x1) = true := by simp
      have q1 : (x1 != x1) = false := by simp
      go_wp2_with fail
      go_still_tail 8, (by kernel_rfl)
      go_wp2_with fail
      go_roundw
      case rel => exact ⟨k + 1, by omega, by go_num, HB.out.trans (below_drewN _ _)⟩
      case measure => simp [intOf]; omega
    · obtain rfl : k = n := by omega
      go_wp2_with fail
      go_ret
      exact ⟨rfl, HB.out⟩

def hasIT (l : List Int) (p : Int) : Bool := l.contains p
set_option maxHeartbeats 1000000 in
theorem isIn_anyT (A : Option Addr) (n c : Nat) (l : List Int) (p : Int) (w : World) (hr : RowAt w w.heap.size A (intC l)) (hn : n = l.length) (hs : n ≤ 1048576) :
    Calls Try.prog 45 #[.slice A n c, .int .i64 p] w fun e w' => e = .returned (.bool (hasIT l p)) ∧ w' = w := by
  have HR := Lib.hid hr; clear hr
  have HN := Lib.hid hn; clear hn
  go_enter Try.func45, Try.ntmps45
  go_wp2_with fail
  go_loop [5] (fun i => ∃ k : Nat, k ≤ n ∧ i = .int .i64 k ∧ (l.take k).contains p = false) (fun i => n - (intOf i).toNat)
  case atStart => exact ⟨0, by omega, rfl, rfl⟩
  case round =>
    obtain ⟨k, hk, rfl, hno⟩ := hrel
    have HNO := Lib.hid hno; clear hno
    by_cases hlt : k < n
    · have hkl : k < l.length := by have := HN.out; omega
      obtain ⟨b, off, rfl, hbw, e0⟩ := ints_at HR.out hkl
      have HX := Lib.hid (show l[k] = p → hasIT l p = true from fun e => by
        unfold hasIT; rw [← e]; simp)
      have HX2 := Lib.hid (show l[k] ≠ p → (l.take (k + 1)).contains p = false from fun e => by
        have := HNO.out
        rw [List.take_succ_eq_append_getElem hkl]
        generalize l[k] = y at *
        generalize l.take k = t at *
        simp at this ⊢
        exact ⟨this, fun h => e h.symm⟩)
      generalize l[k] = x1 at *
      by_cases he : x1 = p
      · have q0 : (x1 == p) = true := by simpa using he
        have HF := Lib.hid (HX.out he)
        clear he
        go_wp2_with fail
        go_ret
        exact ⟨ret_bool HF.out.symm, rfl⟩
      · have q0 : (x1 == p) = false := by simpa using he
        have HF := Lib.hid (HX2.out he)
        clear he
        go_wp2_with fail
        go_round
        case rel => exact ⟨k + 1, by omega, by go_num, HF.out⟩
        case measure => simp [intOf]; omega
    · obtain rfl : k = n := by omega
      have HF := Lib.hid (show hasIT l p = false by
        unfold hasIT
        have := HNO.out
        rw [HN.out, List.take_length] at this
        exact this)
      go_wp2_with fail
      go_ret
      exact ⟨ret_bool HF.out.symm, rfl⟩
/-- of times in order -/
theorem keepsI_iff {d : Array Int} {j : Nat} : Lib.keeps d j = true ↔ (j = 0 ∨ d[j]! ≠ d[j - 1]!) := by simp [Lib.keeps]
theorem comp_last {d : Array Int} : ∀ m, 0 < m → (Lib.compactUpTo d m).getLast? = some d[m - 1]!
  | 0, h => by omega
  | m + 1, _ => by
    rw [Lib.compactUpTo_succ]
    cases hk : Lib.keeps d m
    · have h0 : 0 < m := by
        rcases Nat.eq_zero_or_pos m with h | h
        · subst h; rw [Lib.keeps_lt_one d 0 (by omega)] at hk; cases hk
        · exact h
      have he : d[m]! = d[m - 1]! := by
        by_cases h : d[m]! = d[m - 1]!
        · exact h
        · rw [Lib.keeps_pos h] at hk; cases hk
      simp only [Bool.false_eq_true, if_false, List.append_nil]
      rw [comp_last m h0, Nat.add_sub_cancel, he]
    · simp
theorem comp_le {d : Array Int} (hd : ∀ i j, i ≤ j → j < d.size → d[i]! ≤ d[j]!) : ∀ m, m ≤ d.size → ∀ x ∈ Lib.compactUpTo d m, 0 < m ∧ x ≤ d[m - 1]!
  | 0, _, x, hx => by simp [Lib.compactUpTo] at hx
  | m + 1, hm, x, hx => by
    rw [Lib.compactUpTo_succ] at hx
    refine ⟨by omega, ?_⟩
    rw [Nat.add_sub_cancel]
    rcases List.mem_append.1 hx with hx | hx
    · obtain ⟨h0, h1⟩ := comp_le hd m (by omega) x hx
      exact Int.le_trans h1 (hd _ _ (by omega) (by omega))
    · split at hx
      · rw [List.mem_singleton] at hx; rw [hx]; exact Int.le_refl _
      · cases hx
theorem comp_asc {d : Array Int} (hd : ∀ i j, i ≤ j → j < d.size → d[i]! ≤ d[j]!) : ∀ m, m ≤ d.size → (Lib.compactUpTo d m).Pairwise (fun a b => a < b)
  | 0, _ => by simp [Lib.compactUpTo]
  | m + 1, hm => by
    rw [Lib.compactUpTo_succ]
    split
    · rename_i hk
      rw [List.pairwise_append]
      refine ⟨comp_asc hd m (by omega), List.pairwise_singleton _ _, fun a ha b hb => ?_⟩
      rw [List.mem_singleton] at hb; subst hb
      obtain ⟨h0, h1⟩ := comp_le hd m (by omega) a ha
      have h2 := hd (m - 1) m (by omega) (by omega)
      rcases keepsI_iff.1 hk with h | h
      · omega
      · omega
    · rw [List.append_nil]; exact comp_asc hd m (by omega)
theorem comp_has {d : Array Int} : ∀ m, ∀ j, j < m → d[j]! ∈ Lib.compactUpTo d m
  | 0, j, h => by omega
  | m + 1, j, h => by
    rcases Nat.lt_or_ge j m with h1 | h1
    · rw [Lib.compactUpTo_succ]; exact List.mem_append_left _ (comp_has m j h1)
    · obtain rfl : j = m := by omega
      have := comp_last (d := d) (j + 1) (by omega)
      rw [Nat.add_sub_cancel] at this
      exact List.mem_of_getLast? this
theorem tim_sorted {l : List Vr} (h : versB l = true) : ∀ i j, i ≤ j → j < (timL l).toArray.size → (timL l).toArray[i]! ≤ (timL l).toArray[j]! := by
  intro i j hij hj
  have hj2 : j < l.length := by simpa [timL] using hj
  have hu : upV okVr l l.length = true := by unfold versB versK at h; rw [Bool.and_eq_true] at h; exact h.2
  rw [timL_at (by omega : i < l.length), timL_at hj2]
  exact upV_times hu (Nat.le_refl _) hij hj2
theorem times_has {l : List Vr} (h : versB l = true) {k : Nat} (hk : k < l.length) : hasIT (timesR l) l[k].2.2.2 = true := by
  rw [timesR_yes h]
  unfold hasIT Lib.compact
  rw [List.contains_iff_mem]
  have := comp_has (d := (timL l).toArray) (timL l).length k (by rw [timL_len]; exact hk)
  rw [timL_at hk] at this
  exact this
theorem times_asc {l : List Vr} (h : versB l = true) : (timesR l).Pairwise (fun a b => a < b) := by
  rw [timesR_yes h]
  exact comp_asc (tim_sorted h) _ (by simp)
theorem times_len {l : List Vr} (h : versB l = true) : (timesR l).length ≤ l.length := by
  rw [timesR_yes h]
  have := Lib.compact_length_le (timL l)
  rwa [timL_len] at this
set_option maxRecDepth 100000 in
set_option maxHeartbeats 1000000 in
theorem ascends_any (A : Option Addr) (n c : Nat) (l : List Int) (w : World) (hr : RowAt w w.heap.size A (intC l)) (hn : n = l.length) (hs : n ≤ 1048576) (ha : l.Pairwise (fun a b => a < b)) :
    Calls Try.prog 46 #[.slice A n c] w fun e w' => e = .returned (.bool true) ∧ Below w.heap.size w w' := by
  have HR := Lib.hid hr; clear hr
  have HN := Lib.hid hn; clear hn
  have HA := Lib.hid (fun j (h : j + 1 < l.length) => (List.pairwise_iff_getElem.1 ha) j (j + 1) (by omega) h (by omega)); clear ha
  go_enter Try.func46, Try.ntmps46
  go_wp2_with fail
  go_loopw [3] (fun i wr => ∃ k : Nat, i = .int .i64 k ∧ 1 ≤ k ∧ Below w.heap.size w wr) (fun i _ => n - (intOf i).toNat)
  case atStart => exact ⟨1, rfl, by omega, Below.refl _ _⟩
  case round =>
    obtain ⟨k, rfl, hk, hb⟩ := hrel
    have HB := Lib.hid hb; clear hb
    by_cases hlt : k < n
    · have hkl : k < l.length := by have := HN.out; omega
      obtain ⟨b, off, hA, hbw, e0⟩ := ints_at (HR.out.below HB.out) hkl
      obtain ⟨b2, off2, hA2, hbw2, e1⟩ := ints_at (HR.out.below HB.out) (show k - 1 < l.length by omega)
      subst hA
      injection hA2 with hA2
      injection hA2 with h1 h2
      subst h1 h2
      have hlt2 : l[k - 1] < l[k] := by
        have := HA.out (k - 1) (by omega)
        simpa [show k - 1 + 1 = k by omega] using this
      have hi1 : (k : Int) < (n : Int) := by omega
      have hi2 : ((k - 1 : Nat) : Int) < (n : Int) := by omega
      have hi3 : (k : Int) - 1 = ((k - 1 : Nat) : Int) := by omega
      have hi5 : (0 : Int) ≤ ((k - 1 : Nat) : Int) := by omega
      have hi7 : IntKind.i64.wrap ((k - 1 : Nat) : Int) = ((k - 1 : Nat) : Int) := IntWalk.i64_in _ (by omega)
      have hno : ¬ l[k] ≤ l[k - 1] := by omega
      clear hbw2
      generalize l[k] = x at *
      generalize l[k - 1] = y at *
      generalize k - 1 = j at *
      go_wp2_with fail
      go_quiet (fail)
      go_wp2_with fail
      go_roundw
      case rel => exact ⟨k + 1, by go_num, by omega, HB.out.trans (below_drewN _ _)⟩
      case measure => simp [intOf]; omega
    · have hno : ¬ (k : Int) < (n : Int) := by omega
      go_wp2_with fail
      go_ret
      exact ⟨rfl, HB.out⟩

set_option maxRecDepth 100000 in
set_option maxHeartbeats 4000000 in
theorem walk_FnTimesOf (A : Option Addr) (n c : Nat) (w : World) (h : BytesIn w A n c) :
    Calls Try.prog 10 #[.slice A n c] w fun e w' => e = .returned (.bool true) ∧ Below w.heap.size w w' := by
  have HD := Lib.hid (drawTimesOf_any A n c w h)
  obtain ⟨hc, hm, _⟩ := h
  unfold maxLen at hm
  by_cases hb : n ≤ 1048576
  · go_enter Try.func10, Try.ntmps10
    go_wp2_with fail
    refine (HD.out).mono ?_
    rintro e w1 ⟨l, A1, m, c1, rfl, hml, hm25, hf, ho, hb1⟩
    obtain ⟨hcp1, hcp2⟩ := own_caps ho
    have HB1 := Lib.hid hb1
    have hwf := hf.wf
    have HROW := Lib.hid (fun W (hb : Below w1.heap.size w1 W) => ((RowAt.of_own ho).below hb).mono hb.size)
    have HI := Lib.hid (fun W (hb : Below w1.heap.size w1 W) => iTimes_any A1 m c1 l W (HROW.out W hb) hml (by omega) hwf hcp1 hcp2)
    have HS := Lib.hid (fun W (hb : Below w1.heap.size w1 W) => sTimes_any A1 m c1 l W (HROW.out W hb) hml (by omega) hwf)
    have HV := Lib.hid (fun W (hb : Below w1.heap.size w1 W) => iVers_any A1 m c1 l W (HROW.out W hb) hml (by omega) hwf hcp1 hcp2)
    have HM := Lib.hid hml
    have HTL := Lib.hid (timesR_good hwf (by omega)).1
    have HTH := Lib.hid (fun (h : versB l = true) k (hk : k < l.length) => times_has h hk)
    have HTA := Lib.hid (fun (h : versB l = true) => times_asc h)
    have HTN := Lib.hid (fun (h : versB l = true) => times_len h)
    clear hb1 hwf hf ho hml hcp1 hcp2
    go_wp2_with fail
    refine (HI.out _ (Below.refl _ _)).mono ?_
    rintro e w2 ⟨_, rfl, ⟨A2, c2, rfl, ho2⟩, hb2⟩
    have HO2 := Lib.hid (RowAt.of_own ho2)
    have HB2 := Lib.hid hb2; clear hb2 ho2
    go_wp2_with fail
    refine (HS.out _ HB2.out).mono ?_
    rintro e w3 ⟨_, rfl, ⟨A3, c3, rfl, ho3⟩, hb3⟩
    have HE3 := Lib.hid (equalInts_sameT A2 A3 (timesR l).length c2 c3 (timesR l) w3 ((HO2.out.below hb3).mono hb3.size) (RowAt.of_own ho3) rfl HTL.out)
    have HO3 := Lib.hid ((HO2.out.below hb3).mono hb3.size)
    have HB3 := Lib.hid (HB2.out.trans (hb3.mono HB2.out.size)); clear hb3 ho3
    go_wp2_with fail
    refine (HE3.out).mono ?_
    rintro e w4 ⟨rfl, hb4⟩
    have HO4 := Lib.hid ((HO3.out.below hb4).mono hb4.size)
    have HB4 := Lib.hid (HB3.out.trans (hb4.mono HB3.out.size)); clear hb4
    go_wp2_with fail
    refine (HV.out _ HB4.out).mono ?_
    rintro e w5 ⟨rfl, hb5⟩
    have HO5 := Lib.hid ((HO4.out.below hb5).mono hb5.size)
    have HB5 := Lib.hid (HB4.out.trans (hb5.mono HB4.out.size)); clear hb5
    cases hv : versB l
    · go_wp2_with fail
      refine (HS.out _ HB5.out).mono ?_
      rintro e w6 ⟨_, rfl, ⟨A6, c6, rfl, ho6⟩, hb6⟩
      have HE6 := Lib.hid (equalInts_sameT A2 A6 (timesR l).length c2 c6 (timesR l) w6 ((HO5.out.below hb6).mono hb6.size) (RowAt.of_own ho6) rfl HTL.out)
      have HB6 := Lib.hid (HB5.out.trans (hb6.mono HB5.out.size)); clear hb6 ho6
      go_wp2_with fail
      refine (HE6.out).mono ?_
      rintro e w7 ⟨rfl, hb7⟩
      have HB7 := Lib.hid (HB6.out.trans (hb7.mono HB6.out.size)); clear hb7
      go_wp2_with fail
      go_ret
      exact ⟨rfl, HB1.out.trans (HB7.out.mono HB1.out.size)⟩
    · have HTH1 := Lib.hid (HTH.out hv)
      have HTA1 := Lib.hid (HTA.out hv)
      have hln := HTN.out hv
      have HLE := Lib.hid hln; clear hln
      clear hv HTH HTA HTN
      have HIS := Lib.hid (fun x => isIn_anyT A2 (timesR l).length c2 (timesR l) x w5 HO5.out rfl HTL.out)
      have HAS := Lib.hid (ascends_any A2 (timesR l).length c2 (timesR l) w5 HO5.out rfl HTL.out HTA1.out)
      have HLE2 := Lib.hid (show (timesR l).length ≤ m by rw [HM.out]; exact HLE.out)
      have HAT := Lib.hid (fun k (hk : k < l.length) => vrs_at (HROW.out _ HB5.out) hk)
      generalize (timesR l).length = tn at *
      go_wp2_with fail
      go_loop [5] (fun i => ∃ k : Nat, k ≤ m ∧ i = .int .i64 k) (fun i => m - (intOf i).toNat)
      case atStart => exact ⟨0, by omega, rfl⟩
      case round =>
        obtain ⟨k, hk, rfl⟩ := hrel
        by_cases hlt : k < m
        · have hkl : k < l.length := by have := HM.out; omega
          obtain ⟨b, off, hA, hbw, e0, e1, e2, e3⟩ := HAT.out k hkl
          subst hA
          have hin := HTH1.out k hkl
          have hi1 : (k : Int) < (m : Int) := by omega
          clear e0 e1 e2
          generalize l[k].2.2.2 = x3 at *
          have HX := Lib.hid (HIS.out x3)
          rw [hin] at HX
          clear hin
          go_wp2_with fail
          refine (HX.out).mono ?_
          rintro e w6 ⟨rfl, hw6⟩
          obtain rfl := hw6.symm
          go_wp2_with fail
          go_round
          case rel => exact ⟨k + 1, by omega, by go_num⟩
          case measure => simp [intOf]; omega
        · obtain rfl : k = m := by omega
          have hle := HLE2.out
          have hle2 : (tn : Int) ≤ (k : Int) := by omega
          go_wp2_with fail
          refine (HAS.out).mono ?_
          rintro e w6 ⟨rfl, hb6⟩
          have HB6 := Lib.hid (HB5.out.trans (hb6.mono HB5.out.size)); clear hb6
          go_wp2_with fail
          go_ret
          exact ⟨rfl, HB1.out.trans (HB6.out.mono HB1.out.size)⟩
  · go_enter Try.func10, Try.ntmps10
    go_wp2
    go_ret
    exact ⟨rfl, Below.refl _ _⟩
end Go.Proofs.Ytokmofkpjohlmaa
