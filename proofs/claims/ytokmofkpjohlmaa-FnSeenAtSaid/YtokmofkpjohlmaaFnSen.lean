/- The walk of the law FnSeenAt. Condition: the code lies in a row. -/
import Derived.Test.YtokmofkpjohlmaaDrawX
import Derived.Test.YtokmofkpjohlmaaExSen
import Derived.Test.YtokmofkpjohlmaaEqPair
import Derived.Test.YtokmofkpjohlmaaFnTms
set_option linter.unusedVariables false
set_option linter.unusedSimpArgs false
namespace Go.Proofs.Ytokmofkpjohlmaa
open Go.RowKit Go.ChangeShapes Go.WideShapes

/-- the last of the times up to a time, 0 if there is none -/
def lastI (T : List Int) (at_ : Int) : Nat → Int
  | 0 => 0
  | k + 1 => match T[k]? with | some t => if t ≤ at_ then t else lastI T at_ k | none => lastI T at_ k
theorem lastI_yes {T : List Int} {at_ : Int} {k : Nat} (h : k < T.length) (ht : T[k] ≤ at_) : lastI T at_ (k + 1) = T[k] := by
  show (match T[k]? with | some t => if t ≤ at_ then t else lastI T at_ k | none => lastI T at_ k) = _
  rw [List.getElem?_eq_getElem h]; simp [ht]
theorem lastI_no {T : List Int} {at_ : Int} {k : Nat} (h : k < T.length) (ht : ¬ T[k] ≤ at_) : lastI T at_ (k + 1) = lastI T at_ k := by
  show (match T[k]? with | some t => if t ≤ at_ then t else lastI T at_ k | none => lastI T at_ k) = _
  rw [List.getElem?_eq_getElem h]; simp [ht]
theorem lastI_spec {T : List Int} {at_ : Int} (ha : T.Pairwise (fun a b => a < b)) (h0 : ∀ x ∈ T, 0 ≤ x) : ∀ k, k ≤ T.length → (lastI T at_ k = 0 ∨ (lastI T at_ k ∈ T ∧ lastI T at_ k ≤ at_)) ∧ ∀ j (h : j < k) (hl : j < T.length), T[j] ≤ at_ → T[j] ≤ lastI T at_ k
  | 0, _ => ⟨.inl rfl, fun j h => by omega⟩
  | k + 1, h => by
    have hk : k < T.length := by omega
    obtain ⟨h1, h2⟩ := lastI_spec (at_ := at_) ha h0 k (by omega)
    by_cases ht : T[k] ≤ at_
    · rw [lastI_yes hk ht]
      refine ⟨.inr ⟨List.getElem_mem hk, ht⟩, fun j hj hl hja => ?_⟩
      rcases Nat.lt_or_ge j k with h3 | h3
      · exact Int.le_of_lt ((List.pairwise_iff_getElem.1 ha) j k hl hk h3)
      · obtain rfl : j = k := by omega
        exact Int.le_refl _
    · rw [lastI_no hk ht]
      refine ⟨h1, fun j hj hl hja => ?_⟩
      rcases Nat.lt_or_ge j k with h3 | h3
      · exact h2 j h3 hl hja
      · obtain rfl : j = k := by omega
        exact absurd hja ht
theorem seen_same {l : List Vr} {a b : Int} (h : ∀ v ∈ l, (v.2.2.2 ≤ a ↔ v.2.2.2 ≤ b)) : seenA l a = seenA l b := by
  unfold seenA
  congr 1
  refine List.filter_congr (fun v hv => ?_)
  unfold upTo
  by_cases h1 : v.2.2.2 ≤ a
  · rw [decide_eq_true h1, decide_eq_true ((h v hv).1 h1)]
  · rw [decide_eq_false h1, decide_eq_false (fun h2 => h1 ((h v hv).2 h2))]
/-- between two times the same is seen -/
theorem seen_last {l : List Vr} {at_ : Int} (hv : versB l = true) (h0 : 0 ≤ at_) (h20 : at_ ≤ 20) : seenR l (lastI (timesR l) at_ (timesR l).length) = seenR l at_ := by
  have hp : ∀ x ∈ timesR l, 0 ≤ x ∧ x ≤ 20 ∧ ∃ v ∈ l, v.2.2.2 = x := fun x hx => by
    rw [timesR_yes hv] at hx
    unfold Lib.compact Lib.compactUpTo at hx
    obtain ⟨j, hj, rfl⟩ := List.mem_map.1 hx
    have hjl := List.mem_range.1 (List.mem_filter.1 hj).1
    rw [timL_len] at hjl
    rw [timL_at hjl]
    have := okVr_time ((versB_ok hv).2 l[j] (List.getElem_mem hjl))
    exact ⟨by omega, by omega, l[j], List.getElem_mem hjl, rfl⟩
  obtain ⟨h1, h2⟩ := lastI_spec (at_ := at_) (times_asc hv) (fun x hx => (hp x hx).1) (timesR l).length (Nat.le_refl _)
  have hr : 0 ≤ lastI (timesR l) at_ (timesR l).length ∧ lastI (timesR l) at_ (timesR l).length ≤ 20 ∧ lastI (timesR l) at_ (timesR l).length ≤ at_ := by
    rcases h1 with h1 | ⟨h1, h3⟩
    · rw [h1]; omega
    · exact ⟨(hp _ h1).1, (hp _ h1).2.1, h3⟩
  have hs : ∀ a : Int, 0 ≤ a → a ≤ 20 → sweepB okVr l a = true := fun a ha hb => by
    unfold sweepB; rw [show versK okVr l = true from hv, decide_eq_true ha, decide_eq_true hb]; rfl
  rw [seenR_yes (hs _ hr.1 hr.2.1), seenR_yes (hs _ h0 h20)]
  refine seen_same (fun v hvl => ⟨fun h => by omega, fun h => ?_⟩)
  obtain ⟨i, hi, rfl⟩ := List.getElem_of_mem hvl
  have hh := times_has hv hi
  unfold hasIT at hh
  rw [List.contains_iff_mem] at hh
  obtain ⟨j, hj, he⟩ := List.getElem_of_mem hh
  have := h2 j hj hj (by rw [he]; exact h)
  rw [he] at this; exact this
theorem seen_none {l : List Vr} (hv : versB l = true) : seenR l 0 = [] := by
  unfold seenR
  split
  · unfold seenA
    rw [List.filter_eq_nil_iff.2 (fun v hvl => by
      have := okVr_time ((versB_ok hv).2 v hvl)
      simp [upTo]; omega)]
    rfl
  · rfl
set_option maxRecDepth 100000 in
set_option maxHeartbeats 4000000 in
theorem walk_FnSeenAt (A : Option Addr) (n c : Nat) (w : World) (h : BytesIn w A n c) :
    Calls Try.prog 14 #[.slice A n c] w fun e w' => e = .returned (.bool true) ∧ Below w.heap.size w w' := by
  have HD := Lib.hid (drawSeenAt_any A n c w h)
  obtain ⟨hc, hm, _⟩ := h
  unfold maxLen at hm
  by_cases hb : n ≤ 1048576
  · go_enter Try.func14, Try.ntmps14
    go_wp2_with fail
    refine (HD.out).mono ?_
    rintro e w1 ⟨l, A1, m, c1, at_, rfl, hml, hm30, hf, hx1, hx2, ho, hb1⟩
    obtain ⟨hcp1, hcp2⟩ := own_caps ho
    have HB1 := Lib.hid hb1
    have hwf := hf.wf
    have HROW := Lib.hid (fun W (hb : Below w1.heap.size w1 W) => ((RowAt.of_own ho).below hb).mono hb.size)
    have HI := Lib.hid (fun a W (hb : Below w1.heap.size w1 W) => iSeen_any A1 m c1 l a W (HROW.out W hb) hml (by omega) hwf hcp1 hcp2)
    have HS := Lib.hid (fun W (hb : Below w1.heap.size w1 W) => sSeen_any A1 m c1 l at_ W (HROW.out W hb) hml (by omega) hwf)
    have HV := Lib.hid (fun W (hb : Below w1.heap.size w1 W) => iVers_any A1 m c1 l W (HROW.out W hb) hml (by omega) hwf hcp1 hcp2)
    have HT := Lib.hid (fun W (hb : Below w1.heap.size w1 W) => iTimes_any A1 m c1 l W (HROW.out W hb) hml (by omega) hwf hcp1 hcp2)
    have HSG := Lib.hid (seenR_good (at_ := at_) hwf (by omega))
    have HTL := Lib.hid (timesR_good hwf (by omega)).1
    have HLAST := Lib.hid (fun (h1 : versB l = true) h2 h3 => seen_last (l := l) (at_ := at_) h1 h2 h3)
    have HNONE := Lib.hid (fun (h1 : versB l = true) => seen_none h1)
    clear hb1 hwf hf ho hml hcp1 hcp2
    go_wp2_with fail
    refine (HI.out at_ _ (Below.refl _ _)).mono ?_
    rintro e w2 ⟨_, rfl, ⟨A2, c2, rfl, ho2⟩, hb2⟩
    have HO2 := Lib.hid (RowAt.of_own ho2)
    have HB2 := Lib.hid hb2; clear hb2 ho2
    go_wp2_with fail
    refine (HS.out _ HB2.out).mono ?_
    rintro e w3 ⟨_, rfl, ⟨A3, c3, rfl, ho3⟩, hb3⟩
    have HE3 := Lib.hid (equalPairs_same A2 A3 (seenR l at_).length c2 c3 (seenR l at_) w3 ((HO2.out.below hb3).mono hb3.size) (RowAt.of_own ho3) rfl HSG.out.1 HSG.out.2)
    have HO3 := Lib.hid ((HO2.out.below hb3).mono hb3.size)
    have HB3 := Lib.hid (HB2.out.trans (hb3.mono HB2.out.size)); clear hb3 ho3
    go_wp2_with fail
    refine (HE3.out).mono ?_
    rintro e w4 ⟨rfl, hb4⟩
    have HO4 := Lib.hid ((HO3.out.below hb4).mono hb4.size)
    have HB4 := Lib.hid (HB3.out.trans (hb4.mono HB3.out.size)); clear hb4
    go_wp2_with fail
    refine (HV.out _ HB4.out).mono ?_
    rintro e w5 ⟨rfl, hb5⟩
    have HO5 := Lib.hid ((HO4.out.below hb5).mono hb5.size)
    have HB5 := Lib.hid (HB4.out.trans (hb5.mono HB4.out.size)); clear hb5
    cases hv : versB l
    · clear hv HLAST HNONE
      go_wp2_with fail
      refine (HS.out _ HB5.out).mono ?_
      rintro e w6 ⟨_, rfl, ⟨A6, c6, rfl, ho6⟩, hb6⟩
      have HE6 := Lib.hid (equalPairs_same A2 A6 (seenR l at_).length c2 c6 (seenR l at_) w6 ((HO5.out.below hb6).mono hb6.size) (RowAt.of_own ho6) rfl HSG.out.1 HSG.out.2)
      have HB6 := Lib.hid (HB5.out.trans (hb6.mono HB5.out.size)); clear hb6 ho6
      go_wp2_with fail
      refine (HE6.out).mono ?_
      rintro e w7 ⟨rfl, hb7⟩
      have HB7 := Lib.hid (HB6.out.trans (hb7.mono HB6.out.size)); clear hb7
      go_wp2_with fail
      go_ret
      exact ⟨rfl, HB1.out.trans (HB7.out.mono HB1.out.size)⟩
    by_cases h0 : at_ < 0
    · clear hv HLAST HNONE
      go_wp2_with fail
      refine (HS.out _ HB5.out).mono ?_
      rintro e w6 ⟨_, rfl, ⟨A6, c6, rfl, ho6⟩, hb6⟩
      have HE6 := Lib.hid (equalPairs_same A2 A6 (seenR l at_).length c2 c6 (seenR l at_) w6 ((HO5.out.below hb6).mono hb6.size) (RowAt.of_own ho6) rfl HSG.out.1 HSG.out.2)
      have HB6 := Lib.hid (HB5.out.trans (hb6.mono HB5.out.size)); clear hb6 ho6
      go_wp2_with fail
      refine (HE6.out).mono ?_
      rintro e w7 ⟨rfl, hb7⟩
      have HB7 := Lib.hid (HB6.out.trans (hb7.mono HB6.out.size)); clear hb7
      go_wp2_with fail
      go_ret
      exact ⟨rfl, HB1.out.trans (HB7.out.mono HB1.out.size)⟩
    by_cases h20 : (20 : Int) < at_
    · clear hv HLAST HNONE
      go_wp2_with fail
      refine (HS.out _ HB5.out).mono ?_
      rintro e w6 ⟨_, rfl, ⟨A6, c6, rfl, ho6⟩, hb6⟩
      have HE6 := Lib.hid (equalPairs_same A2 A6 (seenR l at_).length c2 c6 (seenR l at_) w6 ((HO5.out.below hb6).mono hb6.size) (RowAt.of_own ho6) rfl HSG.out.1 HSG.out.2)
      have HB6 := Lib.hid (HB5.out.trans (hb6.mono HB5.out.size)); clear hb6 ho6
      go_wp2_with fail
      refine (HE6.out).mono ?_
      rintro e w7 ⟨rfl, hb7⟩
      have HB7 := Lib.hid (HB6.out.trans (hb7.mono HB6.out.size)); clear hb7
      go_wp2_with fail
      go_ret
      exact ⟨rfl, HB1.out.trans (HB7.out.mono HB1.out.size)⟩
    have HL1 := Lib.hid (HLAST.out hv (by omega) (by omega))
    have HN1 := Lib.hid (HNONE.out hv)
    clear hv HLAST HNONE
    go_wp2_with fail
    refine (HT.out _ HB5.out).mono ?_
    rintro e w6 ⟨_, rfl, ⟨A6, c6, rfl, ho6⟩, hb6⟩
    have HO6 := Lib.hid ((HO5.out.below hb6).mono hb6.size)
    have HB6 := Lib.hid (HB5.out.trans (hb6.mono HB5.out.size)); clear hb6
    have HAT := Lib.hid (fun k (hk : k < (timesR l).length) => ints_at (RowAt.of_own ho6) hk)
    clear ho6
    have HZ := Lib.hid (show lastI (timesR l) at_ 0 = 0 from rfl)
    have HYES := Lib.hid (fun k (h : k < (timesR l).length) (ht : (timesR l)[k] ≤ at_) => lastI_yes h ht)
    have HNO := Lib.hid (fun k (h : k < (timesR l).length) (ht : ¬ (timesR l)[k] ≤ at_) => lastI_no h ht)
    generalize htl : timesR l = T at *
    have HTN := Lib.hid (show T.length = T.length from rfl)
    clear htl
    obtain ⟨tn, htn⟩ : ∃ tn, T.length = tn := ⟨_, rfl⟩
    have HTN2 := Lib.hid htn
    rw [htn] at HL1 HTL
    rw [htn]
    clear htn HTN
    go_wp2_with fail
    go_loop [7, 8] (fun q i => ∃ k : Nat, k ≤ tn ∧ i = .int .i64 k ∧ q = .int .i64 (lastI T at_ k)) (fun _ i => tn - (intOf i).toNat)
    case atStart => exact ⟨0, by omega, rfl, by rw [HZ.out]⟩
    case round =>
      obtain ⟨k, hk, rfl, rfl⟩ := hrel
      by_cases hlt : k < tn
      · have hkl : k < T.length := by have := HTN2.out; omega
        obtain ⟨b, off, hA, hbw, e0⟩ := HAT.out k hkl
        subst hA
        have hi1 : (k : Int) < (tn : Int) := by omega
        have htb : tn ≤ 1048576 := HTL.out
        have HY := Lib.hid (HYES.out k hkl)
        have HN := Lib.hid (HNO.out k hkl)
        generalize T[k] = t at *
        by_cases ht : t ≤ at_
        · have HQ := Lib.hid (HY.out ht)
          clear HY HN
          go_wp2_with fail
          go_round
          case rel => exact ⟨k + 1, by omega, by go_num, by rw [HQ.out]⟩
          case measure => simp [intOf]; omega
        · have HQ := Lib.hid (HN.out (by omega))
          clear HY HN
          go_wp2_with fail
          go_round
          case rel => exact ⟨k + 1, by omega, by go_num, by rw [HQ.out]⟩
          case measure => simp [intOf]; omega
      · obtain rfl : k = tn := by omega
        have HX := Lib.hid (HI.out (lastI T at_ k) _ HB6.out)
        rw [HL1.out] at HX
        generalize lastI T at_ k = la at *
        go_wp2_with fail
        refine (HX.out).mono ?_
        rintro e w7 ⟨_, rfl, ⟨A7, c7, rfl, ho7⟩, hb7⟩
        have HE7 := Lib.hid (equalPairs_same A7 A2 (seenR l at_).length c7 c2 (seenR l at_) w7 (RowAt.of_own ho7) ((HO6.out.below hb7).mono hb7.size) rfl HSG.out.1 HSG.out.2)
        have HB7 := Lib.hid (HB6.out.trans (hb7.mono HB6.out.size)); clear hb7 ho7
        go_wp2_with fail
        refine (HE7.out).mono ?_
        rintro e w8 ⟨rfl, hb8⟩
        have HB8 := Lib.hid (HB7.out.trans (hb8.mono HB7.out.size)); clear hb8
        have HX0 := Lib.hid (HI.out 0 _ HB8.out)
        rw [HN1.out] at HX0
        go_wp2_with fail
        refine (HX0.out).mono ?_
        rintro e w9 ⟨_, rfl, ⟨A9, c9, rfl, ho9⟩, hb9⟩
        have HB9 := Lib.hid (HB8.out.trans (hb9.mono HB8.out.size)); clear hb9 ho9
        go_wp2_with fail
        go_ret
        exact ⟨rfl, HB1.out.trans (HB9.out.mono HB1.out.size)⟩
  · go_enter Try.func14, Try.ntmps14
    go_wp2
    go_ret
    exact ⟨rfl, Below.refl _ _⟩
end Go.Proofs.Ytokmofkpjohlmaa
