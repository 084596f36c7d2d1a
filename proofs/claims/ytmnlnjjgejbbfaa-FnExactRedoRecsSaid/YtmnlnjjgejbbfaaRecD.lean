/- Contracts of DoneState, in the program and in the model (chapter 6). Conditions: the records lie in a row; they are few. -/
import Derived.Test.YtmnlnjjgejbbfaaRecR
set_option linter.unusedVariables false
set_option linter.unusedSimpArgs false
namespace Go.Proofs.Ytmnlnjjgejbbfaa
open Go.RowKit Go.ChangeShapes Go.WideShapes

theorem ends_succ (l : List Rc) (k t : Nat) : ends l (k + 1) t = if ends l k t ≠ 0 then ends l k t else if tn l k = t ∧ (kd l k = 3 ∨ kd l k = 4) then kd l k else 0 := rfl
theorem nb_succ (l : List Rc) (k t : Nat) : nb l (k + 1) t = if tn l k = t ∧ kd l k = 2 then nb l k t + 1 else nb l k t := rfl
theorem ends_stay (l : List Rc) (t : Nat) (j : Nat) (h : ends l j t ≠ 0) : ∀ k, j ≤ k → ends l k t = ends l j t := by
  intro k hk
  induction k with
  | zero => obtain rfl : j = 0 := by omega
            rfl
  | succ k ih =>
    rcases Nat.lt_or_eq_of_le hk with h1 | rfl
    · have := ih (by omega)
      rw [ends_succ, if_pos (by rw [this]; exact h), this]
    · rfl
/-- what every record of a history keeps -/
theorem hist_all (l : List Rc) : ∀ (k : Nat) (h : HP), histP l k = some h → (∀ i, i < k → 1 ≤ tn l i ∧ tn l i ≤ 4 ∧ 0 ≤ pl l i ∧ pl l i ≤ 2) ∧ (∀ t : Nat, ends l k t = 3 → nb l k t = 0)
  | 0, h, e => ⟨fun i hi => by omega, fun t ht => rfl⟩
  | k + 1, h, e => by
    have e9 := e
    unfold histP at e
    cases hk : histP l k with
    | none => rw [hk] at e; cases e
    | some g =>
      rw [hk] at e
      simp only at e
      split at e
      · rename_i hm
        obtain ⟨h1, h2⟩ := hist_all l k g hk
        have I := hist_inv l k g hk
        have hpl := (hist_pl l (k + 1) h e9).1 k (by omega)
        unfold mayP at hm
        simp only [Bool.and_eq_true, decide_eq_true_eq] at hm
        obtain ⟨⟨⟨t1, t4⟩, hfin⟩, hK⟩ := hm
        have hends : kd l k = 3 ∨ kd l k = 4 → pl l k = 0 ∧ (kd l k = 3 → nb l k (tn l k).toNat = 0) := by
          intro hq
          have hq' : (l.getD k rc0).1 = 3 ∨ (l.getD k rc0).1 = 4 := hq
          unfold mayK at hK
          rw [if_neg (by omega), if_neg (by omega), if_pos hq'] at hK
          unfold mayE at hK
          simp only [Bool.and_eq_true, decide_eq_true_eq] at hK
          refine ⟨?_, fun h3 => ?_⟩
          · show (l.getD k rc0).2.2.1 = 0
            rw [hK.1]
          · have h3' : (l.getD k rc0).1 = 3 := h3
            have h4 := hK.2
            rw [if_pos h3', I.bks] at h4
            show nb l k ((l.getD k rc0).2.1).toNat = 0
            simpa using h4
        have hkd : kd l k = 1 ∨ kd l k = 2 ∨ kd l k = 3 ∨ kd l k = 4 := by
          by_cases a1 : (l.getD k rc0).1 = 1
          · exact .inl a1
          · by_cases a2 : (l.getD k rc0).1 = 2
            · exact .inr (.inl a2)
            · unfold mayK at hK
              rw [if_neg a1, if_neg a2] at hK
              by_cases a3 : (l.getD k rc0).1 = 3 ∨ (l.getD k rc0).1 = 4
              · exact .inr (.inr a3)
              · rw [if_neg a3] at hK; cases hK
        refine ⟨fun i hi => ?_, fun t ht => ?_⟩
        · rcases Nat.lt_succ_iff_lt_or_eq.1 hi with h3 | rfl
          · exact h1 i h3
          · refine ⟨t1, t4, ?_⟩
            rcases hkd with a | a | a
            · exact hpl (.inl a)
            · exact hpl (.inr a)
            · have := (hends a).1; omega
        · by_cases htt : tn l k = (t : Int)
          · have hf0 : ends l k t = 0 := by
              have := I.fin t
              rw [← this]
              have e2 : (l.getD k rc0).2.1 = (t : Int) := htt
              rw [e2, Int.toNat_natCast] at hfin
              exact hfin
            rw [ends_succ, if_neg (by rw [hf0]; simp)] at ht
            by_cases a : tn l k = (t : Int) ∧ (kd l k = 3 ∨ kd l k = 4)
            · rw [if_pos a] at ht
              have := (hends a.2).2 ht
              rw [htt, Int.toNat_natCast] at this
              rw [nb_succ, if_neg (by omega)]
              exact this
            · rw [if_neg a] at ht; cases ht
          · have e3 : ends l (k + 1) t = ends l k t := by
              by_cases a : ends l k t ≠ 0
              · exact ends_stay l t k a (k + 1) (by omega)
              · rw [ends_succ, if_neg a, if_neg (fun h => htt h.1)]
                exact (Decidable.not_not.1 a).symm
            have e4 : nb l (k + 1) t = nb l k t := by rw [nb_succ, if_neg (fun h => htt h.1)]
            rw [e4]
            exact h2 t (by rw [← e3]; exact ht)
      · cases e
theorem nb_zero (l : List Rc) (t : Nat) : ∀ k, nb l k t = 0 → ∀ i, i < k → tn l i = (t : Int) → kd l i ≠ 2
  | 0, _, i, hi, _ => by omega
  | k + 1, h, i, hi, ht => by
    rw [nb_succ] at h
    split at h
    · omega
    · rename_i hne
      rcases Nat.lt_succ_iff_lt_or_eq.1 hi with h3 | rfl
      · exact nb_zero l t k h i h3 ht
      · exact fun h2 => hne ⟨ht, h2⟩

set_option maxHeartbeats 2000000 in
theorem ended_any (A : Option Addr) (k c : Nat) (l : List Rc) (t : Nat) (w : World) (hr : RowAt w w.heap.size A (rcsC l)) (hk : k ≤ l.length) (hs : k ≤ 1048576) :
    Calls Try.prog 52 #[.slice A k c, .int .i64 t] w fun e w' => e = .returned (.int .i64 (ends l k t)) ∧ w' = w := by
  have HR := Lib.hid hr; clear hr
  have HK := Lib.hid hk; clear hk
  go_enter Try.func52, Try.ntmps52
  go_wp2_with fail
  go_loop [5] (fun i => ∃ j : Nat, j ≤ k ∧ i = .int .i64 j ∧ ends l j t = 0) (fun i => k - (intOf i).toNat)
  case atStart => exact ⟨0, by omega, rfl, rfl⟩
  case round =>
    obtain ⟨j, hj, rfl, hz⟩ := hrel
    have HZ := Lib.hid hz; clear hz
    by_cases hlt : j < k
    · obtain ⟨b, off, rfl, hbw, e0, e1, _, _, _⟩ := rc_cells_at HR.out (show j < l.length by have := HK.out; omega)
      have HS := Lib.hid (show ends l (j + 1) t = if tn l j = t ∧ (kd l j = 3 ∨ kd l j = 4) then kd l j else 0 by
        show (if ends l j t ≠ 0 then ends l j t else if tn l j = t ∧ (kd l j = 3 ∨ kd l j = 4) then kd l j else 0) = _
        rw [if_neg (by rw [HZ.out]; simp)])
      have HE := Lib.hid (fun h => ends_stay l t (j + 1) h k (by omega))
      obtain ⟨x1, h1⟩ : ∃ y, tn l j = y := ⟨_, rfl⟩
      obtain ⟨x0, h0⟩ : ∃ y, kd l j = y := ⟨_, rfl⟩
      rw [h1] at e1 HS
      rw [h0] at e0 HS
      clear h0 h1
      by_cases h1 : x1 = (t : Int)
      · have q1 : (x1 == (t : Int)) = true := by simpa using h1
        by_cases h3 : x0 = 3
        · have HF := Lib.hid (show ends l k t = 3 by
            have e9 : ends l (j + 1) t = 3 := by rw [HS.out, if_pos ⟨h1, .inl h3⟩, h3]
            rw [HE.out (by rw [e9]; decide), e9])
          subst h3
          clear h1
          go_wp2_with fail
          go_ret
          exact ⟨by rw [HF.out]; rfl, rfl⟩
        · have q3 : (x0 == 3) = false := by simpa using h3
          by_cases h4 : x0 = 4
          · have HF := Lib.hid (show ends l k t = 4 by
              have e9 : ends l (j + 1) t = 4 := by rw [HS.out, if_pos ⟨h1, .inr h4⟩, h4]
              rw [HE.out (by rw [e9]; decide), e9])
            subst h4
            clear h1 h3
            go_wp2_with fail
            go_ret
            exact ⟨by rw [HF.out]; rfl, rfl⟩
          · have q4 : (x0 == 4) = false := by simpa using h4
            have HN := Lib.hid (show ends l (j + 1) t = 0 by rw [HS.out, if_neg (by rintro ⟨_, h | h⟩; exact h3 h; exact h4 h)])
            clear h1 h3 h4
            go_wp2_with fail
            go_round
            case rel => exact ⟨j + 1, by omega, by go_num, HN.out⟩
            case measure => simp [intOf] <;> omega
      · have q1 : (x1 == (t : Int)) = false := by simpa using h1
        have HN := Lib.hid (show ends l (j + 1) t = 0 by rw [HS.out, if_neg (fun h => h1 h.1)])
        clear h1
        go_wp2_with fail
        go_round
        case rel => exact ⟨j + 1, by omega, by go_num, HN.out⟩
        case measure => simp [intOf] <;> omega
    · obtain rfl : j = k := by omega
      go_wp2_with fail
      go_ret
      exact ⟨by rw [HZ.out]; rfl, rfl⟩

/-- the words behind the first records, of what has ended well -/
def doneW (l : List Rc) : Nat → List Int
  | 0 => [0, 0, 0]
  | k + 1 => if kd l k = 1 ∧ ends l l.length (tn l k).toNat = 3 then (doneW l k).set (pl l k).toNat (af l k) else doneW l k
theorem doneW_len (l : List Rc) : ∀ k, (doneW l k).length = 3
  | 0 => rfl
  | k + 1 => by
    unfold doneW
    split
    · rw [List.length_set]; exact doneW_len l k
    · exact doneW_len l k
theorem doneW_good {l : List Rc} (hw : WfRc l) : ∀ k, ∀ p ∈ doneW l k, GoodIn p
  | 0, p, hp => by
    simp [doneW] at hp
    subst hp
    unfold GoodIn
    decide
  | k + 1, p, hp => by
    unfold doneW at hp
    split at hp
    · rcases List.mem_or_eq_of_mem_set hp with h | h
      · exact doneW_good hw k p h
      · rw [h]; exact af_good hw k
    · exact doneW_good hw k p hp
def doneR (l : List Rc) : List Int := if validP l = true then doneW l l.length else []
theorem doneR_good {l : List Rc} (hw : WfRc l) : (doneR l).length ≤ 1048576 ∧ ∀ p ∈ doneR l, GoodIn p := by
  unfold doneR
  split
  · exact ⟨by rw [doneW_len]; omega, doneW_good hw _⟩
  · exact ⟨by simp, fun p hp => by cases hp⟩

set_option maxRecDepth 100000 in
set_option maxHeartbeats 8000000 in
theorem sDone_any (A : Option Addr) (n c : Nat) (l : List Rc) (w : World) (hr : RowAt w w.heap.size A (rcsC l)) (hn : n = l.length) (hs : n ≤ 1048576) (hw : WfRc l) (hnc : n ≤ c) :
    Calls Try.prog 28 #[.slice A n c] w (IntsPost (doneR l) w) := by
  have HC := Lib.hid (sValid_any A n c l w hr hn hs hnc)
  have HEN := Lib.hid (fun (t : Nat) W (hb : Below w.heap.size w W) => ended_any A n c l t W ((hr.below hb).mono hb.size) (by omega) hs)
  have HR := Lib.hid hr; clear hr
  have HN := Lib.hid hn; clear hn
  have HF := Lib.hid (show doneR l = if validP l = true then doneW l l.length else [] from rfl)
  obtain ⟨i0, hi0, hz0, hz1, hz2⟩ := info_parts intInfo
  have HI := Lib.hid (And.intro hi0 (And.intro hz0 (And.intro hz1 hz2))); clear hi0 hz0 hz1 hz2
  have hb3 : i0.bytes * 3 ≤ 281474976710656 := by rw [HI.out.2.2.2]; omega
  cases hv : validP l with
  | false =>
    rw [hv] at HF HC
    go_enter Try.func28, Try.ntmps28
    go_wp2_with fail
    refine (HC.out).mono ?_
    rintro e w2 ⟨rfl, hb⟩
    have HB := Lib.hid hb; clear hb
    go_wp2_with fail
    go_ret
    exact ⟨_, rfl, by rw [HF.out]; exact own_nilI _ _, HB.out⟩
  | true =>
  rw [hv, if_pos rfl] at HF
  rw [hv] at HC
  obtain ⟨h, hh⟩ := valid_hist hv
  have HP := Lib.hid (hist_all l l.length h hh).1
  clear hh hv
  go_enter Try.func28, Try.ntmps28
  go_wp2_with fail
  refine (HC.out).mono ?_
  rintro e w2 ⟨rfl, hb⟩
  have HB2 := Lib.hid hb; clear hb
  have h2s : w.heap.size ≤ w2.heap.size := HB2.out.size
  go_wp2_with ((refine wpList_make_full _ rfl _ _ 29 rfl w.heap.size 3 i0 (.int .i64 0) 1 Try.underlying29 HI.out.1 HI.out.2.1 HI.out.2.2.1 .i64 .i64 _ _ 3 rfl rfl rfl rfl hb3 (by unfold maxLen; omega) h2s ?_
                intro w1 hown hg1
                have HA1 := Lib.hid (RowG.start hown rfl)
                have HG1 := Lib.hid (Below.grown (Below.refl w2.heap.size w2) hg1 (Nat.le_refl _) (by simp))
                clear hown hg1))
  obtain ⟨g, hg⟩ : ∃ x, w2.heap.size = x := ⟨_, rfl⟩
  have HB1 := Lib.hid (HB2.out.trans (HG1.out.mono h2s))
  rw [hg] at HA1 h2s ⊢
  clear hg HG1
  go_loopw [4] (fun i wr => ∃ j : Nat, i = .int .i64 j ∧ j ≤ n ∧ RowG wr w.heap.size 3 g 3 (rwF (doneW l j)) ∧ Below w.heap.size w wr) (fun i _ => n - (intOf i).toNat)
  case atStart =>
    refine ⟨0, rfl, by omega, HA1.out.congr (fun q hq => ?_), HB1.out⟩
    match q, hq with
    | 0, _ => rfl
    | 1, _ => rfl
    | 2, _ => rfl
  case round =>
    clear HA1 HB1
    obtain ⟨j, rfl, hj, hg, hb⟩ := hrel
    have HG := Lib.hid hg; clear hg
    have HB := Lib.hid hb; clear hb
    by_cases hlt : j < n
    · obtain ⟨b, off, rfl, hbw, e0, e1, e2, e3, e4⟩ := rc_cells_at (HR.out.below HB.out) (show j < l.length by have := HN.out; omega)
      have hbw2 : b < wr.heap.size := Nat.lt_of_lt_of_le hbw HB.out.size
      have hgl := HG.out.lt.2
      have hne : ¬ (g = b) := by omega
      obtain ⟨p1, p4, pp0, pp2⟩ := HP.out j (by have := HN.out; omega)
      have HS := Lib.hid (show doneW l (j + 1) = if kd l j = 1 ∧ ends l n (tn l j).toNat = 3 then (doneW l j).set (pl l j).toNat (af l j) else doneW l j by rw [HN.out]; rfl)
      obtain ⟨y0, h0⟩ : ∃ y, kd l j = y := ⟨_, rfl⟩
      obtain ⟨y1, h1⟩ : ∃ y, tn l j = y := ⟨_, rfl⟩
      obtain ⟨y2, h2⟩ : ∃ y, pl l j = y := ⟨_, rfl⟩
      obtain ⟨y4, h4⟩ : ∃ y, af l j = y := ⟨_, rfl⟩
      rw [h0] at e0 HS
      rw [h1] at e1 HS p1 p4
      rw [h2] at e2 HS pp0 pp2
      rw [h4] at e4 HS
      clear h0 h1 h2 h4 e3
      obtain ⟨q, rfl⟩ : ∃ q : Nat, y2 = (q : Int) := ⟨y2.toNat, by omega⟩
      obtain ⟨t, rfl⟩ : ∃ q : Nat, y1 = (q : Int) := ⟨y1.toNat, by omega⟩
      have hq3 : q < 3 := by omega
      have hq0 : (0 : Int) ≤ (q : Int) := by omega
      have hq3i : (q : Int) < 3 := by omega
      clear pp0 pp2 p1 p4
      obtain ⟨ca, fa⟩ := HG.out.cell hq3
      unfold rwF at ca
      have HE := Lib.hid (HEN.out t wr HB.out)
      rw [Int.toNat_natCast, Int.toNat_natCast] at HS
      obtain ⟨en, hen⟩ : ∃ y, ends l n t = y := ⟨_, rfl⟩
      rw [hen] at HE HS
      clear hen
      by_cases hy1 : y0 = 1
      · subst hy1
        by_cases he3 : en = 3
        · subst he3
          have HNX := Lib.hid (show RowG (wr.setCell ⟨g, q, none⟩ (.int .i64 y4)) w.heap.size 3 g 3 (rwF (doneW l (j + 1))) from by
            rw [HS.out, if_pos ⟨rfl, rfl⟩]
            exact (HG.out.set q _).congr (fun p _ => rwF_set _ q y4 (doneW_len l j) hq3 p))
          have HBN := Lib.hid (HB.out.setCell (p := ⟨g, q, none⟩) h2s (.int .i64 y4))
          go_wp2_with fail
          refine (HE.out).mono ?_
          rintro e w5 ⟨rfl, hw5⟩
          obtain rfl := hw5.symm
          go_wp2_with fail
          go_region_with fail
          all_goals
            go_wp2_with fail
            go_roundw
            case rel => exact ⟨j + 1, by go_num, by omega, HNX.out.keep (Below.drew (Below.refl _ _)), Below.drew HBN.out⟩
            case measure => simp [intOf] <;> omega
        · have qe : (en == 3) = false := by simpa using he3
          have HNX := Lib.hid (show doneW l (j + 1) = doneW l j by rw [HS.out, if_neg (fun h => he3 h.2)])
          clear he3
          go_wp2_with fail
          refine (HE.out).mono ?_
          rintro e w5 ⟨rfl, hw5⟩
          obtain rfl := hw5.symm
          go_wp2_with fail
          go_roundw
          case rel => exact ⟨j + 1, by go_num, by omega, by rw [HNX.out]; exact HG.out, HB.out⟩
          case measure => simp [intOf] <;> omega
      · have q1 : (y0 == 1) = false := by simpa using hy1
        have HNX := Lib.hid (show doneW l (j + 1) = doneW l j by rw [HS.out, if_neg (fun h => hy1 h.1)])
        clear hy1
        go_wp2_with fail
        go_roundw
        case rel => exact ⟨j + 1, by go_num, by omega, by rw [HNX.out]; exact HG.out, HB.out⟩
        case measure => simp [intOf] <;> omega
    · obtain rfl : j = n := by omega
      go_wp2_with fail
      go_ret
      refine ⟨_, rfl, ?_, HB.out⟩
      rw [HF.out, ← HN.out]
      exact own_ints (doneW_len l j) HG.out

set_option maxRecDepth 100000 in
set_option maxHeartbeats 8000000 in
theorem iDone_any (A : Option Addr) (n c : Nat) (l : List Rc) (w : World) (hr : RowAt w w.heap.size A (rcsC l)) (hn : n = l.length) (hs : n ≤ 1048576) (hw : WfRc l) :
    Calls Try.prog 29 #[.slice A n c] w (IntsPost (doneR l) w) := by
  have HC := Lib.hid (iValid_any A n c l w hr hn hs)
  have HH := Lib.hid (fun W (hb : Below w.heap.size w W) => hist_any A n c l W ((hr.below hb).mono hb.size) hn hs)
  have HR := Lib.hid hr; clear hr
  have HN := Lib.hid hn; clear hn
  have HF := Lib.hid (show doneR l = if validP l = true then doneW l l.length else [] from rfl)
  obtain ⟨i0, hi0, hz0, hz1, hz2⟩ := info_parts intInfo
  have HI := Lib.hid (And.intro hi0 (And.intro hz0 (And.intro hz1 hz2))); clear hi0 hz0 hz1 hz2
  have hb3 : i0.bytes * 3 ≤ 281474976710656 := by rw [HI.out.2.2.2]; omega
  cases hv : validP l with
  | false =>
    rw [hv] at HF HC
    go_enter Try.func29, Try.ntmps29
    go_wp2_with fail
    refine (HC.out).mono ?_
    rintro e w2 ⟨rfl, hb⟩
    have HB := Lib.hid hb; clear hb
    go_wp2_with fail
    go_ret
    exact ⟨_, rfl, by rw [HF.out]; exact own_nilI _ _, HB.out⟩
  | true =>
  rw [hv, if_pos rfl] at HF
  rw [hv] at HC
  have HV := Lib.hid hv
  clear hv
  go_enter Try.func29, Try.ntmps29
  go_wp2_with fail
  refine (HC.out).mono ?_
  rintro e w9 ⟨rfl, hb⟩
  have HB := Lib.hid hb; clear hb
  go_wp2_with fail
  refine (HH.out _ HB.out).mono ?_
  rintro e w2 ⟨hp, hb3'⟩
  have HB2 := Lib.hid (HB.out.trans (hb3'.mono HB.out.size)); clear hb3'
  rcases hp with ⟨h1, rfl⟩ | ⟨h, hb9, wb9, sv, h1, rfl, hm⟩
  · exfalso
    obtain ⟨h, hh⟩ := valid_hist HV.out
    rw [HN.out, hh] at h1
    cases h1
  have hh := h1
  rw [HN.out] at hh
  have HA := Lib.hid (hist_all l l.length h hh)
  have HI9 := Lib.hid (hist_inv l l.length h hh)
  have HM := Lib.hid hm
  clear hm hh h1
  have h2s : w.heap.size ≤ w2.heap.size := HB2.out.size
  go_wp2_with ((refine wpList_make_full _ rfl _ _ 29 rfl w.heap.size 3 i0 (.int .i64 0) 1 Try.underlying29 HI.out.1 HI.out.2.1 HI.out.2.2.1 .i64 .i64 _ _ 3 rfl rfl rfl rfl hb3 (by unfold maxLen; omega) h2s ?_
                intro w1 hown hg1
                have HA1 := Lib.hid (RowG.start hown rfl)
                have HG1 := Lib.hid (Below.grown (Below.refl w2.heap.size w2) hg1 (Nat.le_refl _) (by simp))
                clear hown hg1))
  obtain ⟨g, hg⟩ : ∃ x, w2.heap.size = x := ⟨_, rfl⟩
  have HB1 := Lib.hid (HB2.out.trans (HG1.out.mono h2s))
  have HM1 := Lib.hid (HM.out.keep HG1.out)
  have hbg : hb9 ≠ g := by have := HM.out.lt.2.1; omega
  have hwg : wb9 ≠ g := by have := HM.out.lt.2.2.2; omega
  have HSG := Lib.hid (fun t (ht : t < 5) q9 (e : (sv t).ownBlock = some q9) => (show q9 ≠ g from by have := ((HM.out.s t ht).lt q9 e).2; omega))
  rw [hg] at HA1 h2s ⊢
  clear hg HG1 HM
  go_loopw [15] (fun i wr => ∃ j : Nat, i = .int .i64 j ∧ j ≤ n ∧ RowG wr w.heap.size 3 g 3 (rwF (doneW l j)) ∧ HAt w9.heap.size hb9 wb9 (.slice A n c) sv h wr ∧ Below w.heap.size w wr) (fun i _ => n - (intOf i).toNat)
  case atStart =>
    refine ⟨0, rfl, by omega, HA1.out.congr (fun q hq => ?_), HM1.out, HB1.out⟩
    match q, hq with
    | 0, _ => rfl
    | 1, _ => rfl
    | 2, _ => rfl
  case round =>
    clear HA1 HB1 HM1
    obtain ⟨j, rfl, hj, hg, hm, hb⟩ := hrel
    have HG := Lib.hid hg; clear hg
    have HB := Lib.hid hb; clear hb
    have HM := Lib.hid hm; clear hm
    by_cases hlt : j < n
    · obtain ⟨b, off, rfl, hbw, e0, e1, e2, e3, e4⟩ := rc_cells_at (HR.out.below HB.out) (show j < l.length by have := HN.out; omega)
      have hbw2 : b < wr.heap.size := Nat.lt_of_lt_of_le hbw HB.out.size
      have hgl := HG.out.lt.2
      have hhl := HM.out.lt.2.1
      obtain ⟨p1, p4, pp0, pp2⟩ := HA.out.1 j (by have := HN.out; omega)
      have HS := Lib.hid (show doneW l (j + 1) = if kd l j = 1 ∧ ends l l.length (tn l j).toNat = 3 then (doneW l j).set (pl l j).toNat (af l j) else doneW l j from rfl)
      have HNB := Lib.hid (fun (t : Nat) (ht : tn l j = (t : Int)) (h3 : ends l l.length t = 3) => nb_zero l t l.length (HA.out.2 t h3) j (by have := HN.out; omega) ht)
      obtain ⟨y0, h0⟩ : ∃ y, kd l j = y := ⟨_, rfl⟩
      obtain ⟨y1, h1⟩ : ∃ y, tn l j = y := ⟨_, rfl⟩
      obtain ⟨y2, h2⟩ : ∃ y, pl l j = y := ⟨_, rfl⟩
      obtain ⟨y3, h3⟩ : ∃ y, bf l j = y := ⟨_, rfl⟩
      obtain ⟨y4, h4⟩ : ∃ y, af l j = y := ⟨_, rfl⟩
      rw [h0] at e0 HS HNB
      rw [h1] at e1 HS p1 p4 HNB
      rw [h2] at e2 HS pp0 pp2
      rw [h3] at e3
      rw [h4] at e4 HS
      clear h0 h1 h2 h3 h4
      obtain ⟨q, rfl⟩ : ∃ q : Nat, y2 = (q : Int) := ⟨y2.toNat, by omega⟩
      obtain ⟨t, rfl⟩ : ∃ q : Nat, y1 = (q : Int) := ⟨y1.toNat, by omega⟩
      have hq3 : q < 3 := by omega
      have ht5 : t < 5 := by omega
      have ht0i : (0 : Int) ≤ (t : Int) := by omega
      have ht5i : (t : Int) < 5 := by omega
      clear pp0 pp2 p1 p4
      rw [Int.toNat_natCast, Int.toNat_natCast] at HS
      have HNB := Lib.hid (HNB.out t rfl)
      have hfin := (HM.out.tx ht5).2.2.2
      rw [HI9.out.fin t] at hfin
      obtain ⟨en, hen⟩ : ∃ y, ends l l.length t = y := ⟨_, rfl⟩
      rw [hen] at hfin HS HNB
      clear hen
      have HB2 := Lib.hid (HB.out.alloc HB.out.size (.cells #[.int .i64 y0, .int .i64 (t : Int), .int .i64 (q : Int), .int .i64 y3, .int .i64 y4] 42))
      have HBW := Lib.hid ((Below.refl wr.heap.size wr).alloc (Nat.le_refl _) (.cells #[.int .i64 y0, .int .i64 (t : Int), .int .i64 (q : Int), .int .i64 y3, .int .i64 y4] 42))
      by_cases he3 : en = 3
      · subst he3
        have hne2 := HNB.out rfl
        clear HNB
        by_cases hy1 : y0 = 1
        · subst hy1
          have HNX := Lib.hid (fun W (hgw : RowG W w.heap.size 3 g 3 (rwF (doneW l j))) => (show RowG (W.setCell ⟨g, q, none⟩ (.int .i64 y4)) w.heap.size 3 g 3 (rwF (doneW l (j + 1))) from by
            rw [HS.out, if_pos ⟨rfl, rfl⟩]
            exact (hgw.set q _).congr (fun p _ => rwF_set _ q y4 (doneW_len l j) hq3 p)))
          have HPU := Lib.hid (fun W (hgw : RowG W w.heap.size 3 g 3 (rwF (doneW l j))) => putTo_any 1 (t : Int) y3 y4 q g 0 0 w.heap.size _ _ W (.inl rfl) hgw hq3)
          go_wp2_with fail
          go_quiet (fail)
          go_wp2_with fail
          have HGW := Lib.hid ((HG.out.keep HBW.out).keep (below_drewN _ nq))
          have HMW := Lib.hid ((HM.out.keep HBW.out).keep (below_drewN _ nq))
          refine (HPU.out _ HGW.out).mono ?_
          rintro e w6 ⟨rfl, hb6⟩
          have HB6 := Lib.hid hb6; clear hb6
          have HG6 := Lib.hid ((HNX.out _ HGW.out).keep (HB6.out.mono (by simp)))
          have HM6 := Lib.hid (HAt.keep (show HAt w9.heap.size hb9 wb9 _ sv h (World.setCell _ ⟨g, q, none⟩ (.int .i64 y4)) from
            ⟨HMW.out.r.other (a := ⟨g, q, none⟩) hbg _, HMW.out.w.other (a := ⟨g, q, none⟩) hwg _, fun t' ht' => ownsRow_setCell_other (HMW.out.s t' ht') (a := ⟨g, q, none⟩) (fun e9 => HSG.out t' ht' _ e9 rfl) _, HMW.out.d, HMW.out.hw, HMW.out.hs, HMW.out.ws⟩) (HB6.out.mono (by simp)))
          have HBB := Lib.hid ((HB2.out.trans (below_drewN _ nq)).trans ((Below.setCell (Below.refl _ _) (p := ⟨g, q, none⟩) h2s (.int .i64 y4)).trans (HB6.out.mono (by have := HB.out.size; simp; omega))))
          go_wp2_with fail
          go_roundw
          case rel => exact ⟨j + 1, by go_num, by omega, HG6.out, HM6.out, HBB.out⟩
          case measure => simp [intOf] <;> omega
        · have HPU := Lib.hid (fun v W => putTo_not y0 (t : Int) (q : Int) y3 y4 v W hy1 hne2)
          have HNX := Lib.hid (show doneW l (j + 1) = doneW l j by rw [HS.out, if_neg (fun h => hy1 h.1)])
          clear hy1 hne2
          go_wp2_with fail
          go_quiet (fail)
          go_wp2_with fail
          refine (HPU.out _ _).mono ?_
          rintro e w6 ⟨rfl, hb6⟩
          have HB6 := Lib.hid (HBW.out.trans ((below_drewN _ nq).trans (hb6.mono (by simp)))); clear hb6
          go_wp2_with fail
          go_roundw
          case rel => exact ⟨j + 1, by go_num, by omega, by rw [HNX.out]; exact HG.out.keep HB6.out, HM.out.keep HB6.out, HB.out.trans (HB6.out.mono HB.out.size)⟩
          case measure => simp [intOf] <;> omega
      · have qe : (en == 3) = false := by simpa using he3
        have HNX := Lib.hid (show doneW l (j + 1) = doneW l j by rw [HS.out, if_neg (fun h => he3 h.2)])
        clear he3 HNB
        go_wp2_with fail
        go_quiet (fail)
        go_wp2_with fail
        go_roundw
        case rel => exact ⟨j + 1, by go_num, by omega, by rw [HNX.out]; exact HG.out.keep (HBW.out.trans (below_drewN _ _)), HM.out.keep (HBW.out.trans (below_drewN _ _)), HB2.out.trans (below_drewN _ _)⟩
        case measure => simp [intOf] <;> omega
    · obtain rfl : j = n := by omega
      go_wp2_with fail
      go_ret
      refine ⟨_, rfl, ?_, HB.out⟩
      rw [HF.out, ← HN.out]
      exact own_ints (doneW_len l j) HG.out
end Go.Proofs.Ytmnlnjjgejbbfaa
