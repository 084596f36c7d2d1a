/- Contracts of RunRecs, in the program and in the model (chapter 6). Conditions: the records lie in a row; they are few. -/
import Derived.Test.YthpfijhmdeciaaaRecV
import Derived.Test.YthpfijhmdeciaaaExInM
set_option linter.unusedVariables false
set_option linter.unusedSimpArgs false
namespace Go.Proofs.Ythpfijhmdeciaaa
open Go.RowKit Go.ChangeShapes Go.WideShapes

/-- the words behind the first records -/
def runW (l : List Rc) : Nat → List Int
  | 0 => [0, 0, 0]
  | k + 1 => if kd l k = 1 ∨ kd l k = 2 then (runW l k).set (pl l k).toNat (af l k) else runW l k
theorem runW_len (l : List Rc) : ∀ k, (runW l k).length = 3
  | 0 => rfl
  | k + 1 => by
    unfold runW
    split
    · rw [List.length_set]; exact runW_len l k
    · exact runW_len l k
theorem hist_pl (l : List Rc) : ∀ (k : Nat) (h : HP), histP l k = some h → (∀ i, i < k → (kd l i = 1 ∨ kd l i = 2) → 0 ≤ pl l i ∧ pl l i ≤ 2) ∧ h.wd = runW l k
  | 0, h, e => by injection e with e; rw [← e]; exact ⟨fun i hi => by omega, rfl⟩
  | k + 1, h, e => by
    unfold histP at e
    cases hk : histP l k with
    | none => rw [hk] at e; cases e
    | some g =>
      rw [hk] at e
      simp only at e
      split at e
      · rename_i hm
        injection e with e
        obtain ⟨h1, h2⟩ := hist_pl l k g hk
        have I := hist_inv l k g hk
        have hpl : (kd l k = 1 ∨ kd l k = 2) → 0 ≤ pl l k ∧ pl l k ≤ 2 := by
          unfold mayP at hm
          simp only [Bool.and_eq_true, decide_eq_true_eq] at hm
          obtain ⟨_, hK⟩ := hm
          unfold mayK at hK
          rintro (q | q)
          · have q' : (l.getD k rc0).1 = 1 := q
            rw [if_pos q'] at hK
            unfold mayW at hK
            simp only [Bool.and_eq_true, decide_eq_true_eq] at hK
            exact ⟨hK.1.1.1.1.1.1, hK.1.1.1.1.1.2⟩
          · have q' : (l.getD k rc0).1 = 2 := q
            rw [if_neg (by omega), if_pos q'] at hK
            unfold mayB at hK
            cases hl : (g.t (l.getD k rc0).2.1.toNat).st.getLast? with
            | none => rw [hl] at hK; cases hK
            | some i =>
              rw [hl] at hK
              simp only [decide_eq_true_eq] at hK
              obtain ⟨s1, s2, s3, s4, s5, _⟩ := I.stk _ i (List.mem_of_getLast? hl)
              have e2 : pl l k = pl l i := by
                unfold pl
                rw [hK]; rfl
              rw [e2]
              exact ⟨s4, s5⟩
        refine ⟨fun i hi hki => ?_, ?_⟩
        · rcases Nat.lt_succ_iff_lt_or_eq.1 hi with h3 | rfl
          · exact h1 i h3 hki
          · exact hpl hki
        · rw [← e]
          unfold addP runW
          simp only
          by_cases k1 : (l.getD k rc0).1 = 1
          · rw [if_pos k1, if_pos (.inl k1), h2]; rfl
          · rw [if_neg k1]
            by_cases k2 : (l.getD k rc0).1 = 2
            · rw [if_pos k2, if_pos (.inr k2), h2]; rfl
            · rw [if_neg k2, if_neg (by rintro (h | h); exact k1 h; exact k2 h), h2]
      · cases e
def rwF (L : List Int) (p : Nat) : Value := .int .i64 (L.getD p 0)
theorem mc_ints (L : List Int) (h : L.length = 3) : mcells (rwF L) 3 = intC L := by
  match L, h with
  | [a, b, c], _ => rfl
theorem own_ints {w : World} {B g : Nat} {L : List Int} (hl : L.length = 3) (h : RowG w B 3 g 3 (rwF L)) : OwnInts B L (.slice (some ⟨g, 0, none⟩) 3 3) w := by
  unfold RowG at h
  rw [mc_ints L hl] at h
  exact ⟨_, 3, by rw [hl], by rw [hl]; exact h⟩
theorem rwF_set (L : List Int) (p : Nat) (x : Int) (hl : L.length = 3) (hp : p < 3) (j : Nat) : (if j = p then Value.int .i64 x else rwF L j) = rwF (L.set p x) j := by
  unfold rwF
  rw [gd_set _ _ _ _ _ (by omega)]
  by_cases e : j = p
  · rw [if_pos e, if_pos e.symm]
  · rw [if_neg e, if_neg (fun e2 => e e2.symm)]
theorem af_good {l : List Rc} (hw : WfRc l) (k : Nat) : GoodIn (af l k) := by
  unfold af
  by_cases h : k < l.length
  · rw [rc_get h]
    exact (hw _ (List.getElem_mem h)).2.2.2.2
  · rw [List.getD_eq_getElem?_getD, List.getElem?_eq_none (by omega)]
    unfold GoodIn
    decide
theorem runW_good {l : List Rc} (hw : WfRc l) : ∀ k, ∀ p ∈ runW l k, GoodIn p
  | 0, p, hp => by
    simp [runW] at hp
    subst hp
    unfold GoodIn
    decide
  | k + 1, p, hp => by
    unfold runW at hp
    split at hp
    · rcases List.mem_or_eq_of_mem_set hp with h | h
      · exact runW_good hw k p h
      · rw [h]; exact af_good hw k
    · exact runW_good hw k p hp
def runR (l : List Rc) : List Int := if validP l = true then runW l l.length else []
theorem runR_good {l : List Rc} (hw : WfRc l) : (runR l).length ≤ 1048576 ∧ ∀ p ∈ runR l, GoodIn p := by
  unfold runR
  split
  · exact ⟨by rw [runW_len]; omega, runW_good hw _⟩
  · exact ⟨by simp, fun p hp => by cases hp⟩
theorem own_nilI (B : Nat) (w : World) : OwnInts B [] (.slice none 0 0) w := ⟨none, 0, rfl, World.ownsRow_nil _ _ _ _⟩
theorem valid_hist {l : List Rc} (h : validP l = true) : ∃ h, histP l l.length = some h := by
  unfold validP at h
  simp only [Bool.and_eq_true] at h
  exact Option.isSome_iff_exists.1 h.2

set_option maxRecDepth 100000 in
set_option maxHeartbeats 4000000 in
theorem sRunW_any (A : Option Addr) (k c : Nat) (l : List Rc) (w : World) (hr : RowAt w w.heap.size A (rcsC l)) (hk : k ≤ l.length) (hs : k ≤ 1048576) (hp : ∀ i, i < k → (kd l i = 1 ∨ kd l i = 2) → 0 ≤ pl l i ∧ pl l i ≤ 2) :
    Calls Try.prog 24 #[.slice A k c] w (IntsPost (runW l k) w) := by
  have HR := Lib.hid hr; clear hr
  have HK := Lib.hid hk; clear hk
  have HP := Lib.hid hp; clear hp
  obtain ⟨i0, hi0, hz0, hz1, hz2⟩ := info_parts intInfo
  have HI := Lib.hid (And.intro hi0 (And.intro hz0 (And.intro hz1 hz2))); clear hi0 hz0 hz1 hz2
  have hb3 : i0.bytes * 3 ≤ 281474976710656 := by rw [HI.out.2.2.2]; omega
  go_enter Try.func24, Try.ntmps24
  go_wp2_with ((refine wpList_make_full _ rfl _ _ 27 rfl w.heap.size 3 i0 (.int .i64 0) 1 Try.underlying27 HI.out.1 HI.out.2.1 HI.out.2.2.1 .i64 .i64 _ _ 3 rfl rfl rfl rfl hb3 (by unfold maxLen; omega) (Nat.le_refl _) ?_
                intro w1 hown hg1
                have HA1 := Lib.hid (RowG.start hown rfl)
                have HG1 := Lib.hid (Below.grown (Below.refl w.heap.size w) hg1 (Nat.le_refl _) (by simp))
                clear hown hg1))
  go_loopw [4] (fun i wr => ∃ j : Nat, i = .int .i64 j ∧ j ≤ k ∧ RowG wr w.heap.size 3 w.heap.size 3 (rwF (runW l j)) ∧ Below w.heap.size w wr) (fun i _ => k - (intOf i).toNat)
  case atStart =>
    refine ⟨0, rfl, by omega, HA1.out.congr (fun q hq => ?_), HG1.out⟩
    match q, hq with
    | 0, _ => rfl
    | 1, _ => rfl
    | 2, _ => rfl
  case round =>
    clear HA1 HG1
    obtain ⟨j, rfl, hj, hg, hb⟩ := hrel
    have HG := Lib.hid hg; clear hg
    have HB := Lib.hid hb; clear hb
    by_cases hlt : j < k
    · obtain ⟨b, off, rfl, hbw, e0, e1, e2, e3, e4⟩ := rc_cells_at (HR.out.below HB.out) (show j < l.length by have := HK.out; omega)
      have hbw2 : b < wr.heap.size := Nat.lt_of_lt_of_le hbw HB.out.size
      have hgl := HG.out.lt.2
      have hne : ¬ (w.heap.size = b) := by omega
      have HPJ := Lib.hid (HP.out j hlt)
      have HS := Lib.hid (show runW l (j + 1) = if kd l j = 1 ∨ kd l j = 2 then (runW l j).set (pl l j).toNat (af l j) else runW l j from rfl)
      obtain ⟨y0, h0⟩ : ∃ y, kd l j = y := ⟨_, rfl⟩
      obtain ⟨y2, h2⟩ : ∃ y, pl l j = y := ⟨_, rfl⟩
      obtain ⟨y4, h4⟩ : ∃ y, af l j = y := ⟨_, rfl⟩
      rw [h0] at e0 HS HPJ
      rw [h2] at e2 HS HPJ
      rw [h4] at e4 HS
      clear h0 h2 h4 e1 e3
      by_cases hw9 : y0 = 1 ∨ y0 = 2
      · have hpp := HPJ.out hw9
        obtain ⟨q, rfl⟩ : ∃ q : Nat, y2 = (q : Int) := ⟨y2.toNat, by omega⟩
        have hq3 : q < 3 := by omega
        have hq0 : (0 : Int) ≤ (q : Int) := by omega
        have hq3i : (q : Int) < 3 := by omega
        clear hpp
        obtain ⟨ca, fa⟩ := HG.out.cell hq3
        unfold rwF at ca
        have HN := Lib.hid (show RowG (wr.setCell ⟨w.heap.size, q, none⟩ (.int .i64 y4)) w.heap.size 3 w.heap.size 3 (rwF (runW l (j + 1))) from by
          rw [HS.out, if_pos hw9, Int.toNat_natCast]
          exact (HG.out.set q _).congr (fun p _ => rwF_set _ q y4 (runW_len l j) hq3 p))
        have HBN := Lib.hid (HB.out.setCell (p := ⟨w.heap.size, q, none⟩) (Nat.le_refl _) (.int .i64 y4))
        rcases hw9 with rfl | rfl
        · go_wp2_with fail
          go_region_with fail
          all_goals
            go_wp2_with fail
            go_roundw
            case rel => exact ⟨j + 1, by go_num, by omega, HN.out.keep (Below.drew (Below.refl _ _)), Below.drew HBN.out⟩
            case measure => simp [intOf] <;> omega
        · go_wp2_with fail
          go_region_with fail
          all_goals
            go_wp2_with fail
            go_roundw
            case rel => exact ⟨j + 1, by go_num, by omega, HN.out.keep (Below.drew (Below.refl _ _)), Below.drew HBN.out⟩
            case measure => simp [intOf] <;> omega
      · have q1 : (y0 == 1) = false := by simp; omega
        have q2 : (y0 == 2) = false := by simp; omega
        have HN := Lib.hid (show runW l (j + 1) = runW l j by rw [HS.out, if_neg hw9])
        clear hw9
        go_wp2_with fail
        go_roundw
        case rel => exact ⟨j + 1, by go_num, by omega, by rw [HN.out]; exact HG.out, HB.out⟩
        case measure => simp [intOf] <;> omega
    · obtain rfl : j = k := by omega
      go_wp2_with fail
      go_ret
      exact ⟨_, rfl, own_ints (runW_len l j) HG.out, HB.out⟩

set_option maxRecDepth 100000 in
set_option maxHeartbeats 4000000 in
theorem sRun_any (A : Option Addr) (n c : Nat) (l : List Rc) (w : World) (hr : RowAt w w.heap.size A (rcsC l)) (hn : n = l.length) (hs : n ≤ 1048576) (hw : WfRc l) (hnc : n ≤ c) :
    Calls Try.prog 13 #[.slice A n c] w (IntsPost (runR l) w) := by
  have HC := Lib.hid (sValid_any A n c l w hr hn hs hnc)
  have HW := Lib.hid (fun W (hb : Below w.heap.size w W) hp => sRunW_any A n c l W ((hr.below hb).mono hb.size) (by omega) hs hp)
  have HN := Lib.hid hn; clear hn hr
  have HF := Lib.hid (show runR l = if validP l = true then runW l l.length else [] from rfl)
  cases hv : validP l with
  | true =>
    rw [hv, if_pos rfl] at HF
    rw [hv] at HC
    obtain ⟨h, hh⟩ := valid_hist hv
    have HP := Lib.hid (hist_pl l l.length h hh).1
    clear hh hv
    go_enter Try.func13, Try.ntmps13
    go_wp2_with fail
    refine (HC.out).mono ?_
    rintro e w2 ⟨rfl, hb⟩
    have HB := Lib.hid hb; clear hb
    go_wp2_with fail
    refine (HW.out _ HB.out (fun i hi => HP.out i (by rw [← HN.out]; exact hi))).mono ?_
    rintro e w3 ⟨v, rfl, ho, hb3⟩
    have HO := Lib.hid (And.intro ho hb3); clear ho hb3
    go_wp2_with fail
    go_ret
    refine ⟨v, rfl, ?_, HB.out.trans (HO.out.2.mono HB.out.size)⟩
    rw [HF.out, ← HN.out]
    obtain ⟨A9, c9, e9, h9⟩ := HO.out.1
    exact ⟨A9, c9, e9, own_monoI h9 HB.out.size⟩
  | false =>
    rw [hv] at HF HC
    go_enter Try.func13, Try.ntmps13
    go_wp2_with fail
    refine (HC.out).mono ?_
    rintro e w2 ⟨rfl, hb⟩
    have HB := Lib.hid hb; clear hb
    go_wp2_with fail
    go_ret
    exact ⟨_, rfl, by rw [HF.out]; exact own_nilI _ _, HB.out⟩

set_option maxRecDepth 100000 in
set_option maxHeartbeats 4000000 in
theorem iRun_any (A : Option Addr) (n c : Nat) (l : List Rc) (w : World) (hr : RowAt w w.heap.size A (rcsC l)) (hn : n = l.length) (hs : n ≤ 1048576) (hw : WfRc l) :
    Calls Try.prog 11 #[.slice A n c] w (IntsPost (runR l) w) := by
  have HC := Lib.hid (iValid_any A n c l w hr hn hs)
  have HH := Lib.hid (fun W (hb : Below w.heap.size w W) => hist_any A n c l W ((hr.below hb).mono hb.size) hn hs)
  have HN := Lib.hid hn; clear hn hr
  have HF := Lib.hid (show runR l = if validP l = true then runW l l.length else [] from rfl)
  cases hv : validP l with
  | true =>
    rw [hv, if_pos rfl] at HF
    rw [hv] at HC
    have HV := Lib.hid hv
    clear hv
    go_enter Try.func11, Try.ntmps11
    go_wp2_with fail
    refine (HC.out).mono ?_
    rintro e w2 ⟨rfl, hb⟩
    have HB := Lib.hid hb; clear hb
    go_wp2_with fail
    refine (HH.out _ HB.out).mono ?_
    rintro e w3 ⟨hp, hb3⟩
    have HB3 := Lib.hid hb3; clear hb3
    rcases hp with ⟨h1, rfl⟩ | ⟨h, hb9, wb9, sv, h1, rfl, hm⟩
    · exfalso
      obtain ⟨h, hh⟩ := valid_hist HV.out
      rw [HN.out, hh] at h1
      cases h1
    · have cw := hm.words
      have HM := Lib.hid hm; clear hm
      have HWD := Lib.hid (hist_pl l n h h1).2
      go_wp2_with fail
      go_ret
      refine ⟨_, rfl, ?_, HB.out.trans (HB3.out.mono HB.out.size)⟩
      rw [HF.out, ← HN.out]
      have := own_ints (runW_len l n) (HM.out.w.congr (fun q _ => show nowF h q = rwF (runW l n) q by unfold nowF rwF HP.w; rw [HWD.out]))
      obtain ⟨A9, c9, e9, h9⟩ := this
      exact ⟨A9, c9, e9, own_monoI h9 HB.out.size⟩
  | false =>
    rw [hv] at HF HC
    go_enter Try.func11, Try.ntmps11
    go_wp2_with fail
    refine (HC.out).mono ?_
    rintro e w2 ⟨rfl, hb⟩
    have HB := Lib.hid hb; clear hb
    go_wp2_with fail
    go_ret
    exact ⟨_, rfl, by rw [HF.out]; exact own_nilI _ _, HB.out⟩
end Go.Proofs.Ythpfijhmdeciaaa
