/- Contracts of mayBeKept, DiskAfter and RedoRecs of the program (chapter 6). Conditions: the records and the numbers lie in rows; they are few. -/
import Derived.Test.YthpfijhmdeciaaaRecP
set_option linter.unusedVariables false
set_option linter.unusedSimpArgs false
namespace Go.Proofs.Ythpfijhmdeciaaa
open Go.RowKit Go.ChangeShapes Go.WideShapes

def diskW (l : List Rc) (ks : List Int) : Nat → List Int
  | 0 => [0, 0, 0]
  | k + 1 => if (kd l k = 1 ∨ kd l k = 2) ∧ k < kp ks (pl l k).toNat then (diskW l ks k).set (pl l k).toNat (af l k) else diskW l ks k
theorem diskW_len (l : List Rc) (ks : List Int) : ∀ k, (diskW l ks k).length = 3
  | 0 => rfl
  | k + 1 => by
    unfold diskW
    split
    · rw [List.length_set]; exact diskW_len l ks k
    · exact diskW_len l ks k
theorem diskW_at (l : List Rc) (ks : List Int) (n : Nat) (hp : ∀ i, i < n → (kd l i = 1 ∨ kd l i = 2) → 0 ≤ pl l i ∧ pl l i ≤ 2) : ∀ k, k ≤ n → ∀ p, p < 3 → (diskW l ks k).getD p 0 = (runW l (min k (kp ks p))).getD p 0
  | 0, _, p, hp3 => by rw [Nat.zero_min]; rfl
  | k + 1, hk, p, hp3 => by
    have ih := diskW_at l ks n hp k (by omega) p hp3
    by_cases h1 : kd l k = 1 ∨ kd l k = 2
    · have hpl := hp k (by omega) h1
      have hr : (runW l (k + 1)).getD p 0 = if (pl l k).toNat = p then af l k else (runW l k).getD p 0 := by
        show (if kd l k = 1 ∨ kd l k = 2 then (runW l k).set (pl l k).toNat (af l k) else runW l k).getD p 0 = _
        rw [if_pos h1, gd_set _ _ _ _ _ (by rw [runW_len]; omega)]
      have hd : (diskW l ks (k + 1)).getD p 0 = if k < kp ks (pl l k).toNat ∧ (pl l k).toNat = p then af l k else (diskW l ks k).getD p 0 := by
        show (if (kd l k = 1 ∨ kd l k = 2) ∧ k < kp ks (pl l k).toNat then (diskW l ks k).set (pl l k).toNat (af l k) else diskW l ks k).getD p 0 = _
        by_cases h2 : k < kp ks (pl l k).toNat
        · rw [if_pos ⟨h1, h2⟩, gd_set _ _ _ _ _ (by rw [diskW_len]; omega)]
          by_cases h3 : (pl l k).toNat = p
          · rw [if_pos h3, if_pos ⟨h2, h3⟩]
          · rw [if_neg h3, if_neg (fun h => h3 h.2)]
        · rw [if_neg (fun h => h2 h.2), if_neg (fun h => h2 h.1)]
      rw [hd]
      by_cases h4 : k < kp ks p
      · rw [show min (k + 1) (kp ks p) = k + 1 by omega, hr]
        rw [show min k (kp ks p) = k by omega] at ih
        by_cases h3 : (pl l k).toNat = p
        · rw [if_pos h3, if_pos ⟨by rw [h3]; exact h4, h3⟩]
        · rw [if_neg h3, if_neg (fun h => h3 h.2), ih]
      · rw [show min (k + 1) (kp ks p) = kp ks p by omega]
        rw [show min k (kp ks p) = kp ks p by omega] at ih
        rw [if_neg (by rintro ⟨h5, h6⟩; rw [h6] at h5; exact h4 h5), ih]
    · have hd : diskW l ks (k + 1) = diskW l ks k := by
        show (if (kd l k = 1 ∨ kd l k = 2) ∧ k < kp ks (pl l k).toNat then (diskW l ks k).set (pl l k).toNat (af l k) else diskW l ks k) = _
        rw [if_neg (fun h => h1 h.1)]
      have hr : runW l (k + 1) = runW l k := by
        show (if kd l k = 1 ∨ kd l k = 2 then (runW l k).set (pl l k).toNat (af l k) else runW l k) = _
        rw [if_neg h1]
      rw [hd, ih]
      by_cases h4 : k < kp ks p
      · rw [show min (k + 1) (kp ks p) = k + 1 by omega, show min k (kp ks p) = k by omega, hr]
      · rw [show min (k + 1) (kp ks p) = kp ks p by omega, show min k (kp ks p) = kp ks p by omega]
theorem diskW_end {l : List Rc} {ks : List Int} (hv : validP l = true) (hkb : keptB l.length ks = true) (q : Nat) (hq : q < 3) : rwF (diskW l ks l.length) q = rwF (diskL l ks) q := by
  obtain ⟨h, hh⟩ := valid_hist hv
  obtain ⟨_, hkp⟩ := kept_at hkb
  obtain ⟨k1, k2, k3⟩ := hkp q hq
  unfold rwF
  rw [diskW_at l ks l.length (hist_pl l l.length h hh).1 l.length (Nat.le_refl _) q hq, show min l.length (kp ks q) = kp ks q by omega]
  show _ = Value.int .i64 (((List.range 3).map (diskP l ks)).getD q 0)
  match q, hq with
  | 0, _ => rfl
  | 1, _ => rfl
  | 2, _ => rfl

set_option maxRecDepth 100000 in
set_option maxHeartbeats 8000000 in
theorem iKept_any (A Ak : Option Addr) (n c nk ck : Nat) (l : List Rc) (ks : List Int) (w : World) (hr : RowAt w w.heap.size A (rcsC l)) (hn : n = l.length) (hs : n ≤ 1048576)
    (hrk : RowAt w w.heap.size Ak (intC ks)) (hk : nk = ks.length) (hks : nk ≤ 1048576) :
    Calls Try.prog 26 #[.slice A n c, .slice Ak nk ck] w fun e w' => e = .returned (.bool (validP l && keptB n ks)) ∧ Below w.heap.size w w' := by
  have HC := Lib.hid (iValid_any A n c l w hr hn hs)
  have HRK := Lib.hid hrk; clear hrk hr
  have HN := Lib.hid hn; clear hn
  have HK := Lib.hid hk; clear hk
  cases hv : validP l with
  | false =>
    rw [hv] at HC
    go_enter Try.func26, Try.ntmps26
    go_wp2_with fail
    refine (HC.out).mono ?_
    rintro e w2 ⟨rfl, hb⟩
    have HB := Lib.hid hb; clear hb
    go_wp2_with fail
    go_ret
    exact ⟨rfl, HB.out⟩
  | true =>
    rw [hv] at HC
    rw [Bool.true_and]
    clear hv
    by_cases h3 : nk = 3
    · subst h3
      have HF := Lib.hid (show keptB n ks = (ks.take 3).all (fun x => decide (0 ≤ x) && decide (x ≤ (n : Int))) by unfold keptB; rw [← HK.out, show ks.take 3 = ks by rw [HK.out, List.take_length]]; simp)
      go_enter Try.func26, Try.ntmps26
      go_wp2_with fail
      refine (HC.out).mono ?_
      rintro e w2 ⟨rfl, hb⟩
      have HB := Lib.hid hb; clear hb
      go_wp2_with fail
      go_loop [17] (fun i => ∃ j : Nat, j ≤ 3 ∧ i = .int .i64 j ∧ (ks.take j).all (fun x => decide (0 ≤ x) && decide (x ≤ (n : Int))) = true) (fun i => 3 - (intOf i).toNat)
      case atStart => exact ⟨0, by omega, rfl, by simp⟩
      case round =>
        obtain ⟨j, hj, rfl, ha⟩ := hrel
        have HA := Lib.hid ha; clear ha
        by_cases hlt : j < 3
        · have hjl : j < ks.length := by have := HK.out; omega
          have hj3 : (j : Int) < 3 := by omega
          obtain ⟨b, off, rfl, hbw, e0⟩ := ints_at (HRK.out.below HB.out) hjl
          have hbw2 : b < w2.heap.size := Nat.lt_of_lt_of_le hbw HB.out.size
          have HT := Lib.hid (show (ks.take (j + 1)).all (fun x => decide (0 ≤ x) && decide (x ≤ (n : Int))) = (decide (0 ≤ ks[j]) && decide (ks[j] ≤ (n : Int))) by
            rw [List.take_succ_eq_append_getElem hjl, List.all_append, HA.out]; simp)
          have HBAD := Lib.hid (fun (h : (decide (0 ≤ ks[j]) && decide (ks[j] ≤ (n : Int))) = false) => (show keptB n ks = false from by
            unfold keptB
            rw [Bool.and_eq_false_iff]
            left
            rw [List.all_eq_false]
            exact ⟨ks[j], List.getElem_mem hjl, by rw [h]; simp⟩))
          obtain ⟨x, hx⟩ : ∃ y, ks[j] = y := ⟨_, rfl⟩
          rw [hx] at e0 HT HBAD
          clear hx
          by_cases hx0 : x < 0
          · have hd0 : decide (x < 0) = true := by simpa using hx0
            have HF2 := Lib.hid (HBAD.out (by rw [show decide (0 ≤ x) = false by simp; omega]; rfl))
            clear hx0
            go_wp2_with fail
            go_ret
            exact ⟨by rw [HF2.out]; rfl, HB.out⟩
          · have hd0 : decide (x < 0) = false := by simp; omega
            by_cases hxn : (n : Int) < x
            · have hd1 : decide ((n : Int) < x) = true := by simpa using hxn
              have HF2 := Lib.hid (HBAD.out (by rw [show decide (x ≤ (n : Int)) = false by simp; omega, Bool.and_false]))
              clear hxn hx0
              go_wp2_with fail
              go_ret
              exact ⟨by rw [HF2.out]; rfl, HB.out⟩
            · have hd1 : decide ((n : Int) < x) = false := by simp; omega
              have HT2 := Lib.hid (show (ks.take (j + 1)).all (fun x => decide (0 ≤ x) && decide (x ≤ (n : Int))) = true by
                rw [HT.out, show decide (0 ≤ x) = true by simp; omega, show decide (x ≤ (n : Int)) = true by simp; omega]; rfl)
              clear hxn hx0
              go_wp2_with fail
              go_round
              case rel => exact ⟨j + 1, by omega, by go_num, HT2.out⟩
              case measure => simp [intOf] <;> omega
        · obtain rfl : j = 3 := by omega
          have HF3 := Lib.hid (show keptB n ks = true by rw [HF.out, HA.out])
          go_wp2_with fail
          go_ret
          exact ⟨by rw [HF3.out]; rfl, HB.out⟩
    · have HF := Lib.hid (show keptB n ks = false by unfold keptB; rw [← HK.out, show (nk == 3) = false by simpa using h3, Bool.and_false])
      have q3 : ((nk : Int) != 3) = true := by simp; omega
      clear h3
      go_enter Try.func26, Try.ntmps26
      go_wp2_with fail
      refine (HC.out).mono ?_
      rintro e w2 ⟨rfl, hb⟩
      have HB := Lib.hid hb; clear hb
      go_wp2_with fail
      go_ret
      exact ⟨by rw [HF.out]; rfl, HB.out⟩

def Row3 (L : List Int) (w : World) (e : Ending) (w' : World) : Prop := ∃ g, e = .returned (.slice (some ⟨g, 0, none⟩) 3 3) ∧ RowG w' w.heap.size 3 g 3 (rwF L) ∧ Below w.heap.size w w'
theorem row3_ints {L : List Int} {w w' : World} {e : Ending} (hl : L.length = 3) (h : Row3 L w e w') : IntsPost L w e w' := by
  obtain ⟨g, h1, h2, h3⟩ := h
  exact ⟨_, h1, own_ints hl h2, h3⟩

set_option maxRecDepth 100000 in
set_option maxHeartbeats 8000000 in
theorem iDiskA_any (A Ak : Option Addr) (n c nk ck : Nat) (l : List Rc) (ks : List Int) (w : World) (hr : RowAt w w.heap.size A (rcsC l)) (hn : n = l.length) (hs : n ≤ 1048576)
    (hrk : RowAt w w.heap.size Ak (intC ks)) (hk : nk = ks.length) (hks : nk ≤ 1048576) (hv : validP l = true) (hkb : keptB n ks = true) :
    Calls Try.prog 15 #[.slice A n c, .slice Ak nk ck] w (Row3 (diskL l ks) w) := by
  have HC := Lib.hid (iKept_any A Ak n c nk ck l ks w hr hn hs hrk hk hks)
  rw [hv, hkb] at HC
  obtain ⟨hk3, hkp⟩ := kept_at hkb
  have HNK := Lib.hid (show nk = 3 by omega)
  have HKP := Lib.hid hkp; clear hkp
  obtain ⟨h, hh⟩ := valid_hist hv
  have HP := Lib.hid (hist_all l l.length h hh).1
  have HEND := Lib.hid (fun q hq => diskW_end hv (by rw [← hn]; exact hkb) q hq)
  clear hh hv hkb
  have HR := Lib.hid hr; clear hr
  have HRK := Lib.hid hrk; clear hrk
  have HN := Lib.hid hn; clear hn
  have HK3 := Lib.hid hk3; clear hk hk3
  obtain ⟨i0, hi0, hz0, hz1, hz2⟩ := info_parts intInfo
  have HI := Lib.hid (And.intro hi0 (And.intro hz0 (And.intro hz1 hz2))); clear hi0 hz0 hz1 hz2
  have hb3 : i0.bytes * 3 ≤ 281474976710656 := by rw [HI.out.2.2.2]; omega
  go_enter Try.func15, Try.ntmps15
  go_wp2_with fail
  refine (HC.out).mono ?_
  rintro e w2 ⟨rfl, hb⟩
  have HB2 := Lib.hid hb; clear hb
  have h2s : w.heap.size ≤ w2.heap.size := HB2.out.size
  go_wp2_with ((refine wpList_make_full _ rfl _ _ 27 rfl w.heap.size 3 i0 (.int .i64 0) 1 Try.underlying27 HI.out.1 HI.out.2.1 HI.out.2.2.1 .i64 .i64 _ _ 3 rfl rfl rfl rfl hb3 (by unfold maxLen; omega) h2s ?_
                intro w1 hown hg1
                have HA1 := Lib.hid (RowG.start hown rfl)
                have HG1 := Lib.hid (Below.grown (Below.refl w2.heap.size w2) hg1 (Nat.le_refl _) (by simp))
                clear hown hg1))
  obtain ⟨g, hg⟩ : ∃ x, w2.heap.size = x := ⟨_, rfl⟩
  have HB1 := Lib.hid (HB2.out.trans (HG1.out.mono h2s))
  rw [hg] at HA1 h2s ⊢
  clear hg HG1
  go_loopw [15] (fun i wr => ∃ j : Nat, i = .int .i64 j ∧ j ≤ n ∧ RowG wr w.heap.size 3 g 3 (rwF (diskW l ks j)) ∧ Below w.heap.size w wr) (fun i _ => n - (intOf i).toNat)
  case atStart =>
    refine ⟨0, rfl, by omega, HA1.out.congr (fun q hq => ?_), HB1.out⟩
    match q, hq with
    | 0, _ => rfl
    | 1, _ => rfl
    | 2, _ => rfl
  case round =>
    clear HA1 HB1
    obtain ⟨j, rfl, hj, hg, hb⟩ := hrel
    have HG := Lib.hid hg; clear hg
    have HB := Lib.hid hb; clear hb
    by_cases hlt : j < n
    · obtain ⟨b, off, rfl, hbw, e0, e1, e2, e3, e4⟩ := rc_cells_at (HR.out.below HB.out) (show j < l.length by have := HN.out; omega)
      have hbw2 : b < wr.heap.size := Nat.lt_of_lt_of_le hbw HB.out.size
      have hgl := HG.out.lt.2
      obtain ⟨_, _, pp0, pp2⟩ := HP.out j (by have := HN.out; omega)
      have HS := Lib.hid (show diskW l ks (j + 1) = if (kd l j = 1 ∨ kd l j = 2) ∧ j < kp ks (pl l j).toNat then (diskW l ks j).set (pl l j).toNat (af l j) else diskW l ks j from rfl)
      obtain ⟨y0, h0⟩ : ∃ y, kd l j = y := ⟨_, rfl⟩
      obtain ⟨y1, h1⟩ : ∃ y, tn l j = y := ⟨_, rfl⟩
      obtain ⟨y2, h2⟩ : ∃ y, pl l j = y := ⟨_, rfl⟩
      obtain ⟨y3, h3⟩ : ∃ y, bf l j = y := ⟨_, rfl⟩
      obtain ⟨y4, h4⟩ : ∃ y, af l j = y := ⟨_, rfl⟩
      rw [h0] at e0 HS
      rw [h1] at e1
      rw [h2] at e2 HS pp0 pp2
      rw [h3] at e3
      rw [h4] at e4 HS
      clear h0 h1 h2 h3 h4
      obtain ⟨q, rfl⟩ : ∃ q : Nat, y2 = (q : Int) := ⟨y2.toNat, by omega⟩
      have hq3 : q < 3 := by omega
      have hq0 : (0 : Int) ≤ (q : Int) := by omega
      clear pp0 pp2
      rw [Int.toNat_natCast] at HS
      obtain ⟨bk, ok, rfl, hbk, ek⟩ := ints_at (HRK.out.below HB.out) (show q < ks.length by have := HK3.out; omega)
      have hkx : ks[q]'(by have := HK3.out; omega) = (kp ks q : Int) := by rw [← (HKP.out q hq3).2.2]; simp [List.getD_eq_getElem?_getD, HK3.out, hq3]
      rw [hkx] at ek
      have hbk2 : bk < wr.heap.size := Nat.lt_of_lt_of_le hbk HB.out.size
      have hqn : (q : Int) < (nk : Int) := by have := HNK.out; omega
      obtain ⟨kq, hkq⟩ : ∃ y, kp ks q = y := ⟨_, rfl⟩
      rw [hkq] at ek HS
      clear hkx hkq
      have HB2 := Lib.hid (HB.out.alloc HB.out.size (.cells #[.int .i64 y0, .int .i64 y1, .int .i64 (q : Int), .int .i64 y3, .int .i64 y4] 31))
      have HBW := Lib.hid ((Below.refl wr.heap.size wr).alloc (Nat.le_refl _) (.cells #[.int .i64 y0, .int .i64 y1, .int .i64 (q : Int), .int .i64 y3, .int .i64 y4] 31))
      by_cases hge : j < kq
      · have hgd : decide ((j : Int) < (kq : Int)) = true := by simpa using hge
        by_cases hw9 : y0 = 1 ∨ y0 = 2
        · have HNX := Lib.hid (fun W (hgw : RowG W w.heap.size 3 g 3 (rwF (diskW l ks j))) => (show RowG (W.setCell ⟨g, q, none⟩ (.int .i64 y4)) w.heap.size 3 g 3 (rwF (diskW l ks (j + 1))) from by
            rw [HS.out, if_pos ⟨hw9, hge⟩]
            exact (hgw.set q _).congr (fun p _ => rwF_set _ q y4 (diskW_len l ks j) hq3 p)))
          have HPU := Lib.hid (fun W (hgw : RowG W w.heap.size 3 g 3 (rwF (diskW l ks j))) => putTo_any y0 y1 y3 y4 q g 0 0 w.heap.size _ _ W hw9 hgw hq3)
          have HGW := Lib.hid (HG.out.keep HBW.out)
          clear hw9
          go_wp2_with fail
          refine (HPU.out _ HGW.out).mono ?_
          rintro e w6 ⟨rfl, hb6⟩
          have HB6 := Lib.hid hb6; clear hb6
          have HG6 := Lib.hid ((HNX.out _ HGW.out).keep (HB6.out.mono (by simp)))
          have HBB := Lib.hid (HB2.out.trans ((Below.setCell (Below.refl _ _) (p := ⟨g, q, none⟩) h2s (.int .i64 y4)).trans (HB6.out.mono (by have := HB.out.size; simp; omega))))
          go_wp2_with fail
          go_roundw
          case rel => exact ⟨j + 1, by go_num, by omega, HG6.out, HBB.out⟩
          case measure => simp [intOf] <;> omega
        · have HPU := Lib.hid (fun v W => putTo_not y0 y1 (q : Int) y3 y4 v W (fun e => hw9 (.inl e)) (fun e => hw9 (.inr e)))
          have HNX := Lib.hid (show diskW l ks (j + 1) = diskW l ks j by rw [HS.out, if_neg (fun h => hw9 h.1)])
          clear hw9
          go_wp2_with fail
          refine (HPU.out _ _).mono ?_
          rintro e w6 ⟨rfl, hb6⟩
          have HB6 := Lib.hid (HBW.out.trans (hb6.mono (by simp))); clear hb6
          go_wp2_with fail
          go_roundw
          case rel => exact ⟨j + 1, by go_num, by omega, by rw [HNX.out]; exact HG.out.keep HB6.out, HB.out.trans (HB6.out.mono HB.out.size)⟩
          case measure => simp [intOf] <;> omega
      · have hgd : decide ((j : Int) < (kq : Int)) = false := by simpa using hge
        have HNX := Lib.hid (show diskW l ks (j + 1) = diskW l ks j by rw [HS.out, if_neg (fun h => hge h.2)])
        go_wp2_with fail
        go_roundw
        case rel => exact ⟨j + 1, by go_num, by omega, by rw [HNX.out]; exact HG.out.keep HBW.out, HB2.out⟩
        case measure => simp [intOf] <;> omega
    · obtain rfl : j = n := by omega
      go_wp2_with fail
      go_ret
      exact ⟨g, rfl, HG.out.congr (fun q hq => by rw [HN.out]; exact HEND.out q hq), HB.out⟩

set_option maxRecDepth 100000 in
set_option maxHeartbeats 4000000 in
theorem iDisk_any (A Ak : Option Addr) (n c nk ck : Nat) (l : List Rc) (ks : List Int) (w : World) (hr : RowAt w w.heap.size A (rcsC l)) (hn : n = l.length) (hs : n ≤ 1048576)
    (hrk : RowAt w w.heap.size Ak (intC ks)) (hk : nk = ks.length) (hks : nk ≤ 1048576) :
    Calls Try.prog 15 #[.slice A n c, .slice Ak nk ck] w (IntsPost (diskR l ks) w) := by
  have HF := Lib.hid (show diskR l ks = if (validP l && keptB n ks) = true then diskL l ks else [] by rw [hn]; rfl)
  cases hvk : validP l && keptB n ks with
  | true =>
    have h2 := hvk
    rw [Bool.and_eq_true] at h2
    rw [hvk, if_pos rfl] at HF
    refine (iDiskA_any A Ak n c nk ck l ks w hr hn hs hrk hk hks h2.1 h2.2).mono ?_
    intro e w' h9
    rw [HF.out]
    exact row3_ints rfl h9
  | false =>
    rw [hvk] at HF
    have HC := Lib.hid (iKept_any A Ak n c nk ck l ks w hr hn hs hrk hk hks)
    rw [hvk] at HC
    clear hr hn hrk hk hvk
    go_enter Try.func15, Try.ntmps15
    go_wp2_with fail
    refine (HC.out).mono ?_
    rintro e w2 ⟨rfl, hb⟩
    have HB := Lib.hid hb; clear hb
    go_wp2_with fail
    go_ret
    exact ⟨_, rfl, by rw [HF.out]; exact own_nilI _ _, HB.out⟩

set_option maxRecDepth 100000 in
set_option maxHeartbeats 8000000 in
theorem iRedoA_any (A Ak : Option Addr) (n c nk ck : Nat) (l : List Rc) (ks : List Int) (w : World) (hr : RowAt w w.heap.size A (rcsC l)) (hn : n = l.length) (hs : n ≤ 1048576)
    (hrk : RowAt w w.heap.size Ak (intC ks)) (hk : nk = ks.length) (hks : nk ≤ 1048576) (hv : validP l = true) (hkb : keptB n ks = true) :
    Calls Try.prog 18 #[.slice A n c, .slice Ak nk ck] w (Row3 (redoW l ks n) w) := by
  have HC := Lib.hid (iKept_any A Ak n c nk ck l ks w hr hn hs hrk hk hks)
  have HDI := Lib.hid (fun W (hb : Below w.heap.size w W) => iDiskA_any A Ak n c nk ck l ks W ((hr.below hb).mono hb.size) hn hs ((hrk.below hb).mono hb.size) hk hks hv hkb)
  rw [hv, hkb] at HC
  obtain ⟨hk3, hkp⟩ := kept_at hkb
  have HNK := Lib.hid (show nk = 3 by omega)
  have HKP := Lib.hid hkp; clear hkp
  obtain ⟨h, hh⟩ := valid_hist hv
  have HP := Lib.hid (hist_all l l.length h hh).1
  have HEND := Lib.hid (fun q hq => diskW_end hv (by rw [← hn]; exact hkb) q hq)
  clear hh hv hkb
  have HR := Lib.hid hr; clear hr
  have HRK := Lib.hid hrk; clear hrk
  have HN := Lib.hid hn; clear hn
  have HK3 := Lib.hid hk3; clear hk hk3
  obtain ⟨i0, hi0, hz0, hz1, hz2⟩ := info_parts intInfo
  have HI := Lib.hid (And.intro hi0 (And.intro hz0 (And.intro hz1 hz2))); clear hi0 hz0 hz1 hz2
  have hb3 : i0.bytes * 3 ≤ 281474976710656 := by rw [HI.out.2.2.2]; omega
  go_enter Try.func18, Try.ntmps18
  go_wp2_with fail
  refine (HC.out).mono ?_
  rintro e w2 ⟨rfl, hb⟩
  have HB2 := Lib.hid hb; clear hb
  have h2s : w.heap.size ≤ w2.heap.size := HB2.out.size
  go_wp2_with fail
  refine (HDI.out _ HB2.out).mono ?_
  rintro e w1 ⟨g, rfl, hrow, hb1⟩
  have HA1 := Lib.hid (own_monoI hrow h2s)
  have HB1 := Lib.hid (HB2.out.trans (hb1.mono h2s))
  replace h2s : w.heap.size ≤ g := Nat.le_trans h2s (World.ownsRow.lt hrow g rfl).1
  clear hrow hb1
  go_wp2_with fail
  go_loopw [17] (fun i wr => ∃ j : Nat, i = .int .i64 j ∧ j ≤ n ∧ RowG wr w.heap.size 3 g 3 (rwF (redoW l ks j)) ∧ Below w.heap.size w wr) (fun i _ => n - (intOf i).toNat)
  case atStart =>
    exact ⟨0, rfl, by omega, HA1.out, HB1.out⟩
  case round =>
    clear HA1 HB1
    obtain ⟨j, rfl, hj, hg, hb⟩ := hrel
    have HG := Lib.hid hg; clear hg
    have HB := Lib.hid hb; clear hb
    by_cases hlt : j < n
    · obtain ⟨b, off, rfl, hbw, e0, e1, e2, e3, e4⟩ := rc_cells_at (HR.out.below HB.out) (show j < l.length by have := HN.out; omega)
      have hbw2 : b < wr.heap.size := Nat.lt_of_lt_of_le hbw HB.out.size
      have hgl := HG.out.lt.2
      obtain ⟨_, _, pp0, pp2⟩ := HP.out j (by have := HN.out; omega)
      have HS := Lib.hid (show redoW l ks (j + 1) = if (kd l j = 1 ∨ kd l j = 2) ∧ kp ks (pl l j).toNat ≤ j then (redoW l ks j).set (pl l j).toNat (af l j) else redoW l ks j from rfl)
      obtain ⟨y0, h0⟩ : ∃ y, kd l j = y := ⟨_, rfl⟩
      obtain ⟨y1, h1⟩ : ∃ y, tn l j = y := ⟨_, rfl⟩
      obtain ⟨y2, h2⟩ : ∃ y, pl l j = y := ⟨_, rfl⟩
      obtain ⟨y3, h3⟩ : ∃ y, bf l j = y := ⟨_, rfl⟩
      obtain ⟨y4, h4⟩ : ∃ y, af l j = y := ⟨_, rfl⟩
      rw [h0] at e0 HS
      rw [h1] at e1
      rw [h2] at e2 HS pp0 pp2
      rw [h3] at e3
      rw [h4] at e4 HS
      clear h0 h1 h2 h3 h4
      obtain ⟨q, rfl⟩ : ∃ q : Nat, y2 = (q : Int) := ⟨y2.toNat, by omega⟩
      have hq3 : q < 3 := by omega
      have hq0 : (0 : Int) ≤ (q : Int) := by omega
      clear pp0 pp2
      rw [Int.toNat_natCast] at HS
      obtain ⟨bk, ok, rfl, hbk, ek⟩ := ints_at (HRK.out.below HB.out) (show q < ks.length by have := HK3.out; omega)
      have hkx : ks[q]'(by have := HK3.out; omega) = (kp ks q : Int) := by rw [← (HKP.out q hq3).2.2]; simp [List.getD_eq_getElem?_getD, HK3.out, hq3]
      rw [hkx] at ek
      have hbk2 : bk < wr.heap.size := Nat.lt_of_lt_of_le hbk HB.out.size
      have hqn : (q : Int) < (nk : Int) := by have := HNK.out; omega
      obtain ⟨kq, hkq⟩ : ∃ y, kp ks q = y := ⟨_, rfl⟩
      rw [hkq] at ek HS
      clear hkx hkq
      have HB2 := Lib.hid (HB.out.alloc HB.out.size (.cells #[.int .i64 y0, .int .i64 y1, .int .i64 (q : Int), .int .i64 y3, .int .i64 y4] 31))
      have HBW := Lib.hid ((Below.refl wr.heap.size wr).alloc (Nat.le_refl _) (.cells #[.int .i64 y0, .int .i64 y1, .int .i64 (q : Int), .int .i64 y3, .int .i64 y4] 31))
      by_cases hge : kq ≤ j
      · have hgd : decide ((kq : Int) ≤ (j : Int)) = true := by simpa using hge
        by_cases hw9 : y0 = 1 ∨ y0 = 2
        · have HNX := Lib.hid (fun W (hgw : RowG W w.heap.size 3 g 3 (rwF (redoW l ks j))) => (show RowG (W.setCell ⟨g, q, none⟩ (.int .i64 y4)) w.heap.size 3 g 3 (rwF (redoW l ks (j + 1))) from by
            rw [HS.out, if_pos ⟨hw9, hge⟩]
            exact (hgw.set q _).congr (fun p _ => rwF_set _ q y4 (redoW_len l ks j) hq3 p)))
          have HPU := Lib.hid (fun W (hgw : RowG W w.heap.size 3 g 3 (rwF (redoW l ks j))) => putTo_any y0 y1 y3 y4 q g 0 0 w.heap.size _ _ W hw9 hgw hq3)
          have HGW := Lib.hid (HG.out.keep HBW.out)
          clear hw9
          go_wp2_with fail
          refine (HPU.out _ HGW.out).mono ?_
          rintro e w6 ⟨rfl, hb6⟩
          have HB6 := Lib.hid hb6; clear hb6
          have HG6 := Lib.hid ((HNX.out _ HGW.out).keep (HB6.out.mono (by simp)))
          have HBB := Lib.hid (HB2.out.trans ((Below.setCell (Below.refl _ _) (p := ⟨g, q, none⟩) h2s (.int .i64 y4)).trans (HB6.out.mono (by have := HB.out.size; simp; omega))))
          go_wp2_with fail
          go_roundw
          case rel => exact ⟨j + 1, by go_num, by omega, HG6.out, HBB.out⟩
          case measure => simp [intOf] <;> omega
        · have HPU := Lib.hid (fun v W => putTo_not y0 y1 (q : Int) y3 y4 v W (fun e => hw9 (.inl e)) (fun e => hw9 (.inr e)))
          have HNX := Lib.hid (show redoW l ks (j + 1) = redoW l ks j by rw [HS.out, if_neg (fun h => hw9 h.1)])
          clear hw9
          go_wp2_with fail
          refine (HPU.out _ _).mono ?_
          rintro e w6 ⟨rfl, hb6⟩
          have HB6 := Lib.hid (HBW.out.trans (hb6.mono (by simp))); clear hb6
          go_wp2_with fail
          go_roundw
          case rel => exact ⟨j + 1, by go_num, by omega, by rw [HNX.out]; exact HG.out.keep HB6.out, HB.out.trans (HB6.out.mono HB.out.size)⟩
          case measure => simp [intOf] <;> omega
      · have hgd : decide ((kq : Int) ≤ (j : Int)) = false := by simpa using hge
        have HNX := Lib.hid (show redoW l ks (j + 1) = redoW l ks j by rw [HS.out, if_neg (fun h => hge h.2)])
        go_wp2_with fail
        go_roundw
        case rel => exact ⟨j + 1, by go_num, by omega, by rw [HNX.out]; exact HG.out.keep HBW.out, HB2.out⟩
        case measure => simp [intOf] <;> omega
    · obtain rfl : j = n := by omega
      go_wp2_with fail
      go_ret
      exact ⟨g, rfl, HG.out, HB.out⟩

set_option maxRecDepth 100000 in
set_option maxHeartbeats 4000000 in
theorem iRedo_any (A Ak : Option Addr) (n c nk ck : Nat) (l : List Rc) (ks : List Int) (w : World) (hr : RowAt w w.heap.size A (rcsC l)) (hn : n = l.length) (hs : n ≤ 1048576)
    (hrk : RowAt w w.heap.size Ak (intC ks)) (hk : nk = ks.length) (hks : nk ≤ 1048576) :
    Calls Try.prog 18 #[.slice A n c, .slice Ak nk ck] w (IntsPost (redoR l ks) w) := by
  have HF := Lib.hid (show redoR l ks = if (validP l && keptB n ks) = true then redoW l ks n else [] by rw [hn]; rfl)
  cases hvk : validP l && keptB n ks with
  | true =>
    have h2 := hvk
    rw [Bool.and_eq_true] at h2
    rw [hvk, if_pos rfl] at HF
    refine (iRedoA_any A Ak n c nk ck l ks w hr hn hs hrk hk hks h2.1 h2.2).mono ?_
    intro e w' h9
    rw [HF.out]
    exact row3_ints (redoW_len l ks n) h9
  | false =>
    rw [hvk] at HF
    have HC := Lib.hid (iKept_any A Ak n c nk ck l ks w hr hn hs hrk hk hks)
    rw [hvk] at HC
    clear hr hn hrk hk hvk
    go_enter Try.func18, Try.ntmps18
    go_wp2_with fail
    refine (HC.out).mono ?_
    rintro e w2 ⟨rfl, hb⟩
    have HB := Lib.hid hb; clear hb
    go_wp2_with fail
    go_ret
    exact ⟨_, rfl, by rw [HF.out]; exact own_nilI _ _, HB.out⟩
end Go.Proofs.Ythpfijhmdeciaaa
