/- Contracts of GetLevels of the model's package and of the program (chapter 4). Conditions: the rows lie in memory; they are few; the text is no longer than memory. -/
import Derived.Test.YtofpdelolniklaaGetLev
set_option linter.unusedVariables false
set_option linter.unusedSimpArgs false
namespace Go.Proofs.Ytofpdelolniklaa
open Go.RowKit Go.ChangeShapes Go.WideShapes

theorem getLevR_no {L : List (List It)} {key : ByteArray} (h : levB L = false ∨ keyB key = false) : getLevR L key = (⟨#[]⟩, -1, false) := by
  unfold getLevR
  rw [if_neg]
  rintro ⟨h1, h2⟩
  rcases h with h | h
  · rw [h1] at h; cases h
  · rw [h2] at h; cases h
theorem getLevR_yes {L : List (List It)} {key : ByteArray} (h1 : levB L = true) (h2 : keyB key = true) : getLevR L key = ((getGo key L 0).1, ((getGo key L 0).2.1 : Int), (getGo key L 0).2.2) := by
  unfold getLevR; rw [if_pos ⟨h1, h2⟩]

theorem sGetLevV_any (A : Option Addr) (n c : Nat) (L : List (List It)) (key : ByteArray) (w : World) (hr : LvAt w w.heap.size A L) (hn : n = L.length) (hs : n ≤ 1048576) (hw : ∀ r ∈ L, r.length ≤ 1048576 ∧ WfIt r) (hk : key.size ≤ maxLen) :
    Calls Try.prog 20 #[.slice A n c, .string key] w (GotLev (getLevR L key) w) := by
  have HV := Lib.hid (sLev_any A n c L w hr hn hs hw)
  have HK := Lib.hid (fun W => skey_any key W hk)
  have HRR := Lib.hid hr; clear hr
  have HNN := Lib.hid hn; clear hn
  have HWW := Lib.hid hw; clear hw
  cases h1 : levB L
  · rw [h1] at HV
    rw [getLevR_no (.inl h1)]
    clear h1
    go_enter Try.func20, Try.ntmps20
    go_wp2_with fail
    refine (HV.out).mono ?_
    rintro e w2 ⟨rfl, hb2⟩
    have HB := Lib.hid hb2; clear hb2
    go_wp2_with fail
    refine bodyPost_ret (v := .tuple #[.string ⟨#[]⟩, .int .i64 (-1), .bool false]) (by simp [results, Try.results20, go_sem]) rfl ?_
    exact ⟨rfl, HB.out⟩
  · rw [h1] at HV
    cases h2 : keyB key
    · rw [getLevR_no (.inr h2)]
      rw [h2] at HK
      clear h1 h2
      go_enter Try.func20, Try.ntmps20
      go_wp2_with fail
      refine (HV.out).mono ?_
      rintro e w2 ⟨rfl, hb2⟩
      have HB := Lib.hid hb2; clear hb2
      go_wp2_with fail
      refine (HK.out _).mono ?_
      rintro e w3 ⟨rfl, hw3⟩
      obtain rfl := hw3.symm
      go_wp2_with fail
      refine bodyPost_ret (v := .tuple #[.string ⟨#[]⟩, .int .i64 (-1), .bool false]) (by simp [results, Try.results20, go_sem]) rfl ?_
      exact ⟨rfl, HB.out⟩
    · rw [getLevR_yes h1 h2]
      have HG := Lib.hid (fun W (hb : Below w.heap.size w W) => sGetGo_any A n c L key W ((HRR.out.below hb).mono hb.size) HNN.out HWW.out h1 h2)
      rw [h2] at HK
      clear h1 h2
      generalize getGo key L 0 = g at *
      obtain ⟨ga, gb, gc⟩ := g
      go_enter Try.func20, Try.ntmps20
      go_wp2_with fail
      refine (HV.out).mono ?_
      rintro e w2 ⟨rfl, hb2⟩
      have HB := Lib.hid hb2; clear hb2
      go_wp2_with fail
      refine (HK.out _).mono ?_
      rintro e w3 ⟨rfl, hw3⟩
      obtain rfl := hw3.symm
      go_wp2_with fail
      refine (HG.out _ HB.out).mono ?_
      rintro e w4 ⟨rfl, hb4⟩
      have HB4 := Lib.hid (HB.out.trans (hb4.mono HB.out.size)); clear hb4
      go_wp2_with fail
      refine bodyPost_ret (v := .tuple #[.string ga, .int .i64 (gb : Int), .bool gc]) (by simp [results, Try.results20, go_sem]) rfl ?_
      exact ⟨rfl, HB4.out⟩

set_option maxRecDepth 100000 in
set_option maxHeartbeats 4000000 in
theorem iGetLev_any (A : Option Addr) (n c : Nat) (L : List (List It)) (key : ByteArray) (w : World) (hr : LvAt w w.heap.size A L) (hn : n = L.length) (hs : n ≤ 1048576) (hw : ∀ r ∈ L, r.length ≤ 1048576 ∧ WfIt r) (hk : key.size ≤ maxLen) :
    Calls Try.prog 19 #[.slice A n c, .string key] w (GotLev (getLevR L key) w) := by
  have HV := Lib.hid (iLev_any A n c L w hr hn hs hw)
  have HK := Lib.hid (fun W => iKey_any key W hk)
  have HR := Lib.hid hr; clear hr
  have HN := Lib.hid hn; clear hn
  have HW := Lib.hid hw; clear hw
  cases h1 : levB L
  · rw [h1] at HV
    rw [getLevR_no (.inl h1)]
    clear h1
    go_enter Try.func19, Try.ntmps19
    go_wp2_with fail
    refine (HV.out).mono ?_
    rintro e w2 ⟨rfl, hb2⟩
    have HB := Lib.hid hb2; clear hb2
    go_wp2_with fail
    refine bodyPost_ret (v := .tuple #[.string ⟨#[]⟩, .int .i64 (-1), .bool false]) (by simp [results, Try.results19, go_sem]) rfl ?_
    exact ⟨rfl, HB.out⟩
  rw [h1] at HV
  cases h2 : keyB key
  · rw [getLevR_no (.inr h2)]
    rw [h2] at HK
    clear h1 h2
    go_enter Try.func19, Try.ntmps19
    go_wp2_with fail
    refine (HV.out).mono ?_
    rintro e w2 ⟨rfl, hb2⟩
    have HB := Lib.hid hb2; clear hb2
    go_wp2_with fail
    refine (HK.out _).mono ?_
    rintro e w3 ⟨rfl, hw3⟩
    obtain rfl := hw3.symm
    go_wp2_with fail
    refine bodyPost_ret (v := .tuple #[.string ⟨#[]⟩, .int .i64 (-1), .bool false]) (by simp [results, Try.results19, go_sem]) rfl ?_
    exact ⟨rfl, HB.out⟩
  rw [getLevR_yes h1 h2]
  obtain ⟨hl6, hrun⟩ := levB_run h1
  have hn6 : n ≤ 6 := by have := HN.out; omega
  have HRUN := Lib.hid hrun; clear hrun
  have HMK := Lib.hid (fun W => iMarksOf_any key W hk)
  have HMR := Lib.hid (show marksR key = marksI key.data.toList by unfold marksR; rw [if_pos h2])
  rw [HMR.out] at HMK
  have HKS := Lib.hid hk
  have HKB := Lib.hid h2
  obtain ⟨M, hM, hM0⟩ : ∃ M : Nat, marksI key.data.toList = (M : Int) ∧ M < 16777216 := ⟨_, (marksN_ok key.data.toList).1, (marksN_ok key.data.toList).2.1⟩
  rw [hM] at HMK
  have HM := Lib.hid hM
  rw [h2] at HK
  clear h1 h2 hl6 hM hk HMR
  go_enter Try.func19, Try.ntmps19
  go_wp2_with fail
  refine (HV.out).mono ?_
  rintro e w2 ⟨rfl, hb2⟩
  have HB0 := Lib.hid hb2; clear hb2
  go_wp2_with fail
  refine (HK.out _).mono ?_
  rintro e w3 ⟨rfl, hw3⟩
  obtain rfl := hw3.symm
  go_wp2_with fail
  refine (HMK.out _).mono ?_
  rintro e w3 ⟨rfl, hw3⟩
  obtain rfl := hw3.symm
  go_wp2_with fail
  go_loopw [8, 25] (fun q i wr => ∃ (k lk : Nat), q = .int .i64 lk ∧ i = .int .i64 k ∧ k ≤ n ∧ lk ≤ 6 * k ∧ getGo key (L.drop k) lk = getGo key L 0 ∧ Below w.heap.size w wr) (fun _ i _ => n - (intOf i).toNat)
  case atStart => exact ⟨0, 0, rfl, rfl, by omega, by omega, rfl, HB0.out⟩
  case round =>
    obtain ⟨k, lk, rfl, rfl, hk, hlk, hinv, hb⟩ := hrel
    clear HB0
    have HVI := Lib.hid hinv; clear hinv
    have HB := Lib.hid hb; clear hb
    rename World => wr
    by_cases hlt : k < n
    · have hkl : k < L.length := by have := HN.out; omega
      have hrk := HRUN.out L[k] (List.getElem_mem hkl)
      obtain ⟨g1, g2⟩ := HW.out L[k] (List.getElem_mem hkl)
      obtain ⟨hfd, hf6⟩ := find_ok hrk key
      obtain ⟨b, off, A', c', hA, hbw, e0, hrow⟩ := (HR.out.below HB.out).at_ hkl
      subst hA
      have HAT := Lib.hid (fun W (hb : Below wr.heap.size wr W) => (show RowAt W W.heap.size A' (itsC L[k]) from (hrow.below (hb.mono HB.out.size)).mono (Nat.le_trans HB.out.size hb.size)))
      have HSV := Lib.hid (iSieve_any A' L[k].length c' L[k] wr (hrow.mono HB.out.size) rfl g1 g2)
      have HFN := Lib.hid (fun W (hb : Below wr.heap.size wr W) => iFindRun_any A' L[k].length c' L[k] key W (HAT.out W hb) rfl g1 g2 HKS.out)
      rw [findRunR_yes hrk HKB.out] at HFN
      have HSR := Lib.hid (show sieveR L[k] = (sieveN L[k] : Int) by unfold sieveR; rw [if_pos hrk])
      rw [HSR.out] at HSV
      obtain ⟨M2, Q, hM2, _, hQ, hmask⟩ := marks_and key L[k]
      obtain rfl : M = M2 := by have := HM.out; omega
      have HSK := Lib.hid (fun h => getGo_skip (key := key) (q := lk) hkl h)
      have HNO := Lib.hid (fun h1 h2 => getGo_none (key := key) (q := lk) hkl h1 h2)
      have HFO := Lib.hid (fun i h1 h2 h3 => getGo_found (key := key) (q := lk) (i := i) hkl h1 h2 h3)
      rw [hmask] at HSK HNO HFO
      have hbs : b < wr.heap.size := Nat.lt_of_lt_of_le hbw HB.out.size
      have hi1 : (k : Int) < (n : Int) := by omega
      clear hM2 hmask hrow g2 hrk HSR
      generalize L[k] = r at *
      generalize sieveN r = sv at *
      by_cases hqm : Q = M
      · have hne : ((Q : Int) != (M : Int)) = false := by simp; omega
        have hqm2 : (decide (Q = M)) = true := by simpa using hqm
        have HNO2 := Lib.hid (fun h => HNO.out hqm2 h)
        have HFO2 := Lib.hid (fun i h1 h2 => HFO.out i hqm2 h1 h2)
        clear hqm hqm2 HSK HNO HFO
        generalize findR (keysOf r) key = fr at *
        obtain ⟨f1, f2⟩ := fr
        simp only at hfd hf6 HNO2 HFO2
        rcases hfd with rfl | ⟨i, rfl, hi⟩
        · have HV2 := Lib.hid ((HNO2.out rfl).symm.trans HVI.out)
          clear HNO2 HFO2
          go_wp2_with fail
          refine (HSV.out).mono ?_
          rintro e w5 ⟨rfl, hb5⟩
          have HB5 := Lib.hid hb5; clear hb5
          go_wp2_with fail
          refine (HFN.out _ HB5.out).mono ?_
          rintro e w6 ⟨rfl, hb6⟩
          have HB6 := Lib.hid (HB.out.trans ((HB5.out.trans (hb6.mono HB5.out.size)).mono HB.out.size)); clear hb6
          go_wp2_with fail
          go_roundw
          case rel => exact ⟨k + 1, lk + f2, by go_num, by go_num, by omega, by omega, HV2.out, HB6.out⟩
          case measure => simp [intOf]; omega
        · have HV2 := Lib.hid ((HFO2.out i rfl hi).symm.trans HVI.out)
          clear HNO2 HFO2
          have hi2 : (i : Int) < (r.length : Int) := by omega
          have hi3 : (0 : Int) ≤ (i : Int) := by omega
          go_wp2_with fail
          refine (HSV.out).mono ?_
          rintro e w5 ⟨rfl, hb5⟩
          have HB5 := Lib.hid hb5; clear hb5
          go_wp2_with fail
          refine (HFN.out _ HB5.out).mono ?_
          rintro e w6 ⟨rfl, hb6⟩
          have HB6 := Lib.hid (HB.out.trans ((HB5.out.trans (hb6.mono HB5.out.size)).mono HB.out.size))
          have hrow6 := HAT.out w6 (HB5.out.trans (hb6.mono HB5.out.size))
          obtain ⟨b2, off2, hA2, hbw2, d0, d1, d2⟩ := its_at hrow6 hi
          subst hA2
          clear hb6 hrow6 d0
          generalize r[i].2.1 = x1 at *
          generalize r[i].2.2 = x2 at *
          go_wp2_with fail
          go_quiet (fail)
          go_wp2_with fail
          refine bodyPost_ret (v := .tuple #[.string x1, .int .i64 ((lk + f2 : Nat) : Int), .bool (!x2)]) (by simp [results, Try.results19, go_sem]) rfl ?_
          exact ⟨by rw [← HV2.out], HB6.out.trans (below_drewN _ _)⟩
      · have hne : ((Q : Int) != (M : Int)) = true := by simp; omega
        have HV2 := Lib.hid ((HSK.out (by simpa using hqm)).symm.trans HVI.out)
        clear hqm HNO HFO HFN hfd hf6
        go_wp2_with fail
        refine (HSV.out).mono ?_
        rintro e w5 ⟨rfl, hb5⟩
        have HB5 := Lib.hid (HB.out.trans (hb5.mono HB.out.size)); clear hb5
        go_wp2_with fail
        go_roundw
        case rel => exact ⟨k + 1, lk, by go_num, by go_num, by omega, by omega, HV2.out, HB5.out⟩
        case measure => simp [intOf]; omega
    · obtain rfl : k = n := by omega
      have HF := Lib.hid (show getGo key L 0 = (⟨#[]⟩, lk, false) by have := HVI.out; rw [HN.out, List.drop_length] at this; exact this.symm)
      go_wp2_with fail
      refine bodyPost_ret (v := .tuple #[.string ⟨#[]⟩, .int .i64 (lk : Int), .bool false]) (by simp [results, Try.results19, go_sem]) rfl ?_
      exact ⟨by rw [HF.out], HB.out⟩
end Go.Proofs.Ytofpdelolniklaa
