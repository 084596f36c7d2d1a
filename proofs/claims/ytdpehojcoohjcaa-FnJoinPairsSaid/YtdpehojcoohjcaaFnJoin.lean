/- The walk of the law FnJoinPairs. Condition: the code lies in a row. -/
import Derived.Test.YtdpehojcoohjcaaDrawPr
import Derived.Test.YtdpehojcoohjcaaPairsC
import Derived.Test.YtdpehojcoohjcaaJoinF
import Derived.Test.YtdpehojcoohjcaaJoinS
import Derived.Test.YtdpehojcoohjcaaEqPair
set_option linter.unusedVariables false
set_option linter.unusedSimpArgs false
namespace Go.Proofs.Ytdpehojcoohjcaa
open Go.RowKit Go.ChangeShapes Go.WideShapes

def TwoPrs (w : World) (e : Ending) (w' : World) : Prop := ∃ (l1 : List Pr) (A1 : Option Addr) (m1 c1 : Nat) (l2 : List Pr) (A2 : Option Addr) (m2 c2 : Nat), e = .returned (.tuple #[.slice A1 m1 c1, .slice A2 m2 c2]) ∧ m1 = l1.length ∧ m1 ≤ 25 ∧ Few l1 ∧ w'.ownsRow w.heap.size 37 2 (.slice A1 m1 c1) m1 (prsC l1) ∧
  m2 = l2.length ∧ m2 ≤ 25 ∧ Few l2 ∧ w'.ownsRow w.heap.size 37 2 (.slice A2 m2 c2) m2 (prsC l2) ∧ Below w.heap.size w w'
theorem drawJoinPairs_any (A : Option Addr) (n c : Nat) (w : World) (h : BytesIn w A n c) :
    Calls Try.prog 12 #[.slice A n c] w (TwoPrs w) := by
  have HP := Lib.hid (newReader_any A n c w h)
  go_enter Try.func12, Try.ntmps12
  go_wp2_with fail
  refine (HP.out).mono ?_
  rintro e w1 ⟨rfl, hr1, hb1⟩
  have HB := Lib.hid hb1; clear hb1
  have hrl := hr1.lt
  have HK := Lib.hid (somePairs_any w.heap.size 0 w1 hr1 (by omega)); clear hr1
  go_wp2_with fail
  refine (HK.out).mono ?_
  rintro e w2 ⟨l1, A1, m1, c1, rfl, hm1, hm25, hf1, hr2⟩
  have HM1 := Lib.hid hm1
  clear hm1
  have hrl2 : w.heap.size < w2.heap.size := Nat.lt_of_lt_of_le hrl hr2.gr.size
  have HG := Lib.hid hr2; clear hr2
  have HK2 := Lib.hid (somePairs_any w.heap.size _ w2 HG.out.rd (by omega))
  go_wp2_with fail
  refine (HK2.out).mono ?_
  rintro e w3 ⟨l2, A2, m2, c2, rfl, hm2, hm26, hf2, hr3⟩
  have HM2 := Lib.hid hm2
  clear hm2
  have HG1 := Lib.hid (HG.out.grow hrl hr3.gr hr3.rd)
  have HG2 := Lib.hid hr3; clear hr3
  have HF1 := Lib.hid hf1
  have HF2 := Lib.hid hf2
  clear hf1 hf2
  have HBB := Lib.hid (HB.out.trans (below_of_grown HG1.out.gr (Nat.le_refl _) HB.out.size))
  have HO1 := Lib.hid (own_le HG1.out.own HB.out.size)
  have HO2 := Lib.hid (own_le HG2.out.own (Nat.le_of_lt hrl2))
  go_wp2_with fail
  refine bodyPost_ret (v := .tuple #[.slice A1 m1 c1, .slice A2 m2 c2]) (by simp [results, Try.results12, go_sem]) rfl ?_
  exact ⟨l1, A1, m1, c1, l2, A2, m2, c2, rfl, HM1.out, hm25, HF1.out, HO1.out, HM2.out, hm26, HF2.out, HO2.out, HBB.out⟩

theorem lValJ_any (A : Option Addr) (n c : Nat) (l : List Pr) (key : ByteArray) (w : World) (hr : RowAt w w.heap.size A (prsC l)) (hn : n = l.length) (hs : n ≤ 1048576) :
    Calls Try.prog 15 #[.slice A n c, .string key] w fun e w' => e = .returned (.tuple #[.string (valJ l key).1, .bool (valJ l key).2]) ∧ w' = w := by
  have HR := Lib.hid hr; clear hr
  have HN := Lib.hid hn; clear hn
  go_enter Try.func15, Try.ntmps15
  go_wp2_with fail
  go_loopw [6] (fun i wr => ∃ k : Nat, i = .int .i64 k ∧ k ≤ n ∧ wr = w ∧ valJ (l.drop k) key = valJ l key) (fun i _ => n - (intOf i).toNat)
  case atStart => exact ⟨0, rfl, by omega, rfl, rfl⟩
  case round =>
    obtain ⟨k, rfl, hk, rfl, hv⟩ := hrel
    by_cases hlt : k < n
    · have hkl : k < l.length := by have := HN.out; omega
      obtain ⟨b, off, hA, hbw, e0, e1⟩ := prs_at HR.out hkl
      subst hA
      have hi1 : (k : Int) < (n : Int) := by omega
      by_cases he : l[k].1.toList = key.toList
      · have HE := Lib.hid (show valJ l key = (l[k].2, true) by rw [← hv, valJ_yes hkl he])
        have q4 : (l[k].1.toList == key.toList) = true := by simpa using he
        clear he hv
        generalize l[k].1 = x0 at *
        generalize l[k].2 = x1 at *
        go_wp2_with fail
        refine bodyPost_ret (v := .tuple #[.string x1, .bool true]) (by simp [results, Try.results15, go_sem]) rfl ?_
        exact ⟨by rw [HE.out], rfl⟩
      · have HE := Lib.hid ((valJ_no hkl he).symm.trans hv)
        have q4 : (l[k].1.toList == key.toList) = false := by simpa using he
        clear he hv
        generalize l[k].1 = x0 at *
        go_wp2_with fail
        go_roundw
        case rel => exact ⟨k + 1, by go_num, by omega, by first | rfl | trivial, HE.out⟩
        case measure => simp [intOf]; omega
    · obtain rfl : k = n := by omega
      have HE := Lib.hid (show valJ l key = (⟨#[]⟩, false) by rw [← hv, HN.out, List.drop_length]; rfl)
      clear hv
      go_wp2_with fail
      refine bodyPost_ret (v := .tuple #[.string ⟨#[]⟩, .bool false]) (by simp [results, Try.results15, go_sem]) rfl ?_
      exact ⟨by rw [HE.out], rfl⟩
/-- what a joined pair is, one of them at a time -/
theorem join_at {a b R : List Pr} (hR : joinK a b = R) (ha : pairsB a = true) (hb : pairsB b = true) {k : Nat} (hk : k < R.length) : ∃ x y : ByteArray, valJ a R[k].1 = (x, true) ∧ valJ b R[k].1 = (y, true) ∧ R[k].2 = x ++ y := by
  subst hR; exact joinK_val ha hb hk
theorem fewJ {l1 l2 : List Pr} (h1 : Few l1) (h2 : Few l2) : ∀ p ∈ joinR l1 l2, GoodPr p := fun p hp => by
  unfold joinR at hp
  split at hp
  · obtain ⟨q, hq, o, ho, _, rfl⟩ := joinK_mem.1 hp
    have e1 := (h1 q hq).1
    have e2 := (h1 q hq).2
    have e3 := (h2 o ho).2
    exact ⟨by unfold maxLen pairJ; dsimp only; omega, by unfold maxLen pairJ; dsimp only; rw [ByteArray.size_append]; omega⟩
  · cases hp
theorem joinR_len (l1 l2 : List Pr) : (joinR l1 l2).length ≤ 24 := by
  unfold joinR
  split
  · rename_i h
    rw [Bool.and_eq_true] at h
    exact Nat.le_trans (joinK_len (ascJ_of h.2) l1) (pairs_len h.1)
  · simp
set_option maxRecDepth 100000 in
set_option maxHeartbeats 8000000 in
theorem walk_FnJoinPairs (A : Option Addr) (n c : Nat) (w : World) (h : BytesIn w A n c) :
    Calls Try.prog 4 #[.slice A n c] w fun e w' => e = .returned (.bool true) ∧ Below w.heap.size w w' := by
  have HD := Lib.hid (drawJoinPairs_any A n c w h)
  obtain ⟨hc, hm, _⟩ := h
  unfold maxLen at hm
  by_cases hb : n ≤ 1048576
  · go_enter Try.func4, Try.ntmps4
    go_wp2_with fail
    refine (HD.out).mono ?_
    rintro e w1 ⟨l1, A1, m1, c1, l2, A2, m2, c2, rfl, hl1, hm1, hf1, ho1, hl2, hm2, hf2, ho2, hb1⟩
    have HB1 := Lib.hid hb1
    have HBL := Lib.hid (Below.refl w1.heap.size w1)
    have hs1 : m1 ≤ 1048576 := by omega
    have hs2 : m2 ≤ 1048576 := by omega
    have HR1 := Lib.hid (fun W (hb : Below w1.heap.size w1 W) => (((RowAt.of_own ho1).below hb).mono hb.size))
    have HR2 := Lib.hid (fun W (hb : Below w1.heap.size w1 W) => (((RowAt.of_own ho2).below hb).mono hb.size))
    have HI := Lib.hid (fun W (hb : Below w1.heap.size w1 W) => iJoin_any A1 m1 c1 l1 A2 m2 c2 l2 W (HR1.out W hb) hl1 hs1 hf1.wf (HR2.out W hb) hl2 hs2 hf2.wf)
    have HJ := Lib.hid (fun W (hb : Below w1.heap.size w1 W) => iJoin_any A2 m2 c2 l2 A1 m1 c1 l1 W (HR2.out W hb) hl2 hs2 hf2.wf (HR1.out W hb) hl1 hs1 hf1.wf)
    have HS := Lib.hid (fun W (hb : Below w1.heap.size w1 W) => sJoin_any A1 m1 c1 l1 A2 m2 c2 l2 W (HR1.out W hb) hl1 hs1 hf1.wf (HR2.out W hb) hl2 hs2 hf2.wf)
    have HV1 := Lib.hid (fun W (hb : Below w1.heap.size w1 W) => iPairs_any A1 m1 c1 l1 W (HR1.out W hb) hl1 hs1 hf1.wf)
    have HV2 := Lib.hid (fun W (hb : Below w1.heap.size w1 W) => iPairs_any A2 m2 c2 l2 W (HR2.out W hb) hl2 hs2 hf2.wf)
    have HL1 := Lib.hid (fun key W (hb : Below w1.heap.size w1 W) => lValJ_any A1 m1 c1 l1 key W (HR1.out W hb) hl1 hs1)
    have HL2 := Lib.hid (fun key W (hb : Below w1.heap.size w1 W) => lValJ_any A2 m2 c2 l2 key W (HR2.out W hb) hl2 hs2)
    have HGR := Lib.hid (fewJ hf1 hf2)
    have HSZ := Lib.hid (And.intro hf1 hf2)
    have HN1 := Lib.hid hl1
    have HN2 := Lib.hid hl2
    have h24 := joinR_len l1 l2
    have HYES := Lib.hid (fun (a : pairsB l1 = true) (b : pairsB l2 = true) => joinR_yes a b)
    have HCOM := Lib.hid (fun (a : pairsB l1 = true) (b : pairsB l2 = true) => (show (joinR l2 l1).length = (joinR l1 l2).length by rw [joinR_yes a b, joinR_yes b a, joinK_comm]))
    clear hb1 hl1 hl2 hf1 hf2 ho1 ho2 HR1 HR2
    obtain ⟨R, hR⟩ : ∃ R, joinR l1 l2 = R := ⟨_, rfl⟩
    rw [hR] at HI HS HGR h24 HYES HCOM
    obtain ⟨rn, hrn⟩ : ∃ x, R.length = x := ⟨_, rfl⟩
    rw [hrn] at h24 HCOM
    have HRN := Lib.hid hrn
    clear hR hrn
    cases hv1 : pairsB l1
    · rw [hv1] at HV1
      clear hv1 HYES HCOM
      go_wp2_with fail
      refine (HI.out _ HBL.out).mono ?_
      rintro e w2 ⟨v, rfl, ⟨A3, c3, rfl, ho3⟩, hb2⟩
      have HB2 := Lib.hid (HBL.out.trans (hb2.mono HBL.out.size)); clear hb2
      have HO3 := Lib.hid ho3; clear ho3
      rw [HRN.out] at HO3 ⊢
      go_wp2_with fail
      refine (HS.out _ HB2.out).mono ?_
      rintro e w3 ⟨v, rfl, ⟨A4, c4, rfl, ho4⟩, hb3⟩
      rw [HRN.out] at ho4 ⊢
      have HB3 := Lib.hid (HB2.out.trans (hb3.mono HB2.out.size))
      have HO3w := Lib.hid (HO3.out.kept (grown_of_below (row := none) hb3) (by cases A3 <;> simp [Value.ownBlock]))
      have HEQ := Lib.hid (equalPairs_same A3 A4 rn c3 c4 R w3 (RowAt.of_own HO3w.out) (RowAt.of_own ho4) HRN.out.symm (by omega) HGR.out)
      clear ho4 hb3
      go_wp2_with fail
      refine (HEQ.out).mono ?_
      rintro e w4 ⟨rfl, hb4⟩
      have HB4 := Lib.hid (HB3.out.trans (hb4.mono HB3.out.size))
      have HO4 := Lib.hid (HO3w.out.kept (grown_of_below (row := none) hb4) (by cases A3 <;> simp [Value.ownBlock]))
      clear hb4 HEQ HB3 HO3w HO3
      go_wp2_with fail
      refine (HV1.out _ HB4.out).mono ?_
      rintro e w5 ⟨rfl, hb5⟩
      have HB5 := Lib.hid (HB4.out.trans (hb5.mono HB4.out.size))
      have HO5 := Lib.hid (HO4.out.kept (grown_of_below (row := none) hb5) (by cases A3 <;> simp [Value.ownBlock]))
      clear hb5
      go_wp2_with fail
      refine (HS.out _ HB5.out).mono ?_
      rintro e w7 ⟨v, rfl, ⟨A7, c7, rfl, ho7⟩, hb7⟩
      rw [HRN.out] at ho7 ⊢
      have HB7 := Lib.hid (HB5.out.trans (hb7.mono HB5.out.size))
      have HO7 := Lib.hid (HO5.out.kept (grown_of_below (row := none) hb7) (by cases A3 <;> simp [Value.ownBlock]))
      have HEQ := Lib.hid (equalPairs_same A3 A7 rn c3 c7 R w7 (RowAt.of_own HO7.out) (RowAt.of_own ho7) HRN.out.symm (by omega) HGR.out)
      clear ho7 hb7
      go_wp2_with fail
      refine (HEQ.out).mono ?_
      rintro e w8 ⟨rfl, hb8⟩
      have HB8 := Lib.hid (HB7.out.trans (hb8.mono HB7.out.size)); clear hb8
      go_wp2_with fail
      go_ret
      exact ⟨rfl, HB1.out.trans (HB8.out.mono HB1.out.size)⟩
    cases hv2 : pairsB l2
    · rw [hv1] at HV1
      rw [hv2] at HV2
      clear hv1 hv2 HYES HCOM
      go_wp2_with fail
      refine (HI.out _ HBL.out).mono ?_
      rintro e w2 ⟨v, rfl, ⟨A3, c3, rfl, ho3⟩, hb2⟩
      have HB2 := Lib.hid (HBL.out.trans (hb2.mono HBL.out.size)); clear hb2
      have HO3 := Lib.hid ho3; clear ho3
      rw [HRN.out] at HO3 ⊢
      go_wp2_with fail
      refine (HS.out _ HB2.out).mono ?_
      rintro e w3 ⟨v, rfl, ⟨A4, c4, rfl, ho4⟩, hb3⟩
      rw [HRN.out] at ho4 ⊢
      have HB3 := Lib.hid (HB2.out.trans (hb3.mono HB2.out.size))
      have HO3w := Lib.hid (HO3.out.kept (grown_of_below (row := none) hb3) (by cases A3 <;> simp [Value.ownBlock]))
      have HEQ := Lib.hid (equalPairs_same A3 A4 rn c3 c4 R w3 (RowAt.of_own HO3w.out) (RowAt.of_own ho4) HRN.out.symm (by omega) HGR.out)
      clear ho4 hb3
      go_wp2_with fail
      refine (HEQ.out).mono ?_
      rintro e w4 ⟨rfl, hb4⟩
      have HB4 := Lib.hid (HB3.out.trans (hb4.mono HB3.out.size))
      have HO4 := Lib.hid (HO3w.out.kept (grown_of_below (row := none) hb4) (by cases A3 <;> simp [Value.ownBlock]))
      clear hb4 HEQ HB3 HO3w HO3
      go_wp2_with fail
      refine (HV1.out _ HB4.out).mono ?_
      rintro e w5 ⟨rfl, hb5⟩
      have HB5 := Lib.hid (HB4.out.trans (hb5.mono HB4.out.size))
      have HO5 := Lib.hid (HO4.out.kept (grown_of_below (row := none) hb5) (by cases A3 <;> simp [Value.ownBlock]))
      clear hb5
      go_wp2_with fail
      refine (HV2.out _ HB5.out).mono ?_
      rintro e w6 ⟨rfl, hb6⟩
      have HB6 := Lib.hid (HB5.out.trans (hb6.mono HB5.out.size))
      have HO6 := Lib.hid (HO5.out.kept (grown_of_below (row := none) hb6) (by cases A3 <;> simp [Value.ownBlock]))
      clear hb6
      go_wp2_with fail
      refine (HS.out _ HB6.out).mono ?_
      rintro e w7 ⟨v, rfl, ⟨A7, c7, rfl, ho7⟩, hb7⟩
      rw [HRN.out] at ho7 ⊢
      have HB7 := Lib.hid (HB6.out.trans (hb7.mono HB6.out.size))
      have HO7 := Lib.hid (HO6.out.kept (grown_of_below (row := none) hb7) (by cases A3 <;> simp [Value.ownBlock]))
      have HEQ := Lib.hid (equalPairs_same A3 A7 rn c3 c7 R w7 (RowAt.of_own HO7.out) (RowAt.of_own ho7) HRN.out.symm (by omega) HGR.out)
      clear ho7 hb7
      go_wp2_with fail
      refine (HEQ.out).mono ?_
      rintro e w8 ⟨rfl, hb8⟩
      have HB8 := Lib.hid (HB7.out.trans (hb8.mono HB7.out.size)); clear hb8
      go_wp2_with fail
      go_ret
      exact ⟨rfl, HB1.out.trans (HB8.out.mono HB1.out.size)⟩
    · have HK := Lib.hid (HYES.out hv1 hv2)
      have HC2 := Lib.hid (HCOM.out hv1 hv2)
      have HV3 := Lib.hid (show pairsB R = true by rw [HK.out]; exact joinK_ok hv1 hv2)
      have hle1 : rn ≤ m1 := by have h1 := joinK_len (ascJ_of hv2) l1; rw [← HK.out, HRN.out, ← HN1.out] at h1; exact h1
      have hle2 : rn ≤ m2 := by have h1 := joinK_len (ascJ_of hv1) l2; rw [← joinK_comm, ← HK.out, HRN.out, ← HN2.out] at h1; exact h1
      have HAT := Lib.hid (fun k (hk : k < R.length) => join_at HK.out.symm hv1 hv2 hk)
      have HVR := Lib.hid (fun A c W (hr : RowAt W W.heap.size A (prsC R)) => iPairs_any A rn c R W hr HRN.out.symm (by omega) HGR.out)
      rw [HV3.out] at HVR
      rw [hv1] at HV1
      rw [hv2] at HV2
      clear hv1 hv2 HYES HCOM HK HV3
      go_wp2_with fail
      refine (HI.out _ HBL.out).mono ?_
      rintro e w2 ⟨v, rfl, ⟨A3, c3, rfl, ho3⟩, hb2⟩
      have HB2 := Lib.hid (HBL.out.trans (hb2.mono HBL.out.size)); clear hb2
      have HO3 := Lib.hid ho3; clear ho3
      rw [HRN.out] at HO3 ⊢
      go_wp2_with fail
      refine (HS.out _ HB2.out).mono ?_
      rintro e w3 ⟨v, rfl, ⟨A4, c4, rfl, ho4⟩, hb3⟩
      rw [HRN.out] at ho4 ⊢
      have HB3 := Lib.hid (HB2.out.trans (hb3.mono HB2.out.size))
      have HO3w := Lib.hid (HO3.out.kept (grown_of_below (row := none) hb3) (by cases A3 <;> simp [Value.ownBlock]))
      have HEQ := Lib.hid (equalPairs_same A3 A4 rn c3 c4 R w3 (RowAt.of_own HO3w.out) (RowAt.of_own ho4) HRN.out.symm (by omega) HGR.out)
      clear ho4 hb3
      go_wp2_with fail
      refine (HEQ.out).mono ?_
      rintro e w4 ⟨rfl, hb4⟩
      have HB4 := Lib.hid (HB3.out.trans (hb4.mono HB3.out.size))
      have HO4 := Lib.hid (HO3w.out.kept (grown_of_below (row := none) hb4) (by cases A3 <;> simp [Value.ownBlock]))
      clear hb4 HEQ HB3 HO3w HO3
      go_wp2_with fail
      refine (HV1.out _ HB4.out).mono ?_
      rintro e w5 ⟨rfl, hb5⟩
      have HB5 := Lib.hid (HB4.out.trans (hb5.mono HB4.out.size))
      have HO5 := Lib.hid (HO4.out.kept (grown_of_below (row := none) hb5) (by cases A3 <;> simp [Value.ownBlock]))
      clear hb5
      go_wp2_with fail
      refine (HV2.out _ HB5.out).mono ?_
      rintro e w6 ⟨rfl, hb6⟩
      have HB6 := Lib.hid (HB5.out.trans (hb6.mono HB5.out.size))
      have HO6 := Lib.hid (HO5.out.kept (grown_of_below (row := none) hb6) (by cases A3 <;> simp [Value.ownBlock]))
      clear hb6
      clear HO4 HO5 HB4 HB5 HB2 HV1 HV2 HI HS
      go_wp2_with fail
      go_loopw [6] (fun i wr => ∃ k : Nat, i = .int .i64 k ∧ k ≤ rn ∧ Below w6.heap.size w6 wr) (fun i _ => rn - (intOf i).toNat)
      case atStart => exact ⟨0, rfl, by omega, Below.refl _ _⟩
      case round =>
        obtain ⟨k, rfl, hk, hbk⟩ := hrel
        have HO7 := Lib.hid (HO6.out.kept (grown_of_below (row := none) hbk) (by cases A3 <;> simp [Value.ownBlock]))
        have HB7 := Lib.hid (HB6.out.trans (hbk.mono HB6.out.size))
        have HBK := Lib.hid hbk; clear hbk
        by_cases hlt : k < rn
        · have hkl : k < R.length := by have := HRN.out; omega
          obtain ⟨b, off, hA, hbw, e0, e1⟩ := prs_at (RowAt.of_own HO7.out) hkl
          subst hA
          obtain ⟨x, y, hx, hy, hxy⟩ := HAT.out k hkl
          have HG := Lib.hid (HGR.out R[k] (List.getElem_mem hkl))
          have HX := Lib.hid (HL1.out R[k].1 _ HB7.out)
          have HY := Lib.hid (HL2.out R[k].1 _ HB7.out)
          rw [hx] at HX
          rw [hy] at HY
          rw [hxy] at e1
          have hcat : ¬ 9223372036854775807 < x.size + y.size := by
            have := HG.out.2
            rw [hxy, ByteArray.size_append] at this
            unfold maxLen at this
            omega
          have hi1 : (k : Int) < (rn : Int) := by omega
          clear hx hy hxy HG
          generalize R[k].1 = q0 at *
          have hq : ((x ++ y).toList == (x ++ y).toList) = true := by simp
          have hq2 : ((x ++ y).toList != (x ++ y).toList) = false := by simp
          go_wp2_with fail
          refine (HX.out).mono ?_
          rintro e wa ⟨rfl, hwa⟩
          obtain rfl := hwa.symm
          go_wp2_with fail
          refine (HY.out).mono ?_
          rintro e wb ⟨rfl, hwb⟩
          obtain rfl := hwb.symm
          go_wp2_with fail
          go_roundw
          case rel => exact ⟨k + 1, by go_num, by omega, HBK.out⟩
          case measure => simp [intOf]; omega
        · obtain rfl : k = rn := by omega
          have HVR2 := Lib.hid (HVR.out A3 c3 _ (RowAt.of_own HO7.out))
          go_wp2_with fail
          refine (HVR2.out).mono ?_
          rintro e w8 ⟨rfl, hb8⟩
          have HB8 := Lib.hid (HB7.out.trans (hb8.mono HB7.out.size)); clear hb8
          have hle3 : (k : Int) ≤ (m1 : Int) := by omega
          have hle4 : (k : Int) ≤ (m2 : Int) := by omega
          rcases Nat.lt_or_ge m2 m1 with hmm | hmm
          all_goals
            first
            | (have hmi : (m2 : Int) < (m1 : Int) := by omega)
            | (have hmi : ¬ (m2 : Int) < (m1 : Int) := by omega)
            have hmj : min (m1 : Int) (m2 : Int) = (m2 : Int) ∨ min (m1 : Int) (m2 : Int) = (m1 : Int) := by omega
            go_wp2_with fail
            refine (HJ.out _ HB8.out).mono ?_
            rintro e w9 ⟨v, rfl, ⟨A9, c9, rfl, ho9⟩, hb9⟩
            rw [HC2.out]
            have HB9 := Lib.hid (HB8.out.trans (hb9.mono HB8.out.size)); clear hb9 ho9
            go_wp2_with fail
            go_ret
            exact ⟨rfl, HB1.out.trans (HB9.out.mono HB1.out.size)⟩
  · go_enter Try.func4, Try.ntmps4
    go_wp2
    go_ret
    exact ⟨rfl, Below.refl _ _⟩
end Go.Proofs.Ytdpehojcoohjcaa
