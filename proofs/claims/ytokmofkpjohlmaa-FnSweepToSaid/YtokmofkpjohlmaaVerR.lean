/- Contracts of lastOf and ReadAt in the model, of mayBeRead, lastAt and ReadAt in the program (chapter 7). Conditions: the versions lie in a row; they are few; their texts are no longer than memory. -/
import Derived.Test.YtokmofkpjohlmaaVerS
import Derived.Test.YtokmofkpjohlmaaVMap
set_option linter.unusedVariables false
set_option linter.unusedSimpArgs false
namespace Go.Proofs.Ytokmofkpjohlmaa
open Go.RowKit Go.ChangeShapes Go.WideShapes

set_option maxRecDepth 100000 in
set_option maxHeartbeats 2000000 in
theorem sLast_any (A : Option Addr) (n c : Nat) (l : List Vr) (key : ByteArray) (at_ : Int) (w : World) (hr : RowAt w w.heap.size A (vrsC l)) (hn : n = l.length) (hs : n ≤ 1048576) :
    Calls Try.prog 74 #[.slice A n c, .string key, .int .i64 at_] w fun e w' => e = .returned (.int .i64 (lastN l key.toList at_ l.length)) ∧ w' = w := by
  have HR := Lib.hid hr; clear hr
  have HN := Lib.hid hn; clear hn
  have HZ := Lib.hid (show lastN l key.toList at_ 0 = -1 from rfl)
  have HST := Lib.hid (fun k => (show lastN l key.toList at_ (k + 1) = if hitV l key.toList at_ k then (k : Int) else lastN l key.toList at_ k from rfl))
  go_enter Try.func74, Try.ntmps74
  go_wp2
  go_loop [7, 8] (fun q i => ∃ k : Nat, k ≤ n ∧ i = .int .i64 k ∧ q = .int .i64 (lastN l key.toList at_ k)) (fun _ i => n - (intOf i).toNat)
  case atStart => exact ⟨0, by omega, rfl, by rw [HZ.out]⟩
  case round =>
    obtain ⟨k, hk, rfl, rfl⟩ := hrel
    by_cases hlt : k < n
    · have hkl : k < l.length := by have := HN.out; omega
      obtain ⟨b, off, rfl, hbw, e0, e1, e2, e3⟩ := vrs_at HR.out hkl
      have HH := Lib.hid (hitV_at (l := l) (key := key.toList) (at_ := at_) hkl)
      have HS := Lib.hid (HST.out k)
      have hi1 : (k : Int) < (n : Int) := by omega
      clear HST HZ e1 e2
      generalize l[k].1 = x0 at *
      generalize l[k].2.2.2 = x3 at *
      generalize hitV l key.toList at_ k = h at *
      generalize lastN l key.toList at_ k = z at *
      cases hq : (x0.toList == key.toList)
      · have hh := HH.out
        rw [hq, Bool.false_and] at hh
        have HS2 := Lib.hid HS.out
        rw [hh] at HS2
        clear hh HH HS
        go_wp2
        go_round
        case rel => exact ⟨k + 1, by omega, by go_num, by rw [HS2.out]; rfl⟩
        case measure => simp [intOf]; omega
      · by_cases ht : x3 ≤ at_
        · have hh := HH.out
          rw [hq, decide_eq_true ht] at hh
          have HS2 := Lib.hid HS.out
          rw [hh] at HS2
          clear hh HH HS
          go_wp2
          go_round
          case rel => exact ⟨k + 1, by omega, by go_num, by rw [HS2.out]; rfl⟩
          case measure => simp [intOf]; omega
        · have hh := HH.out
          rw [hq, decide_eq_false ht] at hh
          have HS2 := Lib.hid HS.out
          rw [hh] at HS2
          clear hh HH HS
          go_wp2
          go_round
          case rel => exact ⟨k + 1, by omega, by go_num, by rw [HS2.out]; rfl⟩
          case measure => simp [intOf]; omega
    · obtain rfl : k = n := by omega
      go_wp2
      go_ret
      exact ⟨by rw [← HN.out]; rfl, rfl⟩

def rdP (r : ByteArray × Bool) (w : World) (e : Ending) (w' : World) : Prop := e = .returned (.tuple #[.string r.1, .bool r.2]) ∧ Below w.heap.size w w'
theorem readK_no {l : List Vr} {key : ByteArray} {at_ : Int} (h : readB okVr keyB l key at_ = false) : readK okVr keyB l key at_ = (⟨#[]⟩, false) := by unfold readK; rw [if_neg (by rw [h]; simp)]; rfl
theorem readK_none {l : List Vr} {key : ByteArray} {at_ : Int} (h : lastA l at_ key.toList = none) : readK okVr keyB l key at_ = (⟨#[]⟩, false) := by
  unfold readK; rw [h]; split <;> rfl
theorem readK_some {l : List Vr} {key : ByteArray} {at_ : Int} {v : Vr} (hb : readB okVr keyB l key at_ = true) (h : lastA l at_ key.toList = some v) : readK okVr keyB l key at_ = (v.2.1, true) := by
  unfold readK; rw [if_pos hb, h]
set_option maxRecDepth 100000 in
set_option maxHeartbeats 2000000 in
theorem sRead_any (A : Option Addr) (n c : Nat) (l : List Vr) (key : ByteArray) (at_ : Int) (w : World) (hr : RowAt w w.heap.size A (vrsC l)) (hn : n = l.length) (hs : n ≤ 1048576) (hw : WfVr l) (hk : key.size ≤ maxLen) :
    Calls Try.prog 33 #[.slice A n c, .string key, .int .i64 at_] w (rdP (readK okVr keyB l key at_) w) := by
  have HV := Lib.hid (sVers_any A n c l w hr hn hs hw)
  have HK := Lib.hid (fun W => skey_any key W hk)
  have HI := Lib.hid (fun W => inRange_any at_ 0 20 W)
  have HL := Lib.hid (fun W (hb : Below w.heap.size w W) => sLast_any A n c l key at_ W ((hr.below hb).mono hb.size) hn hs)
  have HR := Lib.hid hr; clear hr
  have HN := Lib.hid hn; clear hn
  clear hw hk
  have HB := Lib.hid (show readB okVr keyB l key at_ = (versB l && keyB key && decide (0 ≤ at_) && decide (at_ ≤ 20)) from rfl)
  have HNO := Lib.hid (fun h => readK_no (l := l) (key := key) (at_ := at_) h)
  have HNN := Lib.hid (fun h => readK_none (l := l) (key := key) (at_ := at_) h)
  have HYY := Lib.hid (fun v hb h => readK_some (l := l) (key := key) (at_ := at_) (v := v) hb h)
  have HCS := Lib.hid (lastN_cases l key.toList at_ l.length (Nat.le_refl _))
  generalize readK okVr keyB l key at_ = rk at *
  generalize readB okVr keyB l key at_ = rb at *
  cases h1 : versB l
  · rw [h1] at HV HB
    clear h1
    go_enter Try.func33, Try.ntmps33
    go_wp2_with fail
    refine (HV.out).mono ?_
    rintro e w2 ⟨rfl, hb2⟩
    have HB2 := Lib.hid hb2; clear hb2
    go_wp2_with fail
    go_ret2
    rw [HNO.out (by rw [HB.out]; rfl)]
    exact ⟨rfl, HB2.out⟩
  cases h2 : keyB key
  · rw [h1] at HV HB
    rw [h2] at HK HB
    clear h1 h2
    go_enter Try.func33, Try.ntmps33
    go_wp2_with fail
    refine (HV.out).mono ?_
    rintro e w2 ⟨rfl, hb2⟩
    have HB2 := Lib.hid hb2; clear hb2
    go_wp2_with (go_at_call 73; refine (HK.out _).mono ?_; rintro e w' ⟨rfl, rfl⟩)
    go_ret2
    rw [HNO.out (by rw [HB.out]; rfl)]
    exact ⟨rfl, HB2.out⟩
  by_cases h3 : 0 ≤ at_ ∧ at_ ≤ 20
  rotate_left
  · have hT : (decide ((0 : Int) ≤ at_) && decide (at_ ≤ 20)) = false := by simp; omega
    rw [h1] at HV HB
    rw [h2] at HK HB
    rw [Bool.and_assoc, hT] at HB
    rw [hT] at HI
    clear h1 h2 h3 hT
    go_enter Try.func33, Try.ntmps33
    go_wp2_with fail
    refine (HV.out).mono ?_
    rintro e w2 ⟨rfl, hb2⟩
    have HB2 := Lib.hid hb2; clear hb2
    go_wp2_with (first | (go_at_call 73; refine (HK.out _).mono ?_; rintro e w' ⟨rfl, rfl⟩) | (go_at_call 67; refine (HI.out _).mono ?_; rintro e w' ⟨rfl, rfl⟩))
    go_ret2
    rw [HNO.out (by rw [HB.out]; rfl)]
    exact ⟨rfl, HB2.out⟩
  have hT : (decide ((0 : Int) ≤ at_) && decide (at_ ≤ 20)) = true := by simp; omega
  rw [h1] at HV HB
  rw [h2] at HK HB
  rw [Bool.and_assoc, hT] at HB
  rw [hT] at HI
  clear h1 h2 h3 hT
  rcases HCS.out with ⟨k1, k2, _⟩ | ⟨j, hj, _, k1, _, k2⟩
  · rw [List.take_length] at k2
    have HE := Lib.hid (HNN.out k2)
    rw [k1] at HL
    clear k1 k2 HCS HNN HYY
    go_enter Try.func33, Try.ntmps33
    go_wp2_with fail
    refine (HV.out).mono ?_
    rintro e w2 ⟨rfl, hb2⟩
    have HB2 := Lib.hid hb2; clear hb2
    have HL2 := Lib.hid (HL.out _ HB2.out)
    go_wp2_with (first | (go_at_call 73; refine (HK.out _).mono ?_; rintro e w' ⟨rfl, rfl⟩) | (go_at_call 67; refine (HI.out _).mono ?_; rintro e w' ⟨rfl, rfl⟩) | (go_at_call 74; refine (HL2.out).mono ?_; rintro e w' ⟨rfl, rfl⟩))
    go_ret2
    rw [HE.out]
    exact ⟨rfl, HB2.out⟩
  · rw [List.take_length] at k2
    have hjn : (j : Int) < (n : Int) := by have := HN.out; omega
    have hj0 : ¬ (j : Int) < 0 := by omega
    have HAT := Lib.hid (fun W (hb : Below w.heap.size w W) => vrs_at (HR.out.below hb) hj)
    have HE1 := Lib.hid (fun (h : l[j].2.2.1 = true) => HNN.out (by rw [k2, if_pos h]))
    have HE2 := Lib.hid (fun (h : ¬ l[j].2.2.1 = true) => HYY.out _ (by rw [HB.out]; rfl) (by rw [k2, if_neg h]))
    rw [k1] at HL
    clear k1 k2 HCS HNN HYY
    go_enter Try.func33, Try.ntmps33
    go_wp2_with fail
    refine (HV.out).mono ?_
    rintro e w2 ⟨rfl, hb2⟩
    have HB2 := Lib.hid hb2; clear hb2
    have HL2 := Lib.hid (HL.out _ HB2.out)
    obtain ⟨b, off, rfl, hbw, e0, e1, e2, e3⟩ := HAT.out _ HB2.out
    clear e0 e3 HAT
    generalize l[j].2.1 = y1 at *
    generalize l[j].2.2.1 = y2 at *
    cases y2
    · have HE := Lib.hid (HE2.out (by simp))
      go_wp2_with (first | (go_at_call 73; refine (HK.out _).mono ?_; rintro e w' ⟨rfl, rfl⟩) | (go_at_call 67; refine (HI.out _).mono ?_; rintro e w' ⟨rfl, rfl⟩) | (go_at_call 74; refine (HL2.out).mono ?_; rintro e w' ⟨rfl, rfl⟩))
      go_ret2
      rw [HE.out]
      exact ⟨rfl, HB2.out⟩
    · have HE := Lib.hid (HE1.out rfl)
      go_wp2_with (first | (go_at_call 73; refine (HK.out _).mono ?_; rintro e w' ⟨rfl, rfl⟩) | (go_at_call 67; refine (HI.out _).mono ?_; rintro e w' ⟨rfl, rfl⟩) | (go_at_call 74; refine (HL2.out).mono ?_; rintro e w' ⟨rfl, rfl⟩))
      go_ret2
      rw [HE.out]
      exact ⟨rfl, HB2.out⟩
end Go.Proofs.Ytokmofkpjohlmaa
