/- Contracts of sweep and SweepTo in the model, of SweepTo in the program (chapter 7). Conditions: the versions lie in a row; they are few; their texts are no longer than memory. -/
import Derived.Test.YtokmofkpjohlmaaVerQ
import Derived.Test.YtokmofkpjohlmaaOut
import Derived.Laws.StructEq
set_option linter.unusedVariables false
set_option linter.unusedSimpArgs false
namespace Go.Proofs.Ytokmofkpjohlmaa
open Go.RowKit Go.ChangeShapes Go.WideShapes Go.Maps

theorem own_leV {w : World} {B B' n z : Nat} {e : TypeId} {v : Value} {xs : List Value} (h : w.ownsRow B e z v n xs) (hB : B' ≤ B) : w.ownsRow B' e z v n xs := by
  refine ⟨h.1, ?_⟩
  rcases h.2 with h | ⟨g, cap, cur, hv, hg, r⟩
  · exact .inl h
  · exact .inr ⟨g, cap, cur, hv, by omega, r⟩
theorem filt_stepV {l : List Vr} {p : Vr → Bool} {k : Nat} (h : k < l.length) : (l.take (k + 1)).filter p = (l.take k).filter p ++ (if p l[k] then [l[k]] else []) := by
  rw [List.take_succ_eq_append_getElem h, List.filter_append]
  cases hp : p l[k] <;> simp [hp]
theorem sweepK_no {l : List Vr} {at_ : Int} (h : sweepB okVr l at_ = false) : sweepK okVr l at_ = [] := by unfold sweepK; rw [if_neg (by rw [h]; simp)]
theorem sweepK_yes {l : List Vr} {at_ : Int} (h : sweepB okVr l at_ = true) : sweepK okVr l at_ = l.filter (keepV l at_) := by unfold sweepK; rw [if_pos h]
theorem sweepB_up {l : List Vr} {at_ : Int} (h : sweepB okVr l at_ = true) : upV okVr l l.length = true := by
  unfold sweepB versK at h; simp only [Bool.and_eq_true] at h; exact h.1.1.2
/-- two structs are the same just if their parts are -/
theorem vr_eql (x0 x1 y0 y1 : ByteArray) (x2 y2 : Bool) (x3 y3 : Int) (w : World) :
    (binOp .eql 57 (.agg #[.string x0, .string x1, .bool x2, .int .i64 x3]) (.agg #[.string y0, .string y1, .bool y2, .int .i64 y3])).run Try.prog w = .ok (.bool (x0.toList == y0.toList && x1.toList == y1.toList && x2 == y2 && x3 == y3)) w := by
  have hS : Try.prog.underlying 57 = some (.struct (Try.prog.fieldsOf 57)) := by kernel_rfl
  have hp : Try.prog.stoodInHeld 57 = false := by kernel_rfl
  have u1 := Try.underlying9
  have u2 := Try.underlying4
  have u3 := Try.underlying3
  rw [run_eql_struct, show (10000 : Nat) = 9999 + 1 from rfl, run_equalIn_agg w 9999 57 _ _ hS hp]
  simp only [Program.fieldsOf, Try.underlying57]
  go_simp
  cases h1 : (x0.toList == y0.toList) <;> cases h2 : (x1.toList == y1.toList) <;> cases h3 : (x2 == y2) <;> cases h4 : (x3 == y3) <;> simp_all

set_option maxRecDepth 100000 in
set_option maxHeartbeats 2000000 in
theorem sSweepL_any (A : Option Addr) (n c : Nat) (l : List Vr) (from_ : Int) (w : World) (hr : RowAt w w.heap.size A (vrsC l)) (hn : n = l.length) (hs : n ≤ 1048576) (hv : upV okVr l l.length = true) :
    Calls Try.prog 77 #[.slice A n c, .int .i64 from_] w (VrsPost (l.filter (keepV l from_)) w) := by
  obtain ⟨i0, hi0, hz0, hz1, hz2⟩ := info_parts vrInfo
  have HI := Lib.hid (And.intro hi0 (And.intro hz0 (And.intro hz1 hz2))); clear hi0 hz0 hz1 hz2
  have HL := Lib.hid (fun key W (hb : Below w.heap.size w W) => sLast_any A n c l key from_ W ((hr.below hb).mono hb.size) hn hs)
  have HR := Lib.hid hr; clear hr
  have HN := Lib.hid hn; clear hn
  have HO0 := Lib.hid (OutR.empty 57 4 w)
  have HKM := Lib.hid (fun k (h : k < l.length) => keepV_model hv h from_)
  have HFF := Lib.hid (fun k (h : k < l.length) => filt_stepV (l := l) (p := keepV l from_) h)
  have HLN := Lib.hid (fun key => lastN_cases l key from_ l.length (Nat.le_refl _))
  clear hv
  go_enter Try.func77, Try.ntmps77
  go_wp2_with fail
  go_loopw [5, 6] (fun q i wr => ∃ (k m : Nat) (out : List Vr) (A' : Option Addr) (c' : Nat), q = .slice A' m c' ∧ i = .int .i64 k ∧ k ≤ n ∧ (l.take k).filter (keepV l from_) = out ∧ m = out.length ∧ m ≤ k ∧ OutR 57 4 w (vrsC out) m A' c' wr) (fun _ i _ => n - (intOf i).toNat)
  case atStart => exact ⟨0, 0, [], _, _, rfl, rfl, by omega, rfl, rfl, by omega, HO0.out⟩
  case round =>
    obtain ⟨k, m, out, A', c', rfl, rfl, hk, hf, hm, hmk, ho⟩ := hrel
    clear HO0
    have HM := Lib.hid hm; clear hm
    have HF := Lib.hid hf; clear hf
    have HO := Lib.hid ho; clear ho
    by_cases hlt : k < n
    · have hkl : k < l.length := by have := HN.out; omega
      obtain ⟨b, off, hA, hbw, e0, e1, e2, e3⟩ := vrs_at (HR.out.below HO.out.2) hkl
      subst hA
      have HSZ := Lib.hid HO.out.2.size
      have HKV := Lib.hid (HKM.out k hkl)
      have HFS := Lib.hid (HFF.out k hkl)
      have HLC := Lib.hid (HL.out l[k].1 _ HO.out.2)
      have HOK := Lib.hid (fun o => HO.out.keep ((Below.refl wr.heap.size wr).alloc (Nat.le_refl _) o))
      rw [show l[k] = (l[k].1, l[k].2.1, l[k].2.2.1, l[k].2.2.2) from rfl] at HKV HFS
      dsimp only at HKV
      have hi1 : (k : Int) < (n : Int) := by omega
      clear HKM HFF HL HLN
      generalize l[k].1 = x0 at *
      generalize l[k].2.1 = x1 at *
      generalize l[k].2.2.1 = x2 at *
      generalize l[k].2.2.2 = x3 at *
      generalize lastN l x0.toList from_ l.length = z at *
      generalize hkv : keepV l from_ (x0, x1, x2, x3) = kv at *
      clear hkv
      go_wp2_with fail
      refine (HLC.out).mono ?_
      rintro e w3 ⟨rfl, hw3⟩
      obtain rfl := hw3.symm
      by_cases h1 : from_ < x3
      · have HKY := Lib.hid HKV.out
        rw [decide_eq_true h1, Bool.true_or] at HKY
        rw [HKY.out] at HFS
        have HKY := Lib.hid (show (if true = true then [(x0, x1, x2, x3)] else []) = [(x0, x1, x2, x3)] from rfl)
        clear HKV
        go_wp2_with (at_builtin; refine wpList_append_own _ rfl _ _ 25 rfl w.heap.size 57 i0 (.agg #[.string ⟨#[]⟩, .string ⟨#[]⟩, .bool false, .int .i64 0]) 4 48 Try.underlying25 HI.out.1 HI.out.2.1 HI.out.2.2.1 HI.out.2.2.2 rfl (by decide) (.slice A' m c') m (vrsC out) rfl (HOK.out _).1 ⟨wr.heap.size, 0, none⟩ 1 1 [.string x0, .string x1, .bool x2, .int .i64 x3] rfl rfl ?c1 ?c2 ?c3 ?c4 ?c5 ?_)
        try (case c1 => exact fun j u hj => cells_at0 _ _ _ j u hj)
        try (case c2 => first | exact ⟨rfl, rfl, rfl, rfl⟩ | (intro u hu; simp at hu; rcases hu with rfl | rfl | rfl | rfl <;> rfl))
        try (case c3 => first | omega | (unfold maxLen; omega))
        try (case c4 => omega)
        try (case c5 => first | omega | (have := HSZ.out; simp; omega))
        intro v' w4 hown' hgrow _
        obtain ⟨A4, c4, rfl, ho4⟩ := (HOK.out _).app hown' hgrow
        have HO4 := Lib.hid ho4; clear ho4 hown' hgrow
        go_wp2_with fail
        go_roundw
        case rel => exact ⟨k + 1, m + 1, out ++ [(x0, x1, x2, x3)], A4, c4, rfl, by go_num, by omega, by rw [HFS.out, HKY.out, HF.out], by rw [List.length_append, ← HM.out]; rfl, by omega, by rw [vrsC_snoc]; exact HO4.out⟩
        case measure => simp [intOf]; omega
      · cases hq : ((k : Int) == z)
        · have HKY := Lib.hid HKV.out
          rw [decide_eq_false h1, hq] at HKY
          rw [HKY.out] at HFS
          have HKY := Lib.hid (show (if (false || (false && !x2)) = true then [(x0, x1, x2, x3)] else []) = [] from rfl)
          clear HKV
          go_wp2_with fail
          go_roundw
          case rel => exact ⟨k + 1, m, out, A', c', rfl, by go_num, by omega, by rw [HFS.out, HKY.out, HF.out]; exact List.append_nil _, HM.out, by omega, HO.out⟩
          case measure => simp [intOf]; omega
        · cases x2
          · have HKY := Lib.hid HKV.out
            rw [decide_eq_false h1, hq] at HKY
            rw [HKY.out] at HFS
            have HKY := Lib.hid (show (if (false || (true && !false)) = true then [(x0, x1, false, x3)] else []) = [(x0, x1, false, x3)] from rfl)
            clear HKV
            go_wp2_with (at_builtin; refine wpList_append_own _ rfl _ _ 25 rfl w.heap.size 57 i0 (.agg #[.string ⟨#[]⟩, .string ⟨#[]⟩, .bool false, .int .i64 0]) 4 48 Try.underlying25 HI.out.1 HI.out.2.1 HI.out.2.2.1 HI.out.2.2.2 rfl (by decide) (.slice A' m c') m (vrsC out) rfl (HOK.out _).1 ⟨wr.heap.size, 0, none⟩ 1 1 [.string x0, .string x1, .bool false, .int .i64 x3] rfl rfl ?c1 ?c2 ?c3 ?c4 ?c5 ?_)
            try (case c1 => exact fun j u hj => cells_at0 _ _ _ j u hj)
            try (case c2 => first | exact ⟨rfl, rfl, rfl, rfl⟩ | (intro u hu; simp at hu; rcases hu with rfl | rfl | rfl | rfl <;> rfl))
            try (case c3 => first | omega | (unfold maxLen; omega))
            try (case c4 => omega)
            try (case c5 => first | omega | (have := HSZ.out; simp; omega))
            intro v' w4 hown' hgrow _
            obtain ⟨A4, c4, rfl, ho4⟩ := (HOK.out _).app hown' hgrow
            have HO4 := Lib.hid ho4; clear ho4 hown' hgrow
            go_wp2_with fail
            go_roundw
            case rel => exact ⟨k + 1, m + 1, out ++ [(x0, x1, false, x3)], A4, c4, rfl, by go_num, by omega, by rw [HFS.out, HKY.out, HF.out], by rw [List.length_append, ← HM.out]; rfl, by omega, by rw [vrsC_snoc]; exact HO4.out⟩
            case measure => simp [intOf]; omega
          · have HKY := Lib.hid HKV.out
            rw [decide_eq_false h1, hq] at HKY
            rw [HKY.out] at HFS
            have HKY := Lib.hid (show (if (false || (true && !true)) = true then [(x0, x1, true, x3)] else []) = [] from rfl)
            clear HKV
            go_wp2_with fail
            go_roundw
            case rel => exact ⟨k + 1, m, out, A', c', rfl, by go_num, by omega, by rw [HFS.out, HKY.out, HF.out]; exact List.append_nil _, HM.out, by omega, HO.out⟩
            case measure => simp [intOf]; omega
    · obtain rfl : k = n := by omega
      have HE := Lib.hid (show out = l.filter (keepV l from_) by rw [← HF.out, HN.out, List.take_length])
      go_wp2_with fail
      go_ret
      rw [← HE.out]
      have hM := HM.out
      subst hM
      exact ⟨_, rfl, ⟨A', c', rfl, HO.out.1⟩, HO.out.2⟩
set_option maxRecDepth 100000 in
set_option maxHeartbeats 2000000 in
theorem sSweep_any (A : Option Addr) (n c : Nat) (l : List Vr) (from_ : Int) (w : World) (hr : RowAt w w.heap.size A (vrsC l)) (hn : n = l.length) (hs : n ≤ 1048576) (hw : WfVr l) :
    Calls Try.prog 35 #[.slice A n c, .int .i64 from_] w (VrsPost (sweepK okVr l from_) w) := by
  have HV := Lib.hid (sVers_any A n c l w hr hn hs hw)
  have HI := Lib.hid (fun W => inRange_any from_ 0 20 W)
  have HL := Lib.hid (fun (h : sweepB okVr l from_ = true) W (hb : Below w.heap.size w W) => sSweepL_any A n c l from_ W ((hr.below hb).mono hb.size) hn hs (sweepB_up h))
  have HB := Lib.hid (show sweepB okVr l from_ = (versB l && decide (0 ≤ from_) && decide (from_ ≤ 20)) from rfl)
  have HNO := Lib.hid (fun h => sweepK_no (l := l) (at_ := from_) h)
  have HYY := Lib.hid (fun h => sweepK_yes (l := l) (at_ := from_) h)
  clear hr hn hs hw
  generalize sweepK okVr l from_ = rk at *
  generalize sweepB okVr l from_ = rb at *
  cases h1 : versB l
  · rw [h1] at HV HB
    clear h1 HL HYY
    have HE := Lib.hid (HNO.out (by rw [HB.out]; rfl))
    go_enter Try.func35, Try.ntmps35
    go_wp2_with fail
    refine (HV.out).mono ?_
    rintro e w2 ⟨rfl, hb2⟩
    have HB2 := Lib.hid hb2; clear hb2
    go_wp2_with fail
    go_ret
    rw [HE.out]
    exact ⟨_, rfl, ⟨none, 0, rfl, World.ownsRow_nil _ _ _ _⟩, HB2.out⟩
  rw [h1] at HV HB
  clear h1
  by_cases h3 : 0 ≤ from_ ∧ from_ ≤ 20
  · have hT : (decide ((0 : Int) ≤ from_) && decide (from_ ≤ 20)) = true := by simp; omega
    rw [Bool.and_assoc, hT] at HB
    rw [hT] at HI
    clear h3 hT HNO
    have HE := Lib.hid (HYY.out (by rw [HB.out]; rfl))
    have HL1 := Lib.hid (HL.out (by rw [HB.out]; rfl))
    go_enter Try.func35, Try.ntmps35
    go_wp2_with fail
    refine (HV.out).mono ?_
    rintro e w2 ⟨rfl, hb2⟩
    have HB2 := Lib.hid hb2; clear hb2
    go_wp2_with (go_at_call 67; refine (HI.out _).mono ?_; rintro e w' ⟨rfl, rfl⟩)
    refine (HL1.out _ HB2.out).mono ?_
    rintro e w3 ⟨_, rfl, ⟨A3, c3, rfl, ho3⟩, hb3⟩
    have HO3 := Lib.hid (own_leV ho3 HB2.out.size); clear ho3
    have HB3 := Lib.hid (HB2.out.trans (hb3.mono HB2.out.size)); clear hb3
    go_wp2_with fail
    go_ret
    rw [HE.out]
    exact ⟨_, rfl, ⟨A3, c3, rfl, HO3.out⟩, HB3.out⟩
  · have hT : (decide ((0 : Int) ≤ from_) && decide (from_ ≤ 20)) = false := by simp; omega
    rw [Bool.and_assoc, hT] at HB
    rw [hT] at HI
    clear h3 hT HL HYY
    have HE := Lib.hid (HNO.out (by rw [HB.out]; rfl))
    go_enter Try.func35, Try.ntmps35
    go_wp2_with fail
    refine (HV.out).mono ?_
    rintro e w2 ⟨rfl, hb2⟩
    have HB2 := Lib.hid hb2; clear hb2
    go_wp2_with (go_at_call 67; refine (HI.out _).mono ?_; rintro e w' ⟨rfl, rfl⟩)
    go_ret
    rw [HE.out]
    exact ⟨_, rfl, ⟨none, 0, rfl, World.ownsRow_nil _ _ _ _⟩, HB2.out⟩
end Go.Proofs.Ytokmofkpjohlmaa
