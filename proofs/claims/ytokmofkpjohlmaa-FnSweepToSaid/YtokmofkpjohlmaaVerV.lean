/- Contract of SweepTo of the program (chapter 7). Conditions: the versions lie in a row; they are few; their texts are no longer than memory. -/
import Derived.Test.YtokmofkpjohlmaaVerW
import Derived.Test.YtokmofkpjohlmaaOut
import Derived.Laws.StructEq
set_option linter.unusedVariables false
set_option linter.unusedSimpArgs false
namespace Go.Proofs.Ytokmofkpjohlmaa
open Go.RowKit Go.ChangeShapes Go.WideShapes Go.Maps

theorem key_ne {s : ByteArray} (h : keyB s = true) : (s.toList == (⟨#[]⟩ : ByteArray).toList) = false := by
  cases hq : (s.toList == (⟨#[]⟩ : ByteArray).toList)
  · rfl
  · have e : s.toList = (⟨#[]⟩ : ByteArray).toList := by simpa using hq
    rw [toList_inj e] at h
    exact absurd h (by decide)
theorem vr_same (x0 y0 x1 y1 : ByteArray) (x2 y2 : Bool) (x3 y3 : Int) : decide (some ((y0, y1, y2, y3) : Vr) = some (x0, x1, x2, x3)) = (x0.toList == y0.toList && x1.toList == y1.toList && x2 == y2 && x3 == y3) := by
  rw [Bool.eq_iff_iff]
  simp only [decide_eq_true_eq, Option.some.injEq, Prod.mk.injEq, Bool.and_eq_true, beq_iff_eq]
  constructor
  · rintro ⟨rfl, rfl, rfl, rfl⟩; exact ⟨⟨⟨rfl, rfl⟩, rfl⟩, rfl⟩
  · rintro ⟨⟨⟨h0, h1⟩, h2⟩, h3⟩; exact ⟨(toList_inj h0).symm, (toList_inj h1).symm, h2.symm, h3.symm⟩
set_option maxRecDepth 100000 in
set_option maxHeartbeats 2000000 in
theorem iSweep_any (A : Option Addr) (n c : Nat) (l : List Vr) (from_ : Int) (w : World) (hr : RowAt w w.heap.size A (vrsC l)) (hn : n = l.length) (hs : n ≤ 1048576) (hw : WfVr l) (hc1 : n ≤ c) (hc2 : c ≤ maxLen) :
    Calls Try.prog 36 #[.slice A n c, .int .i64 from_] w (VrsPost (sweepK okVr l from_) w) := by
  obtain ⟨i0, hi0, hz0, hz1, hz2⟩ := info_parts vrInfo
  have HI := Lib.hid (And.intro hi0 (And.intro hz0 (And.intro hz1 hz2))); clear hi0 hz0 hz1 hz2
  have HV := Lib.hid (iMayR_any A n c l from_ w hr hn hs hw hc1 hc2)
  have HL := Lib.hid (fun (h : sweepB okVr l from_ = true) W (hb : Below w.heap.size w W) => iLast_any A n c l from_ W ((hr.below hb).mono hb.size) hn hs hw (sweepB_up h))
  have HNO := Lib.hid (fun h => sweepK_no (l := l) (at_ := from_) h)
  have HYY := Lib.hid (fun h => sweepK_yes (l := l) (at_ := from_) h)
  have HOKS := Lib.hid (fun (h : sweepB okVr l from_ = true) => (show ∀ p ∈ l, okVr p = true by have := (upV_iff (ok := okVr) _ (Nat.le_refl _)).1 (sweepB_up h); rw [List.take_length] at this; exact this.1))
  have HR := Lib.hid hr; clear hr
  have HN := Lib.hid hn; clear hn
  have HW := Lib.hid hw; clear hw
  clear hc1 hc2
  have HFF := Lib.hid (fun k (h : k < l.length) => filt_stepV (l := l) (p := keepV l from_) h)
  generalize sweepK okVr l from_ = rk at *
  cases h1 : sweepB okVr l from_
  · rw [h1] at HV
    have HE := Lib.hid (HNO.out h1)
    clear h1 HL HYY HNO HOKS
    go_enter Try.func36, Try.ntmps36
    go_wp2_with fail
    refine (HV.out).mono ?_
    rintro e w2 ⟨rfl, hb2⟩
    have HB2 := Lib.hid hb2; clear hb2
    go_wp2_with fail
    go_ret
    rw [HE.out]
    exact ⟨_, rfl, ⟨none, 0, rfl, World.ownsRow_nil _ _ _ _⟩, HB2.out⟩
  have HL1 := Lib.hid (HL.out h1)
  have HE := Lib.hid (HYY.out h1)
  have HOK1 := Lib.hid (HOKS.out h1)
  rw [h1] at HV
  clear h1 HL HYY HNO HOKS
  go_enter Try.func36, Try.ntmps36
  go_wp2_with fail
  refine (HV.out).mono ?_
  rintro e w2 ⟨rfl, hb2⟩
  have HB2 := Lib.hid hb2; clear hb2
  go_wp2_with fail
  refine (HL1.out _ HB2.out).mono ?_
  rintro e w3 ⟨mb, mm, rfl, hmb, hmm, hvm, hb3⟩
  have HB3 := Lib.hid (HB2.out.trans (hb3.mono HB2.out.size)); clear hb3
  have HVM := Lib.hid hvm; clear hvm
  have HMB := Lib.hid hmb; clear hmb
  have HO0 := Lib.hid (show w3.ownsRow w3.heap.size 57 4 (.slice none 0 0) 0 (vrsC []) from World.ownsRow_nil _ _ _ _)
  go_wp2_with fail
  go_loopw [6, 18] (fun q i wr => ∃ (k m : Nat) (out : List Vr) (A' : Option Addr) (c' : Nat), q = .slice A' m c' ∧ i = .int .i64 k ∧ k ≤ n ∧ (l.take k).filter (keepV l from_) = out ∧ m = out.length ∧ m ≤ k ∧ OutR 57 4 w3 (vrsC out) m A' c' wr) (fun _ i _ => n - (intOf i).toNat)
  case atStart => exact ⟨0, 0, [], _, _, rfl, rfl, by omega, rfl, rfl, by omega, HO0.out, Below.refl _ _⟩
  case round =>
    obtain ⟨k, m, out, A', c', rfl, rfl, hk, hf, hm, hmk, ho⟩ := hrel
    clear HO0
    have HM := Lib.hid hm; clear hm
    have HF := Lib.hid hf; clear hf
    have HO := Lib.hid ho; clear ho
    have HBW := Lib.hid (HB3.out.trans (HO.out.2.mono HB3.out.size))
    have HVR := Lib.hid (HVM.out.below HO.out.2 HVM.out.lt)
    by_cases hlt : k < n
    · have hkl : k < l.length := by have := HN.out; omega
      obtain ⟨b, off, hA, hbw, e0, e1, e2, e3⟩ := vrs_at (HR.out.below HBW.out) hkl
      subst hA
      have HSZ := Lib.hid HO.out.2.size
      have HSZ3 := Lib.hid HB3.out.size
      have HFS := Lib.hid (HFF.out k hkl)
      have HOK := Lib.hid (fun o => HO.out.keep ((Below.refl wr.heap.size wr).alloc (Nat.le_refl _) o))
      have HOK2 := Lib.hid (fun o o' => (HO.out.keep ((Below.refl wr.heap.size wr).alloc (Nat.le_refl _) o)).keep ((Below.refl (wr.alloc o).heap.size (wr.alloc o)).alloc (Nat.le_refl _) o'))
      have HKV := Lib.hid (show keepV l from_ l[k] = (decide (from_ < l[k].2.2.2) || decide (lastA l from_ l[k].1.toList = some l[k])) from rfl)
      obtain ⟨g1, g2, _⟩ := HW.out l[k] (List.getElem_mem hkl)
      have HNE := Lib.hid (show (l[k].1.toList == (⟨#[]⟩ : ByteArray).toList) = false from key_ne (okVr_key (HOK1.out l[k] (List.getElem_mem hkl))))
      have G1 := Lib.hid g1; clear g1 g2
      rw [show l[k] = (l[k].1, l[k].2.1, l[k].2.2.1, l[k].2.2.2) from rfl] at HKV HFS
      dsimp only at HKV
      have hi1 : (k : Int) < (n : Int) := by omega
      have hbs : b < wr.heap.size := by have := HBW.out.size; omega
      clear HFF
      generalize l[k].1 = x0 at *
      generalize l[k].2.1 = x1 at *
      generalize l[k].2.2.1 = x2 at *
      generalize l[k].2.2.2 = x3 at *
      generalize hkv : keepV l from_ (x0, x1, x2, x3) = kv at *
      clear hkv
      by_cases h1 : from_ < x3
      · have HKY := Lib.hid HKV.out
        rw [decide_eq_true h1, Bool.true_or] at HKY
        rw [HKY.out] at HFS
        have HKY := Lib.hid (show (if true = true then [(x0, x1, x2, x3)] else []) = [(x0, x1, x2, x3)] from rfl)
        clear HKV
        have HOK := HOK2
        go_wp2_with (at_builtin; refine wpList_append_own _ rfl _ _ 25 rfl w3.heap.size 57 i0 (.agg #[.string ⟨#[]⟩, .string ⟨#[]⟩, .bool false, .int .i64 0]) 4 48 Try.underlying25 HI.out.1 HI.out.2.1 HI.out.2.2.1 HI.out.2.2.2 rfl (by decide) (.slice A' m c') m (vrsC out) rfl (HOK.out _ _).1 ⟨wr.heap.size + 1, 0, none⟩ 1 1 [.string x0, .string x1, .bool x2, .int .i64 x3] rfl rfl ?c1 ?c2 ?c3 ?c4 ?c5 ?_)
        try (case c1 => exact fun j u hj => by have := cells_at0 (wr.alloc _) _ _ j u hj; simpa using this)
        try (case c2 => first | exact ⟨rfl, rfl, rfl, rfl⟩ | (intro u hu; simp at hu; rcases hu with rfl | rfl | rfl | rfl <;> rfl))
        try (case c3 => first | omega | (unfold maxLen; omega))
        try (case c4 => omega)
        try (case c5 => first | omega | (have := HSZ.out; simp; omega))
        intro v' w4 hown' hgrow _
        obtain ⟨A4, c4, rfl, ho4⟩ := (HOK.out _ _).app hown' hgrow
        have HO4 := Lib.hid ho4; clear ho4 hown' hgrow
        go_wp2_with fail
        go_roundw
        case rel => exact ⟨k + 1, m + 1, out ++ [(x0, x1, x2, x3)], A4, c4, rfl, by go_num, by omega, by rw [HFS.out, HKY.out, HF.out], by rw [List.length_append, ← HM.out]; rfl, by omega, by rw [vrsC_snoc]; exact HO4.out⟩
        case measure => simp [intOf]; omega
      · have HLK := Lib.hid (fun o => (HVR.out.alloc o).look Try.underlying9 Try.underlying90 (vr_zero _) false G1.out)
        have hgd : Try.prog.eqGuardType Try.prog.depth 57 = false := by kernel_rfl
        have hvm := HLK.out (.cells #[.string x0, .string x1, .bool x2, .int .i64 x3] 57)
        cases hf : lastA l from_ x0.toList with
        | none =>
          rw [got_none hf] at hvm
          unfold vVal zeroVr at hvm
          simp only [Bool.false_eq_true, if_false] at hvm
          have heq := vr_eql x0 x1 ⟨#[]⟩ ⟨#[]⟩ x2 false x3 0
          rw [HNE.out] at heq
          simp only [Bool.false_and] at heq
          have HKY := Lib.hid HKV.out
          rw [decide_eq_false h1, hf] at HKY
          rw [HKY.out] at HFS
          have HKY := Lib.hid (show (if (false || decide ((none : Option Vr) = some (x0, x1, x2, x3))) = true then [(x0, x1, x2, x3)] else []) = [] from rfl)
          clear HKV hf HLK
          go_wp2_with fail
          go_roundw
          case rel => exact ⟨k + 1, m, out, A', c', rfl, by go_num, by omega, by rw [HFS.out, HKY.out, HF.out]; exact List.append_nil _, HM.out, by omega, HOK.out _⟩
          case measure => simp [intOf]; omega
        | some v =>
          obtain ⟨y0, y1, y2, y3⟩ := v
          rw [got_some hf] at hvm
          unfold vVal at hvm
          simp only [Bool.false_eq_true, if_false] at hvm
          have heq := vr_eql x0 x1 y0 y1 x2 y2 x3 y3
          have HKY := Lib.hid HKV.out
          rw [decide_eq_false h1, hf, vr_same x0 y0 x1 y1 x2 y2 x3 y3] at HKY
          cases hq : (x0.toList == y0.toList && x1.toList == y1.toList && x2 == y2 && x3 == y3)
          · rw [hq] at HKY heq
            rw [HKY.out] at HFS
            have HKY := Lib.hid (show (if (false || false) = true then [(x0, x1, x2, x3)] else []) = [] from rfl)
            clear HKV hf HLK hq
            go_wp2_with fail
            go_roundw
            case rel => exact ⟨k + 1, m, out, A', c', rfl, by go_num, by omega, by rw [HFS.out, HKY.out, HF.out]; exact List.append_nil _, HM.out, by omega, HOK.out _⟩
            case measure => simp [intOf]; omega
          · rw [hq] at HKY heq
            rw [HKY.out] at HFS
            have HKY := Lib.hid (show (if (false || true) = true then [(x0, x1, x2, x3)] else []) = [(x0, x1, x2, x3)] from rfl)
            clear HKV hf HLK hq
            have HOK := HOK2
            go_wp2_with (at_builtin; refine wpList_append_own _ rfl _ _ 25 rfl w3.heap.size 57 i0 (.agg #[.string ⟨#[]⟩, .string ⟨#[]⟩, .bool false, .int .i64 0]) 4 48 Try.underlying25 HI.out.1 HI.out.2.1 HI.out.2.2.1 HI.out.2.2.2 rfl (by decide) (.slice A' m c') m (vrsC out) rfl (HOK.out _ _).1 ⟨wr.heap.size + 1, 0, none⟩ 1 1 [.string x0, .string x1, .bool x2, .int .i64 x3] rfl rfl ?c1 ?c2 ?c3 ?c4 ?c5 ?_)
            try (case c1 => exact fun j u hj => by have := cells_at0 (wr.alloc _) _ _ j u hj; simpa using this)
            try (case c2 => first | exact ⟨rfl, rfl, rfl, rfl⟩ | (intro u hu; simp at hu; rcases hu with rfl | rfl | rfl | rfl <;> rfl))
            try (case c3 => first | omega | (unfold maxLen; omega))
            try (case c4 => omega)
            try (case c5 => first | omega | (have := HSZ.out; simp; omega))
            intro v' w4 hown' hgrow _
            obtain ⟨A4, c4, rfl, ho4⟩ := (HOK.out _ _).app hown' hgrow
            have HO4 := Lib.hid ho4; clear ho4 hown' hgrow
            go_wp2_with fail
            go_roundw
            case rel => exact ⟨k + 1, m + 1, out ++ [(x0, x1, x2, x3)], A4, c4, rfl, by go_num, by omega, by rw [HFS.out, HKY.out, HF.out], by rw [List.length_append, ← HM.out]; rfl, by omega, by rw [vrsC_snoc]; exact HO4.out⟩
            case measure => simp [intOf]; omega
    · obtain rfl : k = n := by omega
      have HE2 := Lib.hid (show rk = out by rw [HE.out, ← HF.out, HN.out, List.take_length])
      go_wp2_with fail
      go_ret
      rw [HE2.out]
      have hM := HM.out
      subst hM
      exact ⟨_, rfl, ⟨A', c', rfl, own_leV HO.out.1 HB3.out.size⟩, HBW.out⟩
end Go.Proofs.Ytokmofkpjohlmaa
