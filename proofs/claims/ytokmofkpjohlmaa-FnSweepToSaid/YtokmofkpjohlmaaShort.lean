/- Contracts of ShortOps, in the program and in the model (chapter 5). Conditions: the changes lie in a row; they are few; their texts are no longer than memory. -/
import Derived.Test.YtokmofkpjohlmaaOpsC
import Derived.Test.YtokmofkpjohlmaaOut
import Derived.Deep.QuietTactic
import Derived.BigQuiet
set_option linter.unusedVariables false
set_option linter.unusedSimpArgs false
namespace Go.Proofs.Ytokmofkpjohlmaa
open Go.RowKit Go.ChangeShapes Go.WideShapes

/-- a change with this key comes -/
def laterB (x : ByteArray) (l : List Cg) : Bool := l.any (fun p => p.1.toList == x.toList)
def shortK : List Cg → List Cg
  | [] => []
  | p :: l => if laterB p.1 l then shortK l else p :: shortK l
def shortR (l : List Cg) : List Cg := if opsB l then shortK l else []
theorem shortK_drop {l : List Cg} {k : Nat} (h : k < l.length) : shortK (l.drop k) = if laterB l[k].1 (l.drop (k + 1)) then shortK (l.drop (k + 1)) else l[k] :: shortK (l.drop (k + 1)) := by
  rw [List.drop_eq_getElem_cons h, shortK]
theorem shortK_mem {p : Cg} : ∀ {l : List Cg}, p ∈ shortK l → p ∈ l
  | [], h => h
  | q :: l, h => by
    unfold shortK at h
    split at h
    · exact List.mem_cons_of_mem _ (shortK_mem h)
    · rcases List.mem_cons.1 h with h | h
      · rw [h]; exact List.mem_cons_self
      · exact List.mem_cons_of_mem _ (shortK_mem h)
theorem shortK_len : ∀ (l : List Cg), (shortK l).length ≤ l.length
  | [] => by simp [shortK]
  | q :: l => by
    have := shortK_len l
    unfold shortK
    split <;> simp <;> omega
theorem shortR_good {l : List Cg} (h : ∀ p ∈ l, SmallCg p) (hl : l.length ≤ 1048576) : (shortR l).length ≤ 1048576 ∧ ∀ p ∈ shortR l, GoodCg p := by
  unfold shortR
  split
  · refine ⟨Nat.le_trans (shortK_len l) hl, fun p hp => ?_⟩
    have := h p (shortK_mem hp)
    exact ⟨Nat.le_trans this.1 (by simp [maxLen]), Nat.le_trans this.2 (by simp [maxLen])⟩
  · exact ⟨by simp, fun p hp => by cases hp⟩
/-- while it is looked for in the model: those from i + 1 on, k of them are asked -/
def lateAt (l : List Cg) (i k : Nat) : Bool := laterB (l[i]?.map (·.1) |>.getD ⟨#[]⟩) ((l.take k).drop (i + 1))
theorem lateAt_zero (l : List Cg) (i : Nat) : lateAt l i (i + 1) = false := by
  unfold lateAt; rw [List.drop_eq_nil_of_le (by simp; omega)]; rfl
theorem lateAt_succ {l : List Cg} {i k : Nat} (hi : i < k) (h : k < l.length) : lateAt l i (k + 1) = (lateAt l i k || l[k].1.toList == (l[i]'(by omega)).1.toList) := by
  unfold lateAt
  rw [List.getElem?_eq_getElem (by omega), List.take_succ_eq_append_getElem h, List.drop_append_of_le_length (by simp; omega)]
  unfold laterB
  rw [List.any_append]
  simp only [List.any_cons, List.any_nil, Bool.or_false, Option.map_some, Option.getD_some]
theorem lateAt_all {l : List Cg} {i : Nat} (h : i < l.length) : lateAt l i l.length = laterB l[i].1 (l.drop (i + 1)) := by
  unfold lateAt
  rw [List.take_length, List.getElem?_eq_getElem h]; rfl

set_option maxRecDepth 100000 in
set_option maxHeartbeats 4000000 in
theorem sShort_any (A : Option Addr) (n c : Nat) (l : List Cg) (w : World) (hr : RowAt w w.heap.size A (cgsC l)) (hn : n = l.length) (hs : n ≤ 1048576) :
    Calls Try.prog 66 #[.slice A n c] w (CgsPost (shortK l) w) := by
  obtain ⟨i0, hi0, hz0, hz1, hz2⟩ := info_parts cgInfo
  have HI := Lib.hid (And.intro hi0 (And.intro hz0 (And.intro hz1 hz2))); clear hi0 hz0 hz1 hz2
  have HR := Lib.hid hr; clear hr
  have HN := Lib.hid hn; clear hn
  have HO0 := Lib.hid (OutR.empty 82 3 w)
  go_enter Try.func66, Try.ntmps66
  go_wp2_with fail
  go_loopw [3, 4] (fun q i wr => ∃ (k m : Nat) (out : List Cg) (A' : Option Addr) (c' : Nat), q = .slice A' m c' ∧ i = .int .i64 k ∧ k ≤ n ∧ m = out.length ∧ m ≤ k ∧ out ++ shortK (l.drop k) = shortK l ∧ OutR 82 3 w (cgsC out) m A' c' wr) (fun _ i _ => n - (intOf i).toNat)
  case atStart => exact ⟨0, 0, [], _, _, rfl, rfl, by omega, rfl, by omega, rfl, HO0.out⟩
  case round =>
    obtain ⟨k, m, out, A', c', rfl, rfl, hk, hm, hmk, hinv, ho⟩ := hrel
    clear HO0
    have HM := Lib.hid hm; clear hm
    have HV := Lib.hid hinv; clear hinv
    have HO := Lib.hid ho; clear ho
    by_cases hlt : k < n
    · have hkl : k < l.length := by have := HN.out; omega
      have HD := Lib.hid (shortK_drop hkl)
      obtain ⟨b, off, hA, hbw, e0, e1, e2⟩ := cgs_at (HR.out.below HO.out.2) hkl
      subst hA
      have HL0 := Lib.hid (lateAt_zero l k)
      have HLN := Lib.hid (lateAt_all hkl)
      have HAT := Lib.hid (fun W (hb : Below w.heap.size w W) j (hj : j < l.length) => cgs_at (HR.out.below hb) hj)
      go_wp2_with fail
      go_loopw [5, 6] (fun f i wr2 => ∃ (j : Nat), f = .bool (lateAt l k j) ∧ i = .int .i64 j ∧ k + 1 ≤ j ∧ j ≤ n ∧ Below wr.heap.size wr wr2) (fun _ i _ => n - (intOf i).toNat)
      case atStart => exact ⟨k + 1, by rw [HL0.out], by go_num, by omega, by omega, Below.refl _ _⟩
      case round =>
        obtain ⟨j, rfl, rfl, hj1, hj2, hb2⟩ := hrel
        have HB2 := Lib.hid hb2; clear hb2
        have HO2 := Lib.hid (HO.out.keep HB2.out)
        rename World => wx
        by_cases hlt2 : j < n
        · have hjl : j < l.length := by have := HN.out; omega
          have HS := Lib.hid (lateAt_succ (by omega : k < j) hjl)
          obtain ⟨b3, off3, hA3, hbw3, d0, d1, d2⟩ := HAT.out _ HO2.out.2 j hjl
          injection hA3 with hA3
          injection hA3 with h1 h2
          subst h1 h2
          obtain ⟨b4, off4, hA4, hbw4, f0, f1, f2⟩ := HAT.out _ HO2.out.2 k hkl
          injection hA4 with hA4
          injection hA4 with h1 h2
          subst h1 h2
          clear d1 d2 f1 f2 hbw3 hbw4 e0 e1 e2
          have hi1 : (k : Int) < (n : Int) := by omega
          have hi2 : (j : Int) < (n : Int) := by omega
          generalize l[j].1 = y0 at *
          generalize l[k].1 = x0 at *
          generalize lateAt l k j = lt at *
          cases lt
          · cases hq : (y0.toList == x0.toList)
            all_goals
              rw [hq] at HS
              go_wp2_with fail
              go_quiet (fail)
              go_wp2_with fail
              go_roundw
              case rel => exact ⟨j + 1, by rw [HS.out]; rfl, by go_num, by omega, by omega, HB2.out.trans (below_drewN _ _)⟩
              case measure => simp [intOf]; omega
          · go_wp2_with fail
            go_quiet (fail)
            go_wp2_with fail
            go_roundw
            case rel => exact ⟨j + 1, by rw [HS.out]; rfl, by go_num, by omega, by omega, HB2.out.trans (below_drewN _ _)⟩
            case measure => simp [intOf]; omega
        · obtain rfl : j = n := by omega
          have HJ := Lib.hid (show lateAt l k j = laterB l[k].1 (l.drop (k + 1)) by rw [HN.out]; exact HLN.out)
          rw [HJ.out]
          cases hq : laterB l[k].1 (l.drop (k + 1))
          · rw [hq] at HD
            obtain ⟨b4, off4, hA4, hbw4, f0, f1, f2⟩ := HAT.out _ HO2.out.2 k hkl
            injection hA4 with hA4
            injection hA4 with h1 h2
            subst h1 h2
            have HV2 := Lib.hid (show (out ++ [l[k]]) ++ shortK (l.drop (k + 1)) = shortK l by rw [List.append_assoc, ← HV.out, HD.out]; rfl)
            have HY := Lib.hid (show l[k] = (l[k].1, l[k].2.1, l[k].2.2) from rfl)
            rw [HY.out] at HV2
            have hi1 : (k : Int) < (j : Int) := by omega
            clear hq e0 e1 e2 HLN HJ
            have HM2 := Lib.hid HM.out
            have HOK := Lib.hid (fun o => HO2.out.keep ((Below.refl wx.heap.size wx).alloc (Nat.le_refl _) o))
            generalize l[k].1 = x0 at *
            generalize l[k].2.1 = x1 at *
            generalize l[k].2.2 = x2 at *
            go_wp2_with (at_builtin; refine wpList_append_own _ rfl _ _ 38 rfl w.heap.size 82 i0 (.agg #[.string ⟨#[]⟩, .string ⟨#[]⟩, .bool false]) 3 40 Try.underlying38 HI.out.1 HI.out.2.1 HI.out.2.2.1 HI.out.2.2.2 rfl (by decide) (.slice A' m c') m (cgsC out) rfl (HOK.out _).1 ⟨wx.heap.size, 0, none⟩ 1 1 [.string x0, .string x1, .bool x2] rfl rfl ?c1 ?c2 ?c3 ?c4 ?c5 ?_)
            try (case c1 => exact fun j u hj => cells_at0 _ _ _ j u hj)
            try (case c2 => first | exact ⟨rfl, rfl, rfl⟩ | (intro u hu; simp at hu; rcases hu with rfl | rfl | rfl <;> rfl))
            try (case c3 => first | omega | (unfold maxLen; omega))
            try (case c4 => omega)
            try (case c5 => first | omega | (have := HO2.out.2.size; simp; omega) | (have := HO2.out.2.size; omega))
            intro v' w4 hown' hgrow _
            obtain ⟨A4, c4, rfl, ho4⟩ := (HOK.out _).app hown' hgrow
            have HO4 := Lib.hid ho4; clear ho4 hown' hgrow
            go_wp2_with fail
            go_roundw
            case rel => exact ⟨k + 1, m + 1, out ++ [(x0, x1, x2)], A4, c4, rfl, by go_num, by omega, by rw [List.length_append, ← HM2.out]; rfl, by omega, HV2.out, by rw [cgsC_snoc]; exact HO4.out⟩
            case measure => simp [intOf]; omega
          · rw [hq] at HD
            have HV2 := Lib.hid (show out ++ shortK (l.drop (k + 1)) = shortK l by rw [← HV.out, HD.out]; rfl)
            clear hq
            go_wp2_with fail
            go_roundw
            case rel => exact ⟨k + 1, m, out, A', c', rfl, by go_num, by omega, HM.out, by omega, HV2.out, HO2.out⟩
            case measure => simp [intOf]; omega
    · obtain rfl : k = n := by omega
      have HF := Lib.hid (show out = shortK l by have := HV.out; rw [HN.out, List.drop_length, shortK, List.append_nil] at this; exact this)
      go_wp2_with fail
      go_ret
      rw [← HF.out]
      have hM := HM.out
      subst hM
      exact ⟨_, rfl, ⟨A', c', rfl, HO.out.1⟩, HO.out.2⟩
end Go.Proofs.Ytokmofkpjohlmaa
