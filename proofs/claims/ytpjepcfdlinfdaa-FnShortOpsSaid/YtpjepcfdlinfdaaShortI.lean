/- The contract of ShortOps of the program (chapter 5). Conditions: the changes lie in a row; they are few; their texts are no longer than memory. -/
import Derived.Test.YtpjepcfdlinfdaaShort
set_option linter.unusedVariables false
set_option linter.unusedSimpArgs false
namespace Go.Proofs.Ytpjepcfdlinfdaa
open Go.RowKit Go.ChangeShapes Go.WideShapes

theorem cgsC_drop (l : List Cg) : ∀ (k : Nat), (cgsC l).drop (k * 3) = cgsC (l.drop k)
  | 0 => by simp
  | k + 1 => by
    match l with
    | [] => simp [cgsC]
    | x :: t =>
      have e : (k + 1) * 3 = k * 3 + 3 := by omega
      have := cgsC_drop t k
      rw [e, List.drop_succ_cons, ← this]
      rfl
theorem cg_sizeOf (W : World) : (sizeOf (Try.prog.elem 25)).run Try.prog W = .ok 3 W := by kernel_rfl
theorem cg_under : Try.prog.underlying 25 = some (.slice (Try.prog.elem 25)) := by kernel_rfl

theorem sameKey_any (x0 x1 y0 : ByteArray) (x2 : Bool) (B : Nat) (W : World) (hc : W.cell? ⟨B, 0, none⟩ = some (.string y0)) :
    Calls Try.prog 60 #[.agg #[.string x0, .string x1, .bool x2], .pointer (some ⟨B, 0, none⟩)] W fun e w' => e = .returned (.bool (x0.toList == y0.toList)) ∧ Below W.heap.size W w' := by
  have hb : B < W.heap.size := World.block_lt_of_cell? W _ hc
  have hne : B ≠ W.heap.size := by omega
  have HB := Lib.hid (fun o => (Below.refl W.heap.size W).alloc (Nat.le_refl _) o)
  cases hq : (x0.toList == y0.toList)
  all_goals
    go_enter Try.func60, Try.ntmps60
    go_wp2_with fail
    go_ret
    exact ⟨rfl, HB.out _⟩

def FoundPost (b : Bool) (w : World) (e : Ending) (w' : World) : Prop := (∃ r : Int, e = .returned (.int .i64 r) ∧ ((b = true ∧ 0 ≤ r) ∨ (b = false ∧ r = -1))) ∧ Below w.heap.size w w'
set_option maxHeartbeats 1000000 in
theorem indexCg_any (A : Option Addr) (n c B : Nat) (l : List Cg) (y0 : ByteArray) (w : World) (hr : RowAt w w.heap.size A (cgsC l)) (hn : n = l.length) (hs : n ≤ 1048576) (hc : w.cell? ⟨B, 0, none⟩ = some (.string y0)) :
    Calls Try.prog 95 #[.slice A n c, .func (.func 60) #[] #[.pointer (some ⟨B, 0, none⟩)]] w (FoundPost (laterB y0 l) w) := by
  have HR := Lib.hid hr; clear hr
  have HN := Lib.hid hn; clear hn
  have HC := Lib.hid hc
  have hb : B < w.heap.size := World.block_lt_of_cell? w _ hc
  clear hc
  go_enter Try.func95, Try.ntmps95
  go_wp2_with fail
  go_loopw [8] (fun i wr => ∃ k : Nat, i = .int .i64 k ∧ k ≤ n ∧ laterB y0 (l.take k) = false ∧ Below w.heap.size w wr) (fun i _ => n - (intOf i).toNat)
  case atStart => exact ⟨0, rfl, by omega, rfl, Below.refl _ _⟩
  case round =>
    obtain ⟨k, rfl, hk, hu, hb1⟩ := hrel
    have HU := Lib.hid hu; clear hu
    have HB := Lib.hid hb1; clear hb1
    by_cases hlt : k < n
    · have hkl : k < l.length := by have := HN.out; omega
      obtain ⟨b, off, hA, hbw, e0, e1, e2⟩ := cgs_at (HR.out.below HB.out) hkl
      subst hA
      have HK := Lib.hid (sameKey_any l[k].1 l[k].2.1 y0 l[k].2.2 B wr ((HB.out.cell (p := ⟨B, 0, none⟩) hb).trans HC.out))
      have HT := Lib.hid (show laterB y0 (l.take (k + 1)) = (l[k].1.toList == y0.toList) by
        unfold laterB at HU ⊢
        rw [List.take_succ_eq_append_getElem hkl, List.any_append, HU.out]
        simp only [List.any_cons, List.any_nil, Bool.or_false, Bool.false_or])
      have HY := Lib.hid (show (l[k].1.toList == y0.toList) = true → laterB y0 l = true from fun h => List.any_eq_true.2 ⟨l[k], List.getElem_mem hkl, h⟩)
      generalize l[k].1 = x0 at *
      generalize l[k].2.1 = x1 at *
      generalize l[k].2.2 = x2 at *
      generalize (x0.toList == y0.toList) = r at *
      go_wp2_with fail
      refine (HK.out).mono ?_
      rintro e w3 ⟨rfl, hb3⟩
      have HB3 := Lib.hid (HB.out.trans (hb3.mono HB.out.size)); clear hb3
      cases r
      · go_wp2_with fail
        go_roundw
        case rel => exact ⟨k + 1, by go_num, by omega, HT.out, HB3.out⟩
        case measure => simp [intOf]; omega
      · go_wp2_with fail
        go_ret
        exact ⟨⟨_, rfl, Or.inl ⟨HY.out (by simp), by omega⟩⟩, HB3.out⟩
    · obtain rfl : k = n := by omega
      have HF := Lib.hid (show laterB y0 l = false by have := HU.out; rw [HN.out, List.take_length] at this; exact this)
      go_wp2_with fail
      go_ret
      exact ⟨⟨_, rfl, Or.inr ⟨HF.out, rfl⟩⟩, HB.out⟩
theorem containsCg_any (A : Option Addr) (n c B : Nat) (l : List Cg) (y0 : ByteArray) (w : World) (hr : RowAt w w.heap.size A (cgsC l)) (hn : n = l.length) (hs : n ≤ 1048576) (hc : w.cell? ⟨B, 0, none⟩ = some (.string y0)) :
    Calls Try.prog 61 #[.slice A n c, .func (.func 60) #[] #[.pointer (some ⟨B, 0, none⟩)]] w fun e w' => e = .returned (.bool (laterB y0 l)) ∧ Below w.heap.size w w' := by
  have HI := Lib.hid (indexCg_any A n c B l y0 w hr hn hs hc)
  clear hr hn hc
  generalize laterB y0 l = q at *
  go_enter Try.func61, Try.ntmps61
  go_wp2_with fail
  refine (HI.out).mono ?_
  rintro e w3 ⟨⟨r, rfl, hr⟩, hb3⟩
  have HB3 := Lib.hid hb3; clear hb3
  rcases hr with ⟨rfl, h0⟩ | ⟨rfl, rfl⟩
  · go_wp2_with fail
    go_ret
    exact ⟨ret_bool (by simp [h0]), HB3.out⟩
  · go_wp2_with fail
    go_ret
    exact ⟨rfl, HB3.out⟩

set_option maxRecDepth 100000 in
set_option maxHeartbeats 4000000 in
theorem iShort_any (A : Option Addr) (n c : Nat) (l : List Cg) (w : World) (hr : RowAt w w.heap.size A (cgsC l)) (hn : n = l.length) (hs : n ≤ 1048576) (hw : WfCg l) (hc1 : n ≤ c) (hc2 : c ≤ maxLen) :
    Calls Try.prog 23 #[.slice A n c] w (CgsPost (shortR l) w) := by
  have HO := Lib.hid (iOps_any A n c l w hr hn hs hw)
  have HR := Lib.hid hr; clear hr
  have HN := Lib.hid hn; clear hn
  unfold maxLen at hc2
  clear hw
  cases hq : opsB l
  · rw [hq] at HO
    have HE := Lib.hid (show shortR l = [] by unfold shortR; rw [hq]; rfl)
    rw [HE.out]
    go_enter Try.func23, Try.ntmps23
    go_wp2_with fail
    refine (HO.out).mono ?_
    rintro e w2 ⟨rfl, hb2⟩
    have HB := Lib.hid hb2; clear hb2
    go_wp2_with fail
    go_ret
    exact ⟨_, rfl, ⟨none, 0, rfl, World.ownsRow_nil _ _ _ _⟩, HB.out⟩
  rw [hq] at HO
  have HE := Lib.hid (show shortR l = shortK l by unfold shortR; rw [hq]; rfl)
  rw [HE.out]
  clear hq
  obtain ⟨i0, hi0, hz0, hz1, hz2⟩ := info_parts cgInfo
  have HI := Lib.hid (And.intro hi0 (And.intro hz0 (And.intro hz1 hz2))); clear hi0 hz0 hz1 hz2
  go_enter Try.func23, Try.ntmps23
  go_wp2_with fail
  refine (HO.out).mono ?_
  rintro e w2 ⟨rfl, hb2⟩
  have HO0 := Lib.hid ((OutR.nil 38 3 w).keep hb2); clear hb2
  go_wp2_with fail
  go_loopw [3, 12] (fun q i wr => ∃ (k m : Nat) (out : List Cg) (A' : Option Addr) (c' : Nat), q = .slice A' m c' ∧ i = .int .i64 k ∧ k ≤ n ∧ m = out.length ∧ m ≤ k ∧ out ++ shortK (l.drop k) = shortK l ∧ OutR 38 3 w (cgsC out) m A' c' wr) (fun _ i _ => n - (intOf i).toNat)
  case atStart => exact ⟨0, 0, [], _, _, rfl, rfl, by omega, rfl, by omega, rfl, HO0.out⟩
  case round =>
    obtain ⟨k, m, out, A', c', rfl, rfl, hk, hm, hmk, hinv, ho⟩ := hrel
    clear HO0
    have HM := Lib.hid hm; clear hm
    have HV := Lib.hid hinv; clear hinv
    have HOW := Lib.hid ho; clear ho
    rename World => wx
    by_cases hlt : k < n
    · have hkl : k < l.length := by have := HN.out; omega
      have HD := Lib.hid (shortK_drop hkl)
      obtain ⟨b, off, hA, hbw, e0, e1, e2⟩ := cgs_at (HR.out.below HOW.out.2) hkl
      subst hA
      obtain ⟨ad', hsp, hcut0, htl⟩ := cut_head cg_under cg_sizeOf b off n c (k + 1) (by omega) hc1
      obtain ⟨bb, oo, sp⟩ := ad'
      simp only at hsp
      subst hsp
      have hcut : ∀ W, (Instr.sliceAt 25 (.slice (some ⟨b, off, none⟩) n c) (some (.int .i64 ((k : Int) + 1))) none none).run Try.prog W = .ok (.slice (some ⟨bb, oo, none⟩) (n - (k + 1)) (c - (k + 1))) W := fun W => by
        have := hcut0 W
        rw [show ((k + 1 : Nat) : Int) = (k : Int) + 1 by omega] at this
        exact this
      clear hcut0
      have hbs : b < wx.heap.size := Nat.lt_of_lt_of_le hbw HOW.out.2.size
      have HCT := Lib.hid (fun (W : World) (hb : Below w.heap.size w W) (B : Nat) (hc : W.cell? ⟨B, 0, none⟩ = some (.string l[k].1)) => containsCg_any (some ⟨bb, oo, none⟩) (n - (k + 1)) (c - (k + 1)) B (l.drop (k + 1)) l[k].1 W (by
        have := htl W w.heap.size (cgsC l) (by rw [cgsC_len, HN.out]) (HR.out.below hb)
        rw [cgsC_drop] at this
        exact this.mono hb.size) (by rw [List.length_drop, HN.out]) (by omega) hc)
      clear htl
      have HVY := Lib.hid (show laterB l[k].1 (l.drop (k + 1)) = true → out ++ shortK (l.drop (k + 1)) = shortK l from fun h => by rw [← HV.out, HD.out, h]; rfl)
      have HVN := Lib.hid (show laterB l[k].1 (l.drop (k + 1)) = false → (out ++ [l[k]]) ++ shortK (l.drop (k + 1)) = shortK l from fun h => by rw [List.append_assoc, ← HV.out, HD.out, h]; rfl)
      have HYY := Lib.hid (show l[k] = (l[k].1, l[k].2.1, l[k].2.2) from rfl)
      rw [HYY.out] at HVN
      clear HD HV
      generalize laterB l[k].1 (l.drop (k + 1)) = q at *
      generalize l[k].1 = x0 at *
      generalize l[k].2.1 = x1 at *
      generalize l[k].2.2 = x2 at *
      have HAL := Lib.hid (fun o => HOW.out.keep ((Below.refl wx.heap.size wx).alloc (Nat.le_refl _) o))
      have hne : b ≠ wx.heap.size := by omega
      have HC0 := Lib.hid (fun o => (show (wx.alloc (.cells #[.string x0, .string x1, .bool x2] o)).cell? ⟨wx.heap.size, 0, none⟩ = some (.string x0) by simp))
      have HC1 := Lib.hid (fun o => (show (wx.alloc (.cells #[.string x0, .string x1, .bool x2] o)).cell? ⟨wx.heap.size, 1, none⟩ = some (.string x1) by simp))
      have HC2 := Lib.hid (fun o => (show (wx.alloc (.cells #[.string x0, .string x1, .bool x2] o)).cell? ⟨wx.heap.size, 2, none⟩ = some (.bool x2) by simp))
      have hlt3 : wx.heap.size < (wx.alloc (.cells #[.string x0, .string x1, .bool x2] 38)).heap.size := by simp
      go_wp2_with fail
      refine (HCT.out _ (HAL.out _).2 _ (HC0.out _)).mono ?_
      rintro e w3 ⟨rfl, hb3⟩
      have p0 := (hb3.cell (p := ⟨wx.heap.size, 0, none⟩) hlt3).trans (HC0.out _)
      have p1 := (hb3.cell (p := ⟨wx.heap.size, 1, none⟩) hlt3).trans (HC1.out _)
      have p2 := (hb3.cell (p := ⟨wx.heap.size, 2, none⟩) hlt3).trans (HC2.out _)
      have HO3 := Lib.hid ((HAL.out _).keep hb3)
      have hsz3 : wx.heap.size < w3.heap.size := Nat.lt_of_lt_of_le hlt3 hb3.size
      clear hb3 hlt3 HC0 HC1 HC2 HAL e0 e1 e2
      generalize wx.heap.size = bx at *
      cases q
      · have HV2 := Lib.hid (HVN.out (by simp))
        have HM2 := Lib.hid HM.out
        have HOK := Lib.hid (fun o => HO3.out.keep ((Below.refl w3.heap.size w3).alloc (Nat.le_refl _) o))
        go_wp2_with (at_builtin; refine wpList_append_own _ rfl _ _ 25 rfl w.heap.size 38 i0 (.agg #[.string ⟨#[]⟩, .string ⟨#[]⟩, .bool false]) 3 40 Try.underlying25 HI.out.1 HI.out.2.1 HI.out.2.2.1 HI.out.2.2.2 rfl (by decide) (.slice A' m c') m (cgsC out) rfl (HOK.out _).1 ⟨w3.heap.size, 0, none⟩ 1 1 [.string x0, .string x1, .bool x2] rfl rfl ?c1 ?c2 ?c3 ?c4 ?c5 ?_)
        try (case c1 => exact fun j u hj => cells_at0 _ _ _ j u hj)
        try (case c2 => first | exact ⟨rfl, rfl, rfl⟩ | (intro u hu; simp at hu; rcases hu with rfl | rfl | rfl <;> rfl))
        try (case c3 => first | omega | (unfold maxLen; omega))
        try (case c4 => omega)
        try (case c5 => first | omega | (have := HO3.out.2.size; simp; omega) | (have := HO3.out.2.size; omega))
        intro v' w4 hown' hgrow _
        obtain ⟨A4, c4, rfl, ho4⟩ := (HOK.out _).app hown' hgrow
        have HO4 := Lib.hid ho4; clear ho4 hown' hgrow
        go_wp2_with fail
        go_roundw
        case rel => exact ⟨k + 1, m + 1, out ++ [(x0, x1, x2)], A4, c4, rfl, by go_num, by omega, by rw [List.length_append, ← HM2.out]; rfl, by omega, HV2.out, by rw [cgsC_snoc]; exact HO4.out⟩
        case measure => simp [intOf]; omega
      · have HV2 := Lib.hid (HVY.out (by simp))
        go_wp2_with fail
        go_roundw
        case rel => exact ⟨k + 1, m, out, A', c', rfl, by go_num, by omega, HM.out, by omega, HV2.out, HO3.out⟩
        case measure => simp [intOf]; omega
    · obtain rfl : k = n := by omega
      have HF := Lib.hid (show out = shortK l by have := HV.out; rw [HN.out, List.drop_length, shortK, List.append_nil] at this; exact this)
      go_wp2_with fail
      go_ret
      rw [← HF.out]
      have hM := HM.out
      subst hM
      exact ⟨_, rfl, ⟨A', c', rfl, HOW.out.1⟩, HOW.out.2⟩
end Go.Proofs.Ytpjepcfdlinfdaa
