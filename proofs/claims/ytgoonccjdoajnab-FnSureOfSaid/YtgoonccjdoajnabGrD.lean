/- Contracts of slices.Clone at entries and of clone of the program, of copyLogs of the model (chapter 10). Conditions: the logs lie in memory; they are few. -/
import Derived.Test.YtgoonccjdoajnabGrP
set_option linter.unusedVariables false
set_option linter.unusedSimpArgs false
namespace Go.Proofs.Ytgoonccjdoajnab
open Go.RowKit Go.ChangeShapes Go.WideShapes

theorem cloneEn_any (A : Option Addr) (n c : Nat) (l : List En) (w : World) (hr : RowAt w w.heap.size A (ensC l)) (hn : n = l.length) (hA : A = none → c = 0) (hs : n ≤ 1048576) :
    Calls Try.prog 60 #[.slice A n c] w (fun e w' => ∃ A' c', e = .returned (.slice A' n c') ∧ w'.ownsRow w.heap.size 42 2 (.slice A' n c') n (ensC l) ∧ Below w.heap.size w w') := by
  obtain ⟨i0, hi0, hz0, hz1, hz2⟩ := info_parts enInfo
  have HI := Lib.hid (And.intro hi0 (And.intro hz0 (And.intro hz1 hz2))); clear hi0 hz0 hz1 hz2
  have HR := Lib.hid hr; clear hr
  have HN := Lib.hid hn; clear hn
  have hnil := @Lib.run_eql_slice_nil
  cases A with
  | none =>
    obtain rfl := hA rfl
    have hl : l = [] := by
      cases l with
      | nil => rfl
      | cons p t => obtain ⟨b, off, e, _⟩ := HR.out (by intro h; have := congrArg List.length h; rw [ensC_len] at this; simp at this); cases e
    have hn0 : n = 0 := by have := HN.out; rw [hl] at this; exact this
    subst hn0
    have HE := Lib.hid hl
    clear hl
    rw [HE.out]
    go_enter Try.func60, Try.ntmps60
    go_wp2_with fail
    refine bodyPost_ret (v := .slice none 0 0) (by simp [results, Try.results60, go_sem]) rfl ?_
    exact ⟨none, 0, rfl, World.ownsRow_nil _ _ _ _, Below.refl _ _⟩
  | some ad =>
    clear hA
    have HB0 := Lib.hid ((Below.refl w.heap.size w).alloc (Nat.le_refl _) (.cells #[] 42))
    have HO := Lib.hid (own_startG w 42 2)
    go_enter Try.func60, Try.ntmps60
    go_wp2_with (at_builtin; refine wpList_append_row rfl _ _ 39 rfl w.heap.size 42 i0 (.agg #[.int .i64 0, .int .i64 0]) 2 16 Try.underlying39 HI.out.1 HI.out.2.1 HI.out.2.2.1 HI.out.2.2.2 rfl (by decide) _ 0 [] rfl HO.out (some ad) n c w.heap.size (ensC l) rfl ?c0 ?c1 (HR.out.below HB0.out) (ens_one l) ?c3 ?c4 ?c5 ?_)
    try (case c0 => intro h; cases h)
    try (case c1 => rw [ensC_len, ← HN.out])
    try (case c3 => unfold maxLen; omega)
    try (case c4 => omega)
    try (case c5 => exact HB0.out.size)
    intro v1 w1 hown1 hgrow1
    have hb1 : Below w.heap.size w w1 := HB0.out.grown hgrow1 HB0.out.size (fun q hq => (HO.out.lt q hq).1)
    obtain ⟨A3, c3, rfl⟩ := own_shapeG hown1
    have HP := Lib.hid (show w1.ownsRow w.heap.size 42 2 (.slice A3 n c3) n (ensC l) by simpa using hown1)
    have HB1 := Lib.hid hb1
    clear hown1 hgrow1 hb1
    go_wp2_with fail
    refine bodyPost_ret (v := .slice A3 n c3) (by simp [results, Try.results60, go_sem]) rfl ?_
    exact ⟨A3, c3, rfl, HP.out, HB1.out⟩

set_option maxRecDepth 100000 in
set_option maxHeartbeats 2000000 in
theorem iClone_any (A : Option Addr) (n c : Nat) (L : List (List En)) (ld tm : Int) (w : World) (hr : GvAt w w.heap.size A L) (hn : n = L.length) (hs : n ≤ 1048576) (hsm : SmallGv L) :
    Calls Try.prog 57 #[.agg #[.slice A n c, .int .i64 ld, .int .i64 tm]] w (GrpPost L ld tm w) := by
  obtain ⟨i0, hi0, hz0, hz1, hz2⟩ := info_parts gvInfo
  have HR := Lib.hid hr; clear hr
  have HN := Lib.hid hn; clear hn
  have HSM := Lib.hid hsm; clear hsm
  have hb2 : i0.bytes * n ≤ 281474976710656 := by rw [hz2]; omega
  have HI := Lib.hid (And.intro hi0 (And.intro hz0 (And.intro hz1 hz2))); clear hi0 hz0 hz1 hz2
  obtain ⟨W0, hW0⟩ : ∃ W0, W0 = ((w.alloc (.cells #[.slice A n c, .int .i64 ld, .int .i64 tm] 25)).alloc (.cells #[.slice none 0 0, .int .i64 0, .int .i64 0] 25)) := ⟨_, rfl⟩
  have HX0 := Lib.hid (show BoxG w A n c ld tm W0 from by rw [hW0]; exact (BoxG.start (w := w) (A := A) (n := n) (c := c) (ld := ld) (tm := tm)).keep ((Below.refl _ _).alloc (Nat.le_refl _) _))
  have HW0 := Lib.hid (show W0.heap.size = w.heap.size + 1 + 1 by rw [hW0]; simp)
  have HRC := Lib.hid (show (W0.cell? ⟨w.heap.size + 1, 0, none⟩ = some (.slice none 0 0) ∧ W0.cell? ⟨w.heap.size + 1, 1, none⟩ = some (.int .i64 0) ∧ W0.cell? ⟨w.heap.size + 1, 2, none⟩ = some (.int .i64 0)) ∧ W0.frozen? ⟨w.heap.size + 1, 0, none⟩ = false ∧ W0.frozen? ⟨w.heap.size + 1, 1, none⟩ = false ∧ W0.frozen? ⟨w.heap.size + 1, 2, none⟩ = false from by rw [hW0]; simp [go_sem])
  have HWW := Lib.hid hW0
  clear hW0
  go_enter Try.func57, Try.ntmps57
  go_wp2_with (refine wpList_make_full _ rfl _ _ 23 rfl W0.heap.size 39 i0 (.slice none 0 0) 1 Try.underlying23 HI.out.1 HI.out.2.1 HI.out.2.2.1 .i64 .i64 _ _ n rfl rfl rfl rfl hb2 (by unfold maxLen; omega) (by rw [HWW.out]; exact Nat.le_refl _) ?_
               intro w1 hown hg1
               have HF := Lib.hid (FillGv.start (w := W0) (L := L) (by rw [HWW.out] at hown ⊢; exact hown) (by rw [HWW.out]; exact hg1))
               clear hown hg1
               have x0 := (HX0.out.keep HF.out.2.2.2.2).c0)
  clear hb2
  rw [← HW0.out]
  go_loopw [4, 5, 13] (fun _ _ i wr => ∃ k : Nat, i = .int .i64 k ∧ FillGv W0 W0.heap.size n L k wr) (fun _ _ i _ => n - (intOf i).toNat)
  case atStart => exact ⟨0, rfl, HF.out⟩
  case round =>
    clear HF x0
    obtain ⟨k, rfl, hf⟩ := hrel
    have HF := Lib.hid hf; clear hf
    have hk := HF.out.1
    have HX := Lib.hid (HX0.out.keep HF.out.2.2.2.2)
    by_cases hlt : k < n
    · have hkl : k < L.length := by have := HN.out; omega
      obtain ⟨b, off, A', c', hA, hbw, e0, hc0, hrow⟩ := (HR.out.below HX.out.hb).at0 hkl
      have hbs : b < wr.heap.size := Nat.lt_of_lt_of_le hbw HX.out.hb.size
      have HT := Lib.hid (cloneEn_any A' L[k].length c' L[k] wr (hrow.mono HX.out.hb.size) rfl hc0.1 (HSM.out L[k] (List.getElem_mem hkl)))
      have HS := Lib.hid (fun W (hb : Below wr.heap.size wr W) A c ho => HF.out.put hb HN.out hlt (A := A) (c := c) ho)
      have HC := Lib.hid (fun W (hb : Below wr.heap.size wr W) => HF.out.cells hb hlt)
      have hi1 : (k : Int) < (n : Int) := by omega
      have hgs := HF.out.2.2.1
      clear hrow hc0
      generalize L[k] = r at *
      generalize hq : r.length = q at *
      subst hA
      go_wp2_with fail
      refine (HT.out).mono ?_
      rintro e w3 ⟨A3, c3, rfl, ho3, hb3⟩
      have HB3 := Lib.hid hb3; clear hb3
      have HO3 := Lib.hid ho3; clear ho3
      obtain ⟨⟨u0, c0⟩, f0⟩ := HC.out _ HB3.out
      have HXX := Lib.hid (HS.out _ HB3.out A3 c3 HO3.out)
      go_wp2_with fail
      go_roundw
      case rel => exact ⟨k + 1, by go_num, HXX.out⟩
      case measure => simp [intOf]; omega
    · obtain rfl : k = n := by omega
      have x0 := HX.out.c0
      have x1 := HX.out.c1
      have x2 := HX.out.c2
      have hbb := HF.out.2.2.2.2
      have hz0 := HW0.out
      have r0 := (hbb.cell (p := ⟨w.heap.size + 1, 0, none⟩) (by simp; omega)).trans HRC.out.1.1
      have r1 := (hbb.cell (p := ⟨w.heap.size + 1, 1, none⟩) (by simp; omega)).trans HRC.out.1.2.1
      have r2 := (hbb.cell (p := ⟨w.heap.size + 1, 2, none⟩) (by simp; omega)).trans HRC.out.1.2.2
      have g0 := (hbb.frozen (p := ⟨w.heap.size + 1, 0, none⟩) (by simp; omega)).trans HRC.out.2.1
      have g1 := (hbb.frozen (p := ⟨w.heap.size + 1, 1, none⟩) (by simp; omega)).trans HRC.out.2.2.1
      have g2 := (hbb.frozen (p := ⟨w.heap.size + 1, 2, none⟩) (by simp; omega)).trans HRC.out.2.2.2
      have HD := Lib.hid (HF.out.done HN.out)
      have HNN := Lib.hid HN.out
      clear hbb hz0
      go_wp2_with fail
      refine bodyPost_ret (v := .agg #[.slice (some ⟨W0.heap.size, 0, none⟩) k k, .int .i64 ld, .int .i64 tm]) ?_ rfl ?_
      · simp [results, Try.results57, go_sem, r0, r1, r2]
      · have hz := HW0.out
        obtain ⟨ho, hb⟩ := HD.out
        rw [HNN.out] at ho ⊢
        obtain ⟨hs', ho'⟩ := OwG.of ho
        refine ⟨some ⟨W0.heap.size, 0, none⟩, L.length, hs', rfl, ?_, ?_⟩
        · refine (((ho'.setBelow ?_).setBelow ?_).setBelow ?_).mono ?_ <;> first | omega | (simp; omega)
        · refine (HX.out.hb.setCell ?_ _ |>.setCell ?_ _ |>.setCell ?_ _) <;> simp
end Go.Proofs.Ytgoonccjdoajnab
