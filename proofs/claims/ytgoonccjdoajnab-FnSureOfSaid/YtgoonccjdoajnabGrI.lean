/- Contracts of newGroup, NewGroup and withLog of the model (chapter 10). Conditions: the logs lie in memory; they are few. -/
import Derived.Test.YtgoonccjdoajnabGrZ
set_option linter.unusedVariables false
set_option linter.unusedSimpArgs false
namespace Go.Proofs.Ytgoonccjdoajnab
open Go.RowKit Go.ChangeShapes Go.WideShapes

set_option maxRecDepth 100000 in
set_option maxHeartbeats 2000000 in
theorem sNew0_any (N : Nat) (w : World) (hN5 : N ≤ 5) :
    Calls Try.prog 49 #[.int .i64 (N : Int)] w (GrpPost (List.replicate N []) 0 1 w) := by
  obtain ⟨j0, hi0, hz0, hz1, hz2⟩ := info_parts gvInfo
  have HJ := Lib.hid (And.intro hi0 (And.intro hz0 (And.intro hz1 hz2))); clear hi0 hz0 hz1 hz2
  obtain ⟨W0, hW0⟩ : ∃ W0, W0 = w.alloc (.cells #[.slice none 0 0, .int .i64 0, .int .i64 0] 25) := ⟨_, rfl⟩
  have HW0 := Lib.hid hW0
  clear hW0
  have HS0 := Lib.hid (show W0.heap.size = w.heap.size + 1 by rw [HW0.out]; simp)
  have HB0 := Lib.hid (show Below w.heap.size w W0 by rw [HW0.out]; exact (Below.refl _ _).alloc (Nat.le_refl _) _)
  have HRC := Lib.hid (show (W0.cell? ⟨w.heap.size, 0, none⟩ = some (.slice none 0 0) ∧ W0.cell? ⟨w.heap.size, 1, none⟩ = some (.int .i64 0) ∧ W0.cell? ⟨w.heap.size, 2, none⟩ = some (.int .i64 0)) ∧ W0.frozen? ⟨w.heap.size, 0, none⟩ = false ∧ W0.frozen? ⟨w.heap.size, 1, none⟩ = false ∧ W0.frozen? ⟨w.heap.size, 2, none⟩ = false from by rw [HW0.out]; simp [go_sem])
  have HC0 := Lib.hid (show CpG W0 (List.replicate N []) 0 (some ⟨W0.heap.size, 0, none⟩) 0 (W0.alloc (.cells #[] 39)) from ⟨by omega, ⟨[], rfl, own_startG W0 _ 1, Dis.nil, fun i a => by simp at a⟩, (Below.refl _ _).alloc (Nat.le_refl _) _⟩)
  have hrl : (List.replicate N ([] : List En)).length = N := by simp
  have HRL := Lib.hid hrl
  clear hrl
  go_enter Try.func49, Try.ntmps49
  go_wp2_with fail
  rw [← HW0.out]
  go_loopw [0, 3] (fun i q wr => ∃ (j k : Nat) (A : Option Addr) (c' : Nat), i = .int .i64 (j : Int) ∧ q = .slice A k c' ∧ j + k = N ∧ CpG W0 (List.replicate N []) k A c' wr) (fun i _ _ => (intOf i).toNat)
  case atStart => exact ⟨N, 0, some ⟨W0.heap.size, 0, none⟩, 0, rfl, by rw [HS0.out], by omega, HC0.out⟩
  case round =>
    obtain ⟨j, k, A, c', rfl, rfl, hjk, hc⟩ := hrel
    clear HC0
    have HC := Lib.hid hc; clear hc
    cases j with
    | succ j =>
      have hkl : k < N := by omega
      have hj0 : (0 : Int) < ((j + 1 : Nat) : Int) := by omega
      have HB1 := Lib.hid ((Below.refl wr.heap.size wr).alloc (Nat.le_refl _) (.cells #[] 42))
      have HO1 := Lib.hid (own_startG wr 42 2)
      obtain ⟨hs, hsl, hso, hsi⟩ := HC.out.rows
      have HLT := Lib.hid (hsi.lt (by rw [HRL.out]; omega))
      have HSL := Lib.hid hsl; clear hsl
      have HB2 := Lib.hid (HB1.out.alloc HB1.out.size (.cells #[.slice (some ⟨wr.heap.size, 0, none⟩) 0 0] 39))
      have HSO := Lib.hid (own_keepG hso HB2.out); clear hso
      have HSI := Lib.hid (hsi.keep HB2.out); clear hsi
      have HNR := Lib.hid (row_newG (wr.alloc (.cells #[] 42)) [.slice (some ⟨wr.heap.size, 0, none⟩) 0 0] 39 (wr.heap.size + 1) (by simp))
      have HBX := Lib.hid (HC.out.hb.trans (HB2.out.mono HC.out.hb.size))
      have HO2 := Lib.hid (own_keepG HO1.out ((Below.refl _ _).alloc (Nat.le_refl _) (.cells #[.slice (some ⟨wr.heap.size, 0, none⟩) 0 0] 39)))
      go_wp2_with (at_builtin; refine wpList_append_row rfl _ _ 23 rfl W0.heap.size 39 j0 (.slice none 0 0) 1 24 Try.underlying23 HJ.out.1 HJ.out.2.1 HJ.out.2.2.1 HJ.out.2.2.2 rfl (by decide) _ k (ghsC hs) rfl HSO.out (some ⟨wr.heap.size + 1, 0, none⟩) 1 1 _ [.slice (some ⟨wr.heap.size, 0, none⟩) 0 0] rfl ?dz rfl HNR.out ?d2 ?d3 ?d4 ?d5 ?_)
      try (case dz => exact fun h => (by cases h))
      try (case d2 => first | rfl | (intro u hu; simp at hu; subst hu; rfl))
      try (case d3 => unfold maxLen; omega)
      try (case d4 => omega)
      try (case d5 => exact HBX.out.size)
      intro v6 w6 hown6 hgrow6
      obtain ⟨A6, c6, rfl⟩ := own_shapeG hown6
      have hb6 : Below W0.heap.size W0 w6 := HBX.out.grown hgrow6 HBX.out.size (fun q hq => (HSO.out.lt q hq).1)
      have hin : InnGv W0.heap.size w6 hs (List.replicate N []) := HSI.out.grow HSO.out hgrow6
      have ho6 : w6.ownsRow wr.heap.size 42 2 (.slice (some ⟨wr.heap.size, 0, none⟩) 0 0) 0 [] := HO2.out.kept hgrow6 (by
        cases hq : (Value.slice (some ⟨wr.heap.size, 0, none⟩) 0 0).ownBlock with
        | none => exact .inl rfl
        | some q => exact .inr (fun e => own_apartG HO2.out HSO.out typesG_apart q hq e.symm))
      have HC6 := Lib.hid (show CpG W0 (List.replicate N []) (k + 1) A6 c6 w6 from ⟨by rw [HRL.out]; omega, ⟨hs ++ [(some ⟨wr.heap.size, 0, none⟩, 0, 0)], by rw [List.length_append, HSL.out]; rfl, by rw [ghsC_snoc]; exact hown6, by
        have hk2 : hs.length < (List.replicate N ([] : List En)).length := by rw [HRL.out, HSL.out]; exact hkl
        have h3 := hin.snoc (A := some ⟨wr.heap.size, 0, none⟩) (c := 0) hk2 HLT.out HC.out.hb.size (by simpa [ensC] using ho6)
        simpa using h3⟩, hb6⟩)
      clear hown6 hgrow6 hb6 hin ho6
      go_wp2_with fail
      go_roundw
      case rel => exact ⟨j, k + 1, A6, c6, by go_num, rfl, by omega, HC6.out⟩
      case measure => simp [intOf]
    | zero =>
      obtain rfl : k = N := by omega
      obtain ⟨hs, hsl, hso, hsi⟩ := HC.out.rows
      have HO := Lib.hid (show OwG W0.heap.size A c' hs (List.replicate k []) wr from ⟨by rw [hsl, HRL.out], by rw [HRL.out]; exact hso, hsi⟩)
      clear hsl hso hsi
      have hbb := HC.out.hb
      have hz0 := HS0.out
      have r0 := (hbb.cell (p := ⟨w.heap.size, 0, none⟩) (by simp; omega)).trans HRC.out.1.1
      have r1 := (hbb.cell (p := ⟨w.heap.size, 1, none⟩) (by simp; omega)).trans HRC.out.1.2.1
      have r2 := (hbb.cell (p := ⟨w.heap.size, 2, none⟩) (by simp; omega)).trans HRC.out.1.2.2
      have g0 := (hbb.frozen (p := ⟨w.heap.size, 0, none⟩) (by simp; omega)).trans HRC.out.2.1
      have g1 := (hbb.frozen (p := ⟨w.heap.size, 1, none⟩) (by simp; omega)).trans HRC.out.2.2.1
      have g2 := (hbb.frozen (p := ⟨w.heap.size, 2, none⟩) (by simp; omega)).trans HRC.out.2.2.2
      have HBB := Lib.hid hbb
      clear hbb hz0
      go_wp2_with fail
      refine bodyPost_ret (v := .agg #[.slice A k c', .int .i64 0, .int .i64 1]) ?_ rfl ?_
      · simp [results, Try.results49, go_sem, r0, r1, r2]
      · have hz := HS0.out
        refine ⟨A, c', hs, by rw [HRL.out], ?_, ?_⟩
        · refine (((HO.out.setBelow ?_).setBelow ?_).setBelow ?_).mono ?_ <;> first | omega | (simp; omega)
        · refine ((HB0.out.trans (HBB.out.mono (by omega))).setCell ?_ _ |>.setCell ?_ _ |>.setCell ?_ _) <;> simp
theorem sNew_any (x : Int) (w : World) :
    Calls Try.prog 17 #[.int .i64 x] w (GrpPost (outN x).1 (outN x).2.1 (outN x).2.2 w) := by
  have HB0 := Lib.hid (fun o => (Below.refl w.heap.size w).alloc (Nat.le_refl _) o)
  by_cases g : 1 ≤ x ∧ x ≤ 5
  · obtain ⟨n, rfl⟩ : ∃ n : Nat, x = (n : Int) := ⟨x.toNat, by omega⟩
    have HF := Lib.hid (show outN (n : Int) = (List.replicate n [], 0, 1) by unfold outN; rw [if_pos g, Int.toNat_natCast])
    have HR := Lib.hid (fun w => inRg_any (n := (n : Int)) (lo := 1) (hi := 5) (b := true) (by simpa using g) w)
    have HC := Lib.hid (fun W => sNew0_any n W (by omega))
    rw [HF.out]
    clear g
    go_enter Try.func17, Try.ntmps17
    go_wp2_with fail
    refine (HR.out _).mono ?_
    rintro e w2 ⟨rfl, hw2⟩
    obtain rfl := hw2.symm
    go_wp2_with fail
    refine (HC.out _).mono ?_
    rintro e w3 ⟨A3, c3, hs3, rfl, ho3, hb3⟩
    have r0 := (hb3.cell (p := ⟨w.heap.size, 0, none⟩) (by simp)).trans (show _ = some (.slice none 0 0) by simp [go_sem])
    have r1 := (hb3.cell (p := ⟨w.heap.size, 1, none⟩) (by simp)).trans (show _ = some (.int .i64 0) by simp [go_sem])
    have r2 := (hb3.cell (p := ⟨w.heap.size, 2, none⟩) (by simp)).trans (show _ = some (.int .i64 0) by simp [go_sem])
    have f0 := (hb3.frozen (p := ⟨w.heap.size, 0, none⟩) (by simp)).trans (show _ = false by simp [go_sem])
    have f1 := (hb3.frozen (p := ⟨w.heap.size, 1, none⟩) (by simp)).trans (show _ = false by simp [go_sem])
    have f2 := (hb3.frozen (p := ⟨w.heap.size, 2, none⟩) (by simp)).trans (show _ = false by simp [go_sem])
    have hs1 := hb3.size
    simp only [World.size_alloc] at hs1
    have HO := Lib.hid ho3
    have HB := Lib.hid hb3
    clear ho3 hb3
    go_wp2_with fail
    refine bodyPost_ret (v := .agg #[.slice A3 (List.replicate n ([] : List En)).length c3, .int .i64 0, .int .i64 1]) ?_ rfl ?_
    · simp [results, Try.results17, go_sem, r0, r1, r2]
    · refine ⟨A3, c3, hs3, rfl, ?_, ?_⟩
      · refine (((HO.out.setBelow ?_).setBelow ?_).setBelow ?_).mono ?_ <;> simp
      · refine (((HB0.out _).trans (HB.out.mono (by simp))).setCell ?_ _ |>.setCell ?_ _ |>.setCell ?_ _) <;> simp
  · have HF := Lib.hid (show outN x = ([], 0, 0) by unfold outN; rw [if_neg g])
    have HR := Lib.hid (fun w => inRg_any (n := x) (lo := 1) (hi := 5) (b := false) (by
      rw [Bool.eq_false_iff]; simp only [ne_eq, Bool.and_eq_true, decide_eq_true_eq]; exact g) w)
    rw [HF.out]
    clear g
    go_enter Try.func17, Try.ntmps17
    go_wp2_with fail
    refine (HR.out _).mono ?_
    rintro e w2 ⟨rfl, hw2⟩
    obtain rfl := hw2.symm
    go_wp2_with fail
    refine bodyPost_ret (v := .agg #[.slice none 0 0, .int .i64 0, .int .i64 0]) ?_ rfl ?_
    · simp [results, Try.results17, go_sem]
    · exact ⟨none, 0, [], rfl, OwG.zero _ _, by first | exact (Below.refl _ _).alloc (Nat.le_refl _) _ | (refine (((((Below.refl _ _).alloc (Nat.le_refl _) _).setCell ?_ _).setCell ?_ _).setCell ?_ _) <;> simp)⟩

/-- a group with another log of a peer -/
theorem wLog_any (A : Option Addr) (n c : Nat) (L : List (List En)) (ld tm : Int) (t : Nat) (Ar : Option Addr) (m cr : Nat) (r : List En) (w : World) (hr : GvAt w w.heap.size A L) (hn : n = L.length) (hs : n ≤ 1048576) (hsm : SmallGv L) (ht : t < L.length) (hrr : RowAt w w.heap.size Ar (ensC r)) (hm : m = r.length) (hm2 : m ≤ 1048576) (hAr : Ar = none → cr = 0) :
    Calls Try.prog 58 #[.agg #[.slice A n c, .int .i64 ld, .int .i64 tm], .int .i64 (t : Int), .slice Ar m cr] w (GrpPost (L.set t r) ld tm w) := by
  obtain ⟨i0, hi0, hz0, hz1, hz2⟩ := info_parts enInfo
  have HI := Lib.hid (And.intro hi0 (And.intro hz0 (And.intro hz1 hz2))); clear hi0 hz0 hz1 hz2
  have HCP := Lib.hid (fun W (hb : Below w.heap.size w W) => sCopyG_any A n c L W ((hr.below hb).mono hb.size) hn hs hsm)
  have HRR := Lib.hid hrr
  have HM := Lib.hid hm
  have HAR := Lib.hid hAr
  have HSL := Lib.hid (show (L.set t r).length = L.length by rw [List.length_set])
  clear hr hn hs hsm hrr hm hAr
  go_enter Try.func58, Try.ntmps58
  go_wp2_with fail
  refine (HCP.out _ BoxR.start.bx.hb).mono ?_
  rintro e w2 ⟨v2, rfl, ho2, hb2⟩
  obtain ⟨A2, c2, hs2, rfl, k1, k2, k3⟩ := ho2
  have HX2 := Lib.hid (BoxR.start.keep hb2)
  obtain ⟨B0, hB0⟩ : ∃ B0, B0 = ((w.alloc (.cells #[.slice A n c, .int .i64 ld, .int .i64 tm] 25)).alloc (.cells #[.slice none 0 0, .int .i64 0, .int .i64 0] 25)).heap.size := ⟨_, rfl⟩
  rw [← hB0] at k2 k3 hb2
  have hB1 : w.heap.size + 1 < B0 := by rw [hB0]; simp
  have HO2 := Lib.hid (OwG.mk k1 k2 k3)
  have hB2 : B0 ≤ w2.heap.size := by rw [hB0]; exact hb2.size
  obtain ⟨g2, rfl, hg2, hg2b⟩ := HO2.out.hdr (by omega)
  clear k1 k2 k3 hb2 hB0
  have x1 := HX2.out.bx.c1
  have x2 := HX2.out.bx.c2
  have hz2 := HX2.out.sz
  have HB3 := Lib.hid ((Below.refl w2.heap.size w2).alloc (Nat.le_refl _) (.cells #[] 42))
  have HO3 := Lib.hid (own_startG w2 42 2)
  have HRW := Lib.hid (((HRR.out.below HX2.out.bx.hb).mono HX2.out.bx.hb.size).below HB3.out)
  have hlt : (t : Int) < (L.length : Int) := by omega
  have ht0 : (0 : Int) ≤ (t : Int) := by omega
  go_wp2_with (at_builtin; refine wpList_append_row rfl _ _ 39 rfl w2.heap.size 42 i0 (.agg #[.int .i64 0, .int .i64 0]) 2 16 Try.underlying39 HI.out.1 HI.out.2.1 HI.out.2.2.1 HI.out.2.2.2 rfl (by decide) _ 0 [] rfl HO3.out Ar m cr w2.heap.size (ensC r) rfl HAR.out ?c1 HRW.out (ens_one r) ?c3 ?c4 ?c5 ?_)
  try (case c1 => rw [ensC_len, ← HM.out])
  try (case c3 => unfold maxLen; omega)
  try (case c4 => omega)
  try (case c5 => exact HB3.out.size)
  intro v4 w4 hown4 hgrow4
  have hb4 : Below w2.heap.size w2 w4 := HB3.out.grown hgrow4 HB3.out.size (fun q hq => (HO3.out.lt q hq).1)
  obtain ⟨A4, c4, rfl⟩ := own_shapeG hown4
  have HR4 := Lib.hid (show w4.ownsRow w2.heap.size 42 2 (.slice A4 m c4) m (ensC r) by simpa using hown4)
  have HB4 := Lib.hid hb4
  have HPUT := Lib.hid (show OwG B0 (some ⟨g2, 0, none⟩) c2 (hs2.set t (A4, m, c4)) (L.set t r) (w4.setCell ⟨g2, t, none⟩ (.slice A4 m c4)) ∧ (∃ v, w4.cell? ⟨g2, t, none⟩ = some v) ∧ w4.frozen? ⟨g2, t, none⟩ = false from by
    have k1 := HO2.out.keep HB4.out
    have hmm := HM.out
    have h2 := k1.put ht (A' := A4) (c' := c4) (r := r) (by rw [← hmm]; exact own_leG HR4.out hB2) (fun j hj hjt q hq hq2 => by
      have h3 := (HO2.out.blk (q := q) (.inr ⟨hs2[j], List.getElem_mem hj, hq2⟩)).2
      have h4 := (HR4.out.lt q (by rw [blk_slice]; exact hq)).1
      omega)
    rw [← hmm] at h2
    exact ⟨h2, k1.cells ht⟩)
  have HX4 := Lib.hid (HX2.out.keep HB4.out)
  obtain ⟨⟨u4, z40⟩, z41⟩ := HPUT.out.2
  have HX5 := Lib.hid (show BoxR w A n c ld tm (w4.setCell ⟨g2, t, none⟩ (.slice A4 m c4)) from ⟨⟨HX4.out.bx.hb.setCell (by show w.heap.size ≤ g2; omega) _, by have := HX4.out.bx.sz; simpa using this, (World.cell?_setCell_other _ _ _ _ (fun e => by injection e with e1; omega)).trans HX4.out.bx.c0, (World.cell?_setCell_other _ _ _ _ (fun e => by injection e with e1; omega)).trans HX4.out.bx.c1, (World.cell?_setCell_other _ _ _ _ (fun e => by injection e with e1; omega)).trans HX4.out.bx.c2⟩, by have := HX4.out.sz; simpa using this, (World.cell?_setCell_other _ _ _ _ (fun e => by injection e with e1; omega)).trans HX4.out.r0, (World.cell?_setCell_other _ _ _ _ (fun e => by injection e with e1; omega)).trans HX4.out.r1, (World.cell?_setCell_other _ _ _ _ (fun e => by injection e with e1; omega)).trans HX4.out.r2, by have := HX4.out.f0; simpa [go_sem] using this, by have := HX4.out.f1; simpa [go_sem] using this, by have := HX4.out.f2; simpa [go_sem] using this⟩)
  clear hown4 hgrow4 hb4 x1 x2
  have x1 := HX4.out.bx.c1
  have x2 := HX4.out.bx.c2
  have r0 := HX4.out.r0
  have r1 := HX4.out.r1
  have r2 := HX4.out.r2
  have f0 := HX4.out.f0
  have f1 := HX4.out.f1
  have f2 := HX4.out.f2
  have q0 := HX5.out.r0
  have q1 := HX5.out.r1
  have q2 := HX5.out.r2
  go_wp2_with fail
  generalize w4.setCell ⟨g2, t, none⟩ (.slice A4 m c4) = W5 at *
  refine bodyPost_ret (v := .agg #[.slice (some ⟨g2, 0, none⟩) L.length c2, .int .i64 ld, .int .i64 tm]) ?_ rfl ?_
  · simp [results, Try.results58, go_sem, q0, q1, q2]
  · exact ⟨some ⟨g2, 0, none⟩, c2, _, by rw [HSL.out], HX5.out.done HPUT.out.1 hB1 _ _ _⟩
end Go.Proofs.Ytgoonccjdoajnab
