/- The contract of WriteGroup of the model (chapter 10). Conditions: the logs lie in memory; they are few. -/
import Derived.Test.YtgoonccjdoajnabGrI
import Derived.Test.YtgoonccjdoajnabAppS
import Derived.Deep.RegionHeld3
set_option linter.unusedVariables false
set_option linter.unusedSimpArgs false
namespace Go.Proofs.Ytgoonccjdoajnab
open Go.RowKit Go.ChangeShapes Go.WideShapes

theorem below_al {B : Nat} {w W : World} (h : Below B w W) (hB : B ≤ w.heap.size) (o : Obj) : Below B w (W.alloc o) := h.alloc (Nat.le_trans hB h.size) o
set_option maxRecDepth 100000 in
set_option maxHeartbeats 4000000 in
theorem sWrite_any (A : Option Addr) (n c : Nat) (L : List (List En)) (ld tm id : Int) (w : World) (hr : GvAt w w.heap.size A L) (hn : n = L.length) (hs : n ≤ 1048576) (hsm : SmallGv L) :
    Calls Try.prog 23 #[.agg #[.slice A n c, .int .i64 ld, .int .i64 tm], .int .i64 id] w (GOut (outW L ld tm id).1 (outW L ld tm id).2.1 (outW L ld tm id).2.2.1 (outW L ld tm id).2.2.2 w) := by
  obtain ⟨i0, hi0, hz0, hz1, hz2⟩ := info_parts enInfo
  have HI := Lib.hid (And.intro hi0 (And.intro hz0 (And.intro hz1 hz2))); clear hi0 hz0 hz1 hz2
  have HV := Lib.hid (fun W (hb : Below w.heap.size w W) => sGrp_any A n c L ld tm W ((hr.below hb).mono hb.size) hn hs hsm)
  by_cases g : okG L ld tm
  · rw [decide_eq_true g] at HV
    obtain ⟨d, rfl⟩ : ∃ d : Nat, ld = (d : Int) := ⟨ld.toNat, by have := g.2.1; omega⟩
    have hd : d < L.length := by have := g.2.1.2; omega
    by_cases g1 : 0 ≤ id ∧ id ≤ 99
    · have HP := Lib.hid (fun w => inRg_any (n := id) (lo := 0) (hi := 99) (b := true) (by simpa using g1) w)
      obtain ⟨m, hm⟩ : ∃ m, L[d].length = m := ⟨_, rfl⟩
      have hm12 : m ≤ 12 := by have := (g.2.2.2 _ (List.getElem_mem hd)).1; omega
      have HR := Lib.hid hr
      have HM := Lib.hid hm
      have hi2 : (d : Int) < (n : Int) := by omega
      have hi3 : (0 : Int) ≤ (d : Int) := by omega
      by_cases g2 : m = 12
      · have HF := Lib.hid (show outW L (d : Int) tm id = ([], 0, 0, false) by
          unfold outW
          rw [if_neg (fun q => q.2.2 (by rw [leadL_nat hd, hm]; exact g2))])
        clear hr hn hm hsm g g1
        subst g2
        rw [HF.out]
        go_enter Try.func23, Try.ntmps23
        go_wp2_with fail
        refine (HV.out _ BoxR.start.bx.hb).mono ?_
        rintro e w2 ⟨rfl, hb2⟩
        have HX2 := Lib.hid (BoxR.start.keep hb2); clear hb2
        obtain ⟨b, off, A2, c2, hA, hbw, e0, hc2, hrow⟩ := (HR.out.below HX2.out.bx.hb).at0 hd
        rw [HM.out] at e0 hc2
        have HA := Lib.hid hA
        have x0 := HX2.out.bx.c0
        have x1 := HX2.out.bx.c1
        have x2 := HX2.out.bx.c2
        have hz := HX2.out.sz
        rw [hA] at x0
        have HROW := Lib.hid (hrow.mono HX2.out.bx.hb.size)
        have HC2 := Lib.hid hc2
        clear hA hrow hc2
        go_wp2_with fail
        refine (HP.out _).mono ?_
        rintro e w3 ⟨rfl, hw3⟩
        obtain rfl := hw3.symm
        have r0 := HX2.out.r0
        have r1 := HX2.out.r1
        have r2 := HX2.out.r2
        have f0 := HX2.out.f0
        have f1 := HX2.out.f1
        have f2 := HX2.out.f2
        go_wp2_with fail
        refine bodyPost_ret (v := .tuple #[.agg #[.slice none 0 0, .int .i64 0, .int .i64 0], .bool false]) ?_ rfl ?_
        · simp [results, Try.results23, go_sem, r0, r1, r2]
        · exact ⟨none, 0, [], rfl, HX2.out.zero _ _ _⟩
      · have HF := Lib.hid (show outW L (d : Int) tm id = (L.set d (L[d] ++ [(tm, id)]), (d : Int), tm, true) by
          unfold outW
          rw [if_pos ⟨g, g1, by rw [leadL_nat hd, hm]; exact g2⟩, leadL_nat hd, Int.toNat_natCast])
        have HWL := Lib.hid (fun W (hb : Below w.heap.size w W) (Ar : Option Addr) (cr : Nat) (hrr : RowAt W W.heap.size Ar (ensC (L[d] ++ [(tm, id)]))) (hAr : Ar = none → cr = 0) => wLog_any A n c L (d : Int) tm d Ar (m + 1) cr (L[d] ++ [(tm, id)]) W ((hr.below hb).mono hb.size) hn hs hsm hd hrr (by rw [List.length_append, hm]; rfl) (by omega) hAr)
        have hm2 : ((m : Int) == 12) = false := by simp; omega
        have HES := Lib.hid (ensC_snoc L[d] (tm, id))
        clear hr hn hm hsm g g1 g2
        rw [HF.out]
        go_enter Try.func23, Try.ntmps23
        go_wp2_with fail
        refine (HV.out _ BoxR.start.bx.hb).mono ?_
        rintro e w2 ⟨rfl, hb2⟩
        have HX2 := Lib.hid (BoxR.start.keep hb2); clear hb2
        obtain ⟨b, off, A2, c2, hA, hbw, e0, hc2, hrow⟩ := (HR.out.below HX2.out.bx.hb).at0 hd
        rw [HM.out] at e0 hc2
        have HA := Lib.hid hA
        have x0 := HX2.out.bx.c0
        have x1 := HX2.out.bx.c1
        have x2 := HX2.out.bx.c2
        have hz := HX2.out.sz
        rw [hA] at x0
        have HROW := Lib.hid (hrow.mono HX2.out.bx.hb.size)
        have HC2 := Lib.hid hc2
        clear hA hrow hc2
        go_wp2_with fail
        refine (HP.out _).mono ?_
        rintro e w3 ⟨rfl, hw3⟩
        obtain rfl := hw3.symm
        go_wp2_with fail
        have HK := Lib.hid (show ∀ W, Below w2.heap.size w2 W → (W.cell? ⟨w.heap.size, 0, none⟩ = some (.slice (some ⟨b, off, none⟩) n c) ∧ W.cell? ⟨w.heap.size, 1, none⟩ = some (.int .i64 (d : Int)) ∧ W.cell? ⟨w.heap.size, 2, none⟩ = some (.int .i64 tm) ∧ W.cell? ⟨b, off + d, none⟩ = some (.slice A2 m c2)) from fun W hb => ⟨(hb.cell (p := ⟨w.heap.size, 0, none⟩) (by show w.heap.size < w2.heap.size; omega)).trans x0, (hb.cell (p := ⟨w.heap.size, 1, none⟩) (by show w.heap.size < w2.heap.size; omega)).trans x1, (hb.cell (p := ⟨w.heap.size, 2, none⟩) (by show w.heap.size < w2.heap.size; omega)).trans x2, (hb.cell (p := ⟨b, off + d, none⟩) (by show b < w2.heap.size; omega)).trans e0⟩)
        have HBE := Lib.hid (show Below w2.heap.size w2 ((w2.alloc (.cells #[] 42)).drew) from ((Below.refl _ _).alloc (Nat.le_refl _) _).drew)
        have HBF := Lib.hid (show Below w2.heap.size w2 ((w2.alloc (.cells #[.int .i64 tm, .int .i64 id] 42)).drew) from ((Below.refl _ _).alloc (Nat.le_refl _) _).drew)
        have HBEF := Lib.hid (show Below w2.heap.size w2 (((w2.alloc (.cells #[] 42)).alloc (.cells #[.int .i64 tm, .int .i64 id] 42)).drew) from (below_al (below_al (Below.refl _ _) (Nat.le_refl _) _) (Nat.le_refl _) _).drew)
        have HBFE := Lib.hid (show Below w2.heap.size w2 (((w2.alloc (.cells #[.int .i64 tm, .int .i64 id] 42)).alloc (.cells #[] 42)).drew) from (below_al (below_al (Below.refl _ _) (Nat.le_refl _) _) (Nat.le_refl _) _).drew)
        have HOE := Lib.hid (show ((w2.alloc (.cells #[] 42)).drew).ownsRow w2.heap.size 42 2 (.slice (some ⟨w2.heap.size, 0, none⟩) 0 0) 0 [] from own_startG w2 42 2)
        have HOEF := Lib.hid (show (((w2.alloc (.cells #[] 42)).alloc (.cells #[.int .i64 tm, .int .i64 id] 42)).drew).ownsRow w2.heap.size 42 2 (.slice (some ⟨w2.heap.size, 0, none⟩) 0 0) 0 [] from own_keepG (own_startG w2 42 2) (((Below.refl _ _).alloc (Nat.le_refl _) _).drew))
        have HOFE := Lib.hid (show (((w2.alloc (.cells #[.int .i64 tm, .int .i64 id] 42)).alloc (.cells #[] 42)).drew).ownsRow w2.heap.size 42 2 (.slice (some ⟨w2.heap.size + 1, 0, none⟩) 0 0) 0 [] from by
          have h1 := own_startG (w2.alloc (.cells #[.int .i64 tm, .int .i64 id] 42)) 42 2
          simp only [World.size_alloc] at h1
          exact own_leG h1 (by omega))
        have HFIN := Lib.hid (show ∀ W A9 c9, Below w2.heap.size w2 W → W.ownsRow w2.heap.size 42 2 (.slice A9 (m + 1) c9) (m + 1) (ensC L[d] ++ [.int .i64 tm, .int .i64 id]) → RowAt W W.heap.size A9 (ensC (L[d] ++ [(tm, id)])) ∧ (A9 = none → c9 = 0) from fun W A9 c9 hb ho => ⟨by rw [HES.out]; exact RowAt.of_own ho, own_cap0G ho⟩)
        have HNEW := Lib.hid (show ∀ (W0 W : World) (Q : Nat) (v : Value), W0.cell? ⟨Q, 0, none⟩ = some (.int .i64 tm) → W0.cell? ⟨Q, 1, none⟩ = some (.int .i64 id) → Q < W0.heap.size → W0.grownBy W v.ownBlock → v.ownBlock ≠ some Q → RowAt W W.heap.size (some ⟨Q, 0, none⟩) [.int .i64 tm, .int .i64 id] from fun W0 W Q v h0 h1 hq hg hne => fun _ => ⟨Q, 0, rfl, Nat.lt_of_lt_of_le hq hg.size, fun i u hi => by
          rw [Nat.zero_add]
          match i, hi with
          | 0, hi => obtain rfl : Value.int .i64 tm = u := by simpa using hi
                     exact hg.cell h0 (fun e => hne e.symm)
          | 1, hi => obtain rfl : Value.int .i64 id = u := by simpa using hi
                     exact hg.cell h1 (fun e => hne e.symm)
          | k + 2, hi => simp at hi⟩)
        have HEF := Lib.hid (show (((w2.alloc (.cells #[] 42)).alloc (.cells #[.int .i64 tm, .int .i64 id] 42)).drew).cell? ⟨w2.heap.size + 1, 0, none⟩ = some (.int .i64 tm) ∧ (((w2.alloc (.cells #[] 42)).alloc (.cells #[.int .i64 tm, .int .i64 id] 42)).drew).cell? ⟨w2.heap.size + 1, 1, none⟩ = some (.int .i64 id) ∧ w2.heap.size + 1 < (((w2.alloc (.cells #[] 42)).alloc (.cells #[.int .i64 tm, .int .i64 id] 42)).drew).heap.size by simp [go_sem])
        have HFE := Lib.hid (show (((w2.alloc (.cells #[.int .i64 tm, .int .i64 id] 42)).alloc (.cells #[] 42)).drew).cell? ⟨w2.heap.size, 0, none⟩ = some (.int .i64 tm) ∧ (((w2.alloc (.cells #[.int .i64 tm, .int .i64 id] 42)).alloc (.cells #[] 42)).drew).cell? ⟨w2.heap.size, 1, none⟩ = some (.int .i64 id) ∧ w2.heap.size < (((w2.alloc (.cells #[.int .i64 tm, .int .i64 id] 42)).alloc (.cells #[] 42)).drew).heap.size by simp [go_sem])
        have HLA := Lib.hid (ens_one L[d])
        have HLN := Lib.hid (show (ensC L[d]).length = m * 2 by rw [ensC_len, HM.out])
        have HONE := Lib.hid (show ∀ u ∈ ([.int .i64 tm, .int .i64 id] : List Value), u.oneCell' = true from fun u hu => by simp at hu; rcases hu with rfl | rfl <;> rfl)
        have HMX := Lib.hid (show 0 + m ≤ maxLen ∧ m + 1 ≤ maxLen by unfold maxLen; omega)
        refine wp_region_held_drew (S := fun W => W.cell? ⟨w.heap.size, 0, none⟩ = some (.slice (some ⟨b, off, none⟩) n c) ∧ W.cell? ⟨w.heap.size, 1, none⟩ = some (.int .i64 (d : Int)) ∧ W.cell? ⟨w.heap.size, 2, none⟩ = some (.int .i64 tm) ∧ W.cell? ⟨b, off + d, none⟩ = some (.slice A2 m c2)) (by kernel_rfl) ?_ (fun hHeld => ?_)
        · exact HK.out _ (below_drewN _ 1)
        refine wpAnyH_take (i := 1) (oi := _) (v := ?_) rfl (by kernel_rfl) (by kernel_rfl) (by kernel_rfl) (fun _ _ _ h => h) (Or.inl ⟨by rfl, ?_⟩) (by assumption) ?_
        rotate_left
        · intro wS hSw
          try dsimp only at hSw
          go_simp
          try with_reducible rfl
        try simp only [Act.put, List.setIfInBounds_toArray, List.set_cons_zero, List.set_cons_succ]
        refine wpAnyH_take (i := 2) (oi := _) (v := ?_) rfl (by kernel_rfl) (by kernel_rfl) (by kernel_rfl) (fun _ _ _ h => h) (Or.inl ⟨by rfl, ?_⟩) (by assumption) ?_
        rotate_left
        · intro wS hSw
          try dsimp only at hSw
          go_simp
          try with_reducible rfl
        try simp only [Act.put, List.setIfInBounds_toArray, List.set_cons_zero, List.set_cons_succ]
        refine wpAnyH_take (i := 3) (oi := _) (v := ?_) rfl (by kernel_rfl) (by kernel_rfl) (by kernel_rfl) (fun _ _ _ h => h) (Or.inl ⟨by rfl, ?_⟩) (by assumption) ?_
        rotate_left
        · intro wS hSw
          try dsimp only at hSw
          go_simp
          try with_reducible rfl
        try simp only [Act.put, List.setIfInBounds_toArray, List.set_cons_zero, List.set_cons_succ]
        refine wpAnyH_take (i := 4) (oi := _) (v := ?_) rfl (by kernel_rfl) (by kernel_rfl) (by kernel_rfl) (fun _ _ _ h => h) (Or.inl ⟨by rfl, ?_⟩) (by assumption) ?_
        rotate_left
        · intro wS hSw
          try dsimp only at hSw
          go_simp
          try with_reducible rfl
        try simp only [Act.put, List.setIfInBounds_toArray, List.set_cons_zero, List.set_cons_succ]
        refine wpAnyH_take (i := 5) (oi := _) (v := ?_) rfl (by kernel_rfl) (by kernel_rfl) (by kernel_rfl) (fun _ _ _ h => h) (Or.inl ⟨by rfl, ?_⟩) (by assumption) ?_
        rotate_left
        · intro wS hSw
          try dsimp only at hSw
          go_simp
          try with_reducible rfl
        try simp only [Act.put, List.setIfInBounds_toArray, List.set_cons_zero, List.set_cons_succ]
        refine wpAnyH_take (i := 6) (oi := _) (v := ?_) rfl (by kernel_rfl) (by kernel_rfl) (by kernel_rfl) (fun _ _ _ h => h) (Or.inl ⟨by rfl, ?_⟩) (by assumption) ?_
        rotate_left
        · intro wS hSw
          try dsimp only at hSw
          go_simp
          try with_reducible rfl
        try simp only [Act.put, List.setIfInBounds_toArray, List.set_cons_zero, List.set_cons_succ]
        refine wpAnyH_take (i := 8) (oi := _) (v := ?_) rfl (by kernel_rfl) (by kernel_rfl) (by kernel_rfl) (fun _ _ _ h => h) (Or.inl ⟨by rfl, ?_⟩) (by assumption) ?_
        rotate_left
        · intro wS hSw
          try dsimp only at hSw
          go_simp
          try with_reducible rfl
        try simp only [Act.put, List.setIfInBounds_toArray, List.set_cons_zero, List.set_cons_succ]
        refine wpAnyH_take (i := 9) (oi := _) (v := ?_) rfl (by kernel_rfl) (by kernel_rfl) (by kernel_rfl) (fun _ _ _ h => h) (Or.inl ⟨by rfl, ?_⟩) (by assumption) ?_
        rotate_left
        · intro wS hSw
          try dsimp only at hSw
          go_simp
          try with_reducible rfl
        try simp only [Act.put, List.setIfInBounds_toArray, List.set_cons_zero, List.set_cons_succ]
        refine wpAnyH_take (i := 10) (oi := _) (v := ?_) rfl (by kernel_rfl) (by kernel_rfl) (by kernel_rfl) (fun _ _ _ h => h) (Or.inl ⟨by rfl, ?_⟩) (by assumption) ?_
        rotate_left
        · intro wS hSw
          try dsimp only at hSw
          go_simp
          try with_reducible rfl
        try simp only [Act.put, List.setIfInBounds_toArray, List.set_cons_zero, List.set_cons_succ]
        refine wpAnyH_take (i := 11) (oi := _) (v := ?_) rfl (by kernel_rfl) (by kernel_rfl) (by kernel_rfl) (fun _ _ _ h => h) (Or.inl ⟨by rfl, ?_⟩) (by assumption) ?_
        rotate_left
        · intro wS hSw
          try dsimp only at hSw
          go_simp
          try with_reducible rfl
        try simp only [Act.put, List.setIfInBounds_toArray, List.set_cons_zero, List.set_cons_succ]
        refine wpAnyH_ready (rs := [0, 12]) (by kernel_rfl) (by simp) ?_
        refine AllReadyH.cons (o := _) rfl (fun K hK => ?_) ?_
        focus
          go_simp
          refine hK.out _ _ ?_ (fun hHeld => ?_)
          · exact HK.out _ HBE.out
          clear hK K
          try simp only [Act.put, List.setIfInBounds_toArray, List.set_cons_zero, List.set_cons_succ]
          refine wpAnyH_ready (rs := [7, 12]) (by kernel_rfl) (by simp) ?_
          refine AllReadyH.cons (o := _) rfl (fun K hK => ?_) ?_
          focus
            refine step_append_row rfl (.tmp 26) (.tmp 32) 39 rfl w2.heap.size 42 i0 (.agg #[.int .i64 0, .int .i64 0]) 2 16 Try.underlying39 HI.out.1 HI.out.2.1 HI.out.2.2.1 HI.out.2.2.2 rfl (by decide) _ 0 [] rfl (by exact HOE.out) A2 m c2 w2.heap.size (ensC L[d]) rfl HC2.out.1 (by exact HLN.out) (by exact (HROW.out.below HBE.out)) (by exact HLA.out) (by exact HMX.out.1) (by omega) (by exact HBE.out.size) ?_
            intro v7 w7 hown7 hgrow7
            rw [Nat.zero_add] at hown7
            obtain ⟨A7, c7, rfl⟩ := own_shapeG hown7
            have HB7 := Lib.hid (show Below w2.heap.size w2 w7 from HBE.out.grown hgrow7 HBE.out.size (fun q hq => (HOE.out.lt q hq).1))
            have HO7 := Lib.hid (show w7.ownsRow w2.heap.size 42 2 (.slice A7 m c7) m (ensC L[d]) by simpa using hown7)
            refine hK.out _ _ ?_ (fun hHeld => ?_)
            · exact HK.out _ HB7.out
            clear hK K
            try simp only [Act.put, List.setIfInBounds_toArray, List.set_cons_zero, List.set_cons_succ]
            refine wpAnyH_ready (rs := [12]) (by kernel_rfl) (by simp) ?_
            refine AllReadyH.cons (o := _) rfl (fun K hK => ?_) ?_
            focus
              have HO7F := Lib.hid (own_keepG HO7.out ((Below.refl w7.heap.size w7).alloc (Nat.le_refl _) (.cells #[.int .i64 tm, .int .i64 id] 42)))
              have HB7F := Lib.hid (below_al HB7.out (Nat.le_refl _) (.cells #[.int .i64 tm, .int .i64 id] 42))
              have HN7 := Lib.hid (row_newG w7 [.int .i64 tm, .int .i64 id] 42 w7.heap.size rfl)
              go_simp
              refine hK.out _ _ ?_ (fun hHeld => ?_)
              · exact HK.out _ HB7F.out
              clear hK K
              try simp only [Act.put, List.setIfInBounds_toArray, List.set_cons_zero, List.set_cons_succ]
              refine wpAnyH_ready (rs := [13]) (by kernel_rfl) (by simp) ?_
              refine AllReadyH.cons (o := _) rfl (fun K hK => ?_) ?_
              focus
                refine step_append_row rfl (.tmp 33) (.tmp 38) 39 rfl w2.heap.size 42 i0 (.agg #[.int .i64 0, .int .i64 0]) 2 16 Try.underlying39 HI.out.1 HI.out.2.1 HI.out.2.2.1 HI.out.2.2.2 rfl (by decide) (.slice A7 m c7) m (ensC L[d]) rfl (by exact HO7F.out) (some ⟨w7.heap.size, 0, none⟩) 1 1 _ [.int .i64 tm, .int .i64 id] rfl (fun h => by cases h) rfl (by exact HN7.out) (by exact HONE.out) (by exact HMX.out.2) (by omega) (by exact HB7F.out.size) ?_
                intro v9 w9 hown9 hgrow9
                obtain ⟨A9, c9, rfl⟩ := own_shapeG hown9
                have HB9 := Lib.hid (show Below w2.heap.size w2 w9 from HB7F.out.grown hgrow9 HB7F.out.size (fun q hq => (HO7F.out.lt q hq).1))
                have HFI := Lib.hid (HFIN.out w9 A9 c9 HB9.out hown9)
                refine hK.out _ _ ?_ (fun hHeld => ?_)
                · exact HK.out _ HB9.out
                clear hK K
                try simp only [Act.put, List.setIfInBounds_toArray, List.set_cons_zero, List.set_cons_succ]
                refine wpAnyH_take (i := 14) (oi := _) (v := ?_) rfl (by kernel_rfl) (by kernel_rfl) (by kernel_rfl) (fun _ _ _ h => h) (Or.inl ⟨by rfl, ?_⟩) (by assumption) ?_
                rotate_left
                · intro wS hSw
                  try dsimp only at hSw
                  go_simp
                  try with_reducible rfl
                try simp only [Act.put, List.setIfInBounds_toArray, List.set_cons_zero, List.set_cons_succ]
                refine wpAnyH_done (by kernel_rfl) ?_ _
                clear hHeld x0 x1 x2 e0
                have HX9 := Lib.hid (HX2.out.keep HB9.out)
                have x0 := HX9.out.bx.c0
                have x1 := HX9.out.bx.c1
                have x2 := HX9.out.bx.c2
                have hz9 := HX9.out.sz
                rw [HA.out] at x0
                have HWL2 := Lib.hid (HWL.out w9 HX9.out.bx.hb A9 c9 HFI.out.1 HFI.out.2)
                rw [HA.out] at HWL2
                go_wp2_with fail
                refine (HWL2.out).mono ?_
                rintro e w10 ⟨A10, c10, hs10, rfl, ho10, hb10⟩
                have HX10 := Lib.hid (HX9.out.keep hb10)
                have HO10 := Lib.hid ho10
                clear x0 x1 x2 ho10 hb10
                have r0 := HX10.out.r0
                have r1 := HX10.out.r1
                have r2 := HX10.out.r2
                have f0 := HX10.out.f0
                have f1 := HX10.out.f1
                have f2 := HX10.out.f2
                have hz10 := HX10.out.sz
                go_wp2_with fail
                refine bodyPost_ret (v := .tuple #[.agg #[.slice A10 (L.set d (L[d] ++ [(tm, id)])).length c10, .int .i64 (d : Int), .int .i64 tm], .bool true]) ?_ rfl ?_
                · simp [results, Try.results23, go_sem, r0, r1, r2]
                · exact ⟨A10, c10, hs10, rfl, HX10.out.done HO10.out hz9 _ _ _⟩
              exact AllReadyH.nil
            exact AllReadyH.nil
          refine AllReadyH.cons (o := _) rfl (fun K hK => ?_) ?_
          focus
            go_simp
            refine hK.out _ _ ?_ (fun hHeld => ?_)
            · exact HK.out _ HBEF.out
            clear hK K
            try simp only [Act.put, List.setIfInBounds_toArray, List.set_cons_zero, List.set_cons_succ]
            refine wpAnyH_ready (rs := [7]) (by kernel_rfl) (by simp) ?_
            refine AllReadyH.cons (o := _) rfl (fun K hK => ?_) ?_
            focus
              refine step_append_row rfl (.tmp 26) (.tmp 32) 39 rfl w2.heap.size 42 i0 (.agg #[.int .i64 0, .int .i64 0]) 2 16 Try.underlying39 HI.out.1 HI.out.2.1 HI.out.2.2.1 HI.out.2.2.2 rfl (by decide) _ 0 [] rfl (by exact HOEF.out) A2 m c2 w2.heap.size (ensC L[d]) rfl HC2.out.1 (by exact HLN.out) (by exact (HROW.out.below HBEF.out)) (by exact HLA.out) (by exact HMX.out.1) (by omega) (by exact HBEF.out.size) ?_
              intro v7 w7 hown7 hgrow7
              rw [Nat.zero_add] at hown7
              obtain ⟨A7, c7, rfl⟩ := own_shapeG hown7
              have HB7 := Lib.hid (show Below w2.heap.size w2 w7 from HBEF.out.grown hgrow7 HBEF.out.size (fun q hq => (HOEF.out.lt q hq).1))
              have HO7 := Lib.hid (show w7.ownsRow w2.heap.size 42 2 (.slice A7 m c7) m (ensC L[d]) by simpa using hown7)
              refine hK.out _ _ ?_ (fun hHeld => ?_)
              · exact HK.out _ HB7.out
              clear hK K
              try simp only [Act.put, List.setIfInBounds_toArray, List.set_cons_zero, List.set_cons_succ]
              refine wpAnyH_ready (rs := [13]) (by kernel_rfl) (by simp) ?_
              refine AllReadyH.cons (o := _) rfl (fun K hK => ?_) ?_
              focus
                refine step_append_row rfl (.tmp 33) (.tmp 38) 39 rfl w2.heap.size 42 i0 (.agg #[.int .i64 0, .int .i64 0]) 2 16 Try.underlying39 HI.out.1 HI.out.2.1 HI.out.2.2.1 HI.out.2.2.2 rfl (by decide) (.slice A7 m c7) m (ensC L[d]) rfl (by exact HO7.out) (some ⟨w2.heap.size + 1, 0, none⟩) 1 1 _ [.int .i64 tm, .int .i64 id] rfl (fun h => by cases h) rfl (by exact (HNEW.out _ w7 (w2.heap.size + 1) (.slice (some ⟨w2.heap.size, 0, none⟩) 0 0) HEF.out.1 HEF.out.2.1 HEF.out.2.2 hgrow7 (by simp [Value.ownBlock]))) (by exact HONE.out) (by exact HMX.out.2) (by omega) (by exact HB7.out.size) ?_
                intro v9 w9 hown9 hgrow9
                obtain ⟨A9, c9, rfl⟩ := own_shapeG hown9
                have HB9 := Lib.hid (show Below w2.heap.size w2 w9 from HB7.out.grown hgrow9 HB7.out.size (fun q hq => (HO7.out.lt q hq).1))
                have HFI := Lib.hid (HFIN.out w9 A9 c9 HB9.out hown9)
                refine hK.out _ _ ?_ (fun hHeld => ?_)
                · exact HK.out _ HB9.out
                clear hK K
                try simp only [Act.put, List.setIfInBounds_toArray, List.set_cons_zero, List.set_cons_succ]
                refine wpAnyH_take (i := 14) (oi := _) (v := ?_) rfl (by kernel_rfl) (by kernel_rfl) (by kernel_rfl) (fun _ _ _ h => h) (Or.inl ⟨by rfl, ?_⟩) (by assumption) ?_
                rotate_left
                · intro wS hSw
                  try dsimp only at hSw
                  go_simp
                  try with_reducible rfl
                try simp only [Act.put, List.setIfInBounds_toArray, List.set_cons_zero, List.set_cons_succ]
                refine wpAnyH_done (by kernel_rfl) ?_ _
                clear hHeld x0 x1 x2 e0
                have HX9 := Lib.hid (HX2.out.keep HB9.out)
                have x0 := HX9.out.bx.c0
                have x1 := HX9.out.bx.c1
                have x2 := HX9.out.bx.c2
                have hz9 := HX9.out.sz
                rw [HA.out] at x0
                have HWL2 := Lib.hid (HWL.out w9 HX9.out.bx.hb A9 c9 HFI.out.1 HFI.out.2)
                rw [HA.out] at HWL2
                go_wp2_with fail
                refine (HWL2.out).mono ?_
                rintro e w10 ⟨A10, c10, hs10, rfl, ho10, hb10⟩
                have HX10 := Lib.hid (HX9.out.keep hb10)
                have HO10 := Lib.hid ho10
                clear x0 x1 x2 ho10 hb10
                have r0 := HX10.out.r0
                have r1 := HX10.out.r1
                have r2 := HX10.out.r2
                have f0 := HX10.out.f0
                have f1 := HX10.out.f1
                have f2 := HX10.out.f2
                have hz10 := HX10.out.sz
                go_wp2_with fail
                refine bodyPost_ret (v := .tuple #[.agg #[.slice A10 (L.set d (L[d] ++ [(tm, id)])).length c10, .int .i64 (d : Int), .int .i64 tm], .bool true]) ?_ rfl ?_
                · simp [results, Try.results23, go_sem, r0, r1, r2]
                · exact ⟨A10, c10, hs10, rfl, HX10.out.done HO10.out hz9 _ _ _⟩
              exact AllReadyH.nil
            exact AllReadyH.nil
          exact AllReadyH.nil
        refine AllReadyH.cons (o := _) rfl (fun K hK => ?_) ?_
        focus
          go_simp
          refine hK.out _ _ ?_ (fun hHeld => ?_)
          · exact HK.out _ HBF.out
          clear hK K
          try simp only [Act.put, List.setIfInBounds_toArray, List.set_cons_zero, List.set_cons_succ]
          refine wpAnyH_ready (rs := [0]) (by kernel_rfl) (by simp) ?_
          refine AllReadyH.cons (o := _) rfl (fun K hK => ?_) ?_
          focus
            go_simp
            refine hK.out _ _ ?_ (fun hHeld => ?_)
            · exact HK.out _ HBFE.out
            clear hK K
            try simp only [Act.put, List.setIfInBounds_toArray, List.set_cons_zero, List.set_cons_succ]
            refine wpAnyH_ready (rs := [7]) (by kernel_rfl) (by simp) ?_
            refine AllReadyH.cons (o := _) rfl (fun K hK => ?_) ?_
            focus
              refine step_append_row rfl (.tmp 26) (.tmp 32) 39 rfl w2.heap.size 42 i0 (.agg #[.int .i64 0, .int .i64 0]) 2 16 Try.underlying39 HI.out.1 HI.out.2.1 HI.out.2.2.1 HI.out.2.2.2 rfl (by decide) _ 0 [] rfl (by exact HOFE.out) A2 m c2 w2.heap.size (ensC L[d]) rfl HC2.out.1 (by exact HLN.out) (by exact (HROW.out.below HBFE.out)) (by exact HLA.out) (by exact HMX.out.1) (by omega) (by exact HBFE.out.size) ?_
              intro v7 w7 hown7 hgrow7
              rw [Nat.zero_add] at hown7
              obtain ⟨A7, c7, rfl⟩ := own_shapeG hown7
              have HB7 := Lib.hid (show Below w2.heap.size w2 w7 from HBFE.out.grown hgrow7 HBFE.out.size (fun q hq => (HOFE.out.lt q hq).1))
              have HO7 := Lib.hid (show w7.ownsRow w2.heap.size 42 2 (.slice A7 m c7) m (ensC L[d]) by simpa using hown7)
              refine hK.out _ _ ?_ (fun hHeld => ?_)
              · exact HK.out _ HB7.out
              clear hK K
              try simp only [Act.put, List.setIfInBounds_toArray, List.set_cons_zero, List.set_cons_succ]
              refine wpAnyH_ready (rs := [13]) (by kernel_rfl) (by simp) ?_
              refine AllReadyH.cons (o := _) rfl (fun K hK => ?_) ?_
              focus
                refine step_append_row rfl (.tmp 33) (.tmp 38) 39 rfl w2.heap.size 42 i0 (.agg #[.int .i64 0, .int .i64 0]) 2 16 Try.underlying39 HI.out.1 HI.out.2.1 HI.out.2.2.1 HI.out.2.2.2 rfl (by decide) (.slice A7 m c7) m (ensC L[d]) rfl (by exact HO7.out) (some ⟨w2.heap.size, 0, none⟩) 1 1 _ [.int .i64 tm, .int .i64 id] rfl (fun h => by cases h) rfl (by exact (HNEW.out _ w7 w2.heap.size (.slice (some ⟨w2.heap.size + 1, 0, none⟩) 0 0) HFE.out.1 HFE.out.2.1 HFE.out.2.2 hgrow7 (by simp [Value.ownBlock]))) (by exact HONE.out) (by exact HMX.out.2) (by omega) (by exact HB7.out.size) ?_
                intro v9 w9 hown9 hgrow9
                obtain ⟨A9, c9, rfl⟩ := own_shapeG hown9
                have HB9 := Lib.hid (show Below w2.heap.size w2 w9 from HB7.out.grown hgrow9 HB7.out.size (fun q hq => (HO7.out.lt q hq).1))
                have HFI := Lib.hid (HFIN.out w9 A9 c9 HB9.out hown9)
                refine hK.out _ _ ?_ (fun hHeld => ?_)
                · exact HK.out _ HB9.out
                clear hK K
                try simp only [Act.put, List.setIfInBounds_toArray, List.set_cons_zero, List.set_cons_succ]
                refine wpAnyH_take (i := 14) (oi := _) (v := ?_) rfl (by kernel_rfl) (by kernel_rfl) (by kernel_rfl) (fun _ _ _ h => h) (Or.inl ⟨by rfl, ?_⟩) (by assumption) ?_
                rotate_left
                · intro wS hSw
                  try dsimp only at hSw
                  go_simp
                  try with_reducible rfl
                try simp only [Act.put, List.setIfInBounds_toArray, List.set_cons_zero, List.set_cons_succ]
                refine wpAnyH_done (by kernel_rfl) ?_ _
                clear hHeld x0 x1 x2 e0
                have HX9 := Lib.hid (HX2.out.keep HB9.out)
                have x0 := HX9.out.bx.c0
                have x1 := HX9.out.bx.c1
                have x2 := HX9.out.bx.c2
                have hz9 := HX9.out.sz
                rw [HA.out] at x0
                have HWL2 := Lib.hid (HWL.out w9 HX9.out.bx.hb A9 c9 HFI.out.1 HFI.out.2)
                rw [HA.out] at HWL2
                go_wp2_with fail
                refine (HWL2.out).mono ?_
                rintro e w10 ⟨A10, c10, hs10, rfl, ho10, hb10⟩
                have HX10 := Lib.hid (HX9.out.keep hb10)
                have HO10 := Lib.hid ho10
                clear x0 x1 x2 ho10 hb10
                have r0 := HX10.out.r0
                have r1 := HX10.out.r1
                have r2 := HX10.out.r2
                have f0 := HX10.out.f0
                have f1 := HX10.out.f1
                have f2 := HX10.out.f2
                have hz10 := HX10.out.sz
                go_wp2_with fail
                refine bodyPost_ret (v := .tuple #[.agg #[.slice A10 (L.set d (L[d] ++ [(tm, id)])).length c10, .int .i64 (d : Int), .int .i64 tm], .bool true]) ?_ rfl ?_
                · simp [results, Try.results23, go_sem, r0, r1, r2]
                · exact ⟨A10, c10, hs10, rfl, HX10.out.done HO10.out hz9 _ _ _⟩
              exact AllReadyH.nil
            exact AllReadyH.nil
          exact AllReadyH.nil
        exact AllReadyH.nil
    · have HF := Lib.hid (show outW L (d : Int) tm id = ([], 0, 0, false) by unfold outW; rw [if_neg (fun q => g1 q.2.1)])
      have HP := Lib.hid (fun w => inRg_any (n := id) (lo := 0) (hi := 99) (b := false) (by rw [Bool.eq_false_iff]; simp only [ne_eq, Bool.and_eq_true, decide_eq_true_eq]; exact g1) w)
      clear hr hn hsm g g1
      rw [HF.out]
      go_enter Try.func23, Try.ntmps23
      go_wp2_with fail
      refine (HV.out _ BoxR.start.bx.hb).mono ?_
      rintro e w2 ⟨rfl, hb2⟩
      have HXZ := Lib.hid (BoxR.start.keep hb2); clear hb2
      have hz := HXZ.out.sz
      have x0 := HXZ.out.bx.c0
      have x1 := HXZ.out.bx.c1
      have x2 := HXZ.out.bx.c2
      have r0 := HXZ.out.r0
      have r1 := HXZ.out.r1
      have r2 := HXZ.out.r2
      have f0 := HXZ.out.f0
      have f1 := HXZ.out.f1
      have f2 := HXZ.out.f2
      go_wp2_with fail
      refine (HP.out _).mono ?_
      rintro e w3 ⟨rfl, hw3⟩
      obtain rfl := hw3.symm
      go_wp2_with fail
      refine bodyPost_ret (v := .tuple #[.agg #[.slice none 0 0, .int .i64 0, .int .i64 0], .bool false]) ?_ rfl ?_
      · simp [results, Try.results23, go_sem, r0, r1, r2]
      · exact ⟨none, 0, [], rfl, HXZ.out.zero _ _ _⟩
  · have HF := Lib.hid (show outW L ld tm id = ([], 0, 0, false) by unfold outW; rw [if_neg (fun q => g q.1)])
    rw [decide_eq_false g] at HV
    clear hr hn hsm g
    rw [HF.out]
    go_enter Try.func23, Try.ntmps23
    go_wp2_with fail
    refine (HV.out _ BoxR.start.bx.hb).mono ?_
    rintro e w2 ⟨rfl, hb2⟩
    have HXZ := Lib.hid (BoxR.start.keep hb2); clear hb2
    have hz := HXZ.out.sz
    have x0 := HXZ.out.bx.c0
    have x1 := HXZ.out.bx.c1
    have x2 := HXZ.out.bx.c2
    have r0 := HXZ.out.r0
    have r1 := HXZ.out.r1
    have r2 := HXZ.out.r2
    have f0 := HXZ.out.f0
    have f1 := HXZ.out.f1
    have f2 := HXZ.out.f2
    go_wp2_with fail
    refine bodyPost_ret (v := .tuple #[.agg #[.slice none 0 0, .int .i64 0, .int .i64 0], .bool false]) ?_ rfl ?_
    · simp [results, Try.results23, go_sem, r0, r1, r2]
    · exact ⟨none, 0, [], rfl, HXZ.out.zero _ _ _⟩
end Go.Proofs.Ytgoonccjdoajnab
