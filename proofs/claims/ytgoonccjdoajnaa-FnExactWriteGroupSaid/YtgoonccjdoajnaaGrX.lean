/- The contract of WriteGroup of the program (chapter 10). Conditions: the logs lie in memory; they are few. -/
import Derived.Test.YtgoonccjdoajnaaGrR
import Derived.StillTailTactics
import Derived.BigRegion
import Derived.Deep.RegionHeld3
set_option linter.unusedVariables false
set_option linter.unusedSimpArgs false
namespace Go.Proofs.Ytgoonccjdoajnaa
open Go.RowKit Go.ChangeShapes Go.WideShapes

set_option maxRecDepth 100000 in
set_option maxHeartbeats 4000000 in
theorem iWrite_any (A : Option Addr) (n c : Nat) (L : List (List En)) (ld tm id : Int) (w : World) (hr : GvAt w w.heap.size A L) (hn : n = L.length) (hs : n ≤ 1048576) (hsm : SmallGv L) :
    Calls Try.prog 21 #[.agg #[.slice A n c, .int .i64 ld, .int .i64 tm], .int .i64 id] w (GOut (outW L ld tm id).1 (outW L ld tm id).2.1 (outW L ld tm id).2.2.1 (outW L ld tm id).2.2.2 w) := by
  obtain ⟨i0, hi0, hz0, hz1, hz2⟩ := info_parts enInfo
  have HI := Lib.hid (And.intro hi0 (And.intro hz0 (And.intro hz1 hz2))); clear hi0 hz0 hz1 hz2
  have HV := Lib.hid (fun W (hb : Below w.heap.size w W) => iGrp_any A n c L ld tm W ((hr.below hb).mono hb.size) hn hs hsm)
  by_cases g : okG L ld tm
  · rw [decide_eq_true g] at HV
    obtain ⟨d, rfl⟩ : ∃ d : Nat, ld = (d : Int) := ⟨ld.toNat, by have := g.2.1; omega⟩
    have hd : d < L.length := by have := g.2.1.2; omega
    by_cases g1 : 0 ≤ id ∧ id ≤ 99
    · have HP := Lib.hid (fun w => isId_is (decide_eq_true g1) w)
      obtain ⟨m, hm⟩ : ∃ m, L[d].length = m := ⟨_, rfl⟩
      have hm12 : m ≤ 12 := by have := (g.2.2.2 _ (List.getElem_mem hd)).1; omega
      have HR := Lib.hid hr
      have HN := Lib.hid hn
      have HM := Lib.hid hm
      have hi2 : (d : Int) < (n : Int) := by omega
      have hi3 : (0 : Int) ≤ (d : Int) := by omega
      by_cases g2 : m = 12
      · have HF := Lib.hid (show outW L (d : Int) tm id = ([], 0, 0, false) by
          unfold outW
          rw [if_neg (fun q => q.2.2 (by rw [leadL_nat hd, hm]; exact g2))])
        clear hr hn hm hsm g g1
        subst g2
        rw [HF.out]
        go_enter Try.func21, Try.ntmps21
        go_wp2_with fail
        refine (HV.out _ BoxR.start.bx.hb).mono ?_
        rintro e w2 ⟨rfl, hb2⟩
        have HX2 := Lib.hid (BoxR.start.keep hb2); clear hb2
        obtain ⟨b, off, A2, c2, hA, hbw, e0, hrow⟩ := (HR.out.below HX2.out.bx.hb).at_ hd
        rw [HM.out] at e0
        have x0 := HX2.out.bx.c0
        have x1 := HX2.out.bx.c1
        have x2 := HX2.out.bx.c2
        have r0 := HX2.out.r0
        have r1 := HX2.out.r1
        have r2 := HX2.out.r2
        have f0 := HX2.out.f0
        have f1 := HX2.out.f1
        have f2 := HX2.out.f2
        have hz := HX2.out.sz
        rw [hA] at x0
        clear hA hrow
        go_wp2_with fail
        refine (HP.out _).mono ?_
        rintro e w3 ⟨rfl, hw3⟩
        obtain rfl := hw3.symm
        go_wp2_with fail
        refine bodyPost_ret (v := .tuple #[.agg #[.slice none 0 0, .int .i64 0, .int .i64 0], .bool false]) ?_ rfl ?_
        · simp [results, Try.results21, go_sem, r0, r1, r2]
        · exact ⟨none, 0, [], rfl, HX2.out.zero _ _ _⟩
      · have HF := Lib.hid (show outW L (d : Int) tm id = (L.set d (L[d] ++ [(tm, id)]), (d : Int), tm, true) by
          unfold outW
          rw [if_pos ⟨g, g1, by rw [leadL_nat hd, hm]; exact g2⟩, leadL_nat hd, Int.toNat_natCast])
        have HCL := Lib.hid (fun W (hb : Below w.heap.size w W) => iClone_any A n c L (d : Int) tm W ((hr.below hb).mono hb.size) hn hs hsm)
        have hm2 : ((m : Int) == 12) = false := by simp; omega
        have HSL := Lib.hid (show (L.set d (L[d] ++ [(tm, id)])).length = L.length by rw [List.length_set])
        clear hr hn hm hsm g g1 g2
        rw [HF.out]
        go_enter Try.func21, Try.ntmps21
        go_wp2_with fail
        refine (HV.out _ BoxR.start.bx.hb).mono ?_
        rintro e w2 ⟨rfl, hb2⟩
        have HX2 := Lib.hid (BoxR.start.keep hb2); clear hb2
        obtain ⟨b, off, A2, c2, hA, hbw, e0, hrow⟩ := (HR.out.below HX2.out.bx.hb).at_ hd
        rw [HM.out] at e0
        have HA := Lib.hid hA
        have x0 := HX2.out.bx.c0
        have x1 := HX2.out.bx.c1
        have x2 := HX2.out.bx.c2
        have hz := HX2.out.sz
        rw [hA] at x0
        clear hA hrow
        go_wp2_with fail
        refine (HP.out _).mono ?_
        rintro e w3 ⟨rfl, hw3⟩
        obtain rfl := hw3.symm
        go_wp2_with fail
        have HCL2 := Lib.hid (HCL.out w2 HX2.out.bx.hb)
        rw [HA.out] at HCL2
        refine (HCL2.out).mono ?_
        rintro e w4 ⟨A4, c4, hs4, rfl, ho4, hb4⟩
        have HX4 := Lib.hid (HX2.out.keep hb4)
        have hw24 : w2.heap.size ≤ w4.heap.size := hb4.size
        obtain ⟨g4, rfl, hg4, hg4b⟩ := ho4.hdr (by omega)
        obtain ⟨W4, hW4'⟩ : ∃ W4, W4 = w4.alloc (.cells #[.slice (some ⟨g4, 0, none⟩) L.length c4, .int .i64 (d : Int), .int .i64 tm] 29) := ⟨_, rfl⟩
        have HW4 := Lib.hid hW4'
        clear hW4'
        have HB4 := Lib.hid (show Below w4.heap.size w4 W4 by rw [HW4.out]; exact (Below.refl w4.heap.size w4).alloc (Nat.le_refl _) _)
        have HS4 := Lib.hid (show W4.heap.size = w4.heap.size + 1 by rw [HW4.out]; simp)
        have HY4 := Lib.hid (show W4.cell? ⟨w4.heap.size, 0, none⟩ = some (.slice (some ⟨g4, 0, none⟩) L.length c4) ∧ W4.cell? ⟨w4.heap.size, 1, none⟩ = some (.int .i64 (d : Int)) ∧ W4.cell? ⟨w4.heap.size, 2, none⟩ = some (.int .i64 tm) by rw [HW4.out]; simp)
        have HX4' := Lib.hid (HX4.out.keep HB4.out)
        have HB5 := Lib.hid (HB4.out.drew)
        have hdh : d < hs4.length := by rw [ho4.hl]; exact hd
        obtain ⟨⟨Ad, nd, cd⟩, hhx⟩ : ∃ x : GHd, hs4[d]'hdh = x := ⟨_, rfl⟩
        have hnd : nd = m := by
          have h1 := (ho4.inn.2 d hdh hd).1
          rw [hhx] at h1
          exact h1.trans HM.out
        subst hnd
        have e4 : W4.cell? ⟨g4, d, none⟩ = some (.slice Ad nd cd) := by
          have h1 := (ho4.keep HB4.out).cell hd
          rw [hhx, HM.out] at h1; exact h1
        have HOD := Lib.hid (fun W (hb : Below w4.heap.size w4 W) => (show W.ownsRow w2.heap.size 63 2 (.slice Ad nd cd) nd (ensC L[d]) by
          have h1 := ((ho4.keep hb).inn.2 d hdh hd).2
          rw [hhx, HM.out] at h1; exact h1))
        have HBLK := Lib.hid (show blkOf (hs4[d]'hdh).1 = blkOf Ad by rw [hhx])
        have HAPP := Lib.hid (fun W (hb : Below w4.heap.size w4 W) => ho4.keep hb)
        have hi4 : (d : Int) < (L.length : Int) := by omega
        have x40 := HX4'.out.bx.c0
        have x41 := HX4'.out.bx.c1
        have x42 := HX4'.out.bx.c2
        have y40 := HY4.out.1
        have y41 := HY4.out.2.1
        have y42 := HY4.out.2.2
        have HBB4 := Lib.hid hb4
        have HG4 := Lib.hid hg4
        have HG4B := Lib.hid hg4b
        have HNM := Lib.hid (show L[d].length = nd from HM.out)
        rw [HA.out] at x40
        clear hb4 ho4 e0 x0 x1 x2 hhx hg4 hg4b
        go_wp2_with fail
        rw [← HW4.out]
        have HB6 := Lib.hid (show Below w4.heap.size w4 ((W4.alloc (.cells #[.int .i64 tm, .int .i64 id] 63)).drew) from (HB4.out.alloc HB4.out.size _).drew)
        have HS6 := Lib.hid (show w2.heap.size ≤ ((W4.alloc (.cells #[.int .i64 tm, .int .i64 id] 63)).drew).heap.size by show w2.heap.size ≤ (W4.alloc _).heap.size; rw [World.size_alloc]; have := HS4.out; omega)
        have HNW := Lib.hid (show ∀ (j : Nat) (u : Value), ([.int .i64 tm, .int .i64 id] : List Value)[j]? = some u → ((W4.alloc (.cells #[.int .i64 tm, .int .i64 id] 63)).drew).cell? ((⟨W4.heap.size, 0, none⟩ : Addr).add j) = some u from fun j u hj => by
          rw [add_zero_off, Nat.zero_add]
          show (W4.alloc (.cells #[.int .i64 tm, .int .i64 id] 63)).cell? _ = _
          simpa using hj)
        have HONE := Lib.hid (show ∀ u ∈ ([.int .i64 tm, .int .i64 id] : List Value), u.oneCell' = true from fun u hu => by simp at hu; rcases hu with rfl | rfl <;> rfl)
        have HMX := Lib.hid (show nd + 1 ≤ maxLen by unfold maxLen; omega)
        have HAFT := Lib.hid (show ∀ w9, ((W4.alloc (.cells #[.int .i64 tm, .int .i64 id] 63)).drew).grownBy w9 (Value.slice Ad nd cd).ownBlock → Below w2.heap.size w4 w9 ∧ (w9.cell? ⟨w.heap.size, 1, none⟩ = some (.int .i64 (d : Int)) ∧ w9.cell? ⟨w.heap.size, 2, none⟩ = some (.int .i64 tm) ∧ w9.cell? ⟨w4.heap.size, 0, none⟩ = some (.slice (some ⟨g4, 0, none⟩) L.length c4) ∧ w9.cell? ⟨w4.heap.size, 1, none⟩ = some (.int .i64 (d : Int)) ∧ w9.cell? ⟨w4.heap.size, 2, none⟩ = some (.int .i64 tm)) ∧ ((∃ u, w9.cell? ⟨g4, d, none⟩ = some u) ∧ w9.frozen? ⟨g4, d, none⟩ = false) from fun w9 hg => by
          have hlt := fun q hq => (HOD.out _ (Below.refl _ _)).lt q hq
          have hb9 : Below w2.heap.size w4 w9 := (HB6.out.mono hw24).grown hg (Nat.le_trans hw24 HB6.out.size) (fun q hq => (hlt q hq).1)
          have k0 : ∀ o v, W4.cell? ⟨w4.heap.size, o, none⟩ = some v → w9.cell? ⟨w4.heap.size, o, none⟩ = some v := fun o v hc => hg.cell (a := ⟨w4.heap.size, o, none⟩) (by
            show (W4.alloc _).cell? _ = _
            rw [World.cell?_alloc_lt W4 _ ⟨w4.heap.size, o, none⟩ (by show w4.heap.size < W4.heap.size; have := HS4.out; omega)]; exact hc) (fun e => by have := (hlt _ e.symm).2; simp at this)
          refine ⟨hb9, ⟨(hb9.cell (p := ⟨w.heap.size, 1, none⟩) (by show w.heap.size < w2.heap.size; omega)).trans HX4.out.bx.c1, (hb9.cell (p := ⟨w.heap.size, 2, none⟩) (by show w.heap.size < w2.heap.size; omega)).trans HX4.out.bx.c2, k0 _ _ HY4.out.1, k0 _ _ HY4.out.2.1, k0 _ _ HY4.out.2.2⟩, ?_⟩
          have k1 := ((HAPP.out _ HB6.out).grow hdh (by rw [blk_slice, ← HBLK.out] at hg; exact hg)).1
          have c0 := k1.cellAt d (by omega)
          rw [List.getElem?_eq_getElem (by rw [k1.1]; omega)] at c0
          exact ⟨⟨_, c0⟩, k1.frozenAt _⟩)
        have lt1 : g4 < W4.heap.size := by have := HS4.out; have := HG4B.out; omega
        have lt2 : w.heap.size < W4.heap.size := by have := HS4.out; omega
        have lt3 : w4.heap.size < W4.heap.size := by have := HS4.out; omega
        have q0 := (World.cell?_alloc_lt W4 (.cells #[.int .i64 tm, .int .i64 id] 63) ⟨w.heap.size, 1, none⟩ lt2).trans x41
        have q1 := (World.cell?_alloc_lt W4 (.cells #[.int .i64 tm, .int .i64 id] 63) ⟨w.heap.size, 2, none⟩ lt2).trans x42
        have q2 := (World.cell?_alloc_lt W4 (.cells #[.int .i64 tm, .int .i64 id] 63) ⟨w4.heap.size, 0, none⟩ lt3).trans y40
        have HQQ := Lib.hid (And.intro q0 (And.intro q1 q2))
        clear q0 q1 q2
        -- REGION
        refine wp_region_held_drew (S := fun w' => w'.cell? ⟨w.heap.size, 1, none⟩ = some (.int .i64 (d : Int)) ∧ w'.cell? ⟨w.heap.size, 2, none⟩ = some (.int .i64 tm) ∧ w'.cell? ⟨w4.heap.size, 0, none⟩ = some (.slice (some ⟨g4, 0, none⟩) L.length c4)) (by kernel_rfl) ?_ (fun hHeld => ?_)
        · exact ⟨x41, x42, y40⟩
        refine wpAnyH_take (i := 0) (oi := _) (v := ?_) rfl (by kernel_rfl) (by kernel_rfl) (by kernel_rfl) (fun _ _ _ h => h) (Or.inl ⟨by rfl, ?_⟩) (by assumption) ?_
        rotate_left
        · intro wS hSw
          try dsimp only at hSw
          go_simp
          try with_reducible rfl
        try simp only [Act.put, List.setIfInBounds_toArray, List.set_cons_zero, List.set_cons_succ]
        refine wpAnyH_take (i := 1) (oi := _) (v := ?_) rfl (by kernel_rfl) (by kernel_rfl) (by kernel_rfl) (fun _ _ _ h => h) (Or.inl ⟨by rfl, ?_⟩) (by assumption) ?_
        rotate_left
        · intro wS hSw
          try dsimp only at hSw
          go_simp
          try with_reducible rfl
        try simp only [Act.put, List.setIfInBounds_toArray, List.set_cons_zero, List.set_cons_succ]
        refine wpAnyH_take (i := 2) (oi := _) (v := ?_) rfl (by kernel_rfl) (by kernel_rfl) (by kernel_rfl) (fun _ _ _ h => h) (Or.inl ⟨by rfl, ?_⟩) (by assumption) ?_
        rotate_left
        · intro wS hSw
          try dsimp only at hSw
          go_simp
          try with_reducible rfl
        try simp only [Act.put, List.setIfInBounds_toArray, List.set_cons_zero, List.set_cons_succ]
        refine wpAnyH_take (i := 3) (oi := _) (v := ?_) rfl (by kernel_rfl) (by kernel_rfl) (by kernel_rfl) (fun _ _ _ h => h) (Or.inl ⟨by rfl, ?_⟩) (by assumption) ?_
        rotate_left
        · intro wS hSw
          try dsimp only at hSw
          go_simp
          try with_reducible rfl
        try simp only [Act.put, List.setIfInBounds_toArray, List.set_cons_zero, List.set_cons_succ]
        refine wpAnyH_take (i := 4) (oi := _) (v := ?_) rfl (by kernel_rfl) (by kernel_rfl) (by kernel_rfl) (fun _ _ _ h => h) (Or.inl ⟨by rfl, ?_⟩) (by assumption) ?_
        rotate_left
        · intro wS hSw
          try dsimp only at hSw
          go_simp
          try with_reducible rfl
        try simp only [Act.put, List.setIfInBounds_toArray, List.set_cons_zero, List.set_cons_succ]
        refine wpAnyH_take (i := 5) (oi := _) (v := ?_) rfl (by kernel_rfl) (by kernel_rfl) (by kernel_rfl) (fun _ _ _ h => h) (Or.inl ⟨by rfl, ?_⟩) (by assumption) ?_
        rotate_left
        · intro wS hSw
          try dsimp only at hSw
          go_simp
          try with_reducible rfl
        try simp only [Act.put, List.setIfInBounds_toArray, List.set_cons_zero, List.set_cons_succ]
        refine wpAnyH_take (i := 6) (oi := _) (v := ?_) rfl (by kernel_rfl) (by kernel_rfl) (by kernel_rfl) (fun _ _ _ h => h) (Or.inl ⟨by rfl, ?_⟩) (by assumption) ?_
        rotate_left
        · intro wS hSw
          try dsimp only at hSw
          go_simp
          try with_reducible rfl
        try simp only [Act.put, List.setIfInBounds_toArray, List.set_cons_zero, List.set_cons_succ]
        refine wpAnyH_take (i := 7) (oi := _) (v := ?_) rfl (by kernel_rfl) (by kernel_rfl) (by kernel_rfl) (fun _ _ _ h => h) (Or.inl ⟨by rfl, ?_⟩) (by assumption) ?_
        rotate_left
        · intro wS hSw
          try dsimp only at hSw
          go_simp
          try with_reducible rfl
        try simp only [Act.put, List.setIfInBounds_toArray, List.set_cons_zero, List.set_cons_succ]
        refine wpAnyH_take (i := 8) (oi := _) (v := ?_) rfl (by kernel_rfl) (by kernel_rfl) (by kernel_rfl) (fun _ _ _ h => h) (Or.inl ⟨by rfl, ?_⟩) (by assumption) ?_
        rotate_left
        · intro wS hSw
          try dsimp only at hSw
          go_simp
          try with_reducible rfl
        try simp only [Act.put, List.setIfInBounds_toArray, List.set_cons_zero, List.set_cons_succ]
        refine wpAnyH_take (i := 10) (oi := _) (v := ?_) rfl (by kernel_rfl) (by kernel_rfl) (by kernel_rfl) (fun _ _ _ h => h) (Or.inl ⟨by rfl, ?_⟩) (by assumption) ?_
        rotate_left
        · intro wS hSw
          try dsimp only at hSw
          go_simp
          try with_reducible rfl
        try simp only [Act.put, List.setIfInBounds_toArray, List.set_cons_zero, List.set_cons_succ]
        refine wpAnyH_take (i := 11) (oi := _) (v := ?_) rfl (by kernel_rfl) (by kernel_rfl) (by kernel_rfl) (fun _ _ _ h => h) (Or.inl ⟨by rfl, ?_⟩) (by assumption) ?_
        rotate_left
        · intro wS hSw
          try dsimp only at hSw
          go_simp
          try with_reducible rfl
        try simp only [Act.put, List.setIfInBounds_toArray, List.set_cons_zero, List.set_cons_succ]
        refine wpAnyH_take (i := 12) (oi := _) (v := ?_) rfl (by kernel_rfl) (by kernel_rfl) (by kernel_rfl) (fun _ _ _ h => h) (Or.inl ⟨by rfl, ?_⟩) (by assumption) ?_
        rotate_left
        · intro wS hSw
          try dsimp only at hSw
          go_simp
          try with_reducible rfl
        try simp only [Act.put, List.setIfInBounds_toArray, List.set_cons_zero, List.set_cons_succ]
        refine wpAnyH_take (i := 13) (oi := _) (v := ?_) rfl (by kernel_rfl) (by kernel_rfl) (by kernel_rfl) (fun _ _ _ h => h) (Or.inl ⟨by rfl, ?_⟩) (by assumption) ?_
        rotate_left
        · intro wS hSw
          try dsimp only at hSw
          go_simp
          try with_reducible rfl
        try simp only [Act.put, List.setIfInBounds_toArray, List.set_cons_zero, List.set_cons_succ]
        refine wpAnyH_ready (rs := [9, 14]) (by kernel_rfl) (by simp) ?_
        refine AllReadyH.cons (o := _) rfl (fun K hK => ?_) ?_
        focus
          go_simp
          refine hK.out _ _ ?_ (fun hHeld => ?_)
          · exact ⟨x41, x42, y40⟩
          clear hK K
          try simp only [Act.put, List.setIfInBounds_toArray, List.set_cons_zero, List.set_cons_succ]
          refine wpAnyH_ready (rs := [14]) (by kernel_rfl) (by simp) ?_
          refine AllReadyH.cons (o := _) rfl (fun K hK => ?_) ?_
          focus
            go_simp
            refine hK.out _ _ ?_ (fun hHeld => ?_)
            · exact HQQ.out
            clear hK K
            try simp only [Act.put, List.setIfInBounds_toArray, List.set_cons_zero, List.set_cons_succ]
            refine wpAnyH_ready (rs := [15]) (by kernel_rfl) (by simp) ?_
            refine AllReadyH.cons (o := _) rfl (fun K hK => ?_) ?_
            focus
              refine step_append_lies _ rfl (.tmp 37) (.tmp 42) 57 rfl w2.heap.size 63 i0 (.agg #[.int .i64 0, .int .i64 0]) 2 16 Try.underlying57 HI.out.1 HI.out.2.1 HI.out.2.2.1 HI.out.2.2.2 rfl (by decide) (.slice Ad nd cd) nd (ensC L[d]) rfl (by exact HOD.out _ HB6.out) ⟨W4.heap.size, 0, none⟩ 1 1 [.int .i64 tm, .int .i64 id] rfl rfl (by exact HNW.out) (by exact HONE.out) (by decide) (by exact HMX.out) (by omega) (by exact HS6.out) _ rfl ?_
              intro g9 cap9 w9 hown9 hgrow9 hat9 hlt9
              obtain ⟨hb9, ⟨x91, x92, y90, y91, y92⟩, ⟨u9, z90⟩, z91⟩ := HAFT.out _ hgrow9
              refine hK.out _ _ ?_ (fun hHeld => ?_)
              · exact ⟨x91, x92, y90⟩
              clear hK K
              try simp only [Act.put, List.setIfInBounds_toArray, List.set_cons_zero, List.set_cons_succ]
              refine wpAnyH_take (i := 16) (oi := _) (v := ?_) rfl (by kernel_rfl) (by kernel_rfl) (by kernel_rfl) (fun _ _ _ h => h) (Or.inl ⟨by rfl, ?_⟩) (by assumption) ?_
              rotate_left
              · intro wS hSw
                try dsimp only at hSw
                go_simp
                try with_reducible rfl
              try simp only [Act.put, List.setIfInBounds_toArray, List.set_cons_zero, List.set_cons_succ]
              refine wpAnyH_ready (rs := [17]) (by kernel_rfl) (by simp) ?_
              refine AllReadyH.cons (o := _) rfl (fun K hK => ?_) ?_
              focus
                go_simp
                refine hK.out _ _ ?_ (fun hHeld => ?_)
                · exact ⟨(World.cell?_setCell_far _ _ _ _ (by show g4 ≠ w.heap.size; have := HG4.out; have := HG4B.out; omega)).trans x91, (World.cell?_setCell_far _ _ _ _ (by show g4 ≠ w.heap.size; have := HG4.out; have := HG4B.out; omega)).trans x92, (World.cell?_setCell_far _ _ _ _ (by show g4 ≠ w4.heap.size; have := HG4.out; have := HG4B.out; omega)).trans y90⟩
                clear hK K
                try simp only [Act.put, List.setIfInBounds_toArray, List.set_cons_zero, List.set_cons_succ]
                refine wpAnyH_done (by kernel_rfl) ?_ _
                have HRL := Lib.hid (show (L[d] ++ [(tm, id)]).length = nd + 1 by rw [List.length_append, HNM.out]; rfl)
                have HAP := Lib.hid (show OwG w2.heap.size (some ⟨g4, 0, none⟩) c4 (hs4.set d (some ⟨g9, 0, none⟩, nd + 1, cap9)) (L.set d (L[d] ++ [(tm, id)])) (w9.setCell ⟨g4, d, none⟩ (.slice (some ⟨g9, 0, none⟩) (nd + 1) cap9)) from by
                  have h1 := OwG.app (HAPP.out _ HB6.out) hd (W' := w9) (by rw [HBLK.out, ← blk_slice _ nd cd]; exact hgrow9) (g' := g9) (c' := cap9) (r := L[d] ++ [(tm, id)]) (by rw [HRL.out, ensC_snoc]; exact hown9) (by
                    rcases hat9 with h | h
                    · left; rw [HBLK.out, ← blk_slice _ nd cd]; exact h
                    · right; rw [h]; exact Nat.le_refl _)
                  rw [HRL.out] at h1
                  exact h1)
                have HX9 := Lib.hid (HX2.out.keep (((HBB4.out).trans hb9).setCell (p := ⟨g4, d, none⟩) HG4.out (.slice (some ⟨g9, 0, none⟩) (nd + 1) cap9)))
                have HY9 := Lib.hid (show (w9.setCell ⟨g4, d, none⟩ (.slice (some ⟨g9, 0, none⟩) (nd + 1) cap9)).cell? ⟨w4.heap.size, 0, none⟩ = some (.slice (some ⟨g4, 0, none⟩) L.length c4) ∧ (w9.setCell ⟨g4, d, none⟩ (.slice (some ⟨g9, 0, none⟩) (nd + 1) cap9)).cell? ⟨w4.heap.size, 1, none⟩ = some (.int .i64 (d : Int)) ∧ (w9.setCell ⟨g4, d, none⟩ (.slice (some ⟨g9, 0, none⟩) (nd + 1) cap9)).cell? ⟨w4.heap.size, 2, none⟩ = some (.int .i64 tm) from
                  ⟨(World.cell?_setCell_far _ _ _ _ (by show g4 ≠ w4.heap.size; have := HG4B.out; omega)).trans y90, (World.cell?_setCell_far _ _ _ _ (by show g4 ≠ w4.heap.size; have := HG4B.out; omega)).trans y91, (World.cell?_setCell_far _ _ _ _ (by show g4 ≠ w4.heap.size; have := HG4B.out; omega)).trans y92⟩)
                clear hown9 hgrow9 hat9 hb9 x91 x92 y90 y91 y92 z90 z91 hHeld
                generalize w9.setCell ⟨g4, d, none⟩ (.slice (some ⟨g9, 0, none⟩) (nd + 1) cap9) = W9 at *
                have y90 := HY9.out.1
                have y91 := HY9.out.2.1
                have y92 := HY9.out.2.2
                have r0 := HX9.out.r0
                have r1 := HX9.out.r1
                have r2 := HX9.out.r2
                have f0 := HX9.out.f0
                have f1 := HX9.out.f1
                have f2 := HX9.out.f2
                have hz9 := HX9.out.sz
                go_wp2_with fail
                refine bodyPost_ret (v := .tuple #[.agg #[.slice (some ⟨g4, 0, none⟩) L.length c4, .int .i64 (d : Int), .int .i64 tm], .bool true]) ?_ rfl ?_
                · simp [results, Try.results21, go_sem, r0, r1, r2]
                · exact ⟨some ⟨g4, 0, none⟩, c4, _, by rw [HSL.out], HX9.out.done HAP.out hz _ _ _⟩
              exact AllReadyH.nil
            exact AllReadyH.nil
          exact AllReadyH.nil
        refine AllReadyH.cons (o := _) rfl (fun K hK => ?_) ?_
        focus
          go_simp
          refine hK.out _ _ ?_ (fun hHeld => ?_)
          · exact HQQ.out
          clear hK K
          try simp only [Act.put, List.setIfInBounds_toArray, List.set_cons_zero, List.set_cons_succ]
          refine wpAnyH_ready (rs := [9]) (by kernel_rfl) (by simp) ?_
          refine AllReadyH.cons (o := _) rfl (fun K hK => ?_) ?_
          focus
            go_simp
            refine hK.out _ _ ?_ (fun hHeld => ?_)
            · exact HQQ.out
            clear hK K
            try simp only [Act.put, List.setIfInBounds_toArray, List.set_cons_zero, List.set_cons_succ]
            refine wpAnyH_ready (rs := [15]) (by kernel_rfl) (by simp) ?_
            refine AllReadyH.cons (o := _) rfl (fun K hK => ?_) ?_
            focus
              refine step_append_lies _ rfl (.tmp 37) (.tmp 42) 57 rfl w2.heap.size 63 i0 (.agg #[.int .i64 0, .int .i64 0]) 2 16 Try.underlying57 HI.out.1 HI.out.2.1 HI.out.2.2.1 HI.out.2.2.2 rfl (by decide) (.slice Ad nd cd) nd (ensC L[d]) rfl (by exact HOD.out _ HB6.out) ⟨W4.heap.size, 0, none⟩ 1 1 [.int .i64 tm, .int .i64 id] rfl rfl (by exact HNW.out) (by exact HONE.out) (by decide) (by exact HMX.out) (by omega) (by exact HS6.out) _ rfl ?_
              intro g9 cap9 w9 hown9 hgrow9 hat9 hlt9
              obtain ⟨hb9, ⟨x91, x92, y90, y91, y92⟩, ⟨u9, z90⟩, z91⟩ := HAFT.out _ hgrow9
              refine hK.out _ _ ?_ (fun hHeld => ?_)
              · exact ⟨x91, x92, y90⟩
              clear hK K
              try simp only [Act.put, List.setIfInBounds_toArray, List.set_cons_zero, List.set_cons_succ]
              refine wpAnyH_take (i := 16) (oi := _) (v := ?_) rfl (by kernel_rfl) (by kernel_rfl) (by kernel_rfl) (fun _ _ _ h => h) (Or.inl ⟨by rfl, ?_⟩) (by assumption) ?_
              rotate_left
              · intro wS hSw
                try dsimp only at hSw
                go_simp
                try with_reducible rfl
              try simp only [Act.put, List.setIfInBounds_toArray, List.set_cons_zero, List.set_cons_succ]
              refine wpAnyH_ready (rs := [17]) (by kernel_rfl) (by simp) ?_
              refine AllReadyH.cons (o := _) rfl (fun K hK => ?_) ?_
              focus
                go_simp
                refine hK.out _ _ ?_ (fun hHeld => ?_)
                · exact ⟨(World.cell?_setCell_far _ _ _ _ (by show g4 ≠ w.heap.size; have := HG4.out; have := HG4B.out; omega)).trans x91, (World.cell?_setCell_far _ _ _ _ (by show g4 ≠ w.heap.size; have := HG4.out; have := HG4B.out; omega)).trans x92, (World.cell?_setCell_far _ _ _ _ (by show g4 ≠ w4.heap.size; have := HG4.out; have := HG4B.out; omega)).trans y90⟩
                clear hK K
                try simp only [Act.put, List.setIfInBounds_toArray, List.set_cons_zero, List.set_cons_succ]
                refine wpAnyH_done (by kernel_rfl) ?_ _
                have HRL := Lib.hid (show (L[d] ++ [(tm, id)]).length = nd + 1 by rw [List.length_append, HNM.out]; rfl)
                have HAP := Lib.hid (show OwG w2.heap.size (some ⟨g4, 0, none⟩) c4 (hs4.set d (some ⟨g9, 0, none⟩, nd + 1, cap9)) (L.set d (L[d] ++ [(tm, id)])) (w9.setCell ⟨g4, d, none⟩ (.slice (some ⟨g9, 0, none⟩) (nd + 1) cap9)) from by
                  have h1 := OwG.app (HAPP.out _ HB6.out) hd (W' := w9) (by rw [HBLK.out, ← blk_slice _ nd cd]; exact hgrow9) (g' := g9) (c' := cap9) (r := L[d] ++ [(tm, id)]) (by rw [HRL.out, ensC_snoc]; exact hown9) (by
                    rcases hat9 with h | h
                    · left; rw [HBLK.out, ← blk_slice _ nd cd]; exact h
                    · right; rw [h]; exact Nat.le_refl _)
                  rw [HRL.out] at h1
                  exact h1)
                have HX9 := Lib.hid (HX2.out.keep (((HBB4.out).trans hb9).setCell (p := ⟨g4, d, none⟩) HG4.out (.slice (some ⟨g9, 0, none⟩) (nd + 1) cap9)))
                have HY9 := Lib.hid (show (w9.setCell ⟨g4, d, none⟩ (.slice (some ⟨g9, 0, none⟩) (nd + 1) cap9)).cell? ⟨w4.heap.size, 0, none⟩ = some (.slice (some ⟨g4, 0, none⟩) L.length c4) ∧ (w9.setCell ⟨g4, d, none⟩ (.slice (some ⟨g9, 0, none⟩) (nd + 1) cap9)).cell? ⟨w4.heap.size, 1, none⟩ = some (.int .i64 (d : Int)) ∧ (w9.setCell ⟨g4, d, none⟩ (.slice (some ⟨g9, 0, none⟩) (nd + 1) cap9)).cell? ⟨w4.heap.size, 2, none⟩ = some (.int .i64 tm) from
                  ⟨(World.cell?_setCell_far _ _ _ _ (by show g4 ≠ w4.heap.size; have := HG4B.out; omega)).trans y90, (World.cell?_setCell_far _ _ _ _ (by show g4 ≠ w4.heap.size; have := HG4B.out; omega)).trans y91, (World.cell?_setCell_far _ _ _ _ (by show g4 ≠ w4.heap.size; have := HG4B.out; omega)).trans y92⟩)
                clear hown9 hgrow9 hat9 hb9 x91 x92 y90 y91 y92 z90 z91 hHeld
                generalize w9.setCell ⟨g4, d, none⟩ (.slice (some ⟨g9, 0, none⟩) (nd + 1) cap9) = W9 at *
                have y90 := HY9.out.1
                have y91 := HY9.out.2.1
                have y92 := HY9.out.2.2
                have r0 := HX9.out.r0
                have r1 := HX9.out.r1
                have r2 := HX9.out.r2
                have f0 := HX9.out.f0
                have f1 := HX9.out.f1
                have f2 := HX9.out.f2
                have hz9 := HX9.out.sz
                go_wp2_with fail
                refine bodyPost_ret (v := .tuple #[.agg #[.slice (some ⟨g4, 0, none⟩) L.length c4, .int .i64 (d : Int), .int .i64 tm], .bool true]) ?_ rfl ?_
                · simp [results, Try.results21, go_sem, r0, r1, r2]
                · exact ⟨some ⟨g4, 0, none⟩, c4, _, by rw [HSL.out], HX9.out.done HAP.out hz _ _ _⟩
              exact AllReadyH.nil
            exact AllReadyH.nil
          exact AllReadyH.nil
        exact AllReadyH.nil
        -- END REGION
    · have HF := Lib.hid (show outW L (d : Int) tm id = ([], 0, 0, false) by unfold outW; rw [if_neg (fun q => g1 q.2.1)])
      have HP := Lib.hid (fun w => isId_is (decide_eq_false g1) w)
      clear hr hn hsm g g1
      rw [HF.out]
      go_enter Try.func21, Try.ntmps21
      go_wp2_with fail
      refine (HV.out _ BoxR.start.bx.hb).mono ?_
      rintro e w2 ⟨rfl, hb2⟩
      have HXZ := Lib.hid (BoxR.start.keep hb2); clear hb2
      have hz := HXZ.out.sz
      have x0 := HXZ.out.bx.c0
      have x1 := HXZ.out.bx.c1
      have x2 := HXZ.out.bx.c2
      have r0 := HXZ.out.r0
      have r1 := HXZ.out.r1
      have r2 := HXZ.out.r2
      have f0 := HXZ.out.f0
      have f1 := HXZ.out.f1
      have f2 := HXZ.out.f2
      go_wp2_with fail
      refine (HP.out _).mono ?_
      rintro e w3 ⟨rfl, hw3⟩
      obtain rfl := hw3.symm
      go_wp2_with fail
      refine bodyPost_ret (v := .tuple #[.agg #[.slice none 0 0, .int .i64 0, .int .i64 0], .bool false]) ?_ rfl ?_
      · simp [results, Try.results21, go_sem, r0, r1, r2]
      · exact ⟨none, 0, [], rfl, HXZ.out.zero _ _ _⟩
  · have HF := Lib.hid (show outW L ld tm id = ([], 0, 0, false) by unfold outW; rw [if_neg (fun q => g q.1)])
    rw [decide_eq_false g] at HV
    clear hr hn hsm g
    rw [HF.out]
    go_enter Try.func21, Try.ntmps21
    go_wp2_with fail
    refine (HV.out _ BoxR.start.bx.hb).mono ?_
    rintro e w2 ⟨rfl, hb2⟩
    have HXZ := Lib.hid (BoxR.start.keep hb2); clear hb2
    have hz := HXZ.out.sz
    have x0 := HXZ.out.bx.c0
    have x1 := HXZ.out.bx.c1
    have x2 := HXZ.out.bx.c2
    have r0 := HXZ.out.r0
    have r1 := HXZ.out.r1
    have r2 := HXZ.out.r2
    have f0 := HXZ.out.f0
    have f1 := HXZ.out.f1
    have f2 := HXZ.out.f2
    go_wp2_with fail
    refine bodyPost_ret (v := .tuple #[.agg #[.slice none 0 0, .int .i64 0, .int .i64 0], .bool false]) ?_ rfl ?_
    · simp [results, Try.results21, go_sem, r0, r1, r2]
    · exact ⟨none, 0, [], rfl, HXZ.out.zero _ _ _⟩
end Go.Proofs.Ytgoonccjdoajnaa
