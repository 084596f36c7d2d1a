/- The walk of the law FnNewGroup. Condition: the code lies in a row. -/
import Derived.Test.YtgoonccjdoajnabEqGr
import Derived.Test.YtgoonccjdoajnabDrawT
import Derived.Test.YtgoonccjdoajnabGrI
import Derived.Test.YtgoonccjdoajnabGrF
import Derived.BigRegion
import Derived.Deep.RegionWith
set_option linter.unusedVariables false
set_option linter.unusedSimpArgs false
namespace Go.Proofs.Ytgoonccjdoajnab
open Go.RowKit Go.ChangeShapes Go.WideShapes

/-! the plain mathematics -/
theorem newG_may {n x : Nat} (h1 : 1 ≤ n) (h5 : n ≤ 5) (hx : x < n) : decide (mayL (List.replicate n []) 0 1 (x : Int) (((2 ^ n : Nat) : Int) - 1)) = true := by
  have h : n = 1 ∨ n = 2 ∨ n = 3 ∨ n = 4 ∨ n = 5 := by omega
  have hx' : x = 0 ∨ x = 1 ∨ x = 2 ∨ x = 3 ∨ x = 4 := by omega
  rcases h with rfl | rfl | rfl | rfl | rfl <;> rcases hx' with rfl | rfl | rfl | rfl | rfl <;> first | (exfalso; omega) | decide
theorem newG_ok {n : Nat} (h1 : 1 ≤ n) (h5 : n ≤ 5) : decide (okG (List.replicate n []) 0 1) = true := by
  have h : n = 1 ∨ n = 2 ∨ n = 3 ∨ n = 4 ∨ n = 5 := by omega
  rcases h with rfl | rfl | rfl | rfl | rfl <;> decide
theorem newG_sure {n : Nat} (h1 : 1 ≤ n) (h5 : n ≤ 5) : sureV (List.replicate n []) 0 1 = 0 := by
  have h : n = 1 ∨ n = 2 ∨ n = 3 ∨ n = 4 ∨ n = 5 := by omega
  rcases h with rfl | rfl | rfl | rfl | rfl <;> decide

set_option maxRecDepth 100000 in
set_option maxHeartbeats 1000000 in
theorem drawNewGroup_any (A : Option Addr) (n c : Nat) (w : World) (h : BytesIn w A n c) :
    Calls Try.prog 14 #[.slice A n c] w fun e w' => (∃ s : Int, e = .returned (.int .i64 s)) ∧ Below w.heap.size w w' := by
  have HP := Lib.hid (newReader_any A n c w h)
  go_enter Try.func14, Try.ntmps14
  go_wp2_with fail
  refine (HP.out).mono ?_
  rintro e w1 ⟨rfl, hr1, hb1⟩
  have HB := Lib.hid hb1; clear hb1
  have HR := Lib.hid hr1; clear hr1
  go_wp2_with fail
  refine (oneNew_any 0 6 w.heap.size 0 7 7 #[.int .i64 3, .int .i64 5, .int .i64 1, .int .i64 2, .int .i64 4, .int .i64 0, .int .i64 6] 3 w1 HR.out (by omega) rfl (by omega) (by omega) (by decide)).mono ?_
  rintro e w2 ⟨s, rfl, _, _, _, hg⟩
  have HG := Lib.hid hg; clear hg
  go_wp2_with fail
  go_ret
  exact ⟨⟨s, rfl⟩, HB.out.trans (below_of_grown HG.out (Nat.le_refl _) HB.out.size)⟩

set_option maxRecDepth 100000 in
set_option maxHeartbeats 4000000 in
theorem walk_FnNewGroup (A : Option Addr) (n c : Nat) (w : World) (h : BytesIn w A n c) :
    Calls Try.prog 4 #[.slice A n c] w fun e w' => e = .returned (.bool true) ∧ Below w.heap.size w w' := by
  have HD := Lib.hid (drawNewGroup_any A n c w h)
  obtain ⟨hc, hm, _⟩ := h
  unfold maxLen at hm
  by_cases hb : n ≤ 1048576
  rotate_left
  · go_enter Try.func4, Try.ntmps4
    go_wp2
    go_ret
    exact ⟨rfl, Below.refl _ _⟩
  go_enter Try.func4, Try.ntmps4
  go_wp2_with fail
  refine (HD.out).mono ?_
  rintro e w1 ⟨⟨s, rfl⟩, hb1⟩
  have HB1 := Lib.hid hb1; clear hb1 HD hc hm
  have HI := Lib.hid (iNew_any s w1)
  have HS := Lib.hid (fun W => sNew_any s W)
  by_cases g : 1 ≤ s ∧ s ≤ 5
  · obtain ⟨N, rfl⟩ : ∃ N : Nat, s = (N : Int) := ⟨s.toNat, by omega⟩
    have hN1 : 1 ≤ N := by omega
    have hN5 : N ≤ 5 := by omega
    have ho : outN (N : Int) = (List.replicate N [], 0, 1) := by unfold outN; rw [if_pos g, Int.toNat_natCast]
    rw [ho] at HI HS
    have HMAY := Lib.hid (fun (x : Nat) (hx : x < N) => newG_may hN1 hN5 hx)
    have HOK := Lib.hid (newG_ok hN1 hN5)
    have HSU := Lib.hid (newG_sure hN1 hN5)
    have HSM := Lib.hid (show SmallGv (List.replicate N []) from fun l hl => by rw [(List.mem_replicate.1 hl).2]; simp)
    have HLN := Lib.hid (show (List.replicate N ([] : List En)).length = N from List.length_replicate)
    have hp : 1 ≤ 2 ^ N ∧ 2 ^ N ≤ 32 := ⟨Nat.one_le_two_pow, (Nat.pow_le_pow_right (by omega) hN5 : 2 ^ N ≤ 2 ^ 5)⟩
    have HP := Lib.hid (fun W => powL_any N _ W (by omega) rfl)
    generalize 2 ^ N = p at *
    generalize List.replicate N ([] : List En) = L at *
    have hz0 : ((N : Int) == 0) = false := beq_eq_false_iff_ne.2 (by omega)
    have hnn : ((N : Int) == (N : Int)) = true := by simp
    clear ho g
    obtain ⟨p1, p2⟩ := hp
    have HWR := Lib.hid (show IntKind.i64.wrap ((p : Int) - 1) = (p : Int) - 1 from IntWalk.i64_in _ (by omega))
    go_wp2_with fail
    refine (HI.out).mono ?_
    rintro e w2 ⟨Ag, cg, hsg, rfl, hog, hb2⟩
    rw [HLN.out]
    have HB2 := Lib.hid (HB1.out.trans (hb2.mono HB1.out.size)); clear hb2
    have HGV := Lib.hid hog.at_; clear hog
    go_wp2_with fail
    obtain ⟨W1, hW1⟩ : ∃ W1, w2.alloc (.cells #[.slice Ag N cg, .int .i64 0, .int .i64 1] 25) = W1 := ⟨_, rfl⟩
    rw [hW1]
    have HX1 := Lib.hid (show BoxAt w2.heap.size Ag N cg 0 1 W1 by rw [← hW1]; exact BoxAt.new _ _ _ _ _ _ _)
    have HB3 := Lib.hid (show Below w.heap.size w W1 by rw [← hW1]; exact HB2.out.alloc HB2.out.size _)
    have HR := Lib.hid (show ∀ W, Below W1.heap.size W1 W → GvAt W W.heap.size Ag L from fun W hb => by
      have hr1 : GvAt W1 W1.heap.size Ag L := by
        rw [← hW1]
        exact (HGV.out.below ((Below.refl _ _).alloc (Nat.le_refl _) _)).mono (by simp)
      exact (hr1.below hb).mono hb.size)
    have HL := Lib.hid (fun W (hb : Below W1.heap.size W1 W) (k : Nat) (hk : k < N) => show Calls Try.prog 18 #[.agg #[.slice Ag N cg, .int .i64 0, .int .i64 1], .int .i64 (k : Int), .int .i64 ((p : Int) - 1)] W (fun e w' => e = .returned (.bool true) ∧ Below W.heap.size W w') by
      have := iMay_any Ag N cg L 0 1 (k : Int) ((p : Int) - 1) W (HR.out W hb) HLN.out.symm (by omega) HSM.out
      rw [HMAY.out k hk] at this
      exact this)
    have HV := Lib.hid (fun W (hb : Below W1.heap.size W1 W) => iGrp_any Ag N cg L 0 1 W (HR.out W hb) HLN.out.symm (by omega) HSM.out)
    have HSR := Lib.hid (fun W (hb : Below W1.heap.size W1 W) => iSure_any Ag N cg L 0 1 W (HR.out W hb) HLN.out.symm (by omega) HSM.out)
    rw [HOK.out] at HV
    rw [HSU.out] at HSR
    have HEQ := Lib.hid (fun W A3 c3 (hb : Below W1.heap.size W1 W) (h3 : GvAt W W.heap.size A3 L) => equalGroup_same Ag A3 N cg c3 L 0 1 W (HR.out W hb) h3 HLN.out.symm (by omega) HSM.out)
    have x0 := HX1.out.c0
    have x1 := HX1.out.c1
    have x2 := HX1.out.c2
    clear hW1 HI HOK HSU
    go_region_with (first
      | (go_at_call 17
         refine (HS.out _).mono ?_
         rintro e w3 ⟨A3, c3, hs3, rfl, ho3, hb3⟩
         rw [HLN.out]
         have hb13 := (Below.refl W1.heap.size W1).drew.trans (hb3.mono (Nat.le_refl _))
         have HX3 := Lib.hid (HX1.out.keep hb13)
         have g0 := HX3.out.c0
         have g1 := HX3.out.c1
         have g2 := HX3.out.c2
         have HE := Lib.hid (HEQ.out w3 A3 c3 hb13 ho3.at_)
         have HB13 := Lib.hid hb13; clear hb3 hb13 ho3 x0 x1 x2)
      | (go_at_call 16
         refine (HE.out).mono ?_
         rintro e w4 ⟨rfl, hb4⟩
         have HB14 := Lib.hid (HB13.out.trans (hb4.mono HB13.out.size))
         have HX4 := Lib.hid (HX1.out.keep HB14.out)
         have k0 := HX4.out.c0
         have k1 := HX4.out.c1
         have k2 := HX4.out.c2
         clear hb4 g0 g1 g2))
    all_goals
      clear HE HB13 HX3 HS HEQ
      try clear x0 x1 x2
      try clear g0 g1 g2
      try clear k0 k1 k2
      clear HX4
      go_wp2_with fail
      have HB20 := Lib.hid HB14.out; clear HB14
      go_loopw [5] (fun i wr => ∃ k : Nat, k ≤ N ∧ i = .int .i64 k ∧ Below W1.heap.size W1 wr) (fun i _ => N - (intOf i).toNat)
      case atStart => exact ⟨0, by omega, rfl, HB20.out⟩
      case round =>
        clear HB20
        obtain ⟨k, hk, rfl, hb⟩ := hrel
        have HB := Lib.hid hb; clear hb
        have HX5 := Lib.hid (HX1.out.keep HB.out)
        have y0 := HX5.out.c0
        have y1 := HX5.out.c1
        have y2 := HX5.out.c2
        by_cases hlt : k < N
        · have hk1 : (k : Int) < (N : Int) := by omega
          go_wp2_with fail
          refine wp_region_any (by kernel_rfl) ?_
          try (change wpAny _ _ _ _ _ _ _ (World.drew _))
          have HDR := Lib.hid (show Below W1.heap.size W1 wr.drew from HB.out.trans (below_drewN _ 1))
          have u0 : wr.drew.cell? ⟨w2.heap.size, 0, none⟩ = some (.slice Ag N cg) := y0
          have u1 : wr.drew.cell? ⟨w2.heap.size, 1, none⟩ = some (.int .i64 0) := y1
          have u2 : wr.drew.cell? ⟨w2.heap.size, 2, none⟩ = some (.int .i64 1) := y2
          clear y0 y1 y2 HX5 HB
          generalize wr.drew = W0 at *
          refine wpAny_take (i := 1) (v := ?_) rfl (by kernel_rfl) (by kernel_rfl) (by kernel_rfl) (fun _ _ _ h => h) (Or.inl ⟨by kernel_rfl, ?_⟩) ?_
          rotate_left
          · (intro w; go_simp; first | done | with_reducible rfl)
          conv => arg 7; simp [Act.put]
          refine wpAny_take (i := 2) (v := ?_) rfl (by kernel_rfl) (by kernel_rfl) (by kernel_rfl) (fun _ _ _ h => h) (Or.inl ⟨by kernel_rfl, ?_⟩) ?_
          rotate_left
          · (intro w; go_simp; first | done | with_reducible rfl)
          conv => arg 7; simp [Act.put]
          refine wpAny_ready (rs := [0, 3]) (by kernel_rfl) (by simp) ?_
          refine AllReady.cons rfl (fun K hK => ?_) (AllReady.cons rfl (fun K hK => ?_) AllReady.nil)
          · go_simp
            refine hK _ _ ?_; clear hK K
            refine wpAny_ready (rs := [3]) (by kernel_rfl) (by simp) ?_
            refine AllReady.cons rfl (fun K hK => ?_) AllReady.nil
            go_simp
            go_at_call 19
            refine (HP.out _).mono ?_
            rintro e w5 ⟨rfl, hw5⟩
            obtain rfl := hw5.symm
            refine hK _ _ ?_; clear hK K
            refine wpAny_take (i := 4) (v := ?_) rfl (by kernel_rfl) (by kernel_rfl) (by kernel_rfl) (fun _ _ _ h => h) (Or.inl ⟨by kernel_rfl, ?_⟩) ?_
            rotate_left
            · (intro w; go_simp; first | done | with_reducible rfl)
            conv => arg 7; simp [Act.put]
            rw [HWR.out]
            refine wpAny_ready (rs := [5]) (by kernel_rfl) (by simp) ?_
            refine AllReady.cons rfl (fun K hK => ?_) AllReady.nil
            go_simp
            go_at_call 18
            refine (HL.out _ HDR.out k hlt).mono ?_
            rintro e w6 ⟨rfl, hb6⟩
            have HB6 := Lib.hid (HDR.out.trans (hb6.mono HDR.out.size)); clear hb6
            refine hK _ _ ?_; clear hK K
            refine wpAny_take (i := 6) (v := ?_) rfl (by kernel_rfl) (by kernel_rfl) (by kernel_rfl) (fun _ _ _ h => h) (Or.inl ⟨by kernel_rfl, ?_⟩) ?_
            rotate_left
            · (intro w; go_simp; first | done | with_reducible rfl)
            conv => arg 7; simp [Act.put]
            refine wpAny_done (by kernel_rfl) ?_ _
            go_wp2_with fail
            go_roundw
            case rel => exact ⟨k + 1, by omega, by go_num, HB6.out⟩
            case measure => simp [intOf]; omega
          · go_simp
            go_at_call 19
            refine (HP.out _).mono ?_
            rintro e w5 ⟨rfl, hw5⟩
            obtain rfl := hw5.symm
            refine hK _ _ ?_; clear hK K
            refine wpAny_take (i := 4) (v := ?_) rfl (by kernel_rfl) (by kernel_rfl) (by kernel_rfl) (fun _ _ _ h => h) (Or.inl ⟨by kernel_rfl, ?_⟩) ?_
            rotate_left
            · (intro w; go_simp; first | done | with_reducible rfl)
            conv => arg 7; simp [Act.put]
            rw [HWR.out]
            refine wpAny_ready (rs := [0]) (by kernel_rfl) (by simp) ?_
            refine AllReady.cons rfl (fun K hK => ?_) AllReady.nil
            go_simp
            refine hK _ _ ?_; clear hK K
            refine wpAny_ready (rs := [5]) (by kernel_rfl) (by simp) ?_
            refine AllReady.cons rfl (fun K hK => ?_) AllReady.nil
            go_simp
            go_at_call 18
            refine (HL.out _ HDR.out k hlt).mono ?_
            rintro e w6 ⟨rfl, hb6⟩
            have HB6 := Lib.hid (HDR.out.trans (hb6.mono HDR.out.size)); clear hb6
            refine hK _ _ ?_; clear hK K
            refine wpAny_take (i := 6) (v := ?_) rfl (by kernel_rfl) (by kernel_rfl) (by kernel_rfl) (fun _ _ _ h => h) (Or.inl ⟨by kernel_rfl, ?_⟩) ?_
            rotate_left
            · (intro w; go_simp; first | done | with_reducible rfl)
            conv => arg 7; simp [Act.put]
            refine wpAny_done (by kernel_rfl) ?_ _
            go_wp2_with fail
            go_roundw
            case rel => exact ⟨k + 1, by omega, by go_num, HB6.out⟩
            case measure => simp [intOf]; omega
        · obtain rfl : k = N := by omega
          have hk1 : ¬ ((k : Int) < (k : Int)) := by omega
          go_wp2_with fail
          refine (HV.out _ HB.out).mono ?_
          rintro e w7 ⟨rfl, hb7⟩
          have HB7 := Lib.hid (HB.out.trans (hb7.mono HB.out.size)); clear hb7
          have HX7 := Lib.hid (HX1.out.keep HB7.out)
          have z0 := HX7.out.c0
          have z1 := HX7.out.c1
          have z2 := HX7.out.c2
          go_wp2_with fail
          refine (HSR.out _ HB7.out).mono ?_
          rintro e w8 ⟨rfl, hb8⟩
          have HB8 := Lib.hid (HB7.out.trans (hb8.mono HB7.out.size)); clear hb8
          go_wp2_with fail
          go_ret
          exact ⟨rfl, HB3.out.trans (HB8.out.mono HB3.out.size)⟩
  · have ho : outN s = ([], 0, 0) := by unfold outN; rw [if_neg g]
    rw [ho] at HI HS
    have HLN := Lib.hid (show ([] : List (List En)).length = 0 from rfl)
    have HSM := Lib.hid (show SmallGv [] from fun l hl => by simp at hl)
    generalize ([] : List (List En)) = L at *
    clear ho g
    go_wp2_with fail
    refine (HI.out).mono ?_
    rintro e w2 ⟨Ag, cg, hsg, rfl, hog, hb2⟩
    rw [HLN.out]
    have HB2 := Lib.hid (HB1.out.trans (hb2.mono HB1.out.size)); clear hb2
    have HGV := Lib.hid hog.at_; clear hog
    go_wp2_with fail
    obtain ⟨W1, hW1⟩ : ∃ W1, w2.alloc (.cells #[.slice Ag 0 cg, .int .i64 0, .int .i64 0] 25) = W1 := ⟨_, rfl⟩
    rw [hW1]
    have HX1 := Lib.hid (show BoxAt w2.heap.size Ag 0 cg 0 0 W1 by rw [← hW1]; exact BoxAt.new _ _ _ _ _ _ _)
    have HB3 := Lib.hid (show Below w.heap.size w W1 by rw [← hW1]; exact HB2.out.alloc HB2.out.size _)
    have HR := Lib.hid (show ∀ W, Below W1.heap.size W1 W → GvAt W W.heap.size Ag L from fun W hb => by
      have hr1 : GvAt W1 W1.heap.size Ag L := by
        rw [← hW1]
        exact (HGV.out.below ((Below.refl _ _).alloc (Nat.le_refl _) _)).mono (by simp)
      exact (hr1.below hb).mono hb.size)
    have HEQ := Lib.hid (fun W A3 c3 (hb : Below W1.heap.size W1 W) (h3 : GvAt W W.heap.size A3 L) => equalGroup_same Ag A3 0 cg c3 L 0 0 W (HR.out W hb) h3 HLN.out.symm (by omega) HSM.out)
    have x0 := HX1.out.c0
    have x1 := HX1.out.c1
    have x2 := HX1.out.c2
    clear hW1 HI
    go_region_with (first
      | (go_at_call 17
         refine (HS.out _).mono ?_
         rintro e w3 ⟨A3, c3, hs3, rfl, ho3, hb3⟩
         rw [HLN.out]
         have hb13 := (Below.refl W1.heap.size W1).drew.trans (hb3.mono (Nat.le_refl _))
         have HX3 := Lib.hid (HX1.out.keep hb13)
         have g0 := HX3.out.c0
         have g1 := HX3.out.c1
         have g2 := HX3.out.c2
         have HE := Lib.hid (HEQ.out w3 A3 c3 hb13 ho3.at_)
         have HB13 := Lib.hid hb13; clear hb3 hb13 ho3 x0 x1 x2)
      | (go_at_call 16
         refine (HE.out).mono ?_
         rintro e w4 ⟨rfl, hb4⟩
         have HB14 := Lib.hid (HB13.out.trans (hb4.mono HB13.out.size))
         have HX4 := Lib.hid (HX1.out.keep HB14.out)
         have k0 := HX4.out.c0
         have k1 := HX4.out.c1
         have k2 := HX4.out.c2
         clear hb4 g0 g1 g2))
    all_goals
      clear HE
      go_wp2_with fail
      go_region_with (first
        | (go_at_call 17
           refine (HS.out _).mono ?_
           rintro e w5 ⟨A5, c5, hs5, rfl, ho5, hb5⟩
           rw [HLN.out]
           have hb15 := HB14.out.trans ((Below.refl _ _).drew.trans (hb5.mono HB14.out.size))
           have HX5 := Lib.hid (HX1.out.keep hb15)
           have g0 := HX5.out.c0
           have g1 := HX5.out.c1
           have g2 := HX5.out.c2
           have HE := Lib.hid (HEQ.out w5 A5 c5 hb15 ho5.at_)
           have HB15 := Lib.hid hb15; clear hb5 hb15 ho5)
        | (go_at_call 16
           refine (HE.out).mono ?_
           rintro e w6 ⟨rfl, hb6⟩
           have HB16 := Lib.hid (HB15.out.trans (hb6.mono HB15.out.size)); clear hb6))
      all_goals
        go_wp2_with fail
        go_ret
        exact ⟨rfl, HB3.out.trans (HB16.out.mono HB3.out.size)⟩
end Go.Proofs.Ytgoonccjdoajnab
