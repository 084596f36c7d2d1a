/- Contracts of OrderOf and MaySwap of the program and of the closure of OrderOf (chapter 8). Conditions: the acts lie in a row; they are few. -/
import Derived.Test.YtdpehojcoohjcabOrdC
import Derived.Test.YtdpehojcoohjcabAhdK
import Derived.Test.YtdpehojcoohjcabTurnI
import Derived.Test.YtdpehojcoohjcabArrEq
import Derived.Test.YtdpehojcoohjcabFst
import Derived.Deep.RegionHeld3
set_option linter.unusedVariables false
set_option linter.unusedSimpArgs false
namespace Go.Proofs.Ytdpehojcoohjcab
open Go.RowKit Go.ChangeShapes Go.WideShapes

theorem at_world8 {p : World → Prop} (W0 W : World) (B : Nat) (hb : Below B W0 W) (h : ∀ W', Below B W0 W' → p W') : p W := h W hb
/-- the numbers of four sets -/
theorem natI_ahead (l : List AcT) : ∃ a0 a1 a2 a3 : Int, natI (aheadL l) = [a0, a1, a2, a3] := ⟨_, _, _, _, rfl⟩
theorem natI_inj {S T : List Nat} : natI S = natI T ↔ S = T := by
  constructor
  · intro h
    unfold natI at h
    exact (List.map_inj_right (fun a b e => by omega)).1 h
  · intro h; rw [h]
set_option maxRecDepth 100000 in
set_option maxHeartbeats 4000000 in
/-- the closure: the acts' slice lies in a cell, the sets in an array -/
theorem iFitA_any (A : Option Addr) (n c : Nat) (l : List Ac) (q1 q2 : Nat) (w : World) (hr : RowAt w w.heap.size A (acsC l)) (hn : n = l.length) (hs : n ≤ 10) (hok : ∀ x ∈ l, okAc x = true)
    (hq1 : q1 < w.heap.size) (hc1 : w.cell? ⟨q1, 0, none⟩ = some (.slice A n c)) (hq2 : q2 < w.heap.size) (hc2 : ∀ k, k < 4 → w.cell? ⟨q2, k, none⟩ = some (.int .i64 ((natI (aheadL l)).getD k 0)))
    (A2 : Option Addr) (m c2 : Nat) (o : List Nat) (hr2 : RowAt w w.heap.size A2 (intC (natI o))) (hm : m = o.length) (hs2 : m ≤ 4) :
    Calls Try.prog 84 #[.slice A2 m c2, .pointer (some ⟨q1, 0, none⟩), .pointer (some ⟨q2, 0, none⟩)] w fun e w' => e = .returned (.bool (fitsA l o)) ∧ Below w.heap.size w w' := by
  obtain ⟨a0, a1, a2, a3, h4⟩ := natI_ahead l
  obtain ⟨b0, b1, b2, b3, h5⟩ := natI_ahead (actsAt l (turnP l o))
  have HT := Lib.hid (fun W (hb : Below w.heap.size w W) => iTurn_any A A2 n c m c2 l o W ((hr.below hb).mono hb.size) hn hs ((hr2.below hb).mono hb.size) hm hs2)
  have HA := Lib.hid (fun W (hb : Below w.heap.size w W) A3 c3 (h3 : RowAt W W.heap.size A3 (intC (natI (turnP l o)))) => iAhead_any A A3 n c (natI (turnP l o)).length c3 l (turnP l o) W ((hr.below hb).mono hb.size) hn (by omega) hok h3 (natI_len _) (by
    rw [natI_len]
    have h1 := turnP_bound l o
    have h2 : o.length * l.length ≤ 4 * 10 := Nat.mul_le_mul (by omega) (by omega)
    omega) (fun q hq => turnP_lt hq))
  have HFIT := Lib.hid (show (decide ([b0, b1, b2, b3] = [a0, a1, a2, a3])) = fitsA l o by
    unfold fitsA
    rw [← h4, ← h5, actsAt_turn]
    exact decide_eq_decide.2 natI_inj)
  have HEQ := Lib.hid (fun W => ahd_eql [b0, b1, b2, b3] [a0, a1, a2, a3] rfl rfl W)
  rw [h5] at HA
  rw [h4] at hc2
  have k0 := hc2 0 (by omega)
  have k1 := hc2 1 (by omega)
  have k2 := hc2 2 (by omega)
  have k3 := hc2 3 (by omega)
  simp at k0 k1 k2 k3
  have HK := Lib.hid (fun W (hb : Below w.heap.size w W) => (show W.cell? ⟨q1, 0, none⟩ = some (.slice A n c) ∧ W.cell? ⟨q2, 0, none⟩ = some (.int .i64 a0) ∧ W.cell? ⟨q2, 1, none⟩ = some (.int .i64 a1) ∧ W.cell? ⟨q2, 2, none⟩ = some (.int .i64 a2) ∧ W.cell? ⟨q2, 3, none⟩ = some (.int .i64 a3) from
    ⟨(hb.cell (p := ⟨q1, 0, none⟩) hq1).trans hc1, (hb.cell (p := ⟨q2, 0, none⟩) hq2).trans k0, (hb.cell (p := ⟨q2, 1, none⟩) hq2).trans k1, (hb.cell (p := ⟨q2, 2, none⟩) hq2).trans k2, (hb.cell (p := ⟨q2, 3, none⟩) hq2).trans k3⟩))
  simp only [show (intC [b0, b1, b2, b3]).toArray = #[.int .i64 b0, .int .i64 b1, .int .i64 b2, .int .i64 b3] from rfl, show (intC [a0, a1, a2, a3]).toArray = #[.int .i64 a0, .int .i64 a1, .int .i64 a2, .int .i64 a3] from rfl] at HA HEQ
  have HB0 := Lib.hid (Below.refl w.heap.size w)
  clear hr hr2 hn hm hok hc2 h4 h5
  have heq := HEQ.out
  go_enter Try.func84, Try.ntmps84
  go_wp2_with fail
  go_region_held3 (fun w' => w'.cell? ⟨q1, 0, none⟩ = some (.slice A n c) ∧ w'.cell? ⟨q2, 0, none⟩ = some (.int .i64 a0) ∧ w'.cell? ⟨q2, 1, none⟩ = some (.int .i64 a1) ∧ w'.cell? ⟨q2, 2, none⟩ = some (.int .i64 a2) ∧ w'.cell? ⟨q2, 3, none⟩ = some (.int .i64 a3)) (first | go_keep | exact ⟨r0, r1, r2, r3, r4⟩)
    ((first
      | (go_at_call 47; refine (HT.out _ (by repeat (first | with_reducible exact Below.refl _ _ | with_reducible exact HB1.out | with_reducible refine Below.drew ?_ | with_reducible refine Below.trans ?_ (below_drewN _ _)))).mono ?_; rintro e w3 ⟨v3, rfl, ⟨A3, c3, rfl, ho3⟩, hb3⟩
         have HB1 := Lib.hid (Below.trans (by repeat (first | with_reducible exact Below.refl _ _ | with_reducible refine Below.drew ?_ | with_reducible refine Below.trans ?_ (below_drewN _ _)) : Below w.heap.size w _) (hb3.mono (by simp)))
         have HO3 := Lib.hid (RowAt.of_own ho3); clear ho3 hb3
         obtain ⟨r0, r1, r2, r3, r4⟩ := HK.out _ HB1.out)
      | (go_at_call 83; refine (HA.out _ (by repeat (first | with_reducible exact HB1.out | with_reducible refine Below.drew ?_ | with_reducible refine Below.trans ?_ (below_drewN _ _))) A3 c3 HO3.out).mono ?_; rintro e w4 ⟨rfl, hb4⟩
         have HB2 := Lib.hid (HB1.out.trans (hb4.mono HB1.out.size)); clear hb4
         obtain ⟨r0, r1, r2, r3, r4⟩ := HK.out _ HB2.out)))
  go_wp2_with fail
  go_ret
  exact ⟨retb (by rw [← HFIT.out]; simp), HB2.out⟩
/-- the order that firstOrder hands back, as an order of the whole call -/
theorem fst_ord {B : Nat} {r : Option (List Nat)} {w W w' : World} {e : Ending} (h : FstPost B [] (.slice none 0 0) r W e w') (hB : B = W.heap.size) (hb : Below w.heap.size w W) : OrdPost r w e w' := by
  obtain ⟨hg, h2⟩ := h
  have hb2 : Below W.heap.size W w' := (Below.refl _ _).grown hg (Nat.le_refl _) (by simp [Value.ownBlock])
  cases r with
  | none =>
    obtain ⟨rfl, _⟩ := h2
    exact ordPost_no (hb.trans (hb2.mono hb.size))
  | some o =>
    obtain ⟨v', rfl, ho⟩ := h2
    obtain ⟨A, c, rfl, _⟩ := own_sl ho
    refine ⟨_, rfl, ⟨A, c, by rw [show (natI ((some o).getD [])).length = o.length from natI_len o], ?_⟩, hb.trans (hb2.mono hb.size)⟩
    rw [show (natI ((some o).getD [])).length = o.length from natI_len o]
    exact own_mono ho (by rw [hB]; exact hb.size)
set_option maxRecDepth 100000 in
set_option maxHeartbeats 4000000 in
theorem iOrd_any (A : Option Addr) (n c : Nat) (l : List Ac) (w : World) (hr : RowAt w w.heap.size A (acsC l)) (hn : n = l.length) (hs : n ≤ 1048576) (hw : WfAc l) (hnc : n ≤ c) (hcm : c ≤ maxLen) :
    Calls Try.prog 67 #[.slice A n c] w (OrdPost (ordR l) w) := by
  have HBX := Lib.hid ((Below.refl w.heap.size w).alloc (Nat.le_refl _) (.cells #[.slice A n c] 26))
  have HV := Lib.hid (fun W (hb : Below w.heap.size w W) => iActs_any A n c l W ((hr.below hb).mono hb.size) hn hs)
  have HKC := Lib.hid (fun W (hb : Below (w.heap.size + 1) (w.alloc (.cells #[.slice A n c] 26)) W) => (show W.cell? ⟨w.heap.size, 0, none⟩ = some (.slice A n c) from (hb.cell (p := ⟨w.heap.size, 0, none⟩) (by simp)).trans (by simp)))
  have HW1 := Lib.hid (show (w.alloc (.cells #[.slice A n c] 26)).heap.size = w.heap.size + 1 by simp)
  cases hv : actsB l
  · rw [hv] at HV
    have HD := Lib.hid (show ordR l = none by simp [ordR, hv])
    clear hv hr hn
    rw [HD.out]
    go_enter Try.func67, Try.ntmps67
    go_wp2_with fail
    refine (HV.out _ HBX.out).mono ?_
    rintro e w2 ⟨rfl, hb2⟩
    have HB2 := Lib.hid (HBX.out.trans (hb2.mono HBX.out.size)); clear hb2
    go_wp2_with fail
    go_ret2
    exact ordPost_no HB2.out
  · rw [hv] at HV
    have HD := Lib.hid (show ordR l = firstO 4 (fitsA l) 4 [] by rw [firstO_ord]; simp [ordR, hv])
    have hl10 : n ≤ 10 := by have := (actsB_ok hv).1; omega
    have HCS := Lib.hid (fun W => iStand_any A n c W hs)
    have HCA := Lib.hid (fun W (hb : Below w.heap.size w W) A2 c2 (h2 : RowAt W W.heap.size A2 (intC (upN n))) =>
      iAhead_any A A2 n c n c2 l (List.range n) W ((hr.below hb).mono hb.size) hn hs (actsB_ok hv).2 h2 (by simp) (by omega) (fun q hq => by rw [← hn]; exact List.mem_range.1 hq))
    have HE := Lib.hid (show actsAt l (List.range n) = l by rw [hn]; exact actsAt_range l)
    rw [HE.out] at HCA
    have HFT := Lib.hid (fun W (hb : Below w.heap.size w W) q1 q2 (hq1 : q1 < W.heap.size) (hc1 : W.cell? ⟨q1, 0, none⟩ = some (.slice A n c)) (hq2 : q2 < W.heap.size) (hc2 : ∀ k, k < 4 → W.cell? ⟨q2, k, none⟩ = some (.int .i64 ((natI (aheadL l)).getD k 0))) A2 m c2 o (hr2 : RowAt W W.heap.size A2 (intC (natI o))) (hm : m = o.length) (hm4 : m ≤ 4) =>
      iFitA_any A n c l q1 q2 W ((hr.below hb).mono hb.size) hn hl10 (actsB_ok hv).2 hq1 hc1 hq2 hc2 A2 m c2 o hr2 hm hm4)
    obtain ⟨a0, a1, a2, a3, h4⟩ := natI_ahead l
    rw [h4] at HCA HFT
    simp only [show (intC [a0, a1, a2, a3]).toArray = #[.int .i64 a0, .int .i64 a1, .int .i64 a2, .int .i64 a3] from rfl] at HCA
    have HUL := Lib.hid (upN_len n)
    clear hv hr hn h4
    rw [HD.out]
    go_enter Try.func67, Try.ntmps67
    go_wp2_with fail
    refine (HV.out _ HBX.out).mono ?_
    rintro e w2 ⟨rfl, hb2⟩
    rw [HW1.out] at hb2
    have HB2 := Lib.hid hb2; clear hb2
    have r0 := HKC.out _ HB2.out
    have hw2 : w.heap.size < w2.heap.size := by have := HB2.out.size; rw [HW1.out] at this; omega
    have HG2 := Lib.hid (HBX.out.trans (HB2.out.mono (by omega)))
    have hne0 : ∀ W : World, Below w2.heap.size w2 W → ¬ (W.heap.size = w.heap.size) := fun W hb e => by have := hb.size; omega
    have HEND := Lib.hid (fun X W5 (hb5 : Below w2.heap.size w2 W5) (hr5 : RI 98 X X [a0, a1, a2, a3] W5) => (show Calls Try.prog 45 #[.int .i64 4, .slice none 0 0, .func (.func 84) #[] #[.pointer (some ⟨w.heap.size, 0, none⟩), .pointer (some ⟨X, 0, none⟩)]] W5 (OrdPost (firstO 4 (fitsA l) 4 []) w) from by
      have hbw : Below w.heap.size w W5 := HG2.out.trans (hb5.mono HG2.out.size)
      have hc5 := HKC.out W5 (HB2.out.trans (hb5.mono (by omega)))
      have hs5 := hb5.size
      refine (iFst_OrderOf 4 W5.heap.size (fitsA l) _ _ W5 (by omega) (fun W A' c' o hb hr' hp => ?_) 4 [] (.slice none 0 0) W5 (preO_nil 4) (World.ownsRow_nil _ _ _ _) (Below.refl _ _) (Nat.le_refl _)).mono (fun e w6 h => fst_ord h rfl hbw)
      have hsw := hb.size
      have hX := hr5.ge.2
      refine HFT.out W (hbw.trans (hb.mono hbw.size)) w.heap.size X (by omega) ((hb.cell (p := ⟨w.heap.size, 0, none⟩) (by show w.heap.size < _; omega)).trans hc5) (by omega) (fun k hk => (hb.cell (p := ⟨X, k, none⟩) hX).trans (hr5.cell (k := k) hk).1) A' 4 c' o hr' (by have := hp.1; omega) (by omega)))
    go_wp2_with fail
    --REGION--
    refine wp_region_any (by kernel_rfl) ?_
    try (change wpAny _ _ _ _ _ _ _ (World.drew _))
    refine at_world8 (p := fun W => wpAny _ _ _ _ _ _ _ W) w2 _ w2.heap.size (by repeat (first | with_reducible exact Below.refl _ _ | with_reducible refine Below.drew ?_ | with_reducible refine Below.trans ?_ (below_drewN _ _))) ?_
    intro W0 hb0
    have HB_0 := Lib.hid hb0; clear hb0
    have rc0 := HKC.out W0 (HB2.out.trans (HB_0.out.mono (by omega)))
    refine wpAny_ready (rs := [0, 1, 4]) (by kernel_rfl) (by simp) ?_
    refine AllReady.cons rfl (fun K hK => ?_) (AllReady.cons rfl (fun K hK => ?_) (AllReady.cons rfl (fun K hK => ?_) AllReady.nil))
    · go_simp
      refine hK _ _ ?_; clear hK K
      refine wpAny_ready (rs := [1, 4]) (by kernel_rfl) (by simp) ?_
      refine AllReady.cons rfl (fun K hK => ?_) (AllReady.cons rfl (fun K hK => ?_) AllReady.nil)
      · go_simp
        refine hK _ _ ?_; clear hK K
        refine wpAny_ready (rs := [2, 4]) (by kernel_rfl) (by simp) ?_
        refine AllReady.cons rfl (fun K hK => ?_) (AllReady.cons rfl (fun K hK => ?_) AllReady.nil)
        · go_simp
          go_at_call 41
          refine (HCS.out _).mono ?_
          rintro e W1 ⟨v3, rfl, ⟨A3, c3, rfl, ho3⟩, hb3⟩
          rw [HUL.out] at ho3
          rw [HUL.out]
          have HB_1 := Lib.hid (HB_0.out.trans (hb3.mono HB_0.out.size))
          have HO1 := Lib.hid (RowAt.of_own ho3); clear ho3
          clear hb3 HB_0 rc0
          have rc1 := HKC.out W1 (HB2.out.trans (HB_1.out.mono (by omega)))
          refine hK _ _ ?_; clear hK K
          refine wpAny_ready (rs := [3, 4]) (by kernel_rfl) (by simp) ?_
          refine AllReady.cons rfl (fun K hK => ?_) (AllReady.cons rfl (fun K hK => ?_) AllReady.nil)
          · go_simp
            go_at_call 83
            refine (HCA.out _ (HG2.out.trans (HB_1.out.mono HG2.out.size)) A3 c3 HO1.out).mono ?_
            rintro e W2 ⟨rfl, hb4⟩
            have HB_2 := Lib.hid (HB_1.out.trans (hb4.mono HB_1.out.size))
            clear hb4 HB_1 rc1 HO1
            have rc2 := HKC.out W2 (HB2.out.trans (HB_2.out.mono (by omega)))
            refine hK _ _ ?_; clear hK K
            refine wpAny_ready (rs := [4]) (by kernel_rfl) (by simp) ?_
            refine AllReady.cons rfl (fun K hK => ?_) AllReady.nil
            go_simp
            refine hK _ _ ?_; clear hK K
            have HRX3 := Lib.hid (show RI 98 W2.heap.size W2.heap.size [0, 0, 0, 0] (W2.alloc (.cells #[.int .i64 0, .int .i64 0, .int .i64 0, .int .i64 0] 98)) from RI.new W2 [0, 0, 0, 0] (by simp [maxLen]))
            have HB_3 := Lib.hid (show Below w2.heap.size w2 (W2.alloc (.cells #[.int .i64 0, .int .i64 0, .int .i64 0, .int .i64 0] 98)) from HB_2.out.alloc HB_2.out.size _)
            have hXw : w2.heap.size ≤ W2.heap.size := HB_2.out.size
            clear HB_2 rc2
            generalize (W2.alloc (.cells #[.int .i64 0, .int .i64 0, .int .i64 0, .int .i64 0] 98)) = W3 at *
            generalize W2.heap.size = X at *
            have rc3 := HKC.out W3 (HB2.out.trans (HB_3.out.mono (by omega)))
            refine wpAny_ready (rs := [5]) (by kernel_rfl) (by simp) ?_
            refine AllReady.cons rfl (fun K hK => ?_) AllReady.nil
            obtain ⟨m0, z0⟩ := HRX3.out.cell (k := 0) (by simp)
            obtain ⟨m1, z1⟩ := HRX3.out.cell (k := 1) (by simp)
            obtain ⟨m2, z2⟩ := HRX3.out.cell (k := 2) (by simp)
            obtain ⟨m3, z3⟩ := HRX3.out.cell (k := 3) (by simp)
            simp at m0 m1 m2 m3
            have hXs := HRX3.out.ge.2
            go_simp
            refine hK _ _ ?_; clear hK K
            refine wpAny_done (by kernel_rfl) ?_ _
            have HR5 := Lib.hid (show RI 98 X X [a0, a1, a2, a3] ((((W3.setCell ⟨X, 0, none⟩ (.int .i64 a0)).setCell ⟨X, 1, none⟩ (.int .i64 a1)).setCell ⟨X, 2, none⟩ (.int .i64 a2)).setCell ⟨X, 3, none⟩ (.int .i64 a3)) from ((((HRX3.out.put 0 a0).put 1 a1).put 2 a2).put 3 a3))
            have HB5 := Lib.hid (show Below w2.heap.size w2 ((((W3.setCell ⟨X, 0, none⟩ (.int .i64 a0)).setCell ⟨X, 1, none⟩ (.int .i64 a1)).setCell ⟨X, 2, none⟩ (.int .i64 a2)).setCell ⟨X, 3, none⟩ (.int .i64 a3)) from ((((HB_3.out.setCell (p := ⟨X, 0, none⟩) hXw (.int .i64 a0)).setCell (p := ⟨X, 1, none⟩) hXw (.int .i64 a1)).setCell (p := ⟨X, 2, none⟩) hXw (.int .i64 a2)).setCell (p := ⟨X, 3, none⟩) hXw (.int .i64 a3)))
            clear HRX3 HB_3 rc3
            generalize ((((W3.setCell ⟨X, 0, none⟩ (.int .i64 a0)).setCell ⟨X, 1, none⟩ (.int .i64 a1)).setCell ⟨X, 2, none⟩ (.int .i64 a2)).setCell ⟨X, 3, none⟩ (.int .i64 a3)) = W5 at *
            go_wp2_with fail
            refine (HEND.out X W5 HB5.out HR5.out).mono ?_
            rintro e w6 ⟨v6, rfl, hp6⟩
            have HP6 := Lib.hid hp6; clear hp6
            go_wp2_with fail
            go_ret2
            exact ⟨_, rfl, HP6.out⟩
          · go_simp
            refine hK _ _ ?_; clear hK K
            have HRX2 := Lib.hid (show RI 98 W1.heap.size W1.heap.size [0, 0, 0, 0] (W1.alloc (.cells #[.int .i64 0, .int .i64 0, .int .i64 0, .int .i64 0] 98)) from RI.new W1 [0, 0, 0, 0] (by simp [maxLen]))
            have HB_2 := Lib.hid (show Below w2.heap.size w2 (W1.alloc (.cells #[.int .i64 0, .int .i64 0, .int .i64 0, .int .i64 0] 98)) from HB_1.out.alloc HB_1.out.size _)
            have hXw : w2.heap.size ≤ W1.heap.size := HB_1.out.size
            have HO2 := Lib.hid ((HO1.out.below ((Below.refl W1.heap.size W1).alloc (Nat.le_refl _) (.cells #[.int .i64 0, .int .i64 0, .int .i64 0, .int .i64 0] 98))).mono (by simp : W1.heap.size ≤ (W1.alloc (.cells #[.int .i64 0, .int .i64 0, .int .i64 0, .int .i64 0] 98)).heap.size))
            clear HO1
            clear HB_1 rc1
            generalize (W1.alloc (.cells #[.int .i64 0, .int .i64 0, .int .i64 0, .int .i64 0] 98)) = W2 at *
            generalize W1.heap.size = X at *
            have rc2 := HKC.out W2 (HB2.out.trans (HB_2.out.mono (by omega)))
            refine wpAny_ready (rs := [3]) (by kernel_rfl) (by simp) ?_
            refine AllReady.cons rfl (fun K hK => ?_) AllReady.nil
            go_simp
            go_at_call 83
            refine (HCA.out _ (HG2.out.trans (HB_2.out.mono HG2.out.size)) A3 c3 HO2.out).mono ?_
            rintro e W3 ⟨rfl, hb4⟩
            have HB_3 := Lib.hid (HB_2.out.trans (hb4.mono HB_2.out.size))
            have HRX3 := Lib.hid (HRX2.out.keep hb4)
            clear HRX2
            clear hb4 HB_2 rc2 HO2
            have rc3 := HKC.out W3 (HB2.out.trans (HB_3.out.mono (by omega)))
            refine hK _ _ ?_; clear hK K
            refine wpAny_ready (rs := [5]) (by kernel_rfl) (by simp) ?_
            refine AllReady.cons rfl (fun K hK => ?_) AllReady.nil
            obtain ⟨m0, z0⟩ := HRX3.out.cell (k := 0) (by simp)
            obtain ⟨m1, z1⟩ := HRX3.out.cell (k := 1) (by simp)
            obtain ⟨m2, z2⟩ := HRX3.out.cell (k := 2) (by simp)
            obtain ⟨m3, z3⟩ := HRX3.out.cell (k := 3) (by simp)
            simp at m0 m1 m2 m3
            have hXs := HRX3.out.ge.2
            go_simp
            refine hK _ _ ?_; clear hK K
            refine wpAny_done (by kernel_rfl) ?_ _
            have HR5 := Lib.hid (show RI 98 X X [a0, a1, a2, a3] ((((W3.setCell ⟨X, 0, none⟩ (.int .i64 a0)).setCell ⟨X, 1, none⟩ (.int .i64 a1)).setCell ⟨X, 2, none⟩ (.int .i64 a2)).setCell ⟨X, 3, none⟩ (.int .i64 a3)) from ((((HRX3.out.put 0 a0).put 1 a1).put 2 a2).put 3 a3))
            have HB5 := Lib.hid (show Below w2.heap.size w2 ((((W3.setCell ⟨X, 0, none⟩ (.int .i64 a0)).setCell ⟨X, 1, none⟩ (.int .i64 a1)).setCell ⟨X, 2, none⟩ (.int .i64 a2)).setCell ⟨X, 3, none⟩ (.int .i64 a3)) from ((((HB_3.out.setCell (p := ⟨X, 0, none⟩) hXw (.int .i64 a0)).setCell (p := ⟨X, 1, none⟩) hXw (.int .i64 a1)).setCell (p := ⟨X, 2, none⟩) hXw (.int .i64 a2)).setCell (p := ⟨X, 3, none⟩) hXw (.int .i64 a3)))
            clear HRX3 HB_3 rc3
            generalize ((((W3.setCell ⟨X, 0, none⟩ (.int .i64 a0)).setCell ⟨X, 1, none⟩ (.int .i64 a1)).setCell ⟨X, 2, none⟩ (.int .i64 a2)).setCell ⟨X, 3, none⟩ (.int .i64 a3)) = W5 at *
            go_wp2_with fail
            refine (HEND.out X W5 HB5.out HR5.out).mono ?_
            rintro e w6 ⟨v6, rfl, hp6⟩
            have HP6 := Lib.hid hp6; clear hp6
            go_wp2_with fail
            go_ret2
            exact ⟨_, rfl, HP6.out⟩
        · go_simp
          refine hK _ _ ?_; clear hK K
          have HRX1 := Lib.hid (show RI 98 W0.heap.size W0.heap.size [0, 0, 0, 0] (W0.alloc (.cells #[.int .i64 0, .int .i64 0, .int .i64 0, .int .i64 0] 98)) from RI.new W0 [0, 0, 0, 0] (by simp [maxLen]))
          have HB_1 := Lib.hid (show Below w2.heap.size w2 (W0.alloc (.cells #[.int .i64 0, .int .i64 0, .int .i64 0, .int .i64 0] 98)) from HB_0.out.alloc HB_0.out.size _)
          have hXw : w2.heap.size ≤ W0.heap.size := HB_0.out.size
          clear HB_0 rc0
          generalize (W0.alloc (.cells #[.int .i64 0, .int .i64 0, .int .i64 0, .int .i64 0] 98)) = W1 at *
          generalize W0.heap.size = X at *
          have rc1 := HKC.out W1 (HB2.out.trans (HB_1.out.mono (by omega)))
          refine wpAny_ready (rs := [2]) (by kernel_rfl) (by simp) ?_
          refine AllReady.cons rfl (fun K hK => ?_) AllReady.nil
          go_simp
          go_at_call 41
          refine (HCS.out _).mono ?_
          rintro e W2 ⟨v3, rfl, ⟨A3, c3, rfl, ho3⟩, hb3⟩
          rw [HUL.out] at ho3
          rw [HUL.out]
          have HB_2 := Lib.hid (HB_1.out.trans (hb3.mono HB_1.out.size))
          have HO2 := Lib.hid (RowAt.of_own ho3); clear ho3
          have HRX2 := Lib.hid (HRX1.out.keep hb3)
          clear HRX1
          clear hb3 HB_1 rc1
          have rc2 := HKC.out W2 (HB2.out.trans (HB_2.out.mono (by omega)))
          refine hK _ _ ?_; clear hK K
          refine wpAny_ready (rs := [3]) (by kernel_rfl) (by simp) ?_
          refine AllReady.cons rfl (fun K hK => ?_) AllReady.nil
          go_simp
          go_at_call 83
          refine (HCA.out _ (HG2.out.trans (HB_2.out.mono HG2.out.size)) A3 c3 HO2.out).mono ?_
          rintro e W3 ⟨rfl, hb4⟩
          have HB_3 := Lib.hid (HB_2.out.trans (hb4.mono HB_2.out.size))
          have HRX3 := Lib.hid (HRX2.out.keep hb4)
          clear HRX2
          clear hb4 HB_2 rc2 HO2
          have rc3 := HKC.out W3 (HB2.out.trans (HB_3.out.mono (by omega)))
          refine hK _ _ ?_; clear hK K
          refine wpAny_ready (rs := [5]) (by kernel_rfl) (by simp) ?_
          refine AllReady.cons rfl (fun K hK => ?_) AllReady.nil
          obtain ⟨m0, z0⟩ := HRX3.out.cell (k := 0) (by simp)
          obtain ⟨m1, z1⟩ := HRX3.out.cell (k := 1) (by simp)
          obtain ⟨m2, z2⟩ := HRX3.out.cell (k := 2) (by simp)
          obtain ⟨m3, z3⟩ := HRX3.out.cell (k := 3) (by simp)
          simp at m0 m1 m2 m3
          have hXs := HRX3.out.ge.2
          go_simp
          refine hK _ _ ?_; clear hK K
          refine wpAny_done (by kernel_rfl) ?_ _
          have HR5 := Lib.hid (show RI 98 X X [a0, a1, a2, a3] ((((W3.setCell ⟨X, 0, none⟩ (.int .i64 a0)).setCell ⟨X, 1, none⟩ (.int .i64 a1)).setCell ⟨X, 2, none⟩ (.int .i64 a2)).setCell ⟨X, 3, none⟩ (.int .i64 a3)) from ((((HRX3.out.put 0 a0).put 1 a1).put 2 a2).put 3 a3))
          have HB5 := Lib.hid (show Below w2.heap.size w2 ((((W3.setCell ⟨X, 0, none⟩ (.int .i64 a0)).setCell ⟨X, 1, none⟩ (.int .i64 a1)).setCell ⟨X, 2, none⟩ (.int .i64 a2)).setCell ⟨X, 3, none⟩ (.int .i64 a3)) from ((((HB_3.out.setCell (p := ⟨X, 0, none⟩) hXw (.int .i64 a0)).setCell (p := ⟨X, 1, none⟩) hXw (.int .i64 a1)).setCell (p := ⟨X, 2, none⟩) hXw (.int .i64 a2)).setCell (p := ⟨X, 3, none⟩) hXw (.int .i64 a3)))
          clear HRX3 HB_3 rc3
          generalize ((((W3.setCell ⟨X, 0, none⟩ (.int .i64 a0)).setCell ⟨X, 1, none⟩ (.int .i64 a1)).setCell ⟨X, 2, none⟩ (.int .i64 a2)).setCell ⟨X, 3, none⟩ (.int .i64 a3)) = W5 at *
          go_wp2_with fail
          refine (HEND.out X W5 HB5.out HR5.out).mono ?_
          rintro e w6 ⟨v6, rfl, hp6⟩
          have HP6 := Lib.hid hp6; clear hp6
          go_wp2_with fail
          go_ret2
          exact ⟨_, rfl, HP6.out⟩
      · go_simp
        refine hK _ _ ?_; clear hK K
        have HRX1 := Lib.hid (show RI 98 W0.heap.size W0.heap.size [0, 0, 0, 0] (W0.alloc (.cells #[.int .i64 0, .int .i64 0, .int .i64 0, .int .i64 0] 98)) from RI.new W0 [0, 0, 0, 0] (by simp [maxLen]))
        have HB_1 := Lib.hid (show Below w2.heap.size w2 (W0.alloc (.cells #[.int .i64 0, .int .i64 0, .int .i64 0, .int .i64 0] 98)) from HB_0.out.alloc HB_0.out.size _)
        have hXw : w2.heap.size ≤ W0.heap.size := HB_0.out.size
        clear HB_0 rc0
        generalize (W0.alloc (.cells #[.int .i64 0, .int .i64 0, .int .i64 0, .int .i64 0] 98)) = W1 at *
        generalize W0.heap.size = X at *
        have rc1 := HKC.out W1 (HB2.out.trans (HB_1.out.mono (by omega)))
        refine wpAny_ready (rs := [1]) (by kernel_rfl) (by simp) ?_
        refine AllReady.cons rfl (fun K hK => ?_) AllReady.nil
        go_simp
        refine hK _ _ ?_; clear hK K
        refine wpAny_ready (rs := [2]) (by kernel_rfl) (by simp) ?_
        refine AllReady.cons rfl (fun K hK => ?_) AllReady.nil
        go_simp
        go_at_call 41
        refine (HCS.out _).mono ?_
        rintro e W2 ⟨v3, rfl, ⟨A3, c3, rfl, ho3⟩, hb3⟩
        rw [HUL.out] at ho3
        rw [HUL.out]
        have HB_2 := Lib.hid (HB_1.out.trans (hb3.mono HB_1.out.size))
        have HO2 := Lib.hid (RowAt.of_own ho3); clear ho3
        have HRX2 := Lib.hid (HRX1.out.keep hb3)
        clear HRX1
        clear hb3 HB_1 rc1
        have rc2 := HKC.out W2 (HB2.out.trans (HB_2.out.mono (by omega)))
        refine hK _ _ ?_; clear hK K
        refine wpAny_ready (rs := [3]) (by kernel_rfl) (by simp) ?_
        refine AllReady.cons rfl (fun K hK => ?_) AllReady.nil
        go_simp
        go_at_call 83
        refine (HCA.out _ (HG2.out.trans (HB_2.out.mono HG2.out.size)) A3 c3 HO2.out).mono ?_
        rintro e W3 ⟨rfl, hb4⟩
        have HB_3 := Lib.hid (HB_2.out.trans (hb4.mono HB_2.out.size))
        have HRX3 := Lib.hid (HRX2.out.keep hb4)
        clear HRX2
        clear hb4 HB_2 rc2 HO2
        have rc3 := HKC.out W3 (HB2.out.trans (HB_3.out.mono (by omega)))
        refine hK _ _ ?_; clear hK K
        refine wpAny_ready (rs := [5]) (by kernel_rfl) (by simp) ?_
        refine AllReady.cons rfl (fun K hK => ?_) AllReady.nil
        obtain ⟨m0, z0⟩ := HRX3.out.cell (k := 0) (by simp)
        obtain ⟨m1, z1⟩ := HRX3.out.cell (k := 1) (by simp)
        obtain ⟨m2, z2⟩ := HRX3.out.cell (k := 2) (by simp)
        obtain ⟨m3, z3⟩ := HRX3.out.cell (k := 3) (by simp)
        simp at m0 m1 m2 m3
        have hXs := HRX3.out.ge.2
        go_simp
        refine hK _ _ ?_; clear hK K
        refine wpAny_done (by kernel_rfl) ?_ _
        have HR5 := Lib.hid (show RI 98 X X [a0, a1, a2, a3] ((((W3.setCell ⟨X, 0, none⟩ (.int .i64 a0)).setCell ⟨X, 1, none⟩ (.int .i64 a1)).setCell ⟨X, 2, none⟩ (.int .i64 a2)).setCell ⟨X, 3, none⟩ (.int .i64 a3)) from ((((HRX3.out.put 0 a0).put 1 a1).put 2 a2).put 3 a3))
        have HB5 := Lib.hid (show Below w2.heap.size w2 ((((W3.setCell ⟨X, 0, none⟩ (.int .i64 a0)).setCell ⟨X, 1, none⟩ (.int .i64 a1)).setCell ⟨X, 2, none⟩ (.int .i64 a2)).setCell ⟨X, 3, none⟩ (.int .i64 a3)) from ((((HB_3.out.setCell (p := ⟨X, 0, none⟩) hXw (.int .i64 a0)).setCell (p := ⟨X, 1, none⟩) hXw (.int .i64 a1)).setCell (p := ⟨X, 2, none⟩) hXw (.int .i64 a2)).setCell (p := ⟨X, 3, none⟩) hXw (.int .i64 a3)))
        clear HRX3 HB_3 rc3
        generalize ((((W3.setCell ⟨X, 0, none⟩ (.int .i64 a0)).setCell ⟨X, 1, none⟩ (.int .i64 a1)).setCell ⟨X, 2, none⟩ (.int .i64 a2)).setCell ⟨X, 3, none⟩ (.int .i64 a3)) = W5 at *
        go_wp2_with fail
        refine (HEND.out X W5 HB5.out HR5.out).mono ?_
        rintro e w6 ⟨v6, rfl, hp6⟩
        have HP6 := Lib.hid hp6; clear hp6
        go_wp2_with fail
        go_ret2
        exact ⟨_, rfl, HP6.out⟩
    · go_simp
      refine hK _ _ ?_; clear hK K
      refine wpAny_ready (rs := [0, 2, 4]) (by kernel_rfl) (by simp) ?_
      refine AllReady.cons rfl (fun K hK => ?_) (AllReady.cons rfl (fun K hK => ?_) (AllReady.cons rfl (fun K hK => ?_) AllReady.nil))
      · go_simp
        refine hK _ _ ?_; clear hK K
        refine wpAny_ready (rs := [2, 4]) (by kernel_rfl) (by simp) ?_
        refine AllReady.cons rfl (fun K hK => ?_) (AllReady.cons rfl (fun K hK => ?_) AllReady.nil)
        · go_simp
          go_at_call 41
          refine (HCS.out _).mono ?_
          rintro e W1 ⟨v3, rfl, ⟨A3, c3, rfl, ho3⟩, hb3⟩
          rw [HUL.out] at ho3
          rw [HUL.out]
          have HB_1 := Lib.hid (HB_0.out.trans (hb3.mono HB_0.out.size))
          have HO1 := Lib.hid (RowAt.of_own ho3); clear ho3
          clear hb3 HB_0 rc0
          have rc1 := HKC.out W1 (HB2.out.trans (HB_1.out.mono (by omega)))
          refine hK _ _ ?_; clear hK K
          refine wpAny_ready (rs := [3, 4]) (by kernel_rfl) (by simp) ?_
          refine AllReady.cons rfl (fun K hK => ?_) (AllReady.cons rfl (fun K hK => ?_) AllReady.nil)
          · go_simp
            go_at_call 83
            refine (HCA.out _ (HG2.out.trans (HB_1.out.mono HG2.out.size)) A3 c3 HO1.out).mono ?_
            rintro e W2 ⟨rfl, hb4⟩
            have HB_2 := Lib.hid (HB_1.out.trans (hb4.mono HB_1.out.size))
            clear hb4 HB_1 rc1 HO1
            have rc2 := HKC.out W2 (HB2.out.trans (HB_2.out.mono (by omega)))
            refine hK _ _ ?_; clear hK K
            refine wpAny_ready (rs := [4]) (by kernel_rfl) (by simp) ?_
            refine AllReady.cons rfl (fun K hK => ?_) AllReady.nil
            go_simp
            refine hK _ _ ?_; clear hK K
            have HRX3 := Lib.hid (show RI 98 W2.heap.size W2.heap.size [0, 0, 0, 0] (W2.alloc (.cells #[.int .i64 0, .int .i64 0, .int .i64 0, .int .i64 0] 98)) from RI.new W2 [0, 0, 0, 0] (by simp [maxLen]))
            have HB_3 := Lib.hid (show Below w2.heap.size w2 (W2.alloc (.cells #[.int .i64 0, .int .i64 0, .int .i64 0, .int .i64 0] 98)) from HB_2.out.alloc HB_2.out.size _)
            have hXw : w2.heap.size ≤ W2.heap.size := HB_2.out.size
            clear HB_2 rc2
            generalize (W2.alloc (.cells #[.int .i64 0, .int .i64 0, .int .i64 0, .int .i64 0] 98)) = W3 at *
            generalize W2.heap.size = X at *
            have rc3 := HKC.out W3 (HB2.out.trans (HB_3.out.mono (by omega)))
            refine wpAny_ready (rs := [5]) (by kernel_rfl) (by simp) ?_
            refine AllReady.cons rfl (fun K hK => ?_) AllReady.nil
            obtain ⟨m0, z0⟩ := HRX3.out.cell (k := 0) (by simp)
            obtain ⟨m1, z1⟩ := HRX3.out.cell (k := 1) (by simp)
            obtain ⟨m2, z2⟩ := HRX3.out.cell (k := 2) (by simp)
            obtain ⟨m3, z3⟩ := HRX3.out.cell (k := 3) (by simp)
            simp at m0 m1 m2 m3
            have hXs := HRX3.out.ge.2
            go_simp
            refine hK _ _ ?_; clear hK K
            refine wpAny_done (by kernel_rfl) ?_ _
            have HR5 := Lib.hid (show RI 98 X X [a0, a1, a2, a3] ((((W3.setCell ⟨X, 0, none⟩ (.int .i64 a0)).setCell ⟨X, 1, none⟩ (.int .i64 a1)).setCell ⟨X, 2, none⟩ (.int .i64 a2)).setCell ⟨X, 3, none⟩ (.int .i64 a3)) from ((((HRX3.out.put 0 a0).put 1 a1).put 2 a2).put 3 a3))
            have HB5 := Lib.hid (show Below w2.heap.size w2 ((((W3.setCell ⟨X, 0, none⟩ (.int .i64 a0)).setCell ⟨X, 1, none⟩ (.int .i64 a1)).setCell ⟨X, 2, none⟩ (.int .i64 a2)).setCell ⟨X, 3, none⟩ (.int .i64 a3)) from ((((HB_3.out.setCell (p := ⟨X, 0, none⟩) hXw (.int .i64 a0)).setCell (p := ⟨X, 1, none⟩) hXw (.int .i64 a1)).setCell (p := ⟨X, 2, none⟩) hXw (.int .i64 a2)).setCell (p := ⟨X, 3, none⟩) hXw (.int .i64 a3)))
            clear HRX3 HB_3 rc3
            generalize ((((W3.setCell ⟨X, 0, none⟩ (.int .i64 a0)).setCell ⟨X, 1, none⟩ (.int .i64 a1)).setCell ⟨X, 2, none⟩ (.int .i64 a2)).setCell ⟨X, 3, none⟩ (.int .i64 a3)) = W5 at *
            go_wp2_with fail
            refine (HEND.out X W5 HB5.out HR5.out).mono ?_
            rintro e w6 ⟨v6, rfl, hp6⟩
            have HP6 := Lib.hid hp6; clear hp6
            go_wp2_with fail
            go_ret2
            exact ⟨_, rfl, HP6.out⟩
          · go_simp
            refine hK _ _ ?_; clear hK K
            have HRX2 := Lib.hid (show RI 98 W1.heap.size W1.heap.size [0, 0, 0, 0] (W1.alloc (.cells #[.int .i64 0, .int .i64 0, .int .i64 0, .int .i64 0] 98)) from RI.new W1 [0, 0, 0, 0] (by simp [maxLen]))
            have HB_2 := Lib.hid (show Below w2.heap.size w2 (W1.alloc (.cells #[.int .i64 0, .int .i64 0, .int .i64 0, .int .i64 0] 98)) from HB_1.out.alloc HB_1.out.size _)
            have hXw : w2.heap.size ≤ W1.heap.size := HB_1.out.size
            have HO2 := Lib.hid ((HO1.out.below ((Below.refl W1.heap.size W1).alloc (Nat.le_refl _) (.cells #[.int .i64 0, .int .i64 0, .int .i64 0, .int .i64 0] 98))).mono (by simp : W1.heap.size ≤ (W1.alloc (.cells #[.int .i64 0, .int .i64 0, .int .i64 0, .int .i64 0] 98)).heap.size))
            clear HO1
            clear HB_1 rc1
            generalize (W1.alloc (.cells #[.int .i64 0, .int .i64 0, .int .i64 0, .int .i64 0] 98)) = W2 at *
            generalize W1.heap.size = X at *
            have rc2 := HKC.out W2 (HB2.out.trans (HB_2.out.mono (by omega)))
            refine wpAny_ready (rs := [3]) (by kernel_rfl) (by simp) ?_
            refine AllReady.cons rfl (fun K hK => ?_) AllReady.nil
            go_simp
            go_at_call 83
            refine (HCA.out _ (HG2.out.trans (HB_2.out.mono HG2.out.size)) A3 c3 HO2.out).mono ?_
            rintro e W3 ⟨rfl, hb4⟩
            have HB_3 := Lib.hid (HB_2.out.trans (hb4.mono HB_2.out.size))
            have HRX3 := Lib.hid (HRX2.out.keep hb4)
            clear HRX2
            clear hb4 HB_2 rc2 HO2
            have rc3 := HKC.out W3 (HB2.out.trans (HB_3.out.mono (by omega)))
            refine hK _ _ ?_; clear hK K
            refine wpAny_ready (rs := [5]) (by kernel_rfl) (by simp) ?_
            refine AllReady.cons rfl (fun K hK => ?_) AllReady.nil
            obtain ⟨m0, z0⟩ := HRX3.out.cell (k := 0) (by simp)
            obtain ⟨m1, z1⟩ := HRX3.out.cell (k := 1) (by simp)
            obtain ⟨m2, z2⟩ := HRX3.out.cell (k := 2) (by simp)
            obtain ⟨m3, z3⟩ := HRX3.out.cell (k := 3) (by simp)
            simp at m0 m1 m2 m3
            have hXs := HRX3.out.ge.2
            go_simp
            refine hK _ _ ?_; clear hK K
            refine wpAny_done (by kernel_rfl) ?_ _
            have HR5 := Lib.hid (show RI 98 X X [a0, a1, a2, a3] ((((W3.setCell ⟨X, 0, none⟩ (.int .i64 a0)).setCell ⟨X, 1, none⟩ (.int .i64 a1)).setCell ⟨X, 2, none⟩ (.int .i64 a2)).setCell ⟨X, 3, none⟩ (.int .i64 a3)) from ((((HRX3.out.put 0 a0).put 1 a1).put 2 a2).put 3 a3))
            have HB5 := Lib.hid (show Below w2.heap.size w2 ((((W3.setCell ⟨X, 0, none⟩ (.int .i64 a0)).setCell ⟨X, 1, none⟩ (.int .i64 a1)).setCell ⟨X, 2, none⟩ (.int .i64 a2)).setCell ⟨X, 3, none⟩ (.int .i64 a3)) from ((((HB_3.out.setCell (p := ⟨X, 0, none⟩) hXw (.int .i64 a0)).setCell (p := ⟨X, 1, none⟩) hXw (.int .i64 a1)).setCell (p := ⟨X, 2, none⟩) hXw (.int .i64 a2)).setCell (p := ⟨X, 3, none⟩) hXw (.int .i64 a3)))
            clear HRX3 HB_3 rc3
            generalize ((((W3.setCell ⟨X, 0, none⟩ (.int .i64 a0)).setCell ⟨X, 1, none⟩ (.int .i64 a1)).setCell ⟨X, 2, none⟩ (.int .i64 a2)).setCell ⟨X, 3, none⟩ (.int .i64 a3)) = W5 at *
            go_wp2_with fail
            refine (HEND.out X W5 HB5.out HR5.out).mono ?_
            rintro e w6 ⟨v6, rfl, hp6⟩
            have HP6 := Lib.hid hp6; clear hp6
            go_wp2_with fail
            go_ret2
            exact ⟨_, rfl, HP6.out⟩
        · go_simp
          refine hK _ _ ?_; clear hK K
          have HRX1 := Lib.hid (show RI 98 W0.heap.size W0.heap.size [0, 0, 0, 0] (W0.alloc (.cells #[.int .i64 0, .int .i64 0, .int .i64 0, .int .i64 0] 98)) from RI.new W0 [0, 0, 0, 0] (by simp [maxLen]))
          have HB_1 := Lib.hid (show Below w2.heap.size w2 (W0.alloc (.cells #[.int .i64 0, .int .i64 0, .int .i64 0, .int .i64 0] 98)) from HB_0.out.alloc HB_0.out.size _)
          have hXw : w2.heap.size ≤ W0.heap.size := HB_0.out.size
          clear HB_0 rc0
          generalize (W0.alloc (.cells #[.int .i64 0, .int .i64 0, .int .i64 0, .int .i64 0] 98)) = W1 at *
          generalize W0.heap.size = X at *
          have rc1 := HKC.out W1 (HB2.out.trans (HB_1.out.mono (by omega)))
          refine wpAny_ready (rs := [2]) (by kernel_rfl) (by simp) ?_
          refine AllReady.cons rfl (fun K hK => ?_) AllReady.nil
          go_simp
          go_at_call 41
          refine (HCS.out _).mono ?_
          rintro e W2 ⟨v3, rfl, ⟨A3, c3, rfl, ho3⟩, hb3⟩
          rw [HUL.out] at ho3
          rw [HUL.out]
          have HB_2 := Lib.hid (HB_1.out.trans (hb3.mono HB_1.out.size))
          have HO2 := Lib.hid (RowAt.of_own ho3); clear ho3
          have HRX2 := Lib.hid (HRX1.out.keep hb3)
          clear HRX1
          clear hb3 HB_1 rc1
          have rc2 := HKC.out W2 (HB2.out.trans (HB_2.out.mono (by omega)))
          refine hK _ _ ?_; clear hK K
          refine wpAny_ready (rs := [3]) (by kernel_rfl) (by simp) ?_
          refine AllReady.cons rfl (fun K hK => ?_) AllReady.nil
          go_simp
          go_at_call 83
          refine (HCA.out _ (HG2.out.trans (HB_2.out.mono HG2.out.size)) A3 c3 HO2.out).mono ?_
          rintro e W3 ⟨rfl, hb4⟩
          have HB_3 := Lib.hid (HB_2.out.trans (hb4.mono HB_2.out.size))
          have HRX3 := Lib.hid (HRX2.out.keep hb4)
          clear HRX2
          clear hb4 HB_2 rc2 HO2
          have rc3 := HKC.out W3 (HB2.out.trans (HB_3.out.mono (by omega)))
          refine hK _ _ ?_; clear hK K
          refine wpAny_ready (rs := [5]) (by kernel_rfl) (by simp) ?_
          refine AllReady.cons rfl (fun K hK => ?_) AllReady.nil
          obtain ⟨m0, z0⟩ := HRX3.out.cell (k := 0) (by simp)
          obtain ⟨m1, z1⟩ := HRX3.out.cell (k := 1) (by simp)
          obtain ⟨m2, z2⟩ := HRX3.out.cell (k := 2) (by simp)
          obtain ⟨m3, z3⟩ := HRX3.out.cell (k := 3) (by simp)
          simp at m0 m1 m2 m3
          have hXs := HRX3.out.ge.2
          go_simp
          refine hK _ _ ?_; clear hK K
          refine wpAny_done (by kernel_rfl) ?_ _
          have HR5 := Lib.hid (show RI 98 X X [a0, a1, a2, a3] ((((W3.setCell ⟨X, 0, none⟩ (.int .i64 a0)).setCell ⟨X, 1, none⟩ (.int .i64 a1)).setCell ⟨X, 2, none⟩ (.int .i64 a2)).setCell ⟨X, 3, none⟩ (.int .i64 a3)) from ((((HRX3.out.put 0 a0).put 1 a1).put 2 a2).put 3 a3))
          have HB5 := Lib.hid (show Below w2.heap.size w2 ((((W3.setCell ⟨X, 0, none⟩ (.int .i64 a0)).setCell ⟨X, 1, none⟩ (.int .i64 a1)).setCell ⟨X, 2, none⟩ (.int .i64 a2)).setCell ⟨X, 3, none⟩ (.int .i64 a3)) from ((((HB_3.out.setCell (p := ⟨X, 0, none⟩) hXw (.int .i64 a0)).setCell (p := ⟨X, 1, none⟩) hXw (.int .i64 a1)).setCell (p := ⟨X, 2, none⟩) hXw (.int .i64 a2)).setCell (p := ⟨X, 3, none⟩) hXw (.int .i64 a3)))
          clear HRX3 HB_3 rc3
          generalize ((((W3.setCell ⟨X, 0, none⟩ (.int .i64 a0)).setCell ⟨X, 1, none⟩ (.int .i64 a1)).setCell ⟨X, 2, none⟩ (.int .i64 a2)).setCell ⟨X, 3, none⟩ (.int .i64 a3)) = W5 at *
          go_wp2_with fail
          refine (HEND.out X W5 HB5.out HR5.out).mono ?_
          rintro e w6 ⟨v6, rfl, hp6⟩
          have HP6 := Lib.hid hp6; clear hp6
          go_wp2_with fail
          go_ret2
          exact ⟨_, rfl, HP6.out⟩
      · go_simp
        go_at_call 41
        refine (HCS.out _).mono ?_
        rintro e W1 ⟨v3, rfl, ⟨A3, c3, rfl, ho3⟩, hb3⟩
        rw [HUL.out] at ho3
        rw [HUL.out]
        have HB_1 := Lib.hid (HB_0.out.trans (hb3.mono HB_0.out.size))
        have HO1 := Lib.hid (RowAt.of_own ho3); clear ho3
        clear hb3 HB_0 rc0
        have rc1 := HKC.out W1 (HB2.out.trans (HB_1.out.mono (by omega)))
        refine hK _ _ ?_; clear hK K
        refine wpAny_ready (rs := [0, 4]) (by kernel_rfl) (by simp) ?_
        refine AllReady.cons rfl (fun K hK => ?_) (AllReady.cons rfl (fun K hK => ?_) AllReady.nil)
        · go_simp
          refine hK _ _ ?_; clear hK K
          refine wpAny_ready (rs := [3, 4]) (by kernel_rfl) (by simp) ?_
          refine AllReady.cons rfl (fun K hK => ?_) (AllReady.cons rfl (fun K hK => ?_) AllReady.nil)
          · go_simp
            go_at_call 83
            refine (HCA.out _ (HG2.out.trans (HB_1.out.mono HG2.out.size)) A3 c3 HO1.out).mono ?_
            rintro e W2 ⟨rfl, hb4⟩
            have HB_2 := Lib.hid (HB_1.out.trans (hb4.mono HB_1.out.size))
            clear hb4 HB_1 rc1 HO1
            have rc2 := HKC.out W2 (HB2.out.trans (HB_2.out.mono (by omega)))
            refine hK _ _ ?_; clear hK K
            refine wpAny_ready (rs := [4]) (by kernel_rfl) (by simp) ?_
            refine AllReady.cons rfl (fun K hK => ?_) AllReady.nil
            go_simp
            refine hK _ _ ?_; clear hK K
            have HRX3 := Lib.hid (show RI 98 W2.heap.size W2.heap.size [0, 0, 0, 0] (W2.alloc (.cells #[.int .i64 0, .int .i64 0, .int .i64 0, .int .i64 0] 98)) from RI.new W2 [0, 0, 0, 0] (by simp [maxLen]))
            have HB_3 := Lib.hid (show Below w2.heap.size w2 (W2.alloc (.cells #[.int .i64 0, .int .i64 0, .int .i64 0, .int .i64 0] 98)) from HB_2.out.alloc HB_2.out.size _)
            have hXw : w2.heap.size ≤ W2.heap.size := HB_2.out.size
            clear HB_2 rc2
            generalize (W2.alloc (.cells #[.int .i64 0, .int .i64 0, .int .i64 0, .int .i64 0] 98)) = W3 at *
            generalize W2.heap.size = X at *
            have rc3 := HKC.out W3 (HB2.out.trans (HB_3.out.mono (by omega)))
            refine wpAny_ready (rs := [5]) (by kernel_rfl) (by simp) ?_
            refine AllReady.cons rfl (fun K hK => ?_) AllReady.nil
            obtain ⟨m0, z0⟩ := HRX3.out.cell (k := 0) (by simp)
            obtain ⟨m1, z1⟩ := HRX3.out.cell (k := 1) (by simp)
            obtain ⟨m2, z2⟩ := HRX3.out.cell (k := 2) (by simp)
            obtain ⟨m3, z3⟩ := HRX3.out.cell (k := 3) (by simp)
            simp at m0 m1 m2 m3
            have hXs := HRX3.out.ge.2
            go_simp
            refine hK _ _ ?_; clear hK K
            refine wpAny_done (by kernel_rfl) ?_ _
            have HR5 := Lib.hid (show RI 98 X X [a0, a1, a2, a3] ((((W3.setCell ⟨X, 0, none⟩ (.int .i64 a0)).setCell ⟨X, 1, none⟩ (.int .i64 a1)).setCell ⟨X, 2, none⟩ (.int .i64 a2)).setCell ⟨X, 3, none⟩ (.int .i64 a3)) from ((((HRX3.out.put 0 a0).put 1 a1).put 2 a2).put 3 a3))
            have HB5 := Lib.hid (show Below w2.heap.size w2 ((((W3.setCell ⟨X, 0, none⟩ (.int .i64 a0)).setCell ⟨X, 1, none⟩ (.int .i64 a1)).setCell ⟨X, 2, none⟩ (.int .i64 a2)).setCell ⟨X, 3, none⟩ (.int .i64 a3)) from ((((HB_3.out.setCell (p := ⟨X, 0, none⟩) hXw (.int .i64 a0)).setCell (p := ⟨X, 1, none⟩) hXw (.int .i64 a1)).setCell (p := ⟨X, 2, none⟩) hXw (.int .i64 a2)).setCell (p := ⟨X, 3, none⟩) hXw (.int .i64 a3)))
            clear HRX3 HB_3 rc3
            generalize ((((W3.setCell ⟨X, 0, none⟩ (.int .i64 a0)).setCell ⟨X, 1, none⟩ (.int .i64 a1)).setCell ⟨X, 2, none⟩ (.int .i64 a2)).setCell ⟨X, 3, none⟩ (.int .i64 a3)) = W5 at *
            go_wp2_with fail
            refine (HEND.out X W5 HB5.out HR5.out).mono ?_
            rintro e w6 ⟨v6, rfl, hp6⟩
            have HP6 := Lib.hid hp6; clear hp6
            go_wp2_with fail
            go_ret2
            exact ⟨_, rfl, HP6.out⟩
          · go_simp
            refine hK _ _ ?_; clear hK K
            have HRX2 := Lib.hid (show RI 98 W1.heap.size W1.heap.size [0, 0, 0, 0] (W1.alloc (.cells #[.int .i64 0, .int .i64 0, .int .i64 0, .int .i64 0] 98)) from RI.new W1 [0, 0, 0, 0] (by simp [maxLen]))
            have HB_2 := Lib.hid (show Below w2.heap.size w2 (W1.alloc (.cells #[.int .i64 0, .int .i64 0, .int .i64 0, .int .i64 0] 98)) from HB_1.out.alloc HB_1.out.size _)
            have hXw : w2.heap.size ≤ W1.heap.size := HB_1.out.size
            have HO2 := Lib.hid ((HO1.out.below ((Below.refl W1.heap.size W1).alloc (Nat.le_refl _) (.cells #[.int .i64 0, .int .i64 0, .int .i64 0, .int .i64 0] 98))).mono (by simp : W1.heap.size ≤ (W1.alloc (.cells #[.int .i64 0, .int .i64 0, .int .i64 0, .int .i64 0] 98)).heap.size))
            clear HO1
            clear HB_1 rc1
            generalize (W1.alloc (.cells #[.int .i64 0, .int .i64 0, .int .i64 0, .int .i64 0] 98)) = W2 at *
            generalize W1.heap.size = X at *
            have rc2 := HKC.out W2 (HB2.out.trans (HB_2.out.mono (by omega)))
            refine wpAny_ready (rs := [3]) (by kernel_rfl) (by simp) ?_
            refine AllReady.cons rfl (fun K hK => ?_) AllReady.nil
            go_simp
            go_at_call 83
            refine (HCA.out _ (HG2.out.trans (HB_2.out.mono HG2.out.size)) A3 c3 HO2.out).mono ?_
            rintro e W3 ⟨rfl, hb4⟩
            have HB_3 := Lib.hid (HB_2.out.trans (hb4.mono HB_2.out.size))
            have HRX3 := Lib.hid (HRX2.out.keep hb4)
            clear HRX2
            clear hb4 HB_2 rc2 HO2
            have rc3 := HKC.out W3 (HB2.out.trans (HB_3.out.mono (by omega)))
            refine hK _ _ ?_; clear hK K
            refine wpAny_ready (rs := [5]) (by kernel_rfl) (by simp) ?_
            refine AllReady.cons rfl (fun K hK => ?_) AllReady.nil
            obtain ⟨m0, z0⟩ := HRX3.out.cell (k := 0) (by simp)
            obtain ⟨m1, z1⟩ := HRX3.out.cell (k := 1) (by simp)
            obtain ⟨m2, z2⟩ := HRX3.out.cell (k := 2) (by simp)
            obtain ⟨m3, z3⟩ := HRX3.out.cell (k := 3) (by simp)
            simp at m0 m1 m2 m3
            have hXs := HRX3.out.ge.2
            go_simp
            refine hK _ _ ?_; clear hK K
            refine wpAny_done (by kernel_rfl) ?_ _
            have HR5 := Lib.hid (show RI 98 X X [a0, a1, a2, a3] ((((W3.setCell ⟨X, 0, none⟩ (.int .i64 a0)).setCell ⟨X, 1, none⟩ (.int .i64 a1)).setCell ⟨X, 2, none⟩ (.int .i64 a2)).setCell ⟨X, 3, none⟩ (.int .i64 a3)) from ((((HRX3.out.put 0 a0).put 1 a1).put 2 a2).put 3 a3))
            have HB5 := Lib.hid (show Below w2.heap.size w2 ((((W3.setCell ⟨X, 0, none⟩ (.int .i64 a0)).setCell ⟨X, 1, none⟩ (.int .i64 a1)).setCell ⟨X, 2, none⟩ (.int .i64 a2)).setCell ⟨X, 3, none⟩ (.int .i64 a3)) from ((((HB_3.out.setCell (p := ⟨X, 0, none⟩) hXw (.int .i64 a0)).setCell (p := ⟨X, 1, none⟩) hXw (.int .i64 a1)).setCell (p := ⟨X, 2, none⟩) hXw (.int .i64 a2)).setCell (p := ⟨X, 3, none⟩) hXw (.int .i64 a3)))
            clear HRX3 HB_3 rc3
            generalize ((((W3.setCell ⟨X, 0, none⟩ (.int .i64 a0)).setCell ⟨X, 1, none⟩ (.int .i64 a1)).setCell ⟨X, 2, none⟩ (.int .i64 a2)).setCell ⟨X, 3, none⟩ (.int .i64 a3)) = W5 at *
            go_wp2_with fail
            refine (HEND.out X W5 HB5.out HR5.out).mono ?_
            rintro e w6 ⟨v6, rfl, hp6⟩
            have HP6 := Lib.hid hp6; clear hp6
            go_wp2_with fail
            go_ret2
            exact ⟨_, rfl, HP6.out⟩
        · go_simp
          refine hK _ _ ?_; clear hK K
          have HRX2 := Lib.hid (show RI 98 W1.heap.size W1.heap.size [0, 0, 0, 0] (W1.alloc (.cells #[.int .i64 0, .int .i64 0, .int .i64 0, .int .i64 0] 98)) from RI.new W1 [0, 0, 0, 0] (by simp [maxLen]))
          have HB_2 := Lib.hid (show Below w2.heap.size w2 (W1.alloc (.cells #[.int .i64 0, .int .i64 0, .int .i64 0, .int .i64 0] 98)) from HB_1.out.alloc HB_1.out.size _)
          have hXw : w2.heap.size ≤ W1.heap.size := HB_1.out.size
          have HO2 := Lib.hid ((HO1.out.below ((Below.refl W1.heap.size W1).alloc (Nat.le_refl _) (.cells #[.int .i64 0, .int .i64 0, .int .i64 0, .int .i64 0] 98))).mono (by simp : W1.heap.size ≤ (W1.alloc (.cells #[.int .i64 0, .int .i64 0, .int .i64 0, .int .i64 0] 98)).heap.size))
          clear HO1
          clear HB_1 rc1
          generalize (W1.alloc (.cells #[.int .i64 0, .int .i64 0, .int .i64 0, .int .i64 0] 98)) = W2 at *
          generalize W1.heap.size = X at *
          have rc2 := HKC.out W2 (HB2.out.trans (HB_2.out.mono (by omega)))
          refine wpAny_ready (rs := [0]) (by kernel_rfl) (by simp) ?_
          refine AllReady.cons rfl (fun K hK => ?_) AllReady.nil
          go_simp
          refine hK _ _ ?_; clear hK K
          refine wpAny_ready (rs := [3]) (by kernel_rfl) (by simp) ?_
          refine AllReady.cons rfl (fun K hK => ?_) AllReady.nil
          go_simp
          go_at_call 83
          refine (HCA.out _ (HG2.out.trans (HB_2.out.mono HG2.out.size)) A3 c3 HO2.out).mono ?_
          rintro e W3 ⟨rfl, hb4⟩
          have HB_3 := Lib.hid (HB_2.out.trans (hb4.mono HB_2.out.size))
          have HRX3 := Lib.hid (HRX2.out.keep hb4)
          clear HRX2
          clear hb4 HB_2 rc2 HO2
          have rc3 := HKC.out W3 (HB2.out.trans (HB_3.out.mono (by omega)))
          refine hK _ _ ?_; clear hK K
          refine wpAny_ready (rs := [5]) (by kernel_rfl) (by simp) ?_
          refine AllReady.cons rfl (fun K hK => ?_) AllReady.nil
          obtain ⟨m0, z0⟩ := HRX3.out.cell (k := 0) (by simp)
          obtain ⟨m1, z1⟩ := HRX3.out.cell (k := 1) (by simp)
          obtain ⟨m2, z2⟩ := HRX3.out.cell (k := 2) (by simp)
          obtain ⟨m3, z3⟩ := HRX3.out.cell (k := 3) (by simp)
          simp at m0 m1 m2 m3
          have hXs := HRX3.out.ge.2
          go_simp
          refine hK _ _ ?_; clear hK K
          refine wpAny_done (by kernel_rfl) ?_ _
          have HR5 := Lib.hid (show RI 98 X X [a0, a1, a2, a3] ((((W3.setCell ⟨X, 0, none⟩ (.int .i64 a0)).setCell ⟨X, 1, none⟩ (.int .i64 a1)).setCell ⟨X, 2, none⟩ (.int .i64 a2)).setCell ⟨X, 3, none⟩ (.int .i64 a3)) from ((((HRX3.out.put 0 a0).put 1 a1).put 2 a2).put 3 a3))
          have HB5 := Lib.hid (show Below w2.heap.size w2 ((((W3.setCell ⟨X, 0, none⟩ (.int .i64 a0)).setCell ⟨X, 1, none⟩ (.int .i64 a1)).setCell ⟨X, 2, none⟩ (.int .i64 a2)).setCell ⟨X, 3, none⟩ (.int .i64 a3)) from ((((HB_3.out.setCell (p := ⟨X, 0, none⟩) hXw (.int .i64 a0)).setCell (p := ⟨X, 1, none⟩) hXw (.int .i64 a1)).setCell (p := ⟨X, 2, none⟩) hXw (.int .i64 a2)).setCell (p := ⟨X, 3, none⟩) hXw (.int .i64 a3)))
          clear HRX3 HB_3 rc3
          generalize ((((W3.setCell ⟨X, 0, none⟩ (.int .i64 a0)).setCell ⟨X, 1, none⟩ (.int .i64 a1)).setCell ⟨X, 2, none⟩ (.int .i64 a2)).setCell ⟨X, 3, none⟩ (.int .i64 a3)) = W5 at *
          go_wp2_with fail
          refine (HEND.out X W5 HB5.out HR5.out).mono ?_
          rintro e w6 ⟨v6, rfl, hp6⟩
          have HP6 := Lib.hid hp6; clear hp6
          go_wp2_with fail
          go_ret2
          exact ⟨_, rfl, HP6.out⟩
      · go_simp
        refine hK _ _ ?_; clear hK K
        have HRX1 := Lib.hid (show RI 98 W0.heap.size W0.heap.size [0, 0, 0, 0] (W0.alloc (.cells #[.int .i64 0, .int .i64 0, .int .i64 0, .int .i64 0] 98)) from RI.new W0 [0, 0, 0, 0] (by simp [maxLen]))
        have HB_1 := Lib.hid (show Below w2.heap.size w2 (W0.alloc (.cells #[.int .i64 0, .int .i64 0, .int .i64 0, .int .i64 0] 98)) from HB_0.out.alloc HB_0.out.size _)
        have hXw : w2.heap.size ≤ W0.heap.size := HB_0.out.size
        clear HB_0 rc0
        generalize (W0.alloc (.cells #[.int .i64 0, .int .i64 0, .int .i64 0, .int .i64 0] 98)) = W1 at *
        generalize W0.heap.size = X at *
        have rc1 := HKC.out W1 (HB2.out.trans (HB_1.out.mono (by omega)))
        refine wpAny_ready (rs := [0, 2]) (by kernel_rfl) (by simp) ?_
        refine AllReady.cons rfl (fun K hK => ?_) (AllReady.cons rfl (fun K hK => ?_) AllReady.nil)
        · go_simp
          refine hK _ _ ?_; clear hK K
          refine wpAny_ready (rs := [2]) (by kernel_rfl) (by simp) ?_
          refine AllReady.cons rfl (fun K hK => ?_) AllReady.nil
          go_simp
          go_at_call 41
          refine (HCS.out _).mono ?_
          rintro e W2 ⟨v3, rfl, ⟨A3, c3, rfl, ho3⟩, hb3⟩
          rw [HUL.out] at ho3
          rw [HUL.out]
          have HB_2 := Lib.hid (HB_1.out.trans (hb3.mono HB_1.out.size))
          have HO2 := Lib.hid (RowAt.of_own ho3); clear ho3
          have HRX2 := Lib.hid (HRX1.out.keep hb3)
          clear HRX1
          clear hb3 HB_1 rc1
          have rc2 := HKC.out W2 (HB2.out.trans (HB_2.out.mono (by omega)))
          refine hK _ _ ?_; clear hK K
          refine wpAny_ready (rs := [3]) (by kernel_rfl) (by simp) ?_
          refine AllReady.cons rfl (fun K hK => ?_) AllReady.nil
          go_simp
          go_at_call 83
          refine (HCA.out _ (HG2.out.trans (HB_2.out.mono HG2.out.size)) A3 c3 HO2.out).mono ?_
          rintro e W3 ⟨rfl, hb4⟩
          have HB_3 := Lib.hid (HB_2.out.trans (hb4.mono HB_2.out.size))
          have HRX3 := Lib.hid (HRX2.out.keep hb4)
          clear HRX2
          clear hb4 HB_2 rc2 HO2
          have rc3 := HKC.out W3 (HB2.out.trans (HB_3.out.mono (by omega)))
          refine hK _ _ ?_; clear hK K
          refine wpAny_ready (rs := [5]) (by kernel_rfl) (by simp) ?_
          refine AllReady.cons rfl (fun K hK => ?_) AllReady.nil
          obtain ⟨m0, z0⟩ := HRX3.out.cell (k := 0) (by simp)
          obtain ⟨m1, z1⟩ := HRX3.out.cell (k := 1) (by simp)
          obtain ⟨m2, z2⟩ := HRX3.out.cell (k := 2) (by simp)
          obtain ⟨m3, z3⟩ := HRX3.out.cell (k := 3) (by simp)
          simp at m0 m1 m2 m3
          have hXs := HRX3.out.ge.2
          go_simp
          refine hK _ _ ?_; clear hK K
          refine wpAny_done (by kernel_rfl) ?_ _
          have HR5 := Lib.hid (show RI 98 X X [a0, a1, a2, a3] ((((W3.setCell ⟨X, 0, none⟩ (.int .i64 a0)).setCell ⟨X, 1, none⟩ (.int .i64 a1)).setCell ⟨X, 2, none⟩ (.int .i64 a2)).setCell ⟨X, 3, none⟩ (.int .i64 a3)) from ((((HRX3.out.put 0 a0).put 1 a1).put 2 a2).put 3 a3))
          have HB5 := Lib.hid (show Below w2.heap.size w2 ((((W3.setCell ⟨X, 0, none⟩ (.int .i64 a0)).setCell ⟨X, 1, none⟩ (.int .i64 a1)).setCell ⟨X, 2, none⟩ (.int .i64 a2)).setCell ⟨X, 3, none⟩ (.int .i64 a3)) from ((((HB_3.out.setCell (p := ⟨X, 0, none⟩) hXw (.int .i64 a0)).setCell (p := ⟨X, 1, none⟩) hXw (.int .i64 a1)).setCell (p := ⟨X, 2, none⟩) hXw (.int .i64 a2)).setCell (p := ⟨X, 3, none⟩) hXw (.int .i64 a3)))
          clear HRX3 HB_3 rc3
          generalize ((((W3.setCell ⟨X, 0, none⟩ (.int .i64 a0)).setCell ⟨X, 1, none⟩ (.int .i64 a1)).setCell ⟨X, 2, none⟩ (.int .i64 a2)).setCell ⟨X, 3, none⟩ (.int .i64 a3)) = W5 at *
          go_wp2_with fail
          refine (HEND.out X W5 HB5.out HR5.out).mono ?_
          rintro e w6 ⟨v6, rfl, hp6⟩
          have HP6 := Lib.hid hp6; clear hp6
          go_wp2_with fail
          go_ret2
          exact ⟨_, rfl, HP6.out⟩
        · go_simp
          go_at_call 41
          refine (HCS.out _).mono ?_
          rintro e W2 ⟨v3, rfl, ⟨A3, c3, rfl, ho3⟩, hb3⟩
          rw [HUL.out] at ho3
          rw [HUL.out]
          have HB_2 := Lib.hid (HB_1.out.trans (hb3.mono HB_1.out.size))
          have HO2 := Lib.hid (RowAt.of_own ho3); clear ho3
          have HRX2 := Lib.hid (HRX1.out.keep hb3)
          clear HRX1
          clear hb3 HB_1 rc1
          have rc2 := HKC.out W2 (HB2.out.trans (HB_2.out.mono (by omega)))
          refine hK _ _ ?_; clear hK K
          refine wpAny_ready (rs := [0]) (by kernel_rfl) (by simp) ?_
          refine AllReady.cons rfl (fun K hK => ?_) AllReady.nil
          go_simp
          refine hK _ _ ?_; clear hK K
          refine wpAny_ready (rs := [3]) (by kernel_rfl) (by simp) ?_
          refine AllReady.cons rfl (fun K hK => ?_) AllReady.nil
          go_simp
          go_at_call 83
          refine (HCA.out _ (HG2.out.trans (HB_2.out.mono HG2.out.size)) A3 c3 HO2.out).mono ?_
          rintro e W3 ⟨rfl, hb4⟩
          have HB_3 := Lib.hid (HB_2.out.trans (hb4.mono HB_2.out.size))
          have HRX3 := Lib.hid (HRX2.out.keep hb4)
          clear HRX2
          clear hb4 HB_2 rc2 HO2
          have rc3 := HKC.out W3 (HB2.out.trans (HB_3.out.mono (by omega)))
          refine hK _ _ ?_; clear hK K
          refine wpAny_ready (rs := [5]) (by kernel_rfl) (by simp) ?_
          refine AllReady.cons rfl (fun K hK => ?_) AllReady.nil
          obtain ⟨m0, z0⟩ := HRX3.out.cell (k := 0) (by simp)
          obtain ⟨m1, z1⟩ := HRX3.out.cell (k := 1) (by simp)
          obtain ⟨m2, z2⟩ := HRX3.out.cell (k := 2) (by simp)
          obtain ⟨m3, z3⟩ := HRX3.out.cell (k := 3) (by simp)
          simp at m0 m1 m2 m3
          have hXs := HRX3.out.ge.2
          go_simp
          refine hK _ _ ?_; clear hK K
          refine wpAny_done (by kernel_rfl) ?_ _
          have HR5 := Lib.hid (show RI 98 X X [a0, a1, a2, a3] ((((W3.setCell ⟨X, 0, none⟩ (.int .i64 a0)).setCell ⟨X, 1, none⟩ (.int .i64 a1)).setCell ⟨X, 2, none⟩ (.int .i64 a2)).setCell ⟨X, 3, none⟩ (.int .i64 a3)) from ((((HRX3.out.put 0 a0).put 1 a1).put 2 a2).put 3 a3))
          have HB5 := Lib.hid (show Below w2.heap.size w2 ((((W3.setCell ⟨X, 0, none⟩ (.int .i64 a0)).setCell ⟨X, 1, none⟩ (.int .i64 a1)).setCell ⟨X, 2, none⟩ (.int .i64 a2)).setCell ⟨X, 3, none⟩ (.int .i64 a3)) from ((((HB_3.out.setCell (p := ⟨X, 0, none⟩) hXw (.int .i64 a0)).setCell (p := ⟨X, 1, none⟩) hXw (.int .i64 a1)).setCell (p := ⟨X, 2, none⟩) hXw (.int .i64 a2)).setCell (p := ⟨X, 3, none⟩) hXw (.int .i64 a3)))
          clear HRX3 HB_3 rc3
          generalize ((((W3.setCell ⟨X, 0, none⟩ (.int .i64 a0)).setCell ⟨X, 1, none⟩ (.int .i64 a1)).setCell ⟨X, 2, none⟩ (.int .i64 a2)).setCell ⟨X, 3, none⟩ (.int .i64 a3)) = W5 at *
          go_wp2_with fail
          refine (HEND.out X W5 HB5.out HR5.out).mono ?_
          rintro e w6 ⟨v6, rfl, hp6⟩
          have HP6 := Lib.hid hp6; clear hp6
          go_wp2_with fail
          go_ret2
          exact ⟨_, rfl, HP6.out⟩
    · go_simp
      refine hK _ _ ?_; clear hK K
      have HRX1 := Lib.hid (show RI 98 W0.heap.size W0.heap.size [0, 0, 0, 0] (W0.alloc (.cells #[.int .i64 0, .int .i64 0, .int .i64 0, .int .i64 0] 98)) from RI.new W0 [0, 0, 0, 0] (by simp [maxLen]))
      have HB_1 := Lib.hid (show Below w2.heap.size w2 (W0.alloc (.cells #[.int .i64 0, .int .i64 0, .int .i64 0, .int .i64 0] 98)) from HB_0.out.alloc HB_0.out.size _)
      have hXw : w2.heap.size ≤ W0.heap.size := HB_0.out.size
      clear HB_0 rc0
      generalize (W0.alloc (.cells #[.int .i64 0, .int .i64 0, .int .i64 0, .int .i64 0] 98)) = W1 at *
      generalize W0.heap.size = X at *
      have rc1 := HKC.out W1 (HB2.out.trans (HB_1.out.mono (by omega)))
      refine wpAny_ready (rs := [0, 1]) (by kernel_rfl) (by simp) ?_
      refine AllReady.cons rfl (fun K hK => ?_) (AllReady.cons rfl (fun K hK => ?_) AllReady.nil)
      · go_simp
        refine hK _ _ ?_; clear hK K
        refine wpAny_ready (rs := [1]) (by kernel_rfl) (by simp) ?_
        refine AllReady.cons rfl (fun K hK => ?_) AllReady.nil
        go_simp
        refine hK _ _ ?_; clear hK K
        refine wpAny_ready (rs := [2]) (by kernel_rfl) (by simp) ?_
        refine AllReady.cons rfl (fun K hK => ?_) AllReady.nil
        go_simp
        go_at_call 41
        refine (HCS.out _).mono ?_
        rintro e W2 ⟨v3, rfl, ⟨A3, c3, rfl, ho3⟩, hb3⟩
        rw [HUL.out] at ho3
        rw [HUL.out]
        have HB_2 := Lib.hid (HB_1.out.trans (hb3.mono HB_1.out.size))
        have HO2 := Lib.hid (RowAt.of_own ho3); clear ho3
        have HRX2 := Lib.hid (HRX1.out.keep hb3)
        clear HRX1
        clear hb3 HB_1 rc1
        have rc2 := HKC.out W2 (HB2.out.trans (HB_2.out.mono (by omega)))
        refine hK _ _ ?_; clear hK K
        refine wpAny_ready (rs := [3]) (by kernel_rfl) (by simp) ?_
        refine AllReady.cons rfl (fun K hK => ?_) AllReady.nil
        go_simp
        go_at_call 83
        refine (HCA.out _ (HG2.out.trans (HB_2.out.mono HG2.out.size)) A3 c3 HO2.out).mono ?_
        rintro e W3 ⟨rfl, hb4⟩
        have HB_3 := Lib.hid (HB_2.out.trans (hb4.mono HB_2.out.size))
        have HRX3 := Lib.hid (HRX2.out.keep hb4)
        clear HRX2
        clear hb4 HB_2 rc2 HO2
        have rc3 := HKC.out W3 (HB2.out.trans (HB_3.out.mono (by omega)))
        refine hK _ _ ?_; clear hK K
        refine wpAny_ready (rs := [5]) (by kernel_rfl) (by simp) ?_
        refine AllReady.cons rfl (fun K hK => ?_) AllReady.nil
        obtain ⟨m0, z0⟩ := HRX3.out.cell (k := 0) (by simp)
        obtain ⟨m1, z1⟩ := HRX3.out.cell (k := 1) (by simp)
        obtain ⟨m2, z2⟩ := HRX3.out.cell (k := 2) (by simp)
        obtain ⟨m3, z3⟩ := HRX3.out.cell (k := 3) (by simp)
        simp at m0 m1 m2 m3
        have hXs := HRX3.out.ge.2
        go_simp
        refine hK _ _ ?_; clear hK K
        refine wpAny_done (by kernel_rfl) ?_ _
        have HR5 := Lib.hid (show RI 98 X X [a0, a1, a2, a3] ((((W3.setCell ⟨X, 0, none⟩ (.int .i64 a0)).setCell ⟨X, 1, none⟩ (.int .i64 a1)).setCell ⟨X, 2, none⟩ (.int .i64 a2)).setCell ⟨X, 3, none⟩ (.int .i64 a3)) from ((((HRX3.out.put 0 a0).put 1 a1).put 2 a2).put 3 a3))
        have HB5 := Lib.hid (show Below w2.heap.size w2 ((((W3.setCell ⟨X, 0, none⟩ (.int .i64 a0)).setCell ⟨X, 1, none⟩ (.int .i64 a1)).setCell ⟨X, 2, none⟩ (.int .i64 a2)).setCell ⟨X, 3, none⟩ (.int .i64 a3)) from ((((HB_3.out.setCell (p := ⟨X, 0, none⟩) hXw (.int .i64 a0)).setCell (p := ⟨X, 1, none⟩) hXw (.int .i64 a1)).setCell (p := ⟨X, 2, none⟩) hXw (.int .i64 a2)).setCell (p := ⟨X, 3, none⟩) hXw (.int .i64 a3)))
        clear HRX3 HB_3 rc3
        generalize ((((W3.setCell ⟨X, 0, none⟩ (.int .i64 a0)).setCell ⟨X, 1, none⟩ (.int .i64 a1)).setCell ⟨X, 2, none⟩ (.int .i64 a2)).setCell ⟨X, 3, none⟩ (.int .i64 a3)) = W5 at *
        go_wp2_with fail
        refine (HEND.out X W5 HB5.out HR5.out).mono ?_
        rintro e w6 ⟨v6, rfl, hp6⟩
        have HP6 := Lib.hid hp6; clear hp6
        go_wp2_with fail
        go_ret2
        exact ⟨_, rfl, HP6.out⟩
      · go_simp
        refine hK _ _ ?_; clear hK K
        refine wpAny_ready (rs := [0, 2]) (by kernel_rfl) (by simp) ?_
        refine AllReady.cons rfl (fun K hK => ?_) (AllReady.cons rfl (fun K hK => ?_) AllReady.nil)
        · go_simp
          refine hK _ _ ?_; clear hK K
          refine wpAny_ready (rs := [2]) (by kernel_rfl) (by simp) ?_
          refine AllReady.cons rfl (fun K hK => ?_) AllReady.nil
          go_simp
          go_at_call 41
          refine (HCS.out _).mono ?_
          rintro e W2 ⟨v3, rfl, ⟨A3, c3, rfl, ho3⟩, hb3⟩
          rw [HUL.out] at ho3
          rw [HUL.out]
          have HB_2 := Lib.hid (HB_1.out.trans (hb3.mono HB_1.out.size))
          have HO2 := Lib.hid (RowAt.of_own ho3); clear ho3
          have HRX2 := Lib.hid (HRX1.out.keep hb3)
          clear HRX1
          clear hb3 HB_1 rc1
          have rc2 := HKC.out W2 (HB2.out.trans (HB_2.out.mono (by omega)))
          refine hK _ _ ?_; clear hK K
          refine wpAny_ready (rs := [3]) (by kernel_rfl) (by simp) ?_
          refine AllReady.cons rfl (fun K hK => ?_) AllReady.nil
          go_simp
          go_at_call 83
          refine (HCA.out _ (HG2.out.trans (HB_2.out.mono HG2.out.size)) A3 c3 HO2.out).mono ?_
          rintro e W3 ⟨rfl, hb4⟩
          have HB_3 := Lib.hid (HB_2.out.trans (hb4.mono HB_2.out.size))
          have HRX3 := Lib.hid (HRX2.out.keep hb4)
          clear HRX2
          clear hb4 HB_2 rc2 HO2
          have rc3 := HKC.out W3 (HB2.out.trans (HB_3.out.mono (by omega)))
          refine hK _ _ ?_; clear hK K
          refine wpAny_ready (rs := [5]) (by kernel_rfl) (by simp) ?_
          refine AllReady.cons rfl (fun K hK => ?_) AllReady.nil
          obtain ⟨m0, z0⟩ := HRX3.out.cell (k := 0) (by simp)
          obtain ⟨m1, z1⟩ := HRX3.out.cell (k := 1) (by simp)
          obtain ⟨m2, z2⟩ := HRX3.out.cell (k := 2) (by simp)
          obtain ⟨m3, z3⟩ := HRX3.out.cell (k := 3) (by simp)
          simp at m0 m1 m2 m3
          have hXs := HRX3.out.ge.2
          go_simp
          refine hK _ _ ?_; clear hK K
          refine wpAny_done (by kernel_rfl) ?_ _
          have HR5 := Lib.hid (show RI 98 X X [a0, a1, a2, a3] ((((W3.setCell ⟨X, 0, none⟩ (.int .i64 a0)).setCell ⟨X, 1, none⟩ (.int .i64 a1)).setCell ⟨X, 2, none⟩ (.int .i64 a2)).setCell ⟨X, 3, none⟩ (.int .i64 a3)) from ((((HRX3.out.put 0 a0).put 1 a1).put 2 a2).put 3 a3))
          have HB5 := Lib.hid (show Below w2.heap.size w2 ((((W3.setCell ⟨X, 0, none⟩ (.int .i64 a0)).setCell ⟨X, 1, none⟩ (.int .i64 a1)).setCell ⟨X, 2, none⟩ (.int .i64 a2)).setCell ⟨X, 3, none⟩ (.int .i64 a3)) from ((((HB_3.out.setCell (p := ⟨X, 0, none⟩) hXw (.int .i64 a0)).setCell (p := ⟨X, 1, none⟩) hXw (.int .i64 a1)).setCell (p := ⟨X, 2, none⟩) hXw (.int .i64 a2)).setCell (p := ⟨X, 3, none⟩) hXw (.int .i64 a3)))
          clear HRX3 HB_3 rc3
          generalize ((((W3.setCell ⟨X, 0, none⟩ (.int .i64 a0)).setCell ⟨X, 1, none⟩ (.int .i64 a1)).setCell ⟨X, 2, none⟩ (.int .i64 a2)).setCell ⟨X, 3, none⟩ (.int .i64 a3)) = W5 at *
          go_wp2_with fail
          refine (HEND.out X W5 HB5.out HR5.out).mono ?_
          rintro e w6 ⟨v6, rfl, hp6⟩
          have HP6 := Lib.hid hp6; clear hp6
          go_wp2_with fail
          go_ret2
          exact ⟨_, rfl, HP6.out⟩
        · go_simp
          go_at_call 41
          refine (HCS.out _).mono ?_
          rintro e W2 ⟨v3, rfl, ⟨A3, c3, rfl, ho3⟩, hb3⟩
          rw [HUL.out] at ho3
          rw [HUL.out]
          have HB_2 := Lib.hid (HB_1.out.trans (hb3.mono HB_1.out.size))
          have HO2 := Lib.hid (RowAt.of_own ho3); clear ho3
          have HRX2 := Lib.hid (HRX1.out.keep hb3)
          clear HRX1
          clear hb3 HB_1 rc1
          have rc2 := HKC.out W2 (HB2.out.trans (HB_2.out.mono (by omega)))
          refine hK _ _ ?_; clear hK K
          refine wpAny_ready (rs := [0]) (by kernel_rfl) (by simp) ?_
          refine AllReady.cons rfl (fun K hK => ?_) AllReady.nil
          go_simp
          refine hK _ _ ?_; clear hK K
          refine wpAny_ready (rs := [3]) (by kernel_rfl) (by simp) ?_
          refine AllReady.cons rfl (fun K hK => ?_) AllReady.nil
          go_simp
          go_at_call 83
          refine (HCA.out _ (HG2.out.trans (HB_2.out.mono HG2.out.size)) A3 c3 HO2.out).mono ?_
          rintro e W3 ⟨rfl, hb4⟩
          have HB_3 := Lib.hid (HB_2.out.trans (hb4.mono HB_2.out.size))
          have HRX3 := Lib.hid (HRX2.out.keep hb4)
          clear HRX2
          clear hb4 HB_2 rc2 HO2
          have rc3 := HKC.out W3 (HB2.out.trans (HB_3.out.mono (by omega)))
          refine hK _ _ ?_; clear hK K
          refine wpAny_ready (rs := [5]) (by kernel_rfl) (by simp) ?_
          refine AllReady.cons rfl (fun K hK => ?_) AllReady.nil
          obtain ⟨m0, z0⟩ := HRX3.out.cell (k := 0) (by simp)
          obtain ⟨m1, z1⟩ := HRX3.out.cell (k := 1) (by simp)
          obtain ⟨m2, z2⟩ := HRX3.out.cell (k := 2) (by simp)
          obtain ⟨m3, z3⟩ := HRX3.out.cell (k := 3) (by simp)
          simp at m0 m1 m2 m3
          have hXs := HRX3.out.ge.2
          go_simp
          refine hK _ _ ?_; clear hK K
          refine wpAny_done (by kernel_rfl) ?_ _
          have HR5 := Lib.hid (show RI 98 X X [a0, a1, a2, a3] ((((W3.setCell ⟨X, 0, none⟩ (.int .i64 a0)).setCell ⟨X, 1, none⟩ (.int .i64 a1)).setCell ⟨X, 2, none⟩ (.int .i64 a2)).setCell ⟨X, 3, none⟩ (.int .i64 a3)) from ((((HRX3.out.put 0 a0).put 1 a1).put 2 a2).put 3 a3))
          have HB5 := Lib.hid (show Below w2.heap.size w2 ((((W3.setCell ⟨X, 0, none⟩ (.int .i64 a0)).setCell ⟨X, 1, none⟩ (.int .i64 a1)).setCell ⟨X, 2, none⟩ (.int .i64 a2)).setCell ⟨X, 3, none⟩ (.int .i64 a3)) from ((((HB_3.out.setCell (p := ⟨X, 0, none⟩) hXw (.int .i64 a0)).setCell (p := ⟨X, 1, none⟩) hXw (.int .i64 a1)).setCell (p := ⟨X, 2, none⟩) hXw (.int .i64 a2)).setCell (p := ⟨X, 3, none⟩) hXw (.int .i64 a3)))
          clear HRX3 HB_3 rc3
          generalize ((((W3.setCell ⟨X, 0, none⟩ (.int .i64 a0)).setCell ⟨X, 1, none⟩ (.int .i64 a1)).setCell ⟨X, 2, none⟩ (.int .i64 a2)).setCell ⟨X, 3, none⟩ (.int .i64 a3)) = W5 at *
          go_wp2_with fail
          refine (HEND.out X W5 HB5.out HR5.out).mono ?_
          rintro e w6 ⟨v6, rfl, hp6⟩
          have HP6 := Lib.hid hp6; clear hp6
          go_wp2_with fail
          go_ret2
          exact ⟨_, rfl, HP6.out⟩
end Go.Proofs.Ytdpehojcoohjcab
