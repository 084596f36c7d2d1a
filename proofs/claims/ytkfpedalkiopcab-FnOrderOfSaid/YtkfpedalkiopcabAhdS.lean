/- Contracts of aheadOf and AheadOf of the model (chapter 8). Conditions: the acts lie in a row; they are few. -/
import Derived.Test.YtkfpedalkiopcabRowI
import Derived.Deep.RegionHeld3
import Derived.StillTailTactics
set_option linter.unusedVariables false
set_option linter.unusedSimpArgs false
namespace Go.Proofs.Ytkfpedalkiopcab
open Go.RowKit Go.ChangeShapes Go.WideShapes

set_option maxRecDepth 100000 in
set_option maxHeartbeats 4000000 in
theorem sAhead_any (A : Option Addr) (n c : Nat) (l : List Ac) (w : World) (hr : RowAt w w.heap.size A (acsC l)) (hn : n = l.length) (hs : n ≤ 1048576) (hok : ∀ x ∈ l, okAc x = true) :
    Calls Try.prog 50 #[.slice A n c] w (IntsPost (natI (aheadL l)) w) := by
  obtain ⟨i0, hi0, hz0, hz1, hz2⟩ := info_parts intInfo
  have hb2 : i0.bytes * 4 ≤ 281474976710656 := by rw [hz2]; omega
  have HI := Lib.hid (And.intro hi0 (And.intro hz0 (And.intro hz1 hz2))); clear hi0 hz0 hz1 hz2
  have HR := Lib.hid hr; clear hr
  have HN := Lib.hid hn; clear hn
  have HOK := Lib.hid hok; clear hok
  go_enter Try.func50, Try.ntmps50
  go_wp2_with ((refine wpList_make_full _ rfl _ _ 27 rfl w.heap.size 3 i0 (.int .i64 0) 1 Try.underlying27 HI.out.1 HI.out.2.1 HI.out.2.2.1 .i64 .i64 _ _ 4 rfl rfl rfl rfl hb2 (by unfold maxLen; omega) (Nat.le_refl _) ?_
                intro w1 hown hg1))
  have HF := Lib.hid (show RI 3 w.heap.size w.heap.size (natI (List.replicate 4 0)) w1 from RI.made hown)
  have HB1 := Lib.hid (show Below w.heap.size w w1 from (Below.refl _ _).grown hg1 (Nat.le_refl _) (by simp))
  clear hown hg1
  clear hb2
  go_loopw [4] (fun i wr => ∃ (k : Nat) (S : List Nat), i = .int .i64 k ∧ k ≤ n ∧ SetsOf 4 S (HasP l (QM k (k + 1))) ∧ RI 3 w.heap.size w.heap.size (natI S) wr ∧ Below w.heap.size w wr) (fun i _ => n - (intOf i).toNat)
  case atStart => exact ⟨0, List.replicate 4 0, rfl, by omega, SetsOf.start (fun p j => HasP.none (fun a b hab => by unfold QM; omega)), HF.out, HB1.out⟩
  case round =>
    clear HF HB1
    obtain ⟨k, S, rfl, hk, hS, hRI, hb⟩ := hrel
    have HS := Lib.hid hS; clear hS
    have HRI := Lib.hid hRI; clear hRI
    have HB := Lib.hid hb; clear hb
    by_cases hlt : k < n
    · have hkl : k < l.length := by have := HN.out; omega
      go_wp2_with fail
      go_loopw [5] (fun i wr => ∃ (m : Nat) (S : List Nat), i = .int .i64 m ∧ k + 1 ≤ m ∧ m ≤ n ∧ SetsOf 4 S (HasP l (QM k m)) ∧ RI 3 w.heap.size w.heap.size (natI S) wr ∧ Below w.heap.size w wr) (fun i _ => n - (intOf i).toNat)
      case atStart => exact ⟨k + 1, S, by go_num, by omega, by omega, HS.out, HRI.out, HB.out⟩
      case round =>
        clear HS HRI HB
        obtain ⟨m, S, rfl, hkm, hm, hS, hRI, hb⟩ := hrel
        have HS := Lib.hid hS; clear hS
        have HRI := Lib.hid hRI; clear hRI
        have HB := Lib.hid hb; clear hb
        by_cases hlt2 : m < n
        · have hml : m < l.length := by have := HN.out; omega
          obtain ⟨b, off, hA, hbw, e0, e1, e2⟩ := acs_at (HR.out.below HB.out) hkl
          obtain ⟨b', off', hA', _, d0, d1, d2⟩ := acs_at (HR.out.below HB.out) hml
          rw [hA] at hA'
          injection hA' with hA'
          injection hA' with q1 q2
          subst q1 q2
          subst hA
          have HC := Lib.hid (fun w => sClash_any l[k].1 l[k].2.1 l[k].2.2 l[m].1 l[m].2.1 l[m].2.2 w)
          have hR : ∀ a b, QM k (m + 1) a b ↔ (QM k m a b ∨ (a = k ∧ b = m)) := fun a b => by unfold QM; omega
          cases hc : clashB l[k] l[m]
          · have HX := Lib.hid (HS.out.congr (fun p j _ _ => HasP.skip hkl hml hc hR p j))
            rw [show clashB (l[k].1, l[k].2.1, l[k].2.2) (l[m].1, l[m].2.1, l[m].2.2) = false from hc] at HC
            clear hR hc
            generalize l[k].1 = x0 at *
            generalize l[k].2.1 = x1 at *
            generalize l[k].2.2 = x2 at *
            generalize l[m].1 = y0 at *
            generalize l[m].2.1 = y1 at *
            generalize l[m].2.2 = y2 at *
            have hi0 : (k : Int) < (n : Int) := by omega
            have hi1 : (m : Int) < (n : Int) := by omega
            have hi2 : (0 : Int) ≤ (m : Int) := by omega
            have hi3 : (0 : Int) ≤ (k : Int) := by omega
            go_wp2_with fail
            go_still_tail 8, (by kernel_rfl)
            go_wp2_with fail
            refine (HC.out _).mono ?_
            rintro e w3 ⟨rfl, hb3⟩
            have HW3 := Lib.hid (show Below wr.heap.size wr w3 from (below_drewN _ _).trans (hb3.mono (by simp))); clear hb3
            go_wp2_with fail
            go_roundw
            case rel => exact ⟨m + 1, S, by go_num, by omega, by omega, HX.out, HRI.out.keep HW3.out, HB.out.trans (HW3.out.mono HB.out.size)⟩
            case measure => simp [intOf]; omega
          · obtain ⟨p, hp4, hp⟩ := okAc_tx (HOK.out _ (List.getElem_mem hkl))
            obtain ⟨j, hj4, hj⟩ := okAc_tx (HOK.out _ (List.getElem_mem hml))
            have HX := Lib.hid ((HS.out.add hp4 hj4).congr (fun p' j' _ _ => HasP.clash (by omega) hkl hml hc hp hj hR p' j'))
            have hSl := HS.out.1
            have hSp := (HS.out.2 p hp4).1
            have HP := Lib.hid (fun w => sPower_any j _ w (by omega) rfl)
            have hq2 : (2 : Nat) ^ j < 2 ^ 5 := Nat.pow_lt_pow_right (by omega) (by omega)
            have HPUT := Lib.hid (fun W (h : RI 3 w.heap.size w.heap.size (natI S) W) x (hx : x = ((S.getD p 0 ||| 2 ^ j : Nat) : Int)) => (show RI 3 w.heap.size w.heap.size (natI (addE S p j)) (W.setCell ⟨w.heap.size, p, none⟩ (.int .i64 x)) by
              rw [addE, natI_set, hx]; exact h.put p _))
            have HCELL := Lib.hid (fun W (h : RI 3 w.heap.size w.heap.size (natI S) W) => (show W.cell? ⟨w.heap.size, p, none⟩ = some (.int .i64 ((S.getD p 0 : Nat) : Int)) ∧ W.frozen? ⟨w.heap.size, p, none⟩ = false by
              have := h.cell (k := p) (by rw [natI_len]; omega)
              rw [natI_get] at this; exact this))
            rw [show clashB (l[k].1, l[k].2.1, l[k].2.2) (l[m].1, l[m].2.1, l[m].2.2) = true from hc] at HC
            rw [hp] at e0 HC
            rw [hj] at d0 HC
            have hor := or_n (S.getD p 0) (2 ^ j) (by omega) (by omega)
            clear hR hc hp hj
            generalize S.getD p 0 = z at *
            generalize 2 ^ j = q at *
            generalize l[k].2.1 = x1 at *
            generalize l[k].2.2 = x2 at *
            generalize l[m].2.1 = y1 at *
            generalize l[m].2.2 = y2 at *
            have hi0 : (k : Int) < (n : Int) := by omega
            have hi1 : (m : Int) < (n : Int) := by omega
            have hi2 : (0 : Int) ≤ (m : Int) := by omega
            have hi3 : (0 : Int) ≤ (k : Int) := by omega
            have hi4 : (p : Int) < 4 := by omega
            have hi5 : (0 : Int) ≤ (p : Int) := by omega
            have hbw2 : b < wr.heap.size := Nat.lt_of_lt_of_le hbw HB.out.size
            have HE := Lib.hid (And.intro e0 (And.intro e1 (And.intro e2 (And.intro d0 (And.intro d1 d2)))))
            go_wp2_with fail
            go_still_tail 8, (by kernel_rfl)
            go_wp2_with fail
            refine (HC.out _).mono ?_
            rintro e w3 ⟨rfl, hb3⟩
            have HW4 := Lib.hid (show Below wr.heap.size wr w3 from (below_drewN _ _).trans (hb3.mono (by simp))); clear hb3
            have f0 := (HW4.out.cell (p := ⟨b, off + k * 3, none⟩) hbw2).trans HE.out.1
            have g0 := (HW4.out.cell (p := ⟨b, off + m * 3, none⟩) hbw2).trans HE.out.2.2.2.1
            have HRI3 := Lib.hid (HRI.out.keep HW4.out)
            have HB3 := Lib.hid (HB.out.trans (HW4.out.mono HB.out.size))
            obtain ⟨hc0, hz0⟩ := HCELL.out _ HRI3.out
            have hw3 : w.heap.size < w3.heap.size := HRI3.out.ge.2
            go_wp2_with fail
            refine wp_region_any (by kernel_rfl) ?_
            try (change wpAny _ _ _ _ _ _ _ (World.drew _))
            refine wpAny_take (i := 0) (v := ?_) rfl (by kernel_rfl) (by kernel_rfl) (by kernel_rfl) (fun _ _ _ h => h) (Or.inl ⟨by kernel_rfl, ?_⟩) ?_
            rotate_left
            · (intro w; go_simp; first | done | with_reducible rfl)
            conv => arg 7; simp [Act.put]
            refine wpAny_take (i := 1) (v := ?_) rfl (by kernel_rfl) (by kernel_rfl) (by kernel_rfl) (fun _ _ _ h => h) (Or.inl ⟨by kernel_rfl, ?_⟩) ?_
            rotate_left
            · (intro w; go_simp; first | done | with_reducible rfl)
            conv => arg 7; simp [Act.put]
            refine wpAny_take (i := 2) (v := ?_) rfl (by kernel_rfl) (by kernel_rfl) (by kernel_rfl) (fun _ _ _ h => h) (Or.inl ⟨by kernel_rfl, ?_⟩) ?_
            rotate_left
            · (intro w; go_simp; first | done | with_reducible rfl)
            conv => arg 7; simp [Act.put]
            refine wpAny_take (i := 3) (v := ?_) rfl (by kernel_rfl) (by kernel_rfl) (by kernel_rfl) (fun _ _ _ h => h) (Or.inl ⟨by kernel_rfl, ?_⟩) ?_
            rotate_left
            · (intro w; go_simp; first | done | with_reducible rfl)
            conv => arg 7; simp [Act.put]
            refine wpAny_take (i := 4) (v := ?_) rfl (by kernel_rfl) (by kernel_rfl) (by kernel_rfl) (fun _ _ _ h => h) (Or.inl ⟨by kernel_rfl, ?_⟩) ?_
            rotate_left
            · (intro w; go_simp; first | done | with_reducible rfl)
            conv => arg 7; simp [Act.put]
            refine wpAny_take (i := 6) (v := ?_) rfl (by kernel_rfl) (by kernel_rfl) (by kernel_rfl) (fun _ _ _ h => h) (Or.inl ⟨by kernel_rfl, ?_⟩) ?_
            rotate_left
            · (intro w; go_simp; first | done | with_reducible rfl)
            conv => arg 7; simp [Act.put]
            refine wpAny_take (i := 7) (v := ?_) rfl (by kernel_rfl) (by kernel_rfl) (by kernel_rfl) (fun _ _ _ h => h) (Or.inl ⟨by kernel_rfl, ?_⟩) ?_
            rotate_left
            · (intro w; go_simp; first | done | with_reducible rfl)
            conv => arg 7; simp [Act.put]
            refine wpAny_take (i := 8) (v := ?_) rfl (by kernel_rfl) (by kernel_rfl) (by kernel_rfl) (fun _ _ _ h => h) (Or.inl ⟨by kernel_rfl, ?_⟩) ?_
            rotate_left
            · (intro w; go_simp; first | done | with_reducible rfl)
            conv => arg 7; simp [Act.put]
            refine wpAny_take (i := 9) (v := ?_) rfl (by kernel_rfl) (by kernel_rfl) (by kernel_rfl) (fun _ _ _ h => h) (Or.inl ⟨by kernel_rfl, ?_⟩) ?_
            rotate_left
            · (intro w; go_simp; first | done | with_reducible rfl)
            conv => arg 7; simp [Act.put]
            refine wpAny_take (i := 10) (v := ?_) rfl (by kernel_rfl) (by kernel_rfl) (by kernel_rfl) (fun _ _ _ h => h) (Or.inl ⟨by kernel_rfl, ?_⟩) ?_
            rotate_left
            · (intro w; go_simp; first | done | with_reducible rfl)
            conv => arg 7; simp [Act.put]
            refine wpAny_take (i := 14) (v := ?_) rfl (by kernel_rfl) (by kernel_rfl) (by kernel_rfl) (fun _ _ _ h => h) (Or.inl ⟨by kernel_rfl, ?_⟩) ?_
            rotate_left
            · (intro w; go_simp; first | done | with_reducible rfl)
            conv => arg 7; simp [Act.put]
            refine wpAny_take (i := 15) (v := ?_) rfl (by kernel_rfl) (by kernel_rfl) (by kernel_rfl) (fun _ _ _ h => h) (Or.inl ⟨by kernel_rfl, ?_⟩) ?_
            rotate_left
            · (intro w; go_simp; first | done | with_reducible rfl)
            conv => arg 7; simp [Act.put]
            refine wpAny_take (i := 16) (v := ?_) rfl (by kernel_rfl) (by kernel_rfl) (by kernel_rfl) (fun _ _ _ h => h) (Or.inl ⟨by kernel_rfl, ?_⟩) ?_
            rotate_left
            · (intro w; go_simp; first | done | with_reducible rfl)
            conv => arg 7; simp [Act.put]
            refine wpAny_take (i := 17) (v := ?_) rfl (by kernel_rfl) (by kernel_rfl) (by kernel_rfl) (fun _ _ _ h => h) (Or.inl ⟨by kernel_rfl, ?_⟩) ?_
            rotate_left
            · (intro w; go_simp; first | done | with_reducible rfl)
            conv => arg 7; simp [Act.put]
            refine wpAny_ready (rs := [5, 11, 18]) (by kernel_rfl) (by simp) ?_
            refine AllReady.cons rfl (fun K hK => ?_) (AllReady.cons rfl (fun K hK => ?_) (AllReady.cons rfl (fun K hK => ?_) AllReady.nil))
            · go_simp
              refine hK _ _ ?_; clear hK K
              refine wpAny_ready (rs := [11, 18]) (by kernel_rfl) (by simp) ?_
              refine AllReady.cons rfl (fun K hK => ?_) (AllReady.cons rfl (fun K hK => ?_) AllReady.nil)
              · go_simp
                refine hK _ _ ?_; clear hK K
                refine wpAny_take (i := 12) (v := ?_) rfl (by kernel_rfl) (by kernel_rfl) (by kernel_rfl) (fun _ _ _ h => h) (Or.inl ⟨by kernel_rfl, ?_⟩) ?_
                rotate_left
                · (intro w; go_simp; first | done | with_reducible rfl)
                conv => arg 7; simp [Act.put]
                refine wpAny_ready (rs := [13, 18]) (by kernel_rfl) (by simp) ?_
                refine AllReady.cons rfl (fun K hK => ?_) (AllReady.cons rfl (fun K hK => ?_) AllReady.nil)
                · go_simp
                  refine hK _ _ ?_; clear hK K
                  refine wpAny_ready (rs := [18]) (by kernel_rfl) (by simp) ?_
                  refine AllReady.cons rfl (fun K hK => ?_) AllReady.nil
                  go_simp
                  refine hK _ _ ?_; clear hK K
                  refine wpAny_ready (rs := [19]) (by kernel_rfl) (by simp) ?_
                  refine AllReady.cons rfl (fun K hK => ?_) AllReady.nil
                  go_simp
                  go_at_call 82
                  refine (HP.out _).mono ?_
                  rintro e w4 ⟨rfl, hw4⟩
                  obtain rfl := hw4.symm
                  refine hK _ _ ?_; clear hK K
                  refine wpAny_take (i := 20) (v := ?_) rfl (by kernel_rfl) (by kernel_rfl) (by kernel_rfl) (fun _ _ _ h => h) (Or.inl ⟨by kernel_rfl, ?_⟩) ?_
                  rotate_left
                  · (intro w; go_simp; first | done | with_reducible rfl)
                  conv => arg 7; simp [Act.put]
                  refine wpAny_take (i := 21) (v := ?_) rfl (by kernel_rfl) (by kernel_rfl) (by kernel_rfl) (fun _ _ _ h => h) (Or.inl ⟨by kernel_rfl, ?_⟩) ?_
                  rotate_left
                  · (intro w; go_simp; first | done | with_reducible rfl)
                  conv => arg 7; simp [Act.put]
                  refine wpAny_ready (rs := [22]) (by kernel_rfl) (by simp) ?_
                  refine AllReady.cons rfl (fun K hK => ?_) AllReady.nil
                  go_simp
                  refine hK _ _ ?_; clear hK K
                  refine wpAny_done (by kernel_rfl) ?_ _
                  go_wp2_with fail
                  go_roundw
                  case rel => exact ⟨m + 1, addE S p j, by go_num, by omega, by omega, HX.out, by first | exact HPUT.out _ HRI3.out _ rfl | exact HPUT.out _ (HRI3.out.keep (below_drewN _ _)) _ rfl, by first | exact HB3.out.setCell (Nat.le_refl _) _ | exact (HB3.out.trans (below_drewN _ _)).setCell (Nat.le_refl _) _⟩
                  case measure => simp [intOf]; omega
                · go_simp
                  refine hK _ _ ?_; clear hK K
                  refine wpAny_ready (rs := [13, 19]) (by kernel_rfl) (by simp) ?_
                  refine AllReady.cons rfl (fun K hK => ?_) (AllReady.cons rfl (fun K hK => ?_) AllReady.nil)
                  · go_simp
                    refine hK _ _ ?_; clear hK K
                    refine wpAny_ready (rs := [19]) (by kernel_rfl) (by simp) ?_
                    refine AllReady.cons rfl (fun K hK => ?_) AllReady.nil
                    go_simp
                    go_at_call 82
                    refine (HP.out _).mono ?_
                    rintro e w4 ⟨rfl, hw4⟩
                    obtain rfl := hw4.symm
                    refine hK _ _ ?_; clear hK K
                    refine wpAny_take (i := 20) (v := ?_) rfl (by kernel_rfl) (by kernel_rfl) (by kernel_rfl) (fun _ _ _ h => h) (Or.inl ⟨by kernel_rfl, ?_⟩) ?_
                    rotate_left
                    · (intro w; go_simp; first | done | with_reducible rfl)
                    conv => arg 7; simp [Act.put]
                    refine wpAny_take (i := 21) (v := ?_) rfl (by kernel_rfl) (by kernel_rfl) (by kernel_rfl) (fun _ _ _ h => h) (Or.inl ⟨by kernel_rfl, ?_⟩) ?_
                    rotate_left
                    · (intro w; go_simp; first | done | with_reducible rfl)
                    conv => arg 7; simp [Act.put]
                    refine wpAny_ready (rs := [22]) (by kernel_rfl) (by simp) ?_
                    refine AllReady.cons rfl (fun K hK => ?_) AllReady.nil
                    go_simp
                    refine hK _ _ ?_; clear hK K
                    refine wpAny_done (by kernel_rfl) ?_ _
                    go_wp2_with fail
                    go_roundw
                    case rel => exact ⟨m + 1, addE S p j, by go_num, by omega, by omega, HX.out, by first | exact HPUT.out _ HRI3.out _ rfl | exact HPUT.out _ (HRI3.out.keep (below_drewN _ _)) _ rfl, by first | exact HB3.out.setCell (Nat.le_refl _) _ | exact (HB3.out.trans (below_drewN _ _)).setCell (Nat.le_refl _) _⟩
                    case measure => simp [intOf]; omega
                  · go_simp
                    go_at_call 82
                    refine (HP.out _).mono ?_
                    rintro e w4 ⟨rfl, hw4⟩
                    obtain rfl := hw4.symm
                    refine hK _ _ ?_; clear hK K
                    refine wpAny_ready (rs := [13]) (by kernel_rfl) (by simp) ?_
                    refine AllReady.cons rfl (fun K hK => ?_) AllReady.nil
                    go_simp
                    refine hK _ _ ?_; clear hK K
                    refine wpAny_take (i := 20) (v := ?_) rfl (by kernel_rfl) (by kernel_rfl) (by kernel_rfl) (fun _ _ _ h => h) (Or.inl ⟨by kernel_rfl, ?_⟩) ?_
                    rotate_left
                    · (intro w; go_simp; first | done | with_reducible rfl)
                    conv => arg 7; simp [Act.put]
                    refine wpAny_take (i := 21) (v := ?_) rfl (by kernel_rfl) (by kernel_rfl) (by kernel_rfl) (fun _ _ _ h => h) (Or.inl ⟨by kernel_rfl, ?_⟩) ?_
                    rotate_left
                    · (intro w; go_simp; first | done | with_reducible rfl)
                    conv => arg 7; simp [Act.put]
                    refine wpAny_ready (rs := [22]) (by kernel_rfl) (by simp) ?_
                    refine AllReady.cons rfl (fun K hK => ?_) AllReady.nil
                    go_simp
                    refine hK _ _ ?_; clear hK K
                    refine wpAny_done (by kernel_rfl) ?_ _
                    go_wp2_with fail
                    go_roundw
                    case rel => exact ⟨m + 1, addE S p j, by go_num, by omega, by omega, HX.out, by first | exact HPUT.out _ HRI3.out _ rfl | exact HPUT.out _ (HRI3.out.keep (below_drewN _ _)) _ rfl, by first | exact HB3.out.setCell (Nat.le_refl _) _ | exact (HB3.out.trans (below_drewN _ _)).setCell (Nat.le_refl _) _⟩
                    case measure => simp [intOf]; omega
              · go_simp
                refine hK _ _ ?_; clear hK K
                refine wpAny_ready (rs := [11, 19]) (by kernel_rfl) (by simp) ?_
                refine AllReady.cons rfl (fun K hK => ?_) (AllReady.cons rfl (fun K hK => ?_) AllReady.nil)
                · go_simp
                  refine hK _ _ ?_; clear hK K
                  refine wpAny_take (i := 12) (v := ?_) rfl (by kernel_rfl) (by kernel_rfl) (by kernel_rfl) (fun _ _ _ h => h) (Or.inl ⟨by kernel_rfl, ?_⟩) ?_
                  rotate_left
                  · (intro w; go_simp; first | done | with_reducible rfl)
                  conv => arg 7; simp [Act.put]
                  refine wpAny_ready (rs := [13, 19]) (by kernel_rfl) (by simp) ?_
                  refine AllReady.cons rfl (fun K hK => ?_) (AllReady.cons rfl (fun K hK => ?_) AllReady.nil)
                  · go_simp
                    refine hK _ _ ?_; clear hK K
                    refine wpAny_ready (rs := [19]) (by kernel_rfl) (by simp) ?_
                    refine AllReady.cons rfl (fun K hK => ?_) AllReady.nil
                    go_simp
                    go_at_call 82
                    refine (HP.out _).mono ?_
                    rintro e w4 ⟨rfl, hw4⟩
                    obtain rfl := hw4.symm
                    refine hK _ _ ?_; clear hK K
                    refine wpAny_take (i := 20) (v := ?_) rfl (by kernel_rfl) (by kernel_rfl) (by kernel_rfl) (fun _ _ _ h => h) (Or.inl ⟨by kernel_rfl, ?_⟩) ?_
                    rotate_left
                    · (intro w; go_simp; first | done | with_reducible rfl)
                    conv => arg 7; simp [Act.put]
                    refine wpAny_take (i := 21) (v := ?_) rfl (by kernel_rfl) (by kernel_rfl) (by kernel_rfl) (fun _ _ _ h => h) (Or.inl ⟨by kernel_rfl, ?_⟩) ?_
                    rotate_left
                    · (intro w; go_simp; first | done | with_reducible rfl)
                    conv => arg 7; simp [Act.put]
                    refine wpAny_ready (rs := [22]) (by kernel_rfl) (by simp) ?_
                    refine AllReady.cons rfl (fun K hK => ?_) AllReady.nil
                    go_simp
                    refine hK _ _ ?_; clear hK K
                    refine wpAny_done (by kernel_rfl) ?_ _
                    go_wp2_with fail
                    go_roundw
                    case rel => exact ⟨m + 1, addE S p j, by go_num, by omega, by omega, HX.out, by first | exact HPUT.out _ HRI3.out _ rfl | exact HPUT.out _ (HRI3.out.keep (below_drewN _ _)) _ rfl, by first | exact HB3.out.setCell (Nat.le_refl _) _ | exact (HB3.out.trans (below_drewN _ _)).setCell (Nat.le_refl _) _⟩
                    case measure => simp [intOf]; omega
                  · go_simp
                    go_at_call 82
                    refine (HP.out _).mono ?_
                    rintro e w4 ⟨rfl, hw4⟩
                    obtain rfl := hw4.symm
                    refine hK _ _ ?_; clear hK K
                    refine wpAny_ready (rs := [13]) (by kernel_rfl) (by simp) ?_
                    refine AllReady.cons rfl (fun K hK => ?_) AllReady.nil
                    go_simp
                    refine hK _ _ ?_; clear hK K
                    refine wpAny_take (i := 20) (v := ?_) rfl (by kernel_rfl) (by kernel_rfl) (by kernel_rfl) (fun _ _ _ h => h) (Or.inl ⟨by kernel_rfl, ?_⟩) ?_
                    rotate_left
                    · (intro w; go_simp; first | done | with_reducible rfl)
                    conv => arg 7; simp [Act.put]
                    refine wpAny_take (i := 21) (v := ?_) rfl (by kernel_rfl) (by kernel_rfl) (by kernel_rfl) (fun _ _ _ h => h) (Or.inl ⟨by kernel_rfl, ?_⟩) ?_
                    rotate_left
                    · (intro w; go_simp; first | done | with_reducible rfl)
                    conv => arg 7; simp [Act.put]
                    refine wpAny_ready (rs := [22]) (by kernel_rfl) (by simp) ?_
                    refine AllReady.cons rfl (fun K hK => ?_) AllReady.nil
                    go_simp
                    refine hK _ _ ?_; clear hK K
                    refine wpAny_done (by kernel_rfl) ?_ _
                    go_wp2_with fail
                    go_roundw
                    case rel => exact ⟨m + 1, addE S p j, by go_num, by omega, by omega, HX.out, by first | exact HPUT.out _ HRI3.out _ rfl | exact HPUT.out _ (HRI3.out.keep (below_drewN _ _)) _ rfl, by first | exact HB3.out.setCell (Nat.le_refl _) _ | exact (HB3.out.trans (below_drewN _ _)).setCell (Nat.le_refl _) _⟩
                    case measure => simp [intOf]; omega
                · go_simp
                  go_at_call 82
                  refine (HP.out _).mono ?_
                  rintro e w4 ⟨rfl, hw4⟩
                  obtain rfl := hw4.symm
                  refine hK _ _ ?_; clear hK K
                  refine wpAny_ready (rs := [11]) (by kernel_rfl) (by simp) ?_
                  refine AllReady.cons rfl (fun K hK => ?_) AllReady.nil
                  go_simp
                  refine hK _ _ ?_; clear hK K
                  refine wpAny_take (i := 12) (v := ?_) rfl (by kernel_rfl) (by kernel_rfl) (by kernel_rfl) (fun _ _ _ h => h) (Or.inl ⟨by kernel_rfl, ?_⟩) ?_
                  rotate_left
                  · (intro w; go_simp; first | done | with_reducible rfl)
                  conv => arg 7; simp [Act.put]
                  refine wpAny_ready (rs := [13]) (by kernel_rfl) (by simp) ?_
                  refine AllReady.cons rfl (fun K hK => ?_) AllReady.nil
                  go_simp
                  refine hK _ _ ?_; clear hK K
                  refine wpAny_take (i := 20) (v := ?_) rfl (by kernel_rfl) (by kernel_rfl) (by kernel_rfl) (fun _ _ _ h => h) (Or.inl ⟨by kernel_rfl, ?_⟩) ?_
                  rotate_left
                  · (intro w; go_simp; first | done | with_reducible rfl)
                  conv => arg 7; simp [Act.put]
                  refine wpAny_take (i := 21) (v := ?_) rfl (by kernel_rfl) (by kernel_rfl) (by kernel_rfl) (fun _ _ _ h => h) (Or.inl ⟨by kernel_rfl, ?_⟩) ?_
                  rotate_left
                  · (intro w; go_simp; first | done | with_reducible rfl)
                  conv => arg 7; simp [Act.put]
                  refine wpAny_ready (rs := [22]) (by kernel_rfl) (by simp) ?_
                  refine AllReady.cons rfl (fun K hK => ?_) AllReady.nil
                  go_simp
                  refine hK _ _ ?_; clear hK K
                  refine wpAny_done (by kernel_rfl) ?_ _
                  go_wp2_with fail
                  go_roundw
                  case rel => exact ⟨m + 1, addE S p j, by go_num, by omega, by omega, HX.out, by first | exact HPUT.out _ HRI3.out _ rfl | exact HPUT.out _ (HRI3.out.keep (below_drewN _ _)) _ rfl, by first | exact HB3.out.setCell (Nat.le_refl _) _ | exact (HB3.out.trans (below_drewN _ _)).setCell (Nat.le_refl _) _⟩
                  case measure => simp [intOf]; omega
            · go_simp
              refine hK _ _ ?_; clear hK K
              refine wpAny_take (i := 12) (v := ?_) rfl (by kernel_rfl) (by kernel_rfl) (by kernel_rfl) (fun _ _ _ h => h) (Or.inl ⟨by kernel_rfl, ?_⟩) ?_
              rotate_left
              · (intro w; go_simp; first | done | with_reducible rfl)
              conv => arg 7; simp [Act.put]
              refine wpAny_ready (rs := [5, 13, 18]) (by kernel_rfl) (by simp) ?_
              refine AllReady.cons rfl (fun K hK => ?_) (AllReady.cons rfl (fun K hK => ?_) (AllReady.cons rfl (fun K hK => ?_) AllReady.nil))
              · go_simp
                refine hK _ _ ?_; clear hK K
                refine wpAny_ready (rs := [13, 18]) (by kernel_rfl) (by simp) ?_
                refine AllReady.cons rfl (fun K hK => ?_) (AllReady.cons rfl (fun K hK => ?_) AllReady.nil)
                · go_simp
                  refine hK _ _ ?_; clear hK K
                  refine wpAny_ready (rs := [18]) (by kernel_rfl) (by simp) ?_
                  refine AllReady.cons rfl (fun K hK => ?_) AllReady.nil
                  go_simp
                  refine hK _ _ ?_; clear hK K
                  refine wpAny_ready (rs := [19]) (by kernel_rfl) (by simp) ?_
                  refine AllReady.cons rfl (fun K hK => ?_) AllReady.nil
                  go_simp
                  go_at_call 82
                  refine (HP.out _).mono ?_
                  rintro e w4 ⟨rfl, hw4⟩
                  obtain rfl := hw4.symm
                  refine hK _ _ ?_; clear hK K
                  refine wpAny_take (i := 20) (v := ?_) rfl (by kernel_rfl) (by kernel_rfl) (by kernel_rfl) (fun _ _ _ h => h) (Or.inl ⟨by kernel_rfl, ?_⟩) ?_
                  rotate_left
                  · (intro w; go_simp; first | done | with_reducible rfl)
                  conv => arg 7; simp [Act.put]
                  refine wpAny_take (i := 21) (v := ?_) rfl (by kernel_rfl) (by kernel_rfl) (by kernel_rfl) (fun _ _ _ h => h) (Or.inl ⟨by kernel_rfl, ?_⟩) ?_
                  rotate_left
                  · (intro w; go_simp; first | done | with_reducible rfl)
                  conv => arg 7; simp [Act.put]
                  refine wpAny_ready (rs := [22]) (by kernel_rfl) (by simp) ?_
                  refine AllReady.cons rfl (fun K hK => ?_) AllReady.nil
                  go_simp
                  refine hK _ _ ?_; clear hK K
                  refine wpAny_done (by kernel_rfl) ?_ _
                  go_wp2_with fail
                  go_roundw
                  case rel => exact ⟨m + 1, addE S p j, by go_num, by omega, by omega, HX.out, by first | exact HPUT.out _ HRI3.out _ rfl | exact HPUT.out _ (HRI3.out.keep (below_drewN _ _)) _ rfl, by first | exact HB3.out.setCell (Nat.le_refl _) _ | exact (HB3.out.trans (below_drewN _ _)).setCell (Nat.le_refl _) _⟩
                  case measure => simp [intOf]; omega
                · go_simp
                  refine hK _ _ ?_; clear hK K
                  refine wpAny_ready (rs := [13, 19]) (by kernel_rfl) (by simp) ?_
                  refine AllReady.cons rfl (fun K hK => ?_) (AllReady.cons rfl (fun K hK => ?_) AllReady.nil)
                  · go_simp
                    refine hK _ _ ?_; clear hK K
                    refine wpAny_ready (rs := [19]) (by kernel_rfl) (by simp) ?_
                    refine AllReady.cons rfl (fun K hK => ?_) AllReady.nil
                    go_simp
                    go_at_call 82
                    refine (HP.out _).mono ?_
                    rintro e w4 ⟨rfl, hw4⟩
                    obtain rfl := hw4.symm
                    refine hK _ _ ?_; clear hK K
                    refine wpAny_take (i := 20) (v := ?_) rfl (by kernel_rfl) (by kernel_rfl) (by kernel_rfl) (fun _ _ _ h => h) (Or.inl ⟨by kernel_rfl, ?_⟩) ?_
                    rotate_left
                    · (intro w; go_simp; first | done | with_reducible rfl)
                    conv => arg 7; simp [Act.put]
                    refine wpAny_take (i := 21) (v := ?_) rfl (by kernel_rfl) (by kernel_rfl) (by kernel_rfl) (fun _ _ _ h => h) (Or.inl ⟨by kernel_rfl, ?_⟩) ?_
                    rotate_left
                    · (intro w; go_simp; first | done | with_reducible rfl)
                    conv => arg 7; simp [Act.put]
                    refine wpAny_ready (rs := [22]) (by kernel_rfl) (by simp) ?_
                    refine AllReady.cons rfl (fun K hK => ?_) AllReady.nil
                    go_simp
                    refine hK _ _ ?_; clear hK K
                    refine wpAny_done (by kernel_rfl) ?_ _
                    go_wp2_with fail
                    go_roundw
                    case rel => exact ⟨m + 1, addE S p j, by go_num, by omega, by omega, HX.out, by first | exact HPUT.out _ HRI3.out _ rfl | exact HPUT.out _ (HRI3.out.keep (below_drewN _ _)) _ rfl, by first | exact HB3.out.setCell (Nat.le_refl _) _ | exact (HB3.out.trans (below_drewN _ _)).setCell (Nat.le_refl _) _⟩
                    case measure => simp [intOf]; omega
                  · go_simp
                    go_at_call 82
                    refine (HP.out _).mono ?_
                    rintro e w4 ⟨rfl, hw4⟩
                    obtain rfl := hw4.symm
                    refine hK _ _ ?_; clear hK K
                    refine wpAny_ready (rs := [13]) (by kernel_rfl) (by simp) ?_
                    refine AllReady.cons rfl (fun K hK => ?_) AllReady.nil
                    go_simp
                    refine hK _ _ ?_; clear hK K
                    refine wpAny_take (i := 20) (v := ?_) rfl (by kernel_rfl) (by kernel_rfl) (by kernel_rfl) (fun _ _ _ h => h) (Or.inl ⟨by kernel_rfl, ?_⟩) ?_
                    rotate_left
                    · (intro w; go_simp; first | done | with_reducible rfl)
                    conv => arg 7; simp [Act.put]
                    refine wpAny_take (i := 21) (v := ?_) rfl (by kernel_rfl) (by kernel_rfl) (by kernel_rfl) (fun _ _ _ h => h) (Or.inl ⟨by kernel_rfl, ?_⟩) ?_
                    rotate_left
                    · (intro w; go_simp; first | done | with_reducible rfl)
                    conv => arg 7; simp [Act.put]
                    refine wpAny_ready (rs := [22]) (by kernel_rfl) (by simp) ?_
                    refine AllReady.cons rfl (fun K hK => ?_) AllReady.nil
                    go_simp
                    refine hK _ _ ?_; clear hK K
                    refine wpAny_done (by kernel_rfl) ?_ _
                    go_wp2_with fail
                    go_roundw
                    case rel => exact ⟨m + 1, addE S p j, by go_num, by omega, by omega, HX.out, by first | exact HPUT.out _ HRI3.out _ rfl | exact HPUT.out _ (HRI3.out.keep (below_drewN _ _)) _ rfl, by first | exact HB3.out.setCell (Nat.le_refl _) _ | exact (HB3.out.trans (below_drewN _ _)).setCell (Nat.le_refl _) _⟩
                    case measure => simp [intOf]; omega
              · go_simp
                refine hK _ _ ?_; clear hK K
                refine wpAny_ready (rs := [5, 18]) (by kernel_rfl) (by simp) ?_
                refine AllReady.cons rfl (fun K hK => ?_) (AllReady.cons rfl (fun K hK => ?_) AllReady.nil)
                · go_simp
                  refine hK _ _ ?_; clear hK K
                  refine wpAny_ready (rs := [18]) (by kernel_rfl) (by simp) ?_
                  refine AllReady.cons rfl (fun K hK => ?_) AllReady.nil
                  go_simp
                  refine hK _ _ ?_; clear hK K
                  refine wpAny_ready (rs := [19]) (by kernel_rfl) (by simp) ?_
                  refine AllReady.cons rfl (fun K hK => ?_) AllReady.nil
                  go_simp
                  go_at_call 82
                  refine (HP.out _).mono ?_
                  rintro e w4 ⟨rfl, hw4⟩
                  obtain rfl := hw4.symm
                  refine hK _ _ ?_; clear hK K
                  refine wpAny_take (i := 20) (v := ?_) rfl (by kernel_rfl) (by kernel_rfl) (by kernel_rfl) (fun _ _ _ h => h) (Or.inl ⟨by kernel_rfl, ?_⟩) ?_
                  rotate_left
                  · (intro w; go_simp; first | done | with_reducible rfl)
                  conv => arg 7; simp [Act.put]
                  refine wpAny_take (i := 21) (v := ?_) rfl (by kernel_rfl) (by kernel_rfl) (by kernel_rfl) (fun _ _ _ h => h) (Or.inl ⟨by kernel_rfl, ?_⟩) ?_
                  rotate_left
                  · (intro w; go_simp; first | done | with_reducible rfl)
                  conv => arg 7; simp [Act.put]
                  refine wpAny_ready (rs := [22]) (by kernel_rfl) (by simp) ?_
                  refine AllReady.cons rfl (fun K hK => ?_) AllReady.nil
                  go_simp
                  refine hK _ _ ?_; clear hK K
                  refine wpAny_done (by kernel_rfl) ?_ _
                  go_wp2_with fail
                  go_roundw
                  case rel => exact ⟨m + 1, addE S p j, by go_num, by omega, by omega, HX.out, by first | exact HPUT.out _ HRI3.out _ rfl | exact HPUT.out _ (HRI3.out.keep (below_drewN _ _)) _ rfl, by first | exact HB3.out.setCell (Nat.le_refl _) _ | exact (HB3.out.trans (below_drewN _ _)).setCell (Nat.le_refl _) _⟩
                  case measure => simp [intOf]; omega
                · go_simp
                  refine hK _ _ ?_; clear hK K
                  refine wpAny_ready (rs := [5, 19]) (by kernel_rfl) (by simp) ?_
                  refine AllReady.cons rfl (fun K hK => ?_) (AllReady.cons rfl (fun K hK => ?_) AllReady.nil)
                  · go_simp
                    refine hK _ _ ?_; clear hK K
                    refine wpAny_ready (rs := [19]) (by kernel_rfl) (by simp) ?_
                    refine AllReady.cons rfl (fun K hK => ?_) AllReady.nil
                    go_simp
                    go_at_call 82
                    refine (HP.out _).mono ?_
                    rintro e w4 ⟨rfl, hw4⟩
                    obtain rfl := hw4.symm
                    refine hK _ _ ?_; clear hK K
                    refine wpAny_take (i := 20) (v := ?_) rfl (by kernel_rfl) (by kernel_rfl) (by kernel_rfl) (fun _ _ _ h => h) (Or.inl ⟨by kernel_rfl, ?_⟩) ?_
                    rotate_left
                    · (intro w; go_simp; first | done | with_reducible rfl)
                    conv => arg 7; simp [Act.put]
                    refine wpAny_take (i := 21) (v := ?_) rfl (by kernel_rfl) (by kernel_rfl) (by kernel_rfl) (fun _ _ _ h => h) (Or.inl ⟨by kernel_rfl, ?_⟩) ?_
                    rotate_left
                    · (intro w; go_simp; first | done | with_reducible rfl)
                    conv => arg 7; simp [Act.put]
                    refine wpAny_ready (rs := [22]) (by kernel_rfl) (by simp) ?_
                    refine AllReady.cons rfl (fun K hK => ?_) AllReady.nil
                    go_simp
                    refine hK _ _ ?_; clear hK K
                    refine wpAny_done (by kernel_rfl) ?_ _
                    go_wp2_with fail
                    go_roundw
                    case rel => exact ⟨m + 1, addE S p j, by go_num, by omega, by omega, HX.out, by first | exact HPUT.out _ HRI3.out _ rfl | exact HPUT.out _ (HRI3.out.keep (below_drewN _ _)) _ rfl, by first | exact HB3.out.setCell (Nat.le_refl _) _ | exact (HB3.out.trans (below_drewN _ _)).setCell (Nat.le_refl _) _⟩
                    case measure => simp [intOf]; omega
                  · go_simp
                    go_at_call 82
                    refine (HP.out _).mono ?_
                    rintro e w4 ⟨rfl, hw4⟩
                    obtain rfl := hw4.symm
                    refine hK _ _ ?_; clear hK K
                    refine wpAny_take (i := 20) (v := ?_) rfl (by kernel_rfl) (by kernel_rfl) (by kernel_rfl) (fun _ _ _ h => h) (Or.inl ⟨by kernel_rfl, ?_⟩) ?_
                    rotate_left
                    · (intro w; go_simp; first | done | with_reducible rfl)
                    conv => arg 7; simp [Act.put]
                    refine wpAny_ready (rs := [5]) (by kernel_rfl) (by simp) ?_
                    refine AllReady.cons rfl (fun K hK => ?_) AllReady.nil
                    go_simp
                    refine hK _ _ ?_; clear hK K
                    refine wpAny_take (i := 21) (v := ?_) rfl (by kernel_rfl) (by kernel_rfl) (by kernel_rfl) (fun _ _ _ h => h) (Or.inl ⟨by kernel_rfl, ?_⟩) ?_
                    rotate_left
                    · (intro w; go_simp; first | done | with_reducible rfl)
                    conv => arg 7; simp [Act.put]
                    refine wpAny_ready (rs := [22]) (by kernel_rfl) (by simp) ?_
                    refine AllReady.cons rfl (fun K hK => ?_) AllReady.nil
                    go_simp
                    refine hK _ _ ?_; clear hK K
                    refine wpAny_done (by kernel_rfl) ?_ _
                    go_wp2_with fail
                    go_roundw
                    case rel => exact ⟨m + 1, addE S p j, by go_num, by omega, by omega, HX.out, by first | exact HPUT.out _ HRI3.out _ rfl | exact HPUT.out _ (HRI3.out.keep (below_drewN _ _)) _ rfl, by first | exact HB3.out.setCell (Nat.le_refl _) _ | exact (HB3.out.trans (below_drewN _ _)).setCell (Nat.le_refl _) _⟩
                    case measure => simp [intOf]; omega
              · go_simp
                refine hK _ _ ?_; clear hK K
                refine wpAny_ready (rs := [5, 13, 19]) (by kernel_rfl) (by simp) ?_
                refine AllReady.cons rfl (fun K hK => ?_) (AllReady.cons rfl (fun K hK => ?_) (AllReady.cons rfl (fun K hK => ?_) AllReady.nil))
                · go_simp
                  refine hK _ _ ?_; clear hK K
                  refine wpAny_ready (rs := [13, 19]) (by kernel_rfl) (by simp) ?_
                  refine AllReady.cons rfl (fun K hK => ?_) (AllReady.cons rfl (fun K hK => ?_) AllReady.nil)
                  · go_simp
                    refine hK _ _ ?_; clear hK K
                    refine wpAny_ready (rs := [19]) (by kernel_rfl) (by simp) ?_
                    refine AllReady.cons rfl (fun K hK => ?_) AllReady.nil
                    go_simp
                    go_at_call 82
                    refine (HP.out _).mono ?_
                    rintro e w4 ⟨rfl, hw4⟩
                    obtain rfl := hw4.symm
                    refine hK _ _ ?_; clear hK K
                    refine wpAny_take (i := 20) (v := ?_) rfl (by kernel_rfl) (by kernel_rfl) (by kernel_rfl) (fun _ _ _ h => h) (Or.inl ⟨by kernel_rfl, ?_⟩) ?_
                    rotate_left
                    · (intro w; go_simp; first | done | with_reducible rfl)
                    conv => arg 7; simp [Act.put]
                    refine wpAny_take (i := 21) (v := ?_) rfl (by kernel_rfl) (by kernel_rfl) (by kernel_rfl) (fun _ _ _ h => h) (Or.inl ⟨by kernel_rfl, ?_⟩) ?_
                    rotate_left
                    · (intro w; go_simp; first | done | with_reducible rfl)
                    conv => arg 7; simp [Act.put]
                    refine wpAny_ready (rs := [22]) (by kernel_rfl) (by simp) ?_
                    refine AllReady.cons rfl (fun K hK => ?_) AllReady.nil
                    go_simp
                    refine hK _ _ ?_; clear hK K
                    refine wpAny_done (by kernel_rfl) ?_ _
                    go_wp2_with fail
                    go_roundw
                    case rel => exact ⟨m + 1, addE S p j, by go_num, by omega, by omega, HX.out, by first | exact HPUT.out _ HRI3.out _ rfl | exact HPUT.out _ (HRI3.out.keep (below_drewN _ _)) _ rfl, by first | exact HB3.out.setCell (Nat.le_refl _) _ | exact (HB3.out.trans (below_drewN _ _)).setCell (Nat.le_refl _) _⟩
                    case measure => simp [intOf]; omega
                  · go_simp
                    go_at_call 82
                    refine (HP.out _).mono ?_
                    rintro e w4 ⟨rfl, hw4⟩
                    obtain rfl := hw4.symm
                    refine hK _ _ ?_; clear hK K
                    refine wpAny_ready (rs := [13]) (by kernel_rfl) (by simp) ?_
                    refine AllReady.cons rfl (fun K hK => ?_) AllReady.nil
                    go_simp
                    refine hK _ _ ?_; clear hK K
                    refine wpAny_take (i := 20) (v := ?_) rfl (by kernel_rfl) (by kernel_rfl) (by kernel_rfl) (fun _ _ _ h => h) (Or.inl ⟨by kernel_rfl, ?_⟩) ?_
                    rotate_left
                    · (intro w; go_simp; first | done | with_reducible rfl)
                    conv => arg 7; simp [Act.put]
                    refine wpAny_take (i := 21) (v := ?_) rfl (by kernel_rfl) (by kernel_rfl) (by kernel_rfl) (fun _ _ _ h => h) (Or.inl ⟨by kernel_rfl, ?_⟩) ?_
                    rotate_left
                    · (intro w; go_simp; first | done | with_reducible rfl)
                    conv => arg 7; simp [Act.put]
                    refine wpAny_ready (rs := [22]) (by kernel_rfl) (by simp) ?_
                    refine AllReady.cons rfl (fun K hK => ?_) AllReady.nil
                    go_simp
                    refine hK _ _ ?_; clear hK K
                    refine wpAny_done (by kernel_rfl) ?_ _
                    go_wp2_with fail
                    go_roundw
                    case rel => exact ⟨m + 1, addE S p j, by go_num, by omega, by omega, HX.out, by first | exact HPUT.out _ HRI3.out _ rfl | exact HPUT.out _ (HRI3.out.keep (below_drewN _ _)) _ rfl, by first | exact HB3.out.setCell (Nat.le_refl _) _ | exact (HB3.out.trans (below_drewN _ _)).setCell (Nat.le_refl _) _⟩
                    case measure => simp [intOf]; omega
                · go_simp
                  refine hK _ _ ?_; clear hK K
                  refine wpAny_ready (rs := [5, 19]) (by kernel_rfl) (by simp) ?_
                  refine AllReady.cons rfl (fun K hK => ?_) (AllReady.cons rfl (fun K hK => ?_) AllReady.nil)
                  · go_simp
                    refine hK _ _ ?_; clear hK K
                    refine wpAny_ready (rs := [19]) (by kernel_rfl) (by simp) ?_
                    refine AllReady.cons rfl (fun K hK => ?_) AllReady.nil
                    go_simp
                    go_at_call 82
                    refine (HP.out _).mono ?_
                    rintro e w4 ⟨rfl, hw4⟩
                    obtain rfl := hw4.symm
                    refine hK _ _ ?_; clear hK K
                    refine wpAny_take (i := 20) (v := ?_) rfl (by kernel_rfl) (by kernel_rfl) (by kernel_rfl) (fun _ _ _ h => h) (Or.inl ⟨by kernel_rfl, ?_⟩) ?_
                    rotate_left
                    · (intro w; go_simp; first | done | with_reducible rfl)
                    conv => arg 7; simp [Act.put]
                    refine wpAny_take (i := 21) (v := ?_) rfl (by kernel_rfl) (by kernel_rfl) (by kernel_rfl) (fun _ _ _ h => h) (Or.inl ⟨by kernel_rfl, ?_⟩) ?_
                    rotate_left
                    · (intro w; go_simp; first | done | with_reducible rfl)
                    conv => arg 7; simp [Act.put]
                    refine wpAny_ready (rs := [22]) (by kernel_rfl) (by simp) ?_
                    refine AllReady.cons rfl (fun K hK => ?_) AllReady.nil
                    go_simp
                    refine hK _ _ ?_; clear hK K
                    refine wpAny_done (by kernel_rfl) ?_ _
                    go_wp2_with fail
                    go_roundw
                    case rel => exact ⟨m + 1, addE S p j, by go_num, by omega, by omega, HX.out, by first | exact HPUT.out _ HRI3.out _ rfl | exact HPUT.out _ (HRI3.out.keep (below_drewN _ _)) _ rfl, by first | exact HB3.out.setCell (Nat.le_refl _) _ | exact (HB3.out.trans (below_drewN _ _)).setCell (Nat.le_refl _) _⟩
                    case measure => simp [intOf]; omega
                  · go_simp
                    go_at_call 82
                    refine (HP.out _).mono ?_
                    rintro e w4 ⟨rfl, hw4⟩
                    obtain rfl := hw4.symm
                    refine hK _ _ ?_; clear hK K
                    refine wpAny_take (i := 20) (v := ?_) rfl (by kernel_rfl) (by kernel_rfl) (by kernel_rfl) (fun _ _ _ h => h) (Or.inl ⟨by kernel_rfl, ?_⟩) ?_
                    rotate_left
                    · (intro w; go_simp; first | done | with_reducible rfl)
                    conv => arg 7; simp [Act.put]
                    refine wpAny_ready (rs := [5]) (by kernel_rfl) (by simp) ?_
                    refine AllReady.cons rfl (fun K hK => ?_) AllReady.nil
                    go_simp
                    refine hK _ _ ?_; clear hK K
                    refine wpAny_take (i := 21) (v := ?_) rfl (by kernel_rfl) (by kernel_rfl) (by kernel_rfl) (fun _ _ _ h => h) (Or.inl ⟨by kernel_rfl, ?_⟩) ?_
                    rotate_left
                    · (intro w; go_simp; first | done | with_reducible rfl)
                    conv => arg 7; simp [Act.put]
                    refine wpAny_ready (rs := [22]) (by kernel_rfl) (by simp) ?_
                    refine AllReady.cons rfl (fun K hK => ?_) AllReady.nil
                    go_simp
                    refine hK _ _ ?_; clear hK K
                    refine wpAny_done (by kernel_rfl) ?_ _
                    go_wp2_with fail
                    go_roundw
                    case rel => exact ⟨m + 1, addE S p j, by go_num, by omega, by omega, HX.out, by first | exact HPUT.out _ HRI3.out _ rfl | exact HPUT.out _ (HRI3.out.keep (below_drewN _ _)) _ rfl, by first | exact HB3.out.setCell (Nat.le_refl _) _ | exact (HB3.out.trans (below_drewN _ _)).setCell (Nat.le_refl _) _⟩
                    case measure => simp [intOf]; omega
                · go_simp
                  go_at_call 82
                  refine (HP.out _).mono ?_
                  rintro e w4 ⟨rfl, hw4⟩
                  obtain rfl := hw4.symm
                  refine hK _ _ ?_; clear hK K
                  refine wpAny_ready (rs := [5, 13]) (by kernel_rfl) (by simp) ?_
                  refine AllReady.cons rfl (fun K hK => ?_) (AllReady.cons rfl (fun K hK => ?_) AllReady.nil)
                  · go_simp
                    refine hK _ _ ?_; clear hK K
                    refine wpAny_ready (rs := [13]) (by kernel_rfl) (by simp) ?_
                    refine AllReady.cons rfl (fun K hK => ?_) AllReady.nil
                    go_simp
                    refine hK _ _ ?_; clear hK K
                    refine wpAny_take (i := 20) (v := ?_) rfl (by kernel_rfl) (by kernel_rfl) (by kernel_rfl) (fun _ _ _ h => h) (Or.inl ⟨by kernel_rfl, ?_⟩) ?_
                    rotate_left
                    · (intro w; go_simp; first | done | with_reducible rfl)
                    conv => arg 7; simp [Act.put]
                    refine wpAny_take (i := 21) (v := ?_) rfl (by kernel_rfl) (by kernel_rfl) (by kernel_rfl) (fun _ _ _ h => h) (Or.inl ⟨by kernel_rfl, ?_⟩) ?_
                    rotate_left
                    · (intro w; go_simp; first | done | with_reducible rfl)
                    conv => arg 7; simp [Act.put]
                    refine wpAny_ready (rs := [22]) (by kernel_rfl) (by simp) ?_
                    refine AllReady.cons rfl (fun K hK => ?_) AllReady.nil
                    go_simp
                    refine hK _ _ ?_; clear hK K
                    refine wpAny_done (by kernel_rfl) ?_ _
                    go_wp2_with fail
                    go_roundw
                    case rel => exact ⟨m + 1, addE S p j, by go_num, by omega, by omega, HX.out, by first | exact HPUT.out _ HRI3.out _ rfl | exact HPUT.out _ (HRI3.out.keep (below_drewN _ _)) _ rfl, by first | exact HB3.out.setCell (Nat.le_refl _) _ | exact (HB3.out.trans (below_drewN _ _)).setCell (Nat.le_refl _) _⟩
                    case measure => simp [intOf]; omega
                  · go_simp
                    refine hK _ _ ?_; clear hK K
                    refine wpAny_take (i := 20) (v := ?_) rfl (by kernel_rfl) (by kernel_rfl) (by kernel_rfl) (fun _ _ _ h => h) (Or.inl ⟨by kernel_rfl, ?_⟩) ?_
                    rotate_left
                    · (intro w; go_simp; first | done | with_reducible rfl)
                    conv => arg 7; simp [Act.put]
                    refine wpAny_ready (rs := [5]) (by kernel_rfl) (by simp) ?_
                    refine AllReady.cons rfl (fun K hK => ?_) AllReady.nil
                    go_simp
                    refine hK _ _ ?_; clear hK K
                    refine wpAny_take (i := 21) (v := ?_) rfl (by kernel_rfl) (by kernel_rfl) (by kernel_rfl) (fun _ _ _ h => h) (Or.inl ⟨by kernel_rfl, ?_⟩) ?_
                    rotate_left
                    · (intro w; go_simp; first | done | with_reducible rfl)
                    conv => arg 7; simp [Act.put]
                    refine wpAny_ready (rs := [22]) (by kernel_rfl) (by simp) ?_
                    refine AllReady.cons rfl (fun K hK => ?_) AllReady.nil
                    go_simp
                    refine hK _ _ ?_; clear hK K
                    refine wpAny_done (by kernel_rfl) ?_ _
                    go_wp2_with fail
                    go_roundw
                    case rel => exact ⟨m + 1, addE S p j, by go_num, by omega, by omega, HX.out, by first | exact HPUT.out _ HRI3.out _ rfl | exact HPUT.out _ (HRI3.out.keep (below_drewN _ _)) _ rfl, by first | exact HB3.out.setCell (Nat.le_refl _) _ | exact (HB3.out.trans (below_drewN _ _)).setCell (Nat.le_refl _) _⟩
                    case measure => simp [intOf]; omega
            · go_simp
              refine hK _ _ ?_; clear hK K
              refine wpAny_ready (rs := [5, 11, 19]) (by kernel_rfl) (by simp) ?_
              refine AllReady.cons rfl (fun K hK => ?_) (AllReady.cons rfl (fun K hK => ?_) (AllReady.cons rfl (fun K hK => ?_) AllReady.nil))
              · go_simp
                refine hK _ _ ?_; clear hK K
                refine wpAny_ready (rs := [11, 19]) (by kernel_rfl) (by simp) ?_
                refine AllReady.cons rfl (fun K hK => ?_) (AllReady.cons rfl (fun K hK => ?_) AllReady.nil)
                · go_simp
                  refine hK _ _ ?_; clear hK K
                  refine wpAny_take (i := 12) (v := ?_) rfl (by kernel_rfl) (by kernel_rfl) (by kernel_rfl) (fun _ _ _ h => h) (Or.inl ⟨by kernel_rfl, ?_⟩) ?_
                  rotate_left
                  · (intro w; go_simp; first | done | with_reducible rfl)
                  conv => arg 7; simp [Act.put]
                  refine wpAny_ready (rs := [13, 19]) (by kernel_rfl) (by simp) ?_
                  refine AllReady.cons rfl (fun K hK => ?_) (AllReady.cons rfl (fun K hK => ?_) AllReady.nil)
                  · go_simp
                    refine hK _ _ ?_; clear hK K
                    refine wpAny_ready (rs := [19]) (by kernel_rfl) (by simp) ?_
                    refine AllReady.cons rfl (fun K hK => ?_) AllReady.nil
                    go_simp
                    go_at_call 82
                    refine (HP.out _).mono ?_
                    rintro e w4 ⟨rfl, hw4⟩
                    obtain rfl := hw4.symm
                    refine hK _ _ ?_; clear hK K
                    refine wpAny_take (i := 20) (v := ?_) rfl (by kernel_rfl) (by kernel_rfl) (by kernel_rfl) (fun _ _ _ h => h) (Or.inl ⟨by kernel_rfl, ?_⟩) ?_
                    rotate_left
                    · (intro w; go_simp; first | done | with_reducible rfl)
                    conv => arg 7; simp [Act.put]
                    refine wpAny_take (i := 21) (v := ?_) rfl (by kernel_rfl) (by kernel_rfl) (by kernel_rfl) (fun _ _ _ h => h) (Or.inl ⟨by kernel_rfl, ?_⟩) ?_
                    rotate_left
                    · (intro w; go_simp; first | done | with_reducible rfl)
                    conv => arg 7; simp [Act.put]
                    refine wpAny_ready (rs := [22]) (by kernel_rfl) (by simp) ?_
                    refine AllReady.cons rfl (fun K hK => ?_) AllReady.nil
                    go_simp
                    refine hK _ _ ?_; clear hK K
                    refine wpAny_done (by kernel_rfl) ?_ _
                    go_wp2_with fail
                    go_roundw
                    case rel => exact ⟨m + 1, addE S p j, by go_num, by omega, by omega, HX.out, by first | exact HPUT.out _ HRI3.out _ rfl | exact HPUT.out _ (HRI3.out.keep (below_drewN _ _)) _ rfl, by first | exact HB3.out.setCell (Nat.le_refl _) _ | exact (HB3.out.trans (below_drewN _ _)).setCell (Nat.le_refl _) _⟩
                    case measure => simp [intOf]; omega
                  · go_simp
                    go_at_call 82
                    refine (HP.out _).mono ?_
                    rintro e w4 ⟨rfl, hw4⟩
                    obtain rfl := hw4.symm
                    refine hK _ _ ?_; clear hK K
                    refine wpAny_ready (rs := [13]) (by kernel_rfl) (by simp) ?_
                    refine AllReady.cons rfl (fun K hK => ?_) AllReady.nil
                    go_simp
                    refine hK _ _ ?_; clear hK K
                    refine wpAny_take (i := 20) (v := ?_) rfl (by kernel_rfl) (by kernel_rfl) (by kernel_rfl) (fun _ _ _ h => h) (Or.inl ⟨by kernel_rfl, ?_⟩) ?_
                    rotate_left
                    · (intro w; go_simp; first | done | with_reducible rfl)
                    conv => arg 7; simp [Act.put]
                    refine wpAny_take (i := 21) (v := ?_) rfl (by kernel_rfl) (by kernel_rfl) (by kernel_rfl) (fun _ _ _ h => h) (Or.inl ⟨by kernel_rfl, ?_⟩) ?_
                    rotate_left
                    · (intro w; go_simp; first | done | with_reducible rfl)
                    conv => arg 7; simp [Act.put]
                    refine wpAny_ready (rs := [22]) (by kernel_rfl) (by simp) ?_
                    refine AllReady.cons rfl (fun K hK => ?_) AllReady.nil
                    go_simp
                    refine hK _ _ ?_; clear hK K
                    refine wpAny_done (by kernel_rfl) ?_ _
                    go_wp2_with fail
                    go_roundw
                    case rel => exact ⟨m + 1, addE S p j, by go_num, by omega, by omega, HX.out, by first | exact HPUT.out _ HRI3.out _ rfl | exact HPUT.out _ (HRI3.out.keep (below_drewN _ _)) _ rfl, by first | exact HB3.out.setCell (Nat.le_refl _) _ | exact (HB3.out.trans (below_drewN _ _)).setCell (Nat.le_refl _) _⟩
                    case measure => simp [intOf]; omega
                · go_simp
                  go_at_call 82
                  refine (HP.out _).mono ?_
                  rintro e w4 ⟨rfl, hw4⟩
                  obtain rfl := hw4.symm
                  refine hK _ _ ?_; clear hK K
                  refine wpAny_ready (rs := [11]) (by kernel_rfl) (by simp) ?_
                  refine AllReady.cons rfl (fun K hK => ?_) AllReady.nil
                  go_simp
                  refine hK _ _ ?_; clear hK K
                  refine wpAny_take (i := 12) (v := ?_) rfl (by kernel_rfl) (by kernel_rfl) (by kernel_rfl) (fun _ _ _ h => h) (Or.inl ⟨by kernel_rfl, ?_⟩) ?_
                  rotate_left
                  · (intro w; go_simp; first | done | with_reducible rfl)
                  conv => arg 7; simp [Act.put]
                  refine wpAny_ready (rs := [13]) (by kernel_rfl) (by simp) ?_
                  refine AllReady.cons rfl (fun K hK => ?_) AllReady.nil
                  go_simp
                  refine hK _ _ ?_; clear hK K
                  refine wpAny_take (i := 20) (v := ?_) rfl (by kernel_rfl) (by kernel_rfl) (by kernel_rfl) (fun _ _ _ h => h) (Or.inl ⟨by kernel_rfl, ?_⟩) ?_
                  rotate_left
                  · (intro w; go_simp; first | done | with_reducible rfl)
                  conv => arg 7; simp [Act.put]
                  refine wpAny_take (i := 21) (v := ?_) rfl (by kernel_rfl) (by kernel_rfl) (by kernel_rfl) (fun _ _ _ h => h) (Or.inl ⟨by kernel_rfl, ?_⟩) ?_
                  rotate_left
                  · (intro w; go_simp; first | done | with_reducible rfl)
                  conv => arg 7; simp [Act.put]
                  refine wpAny_ready (rs := [22]) (by kernel_rfl) (by simp) ?_
                  refine AllReady.cons rfl (fun K hK => ?_) AllReady.nil
                  go_simp
                  refine hK _ _ ?_; clear hK K
                  refine wpAny_done (by kernel_rfl) ?_ _
                  go_wp2_with fail
                  go_roundw
                  case rel => exact ⟨m + 1, addE S p j, by go_num, by omega, by omega, HX.out, by first | exact HPUT.out _ HRI3.out _ rfl | exact HPUT.out _ (HRI3.out.keep (below_drewN _ _)) _ rfl, by first | exact HB3.out.setCell (Nat.le_refl _) _ | exact (HB3.out.trans (below_drewN _ _)).setCell (Nat.le_refl _) _⟩
                  case measure => simp [intOf]; omega
              · go_simp
                refine hK _ _ ?_; clear hK K
                refine wpAny_take (i := 12) (v := ?_) rfl (by kernel_rfl) (by kernel_rfl) (by kernel_rfl) (fun _ _ _ h => h) (Or.inl ⟨by kernel_rfl, ?_⟩) ?_
                rotate_left
                · (intro w; go_simp; first | done | with_reducible rfl)
                conv => arg 7; simp [Act.put]
                refine wpAny_ready (rs := [5, 13, 19]) (by kernel_rfl) (by simp) ?_
                refine AllReady.cons rfl (fun K hK => ?_) (AllReady.cons rfl (fun K hK => ?_) (AllReady.cons rfl (fun K hK => ?_) AllReady.nil))
                · go_simp
                  refine hK _ _ ?_; clear hK K
                  refine wpAny_ready (rs := [13, 19]) (by kernel_rfl) (by simp) ?_
                  refine AllReady.cons rfl (fun K hK => ?_) (AllReady.cons rfl (fun K hK => ?_) AllReady.nil)
                  · go_simp
                    refine hK _ _ ?_; clear hK K
                    refine wpAny_ready (rs := [19]) (by kernel_rfl) (by simp) ?_
                    refine AllReady.cons rfl (fun K hK => ?_) AllReady.nil
                    go_simp
                    go_at_call 82
                    refine (HP.out _).mono ?_
                    rintro e w4 ⟨rfl, hw4⟩
                    obtain rfl := hw4.symm
                    refine hK _ _ ?_; clear hK K
                    refine wpAny_take (i := 20) (v := ?_) rfl (by kernel_rfl) (by kernel_rfl) (by kernel_rfl) (fun _ _ _ h => h) (Or.inl ⟨by kernel_rfl, ?_⟩) ?_
                    rotate_left
                    · (intro w; go_simp; first | done | with_reducible rfl)
                    conv => arg 7; simp [Act.put]
                    refine wpAny_take (i := 21) (v := ?_) rfl (by kernel_rfl) (by kernel_rfl) (by kernel_rfl) (fun _ _ _ h => h) (Or.inl ⟨by kernel_rfl, ?_⟩) ?_
                    rotate_left
                    · (intro w; go_simp; first | done | with_reducible rfl)
                    conv => arg 7; simp [Act.put]
                    refine wpAny_ready (rs := [22]) (by kernel_rfl) (by simp) ?_
                    refine AllReady.cons rfl (fun K hK => ?_) AllReady.nil
                    go_simp
                    refine hK _ _ ?_; clear hK K
                    refine wpAny_done (by kernel_rfl) ?_ _
                    go_wp2_with fail
                    go_roundw
                    case rel => exact ⟨m + 1, addE S p j, by go_num, by omega, by omega, HX.out, by first | exact HPUT.out _ HRI3.out _ rfl | exact HPUT.out _ (HRI3.out.keep (below_drewN _ _)) _ rfl, by first | exact HB3.out.setCell (Nat.le_refl _) _ | exact (HB3.out.trans (below_drewN _ _)).setCell (Nat.le_refl _) _⟩
                    case measure => simp [intOf]; omega
                  · go_simp
                    go_at_call 82
                    refine (HP.out _).mono ?_
                    rintro e w4 ⟨rfl, hw4⟩
                    obtain rfl := hw4.symm
                    refine hK _ _ ?_; clear hK K
                    refine wpAny_ready (rs := [13]) (by kernel_rfl) (by simp) ?_
                    refine AllReady.cons rfl (fun K hK => ?_) AllReady.nil
                    go_simp
                    refine hK _ _ ?_; clear hK K
                    refine wpAny_take (i := 20) (v := ?_) rfl (by kernel_rfl) (by kernel_rfl) (by kernel_rfl) (fun _ _ _ h => h) (Or.inl ⟨by kernel_rfl, ?_⟩) ?_
                    rotate_left
                    · (intro w; go_simp; first | done | with_reducible rfl)
                    conv => arg 7; simp [Act.put]
                    refine wpAny_take (i := 21) (v := ?_) rfl (by kernel_rfl) (by kernel_rfl) (by kernel_rfl) (fun _ _ _ h => h) (Or.inl ⟨by kernel_rfl, ?_⟩) ?_
                    rotate_left
                    · (intro w; go_simp; first | done | with_reducible rfl)
                    conv => arg 7; simp [Act.put]
                    refine wpAny_ready (rs := [22]) (by kernel_rfl) (by simp) ?_
                    refine AllReady.cons rfl (fun K hK => ?_) AllReady.nil
                    go_simp
                    refine hK _ _ ?_; clear hK K
                    refine wpAny_done (by kernel_rfl) ?_ _
                    go_wp2_with fail
                    go_roundw
                    case rel => exact ⟨m + 1, addE S p j, by go_num, by omega, by omega, HX.out, by first | exact HPUT.out _ HRI3.out _ rfl | exact HPUT.out _ (HRI3.out.keep (below_drewN _ _)) _ rfl, by first | exact HB3.out.setCell (Nat.le_refl _) _ | exact (HB3.out.trans (below_drewN _ _)).setCell (Nat.le_refl _) _⟩
                    case measure => simp [intOf]; omega
                · go_simp
                  refine hK _ _ ?_; clear hK K
                  refine wpAny_ready (rs := [5, 19]) (by kernel_rfl) (by simp) ?_
                  refine AllReady.cons rfl (fun K hK => ?_) (AllReady.cons rfl (fun K hK => ?_) AllReady.nil)
                  · go_simp
                    refine hK _ _ ?_; clear hK K
                    refine wpAny_ready (rs := [19]) (by kernel_rfl) (by simp) ?_
                    refine AllReady.cons rfl (fun K hK => ?_) AllReady.nil
                    go_simp
                    go_at_call 82
                    refine (HP.out _).mono ?_
                    rintro e w4 ⟨rfl, hw4⟩
                    obtain rfl := hw4.symm
                    refine hK _ _ ?_; clear hK K
                    refine wpAny_take (i := 20) (v := ?_) rfl (by kernel_rfl) (by kernel_rfl) (by kernel_rfl) (fun _ _ _ h => h) (Or.inl ⟨by kernel_rfl, ?_⟩) ?_
                    rotate_left
                    · (intro w; go_simp; first | done | with_reducible rfl)
                    conv => arg 7; simp [Act.put]
                    refine wpAny_take (i := 21) (v := ?_) rfl (by kernel_rfl) (by kernel_rfl) (by kernel_rfl) (fun _ _ _ h => h) (Or.inl ⟨by kernel_rfl, ?_⟩) ?_
                    rotate_left
                    · (intro w; go_simp; first | done | with_reducible rfl)
                    conv => arg 7; simp [Act.put]
                    refine wpAny_ready (rs := [22]) (by kernel_rfl) (by simp) ?_
                    refine AllReady.cons rfl (fun K hK => ?_) AllReady.nil
                    go_simp
                    refine hK _ _ ?_; clear hK K
                    refine wpAny_done (by kernel_rfl) ?_ _
                    go_wp2_with fail
                    go_roundw
                    case rel => exact ⟨m + 1, addE S p j, by go_num, by omega, by omega, HX.out, by first | exact HPUT.out _ HRI3.out _ rfl | exact HPUT.out _ (HRI3.out.keep (below_drewN _ _)) _ rfl, by first | exact HB3.out.setCell (Nat.le_refl _) _ | exact (HB3.out.trans (below_drewN _ _)).setCell (Nat.le_refl _) _⟩
                    case measure => simp [intOf]; omega
                  · go_simp
                    go_at_call 82
                    refine (HP.out _).mono ?_
                    rintro e w4 ⟨rfl, hw4⟩
                    obtain rfl := hw4.symm
                    refine hK _ _ ?_; clear hK K
                    refine wpAny_take (i := 20) (v := ?_) rfl (by kernel_rfl) (by kernel_rfl) (by kernel_rfl) (fun _ _ _ h => h) (Or.inl ⟨by kernel_rfl, ?_⟩) ?_
                    rotate_left
                    · (intro w; go_simp; first | done | with_reducible rfl)
                    conv => arg 7; simp [Act.put]
                    refine wpAny_ready (rs := [5]) (by kernel_rfl) (by simp) ?_
                    refine AllReady.cons rfl (fun K hK => ?_) AllReady.nil
                    go_simp
                    refine hK _ _ ?_; clear hK K
                    refine wpAny_take (i := 21) (v := ?_) rfl (by kernel_rfl) (by kernel_rfl) (by kernel_rfl) (fun _ _ _ h => h) (Or.inl ⟨by kernel_rfl, ?_⟩) ?_
                    rotate_left
                    · (intro w; go_simp; first | done | with_reducible rfl)
                    conv => arg 7; simp [Act.put]
                    refine wpAny_ready (rs := [22]) (by kernel_rfl) (by simp) ?_
                    refine AllReady.cons rfl (fun K hK => ?_) AllReady.nil
                    go_simp
                    refine hK _ _ ?_; clear hK K
                    refine wpAny_done (by kernel_rfl) ?_ _
                    go_wp2_with fail
                    go_roundw
                    case rel => exact ⟨m + 1, addE S p j, by go_num, by omega, by omega, HX.out, by first | exact HPUT.out _ HRI3.out _ rfl | exact HPUT.out _ (HRI3.out.keep (below_drewN _ _)) _ rfl, by first | exact HB3.out.setCell (Nat.le_refl _) _ | exact (HB3.out.trans (below_drewN _ _)).setCell (Nat.le_refl _) _⟩
                    case measure => simp [intOf]; omega
                · go_simp
                  go_at_call 82
                  refine (HP.out _).mono ?_
                  rintro e w4 ⟨rfl, hw4⟩
                  obtain rfl := hw4.symm
                  refine hK _ _ ?_; clear hK K
                  refine wpAny_ready (rs := [5, 13]) (by kernel_rfl) (by simp) ?_
                  refine AllReady.cons rfl (fun K hK => ?_) (AllReady.cons rfl (fun K hK => ?_) AllReady.nil)
                  · go_simp
                    refine hK _ _ ?_; clear hK K
                    refine wpAny_ready (rs := [13]) (by kernel_rfl) (by simp) ?_
                    refine AllReady.cons rfl (fun K hK => ?_) AllReady.nil
                    go_simp
                    refine hK _ _ ?_; clear hK K
                    refine wpAny_take (i := 20) (v := ?_) rfl (by kernel_rfl) (by kernel_rfl) (by kernel_rfl) (fun _ _ _ h => h) (Or.inl ⟨by kernel_rfl, ?_⟩) ?_
                    rotate_left
                    · (intro w; go_simp; first | done | with_reducible rfl)
                    conv => arg 7; simp [Act.put]
                    refine wpAny_take (i := 21) (v := ?_) rfl (by kernel_rfl) (by kernel_rfl) (by kernel_rfl) (fun _ _ _ h => h) (Or.inl ⟨by kernel_rfl, ?_⟩) ?_
                    rotate_left
                    · (intro w; go_simp; first | done | with_reducible rfl)
                    conv => arg 7; simp [Act.put]
                    refine wpAny_ready (rs := [22]) (by kernel_rfl) (by simp) ?_
                    refine AllReady.cons rfl (fun K hK => ?_) AllReady.nil
                    go_simp
                    refine hK _ _ ?_; clear hK K
                    refine wpAny_done (by kernel_rfl) ?_ _
                    go_wp2_with fail
                    go_roundw
                    case rel => exact ⟨m + 1, addE S p j, by go_num, by omega, by omega, HX.out, by first | exact HPUT.out _ HRI3.out _ rfl | exact HPUT.out _ (HRI3.out.keep (below_drewN _ _)) _ rfl, by first | exact HB3.out.setCell (Nat.le_refl _) _ | exact (HB3.out.trans (below_drewN _ _)).setCell (Nat.le_refl _) _⟩
                    case measure => simp [intOf]; omega
                  · go_simp
                    refine hK _ _ ?_; clear hK K
                    refine wpAny_take (i := 20) (v := ?_) rfl (by kernel_rfl) (by kernel_rfl) (by kernel_rfl) (fun _ _ _ h => h) (Or.inl ⟨by kernel_rfl, ?_⟩) ?_
                    rotate_left
                    · (intro w; go_simp; first | done | with_reducible rfl)
                    conv => arg 7; simp [Act.put]
                    refine wpAny_ready (rs := [5]) (by kernel_rfl) (by simp) ?_
                    refine AllReady.cons rfl (fun K hK => ?_) AllReady.nil
                    go_simp
                    refine hK _ _ ?_; clear hK K
                    refine wpAny_take (i := 21) (v := ?_) rfl (by kernel_rfl) (by kernel_rfl) (by kernel_rfl) (fun _ _ _ h => h) (Or.inl ⟨by kernel_rfl, ?_⟩) ?_
                    rotate_left
                    · (intro w; go_simp; first | done | with_reducible rfl)
                    conv => arg 7; simp [Act.put]
                    refine wpAny_ready (rs := [22]) (by kernel_rfl) (by simp) ?_
                    refine AllReady.cons rfl (fun K hK => ?_) AllReady.nil
                    go_simp
                    refine hK _ _ ?_; clear hK K
                    refine wpAny_done (by kernel_rfl) ?_ _
                    go_wp2_with fail
                    go_roundw
                    case rel => exact ⟨m + 1, addE S p j, by go_num, by omega, by omega, HX.out, by first | exact HPUT.out _ HRI3.out _ rfl | exact HPUT.out _ (HRI3.out.keep (below_drewN _ _)) _ rfl, by first | exact HB3.out.setCell (Nat.le_refl _) _ | exact (HB3.out.trans (below_drewN _ _)).setCell (Nat.le_refl _) _⟩
                    case measure => simp [intOf]; omega
              · go_simp
                go_at_call 82
                refine (HP.out _).mono ?_
                rintro e w4 ⟨rfl, hw4⟩
                obtain rfl := hw4.symm
                refine hK _ _ ?_; clear hK K
                refine wpAny_ready (rs := [5, 11]) (by kernel_rfl) (by simp) ?_
                refine AllReady.cons rfl (fun K hK => ?_) (AllReady.cons rfl (fun K hK => ?_) AllReady.nil)
                · go_simp
                  refine hK _ _ ?_; clear hK K
                  refine wpAny_ready (rs := [11]) (by kernel_rfl) (by simp) ?_
                  refine AllReady.cons rfl (fun K hK => ?_) AllReady.nil
                  go_simp
                  refine hK _ _ ?_; clear hK K
                  refine wpAny_take (i := 12) (v := ?_) rfl (by kernel_rfl) (by kernel_rfl) (by kernel_rfl) (fun _ _ _ h => h) (Or.inl ⟨by kernel_rfl, ?_⟩) ?_
                  rotate_left
                  · (intro w; go_simp; first | done | with_reducible rfl)
                  conv => arg 7; simp [Act.put]
                  refine wpAny_ready (rs := [13]) (by kernel_rfl) (by simp) ?_
                  refine AllReady.cons rfl (fun K hK => ?_) AllReady.nil
                  go_simp
                  refine hK _ _ ?_; clear hK K
                  refine wpAny_take (i := 20) (v := ?_) rfl (by kernel_rfl) (by kernel_rfl) (by kernel_rfl) (fun _ _ _ h => h) (Or.inl ⟨by kernel_rfl, ?_⟩) ?_
                  rotate_left
                  · (intro w; go_simp; first | done | with_reducible rfl)
                  conv => arg 7; simp [Act.put]
                  refine wpAny_take (i := 21) (v := ?_) rfl (by kernel_rfl) (by kernel_rfl) (by kernel_rfl) (fun _ _ _ h => h) (Or.inl ⟨by kernel_rfl, ?_⟩) ?_
                  rotate_left
                  · (intro w; go_simp; first | done | with_reducible rfl)
                  conv => arg 7; simp [Act.put]
                  refine wpAny_ready (rs := [22]) (by kernel_rfl) (by simp) ?_
                  refine AllReady.cons rfl (fun K hK => ?_) AllReady.nil
                  go_simp
                  refine hK _ _ ?_; clear hK K
                  refine wpAny_done (by kernel_rfl) ?_ _
                  go_wp2_with fail
                  go_roundw
                  case rel => exact ⟨m + 1, addE S p j, by go_num, by omega, by omega, HX.out, by first | exact HPUT.out _ HRI3.out _ rfl | exact HPUT.out _ (HRI3.out.keep (below_drewN _ _)) _ rfl, by first | exact HB3.out.setCell (Nat.le_refl _) _ | exact (HB3.out.trans (below_drewN _ _)).setCell (Nat.le_refl _) _⟩
                  case measure => simp [intOf]; omega
                · go_simp
                  refine hK _ _ ?_; clear hK K
                  refine wpAny_take (i := 12) (v := ?_) rfl (by kernel_rfl) (by kernel_rfl) (by kernel_rfl) (fun _ _ _ h => h) (Or.inl ⟨by kernel_rfl, ?_⟩) ?_
                  rotate_left
                  · (intro w; go_simp; first | done | with_reducible rfl)
                  conv => arg 7; simp [Act.put]
                  refine wpAny_ready (rs := [5, 13]) (by kernel_rfl) (by simp) ?_
                  refine AllReady.cons rfl (fun K hK => ?_) (AllReady.cons rfl (fun K hK => ?_) AllReady.nil)
                  · go_simp
                    refine hK _ _ ?_; clear hK K
                    refine wpAny_ready (rs := [13]) (by kernel_rfl) (by simp) ?_
                    refine AllReady.cons rfl (fun K hK => ?_) AllReady.nil
                    go_simp
                    refine hK _ _ ?_; clear hK K
                    refine wpAny_take (i := 20) (v := ?_) rfl (by kernel_rfl) (by kernel_rfl) (by kernel_rfl) (fun _ _ _ h => h) (Or.inl ⟨by kernel_rfl, ?_⟩) ?_
                    rotate_left
                    · (intro w; go_simp; first | done | with_reducible rfl)
                    conv => arg 7; simp [Act.put]
                    refine wpAny_take (i := 21) (v := ?_) rfl (by kernel_rfl) (by kernel_rfl) (by kernel_rfl) (fun _ _ _ h => h) (Or.inl ⟨by kernel_rfl, ?_⟩) ?_
                    rotate_left
                    · (intro w; go_simp; first | done | with_reducible rfl)
                    conv => arg 7; simp [Act.put]
                    refine wpAny_ready (rs := [22]) (by kernel_rfl) (by simp) ?_
                    refine AllReady.cons rfl (fun K hK => ?_) AllReady.nil
                    go_simp
                    refine hK _ _ ?_; clear hK K
                    refine wpAny_done (by kernel_rfl) ?_ _
                    go_wp2_with fail
                    go_roundw
                    case rel => exact ⟨m + 1, addE S p j, by go_num, by omega, by omega, HX.out, by first | exact HPUT.out _ HRI3.out _ rfl | exact HPUT.out _ (HRI3.out.keep (below_drewN _ _)) _ rfl, by first | exact HB3.out.setCell (Nat.le_refl _) _ | exact (HB3.out.trans (below_drewN _ _)).setCell (Nat.le_refl _) _⟩
                    case measure => simp [intOf]; omega
                  · go_simp
                    refine hK _ _ ?_; clear hK K
                    refine wpAny_take (i := 20) (v := ?_) rfl (by kernel_rfl) (by kernel_rfl) (by kernel_rfl) (fun _ _ _ h => h) (Or.inl ⟨by kernel_rfl, ?_⟩) ?_
                    rotate_left
                    · (intro w; go_simp; first | done | with_reducible rfl)
                    conv => arg 7; simp [Act.put]
                    refine wpAny_ready (rs := [5]) (by kernel_rfl) (by simp) ?_
                    refine AllReady.cons rfl (fun K hK => ?_) AllReady.nil
                    go_simp
                    refine hK _ _ ?_; clear hK K
                    refine wpAny_take (i := 21) (v := ?_) rfl (by kernel_rfl) (by kernel_rfl) (by kernel_rfl) (fun _ _ _ h => h) (Or.inl ⟨by kernel_rfl, ?_⟩) ?_
                    rotate_left
                    · (intro w; go_simp; first | done | with_reducible rfl)
                    conv => arg 7; simp [Act.put]
                    refine wpAny_ready (rs := [22]) (by kernel_rfl) (by simp) ?_
                    refine AllReady.cons rfl (fun K hK => ?_) AllReady.nil
                    go_simp
                    refine hK _ _ ?_; clear hK K
                    refine wpAny_done (by kernel_rfl) ?_ _
                    go_wp2_with fail
                    go_roundw
                    case rel => exact ⟨m + 1, addE S p j, by go_num, by omega, by omega, HX.out, by first | exact HPUT.out _ HRI3.out _ rfl | exact HPUT.out _ (HRI3.out.keep (below_drewN _ _)) _ rfl, by first | exact HB3.out.setCell (Nat.le_refl _) _ | exact (HB3.out.trans (below_drewN _ _)).setCell (Nat.le_refl _) _⟩
                    case measure => simp [intOf]; omega
        · obtain rfl : m = n := by omega
          have HX := Lib.hid (HS.out.congr (Q := HasP l (QM (k + 1) (k + 1 + 1))) (fun p j _ _ => HasP.congr (fun a b h1 h2 => by have := HN.out; unfold QM; omega)))
          go_wp2_with fail
          go_roundw
          case rel => exact ⟨k + 1, S, by go_num, by omega, HX.out, HRI.out, HB.out⟩
          case measure => simp [intOf]; omega
    · obtain rfl : k = n := by omega
      have HX := Lib.hid ((HS.out.congr (Q := HasP l (fun _ _ => True)) (fun p j _ _ => HasP.congr (fun a b h1 h2 => by have := HN.out; unfold QM; simp; omega))).done)
      have HL := Lib.hid (natI_len S)
      have hSl := HS.out.1
      go_wp2_with fail
      go_ret
      refine ⟨_, rfl, ⟨some ⟨w.heap.size, 0, none⟩, 4, ?_, ?_⟩, HB.out⟩
      · rw [← HX.out, HL.out, hSl]; rfl
      · have := HRI.out
        unfold RI at this
        rw [← HX.out]
        rw [HL.out, hSl] at this ⊢
        exact this
end Go.Proofs.Ytkfpedalkiopcab
