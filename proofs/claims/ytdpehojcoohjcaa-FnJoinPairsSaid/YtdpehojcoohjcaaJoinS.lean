/- Contract of JoinPairs in the model (chapter 9). Conditions: the pairs lie in rows; they are few; their texts are no longer than memory. -/
import Derived.Test.YtdpehojcoohjcaaJoinC
import Derived.StillTailTactics
set_option linter.unusedVariables false
set_option linter.unusedSimpArgs false
namespace Go.Proofs.Ytdpehojcoohjcaa
open Go.RowKit Go.ChangeShapes Go.WideShapes

theorem at_world9 {p : World → Prop} (W0 W : World) (B : Nat) (hb : Below B W0 W) (h : ∀ W', Below B W0 W' → p W') : p W := h W hb
theorem own_leJ {w : World} {B B' n z : Nat} {e : TypeId} {v : Value} {xs : List Value} (h : w.ownsRow B e z v n xs) (hB : B' ≤ B) : w.ownsRow B' e z v n xs := by
  refine ⟨h.1, ?_⟩
  rcases h.2 with h | ⟨g, cap, cur, hv, hg, r⟩
  · exact .inl h
  · exact .inr ⟨g, cap, cur, hv, by omega, r⟩
/-- how far the model has looked in the second store when it comes to the place i of the first -/
def LowJ (a b : List Pr) (i k : Nat) : Prop := ∀ (hi : i < a.length) (j : Nat) (hj : j < b.length), j < k → ltS b[j].1 a[i].1 = true
theorem LowJ.zero (a b : List Pr) (i : Nat) : LowJ a b i 0 := fun _ j _ h => by omega
theorem LowJ.more {a b : List Pr} {i k : Nat} (h : LowJ a b i k) (hi : i < a.length) (hk : k < b.length) (hl : ltS b[k].1 a[i].1 = true) : LowJ a b i (k + 1) := fun hi2 j hj hjk => by
  rcases Nat.lt_or_ge j k with h1 | h1
  · exact h hi2 j hj h1
  · obtain rfl : j = k := by omega
    exact hl
theorem LowJ.next {a b : List Pr} {i k : Nat} (h : LowJ a b i k) (ha : pairsB a = true) : LowJ a b (i + 1) k := fun hi2 j hj hjk =>
  ltS_trans (h (by omega) j hj hjk) (pairs_lt ha hi2 (by omega))
theorem LowJ.none {a b : List Pr} {i k : Nat} (h : LowJ a b i k) (hi : i < a.length) (hk : k = b.length) : rowJ a[i] b = [] := rowJ_end (fun j hj => h hi j hj (by omega))
theorem LowJ.at {a b : List Pr} {i k : Nat} (h : LowJ a b i k) (hi : i < a.length) (hk : k < b.length) (hb : pairsB b = true) (hge : ltS b[k].1 a[i].1 = false) : rowJ a[i] b = if fitJ a[i] b[k] then [pairJ a[i] b[k]] else [] :=
  rowJ_at (pairs_asc hb) hk (fun j hj hjk => h hi j hj hjk) hge

set_option maxRecDepth 100000 in
set_option maxHeartbeats 4000000 in
theorem sJoin_any (A1 : Option Addr) (n1 c1 : Nat) (l1 : List Pr) (A2 : Option Addr) (n2 c2 : Nat) (l2 : List Pr) (w : World)
    (hr1 : RowAt w w.heap.size A1 (prsC l1)) (hn1 : n1 = l1.length) (hs1 : n1 ≤ 1048576) (hw1 : WfPr l1) (hr2 : RowAt w w.heap.size A2 (prsC l2)) (hn2 : n2 = l2.length) (hs2 : n2 ≤ 1048576) (hw2 : WfPr l2) :
    Calls Try.prog 6 #[.slice A1 n1 c1, .slice A2 n2 c2] w (PrsPost (joinR l1 l2) w) := by
  obtain ⟨i0, hi0, hz0, hz1, hz2⟩ := info_parts prInfo
  have HI := Lib.hid (And.intro hi0 (And.intro hz0 (And.intro hz1 hz2))); clear hi0 hz0 hz1 hz2
  have HV1 := Lib.hid (fun W (hb : Below w.heap.size w W) => sPairs_any A1 n1 c1 l1 W ((hr1.below hb).mono hb.size) hn1 hs1 hw1)
  have HV2 := Lib.hid (fun W (hb : Below w.heap.size w W) => sPairs_any A2 n2 c2 l2 W ((hr2.below hb).mono hb.size) hn2 hs2 hw2)
  have HAT1 := Lib.hid (fun W (hb : Below w.heap.size w W) j (hj : j < l1.length) => prs_at (hr1.below hb) hj)
  have HAT2 := Lib.hid (fun W (hb : Below w.heap.size w W) j (hj : j < l2.length) => prs_at (hr2.below hb) hj)
  have HN1 := Lib.hid hn1
  have HN2 := Lib.hid hn2
  clear hr1 hr2 hn1 hn2 hw1 hw2
  have HB0 := Lib.hid (Below.refl w.heap.size w)
  cases hv1 : pairsB l1
  · rw [hv1] at HV1
    have HE := Lib.hid (joinR_no (a := l1) (b := l2) (by rw [hv1]; rfl))
    rw [HE.out]
    clear hv1
    go_enter Try.func6, Try.ntmps6
    go_wp2_with fail
    refine (HV1.out _ HB0.out).mono ?_
    rintro e w2 ⟨rfl, hb2⟩
    have HB := Lib.hid hb2; clear hb2
    go_wp2_with fail
    go_ret
    exact ⟨_, rfl, ⟨none, 0, rfl, World.ownsRow_nil _ _ _ _⟩, HB.out⟩
  cases hv2 : pairsB l2
  · rw [hv1] at HV1
    rw [hv2] at HV2
    have HE := Lib.hid (joinR_no (a := l1) (b := l2) (by rw [hv1, hv2]; rfl))
    rw [HE.out]
    clear hv1 hv2
    go_enter Try.func6, Try.ntmps6
    go_wp2_with fail
    refine (HV1.out _ HB0.out).mono ?_
    rintro e w2 ⟨rfl, hb2⟩
    have HB := Lib.hid hb2; clear hb2
    go_wp2_with fail
    refine (HV2.out _ HB.out).mono ?_
    rintro e w3 ⟨rfl, hb3⟩
    have HB3 := Lib.hid (HB.out.trans (hb3.mono HB.out.size)); clear hb3
    go_wp2_with fail
    go_ret
    exact ⟨_, rfl, ⟨none, 0, rfl, World.ownsRow_nil _ _ _ _⟩, HB3.out⟩
  rw [hv1] at HV1
  rw [hv2] at HV2
  have HE := Lib.hid (joinR_yes hv1 hv2)
  have h24 := pairs_len hv2
  have h241 := pairs_len hv1
  have HOK1 := Lib.hid (fun j (hj : j < l1.length) => valB_size (pairs_ok hv1 hj).2)
  have HOK2 := Lib.hid (fun j (hj : j < l2.length) => valB_size (pairs_ok hv2 hj).2)
  have HST := Lib.hid (fun i (hi : i < l1.length) => joinK_step (a := l1) l2 hi)
  have HPK1 := Lib.hid (fun j (hj : j < l1.length) => pairs_ok hv1 hj)
  have HPK2 := Lib.hid (fun j (hj : j < l2.length) => pairs_ok hv2 hj)
  have HNX := Lib.hid (fun i k (h : LowJ l1 l2 i k) => h.next hv1)
  have HAT := Lib.hid (fun i k (h : LowJ l1 l2 i k) hi hk => h.at hi hk hv2)
  clear hv1 hv2
  rw [← HN2.out] at h24
  rw [← HN1.out] at h241
  rw [HE.out]
  go_enter Try.func6, Try.ntmps6
  go_wp2_with fail
  refine (HV1.out _ HB0.out).mono ?_
  rintro e w2 ⟨rfl, hb2⟩
  have HB := Lib.hid hb2; clear hb2
  go_wp2_with fail
  refine (HV2.out _ HB.out).mono ?_
  rintro e w3 ⟨rfl, hb3⟩
  have HB3 := Lib.hid (HB.out.trans (hb3.mono HB.out.size)); clear hb3
  clear HV1 HV2
  have HO0 := Lib.hid (show OutR 37 2 w [] 0 (some ⟨w3.heap.size, 0, none⟩) 0 (w3.alloc (.cells #[] 37)) from ⟨own_leJ (OutR.empty 37 2 w3).1 HB3.out.size, HB3.out.alloc HB3.out.size _⟩)
  go_wp2_with fail
  go_loopw [5, 6, 7] (fun q kk iv wr => ∃ (i k m : Nat) (out : List Pr) (A' : Option Addr) (c' : Nat), q = .slice A' m c' ∧ kk = .int .i64 k ∧ iv = .int .i64 i ∧ i ≤ n1 ∧ k ≤ n2 ∧ LowJ l1 l2 i k ∧ joinK (l1.take i) l2 = out ∧ m = out.length ∧ m ≤ i ∧ OutR 37 2 w (prsC out) m A' c' wr) (fun _ _ iv _ => n1 - (intOf iv).toNat)
  case atStart => exact ⟨0, 0, 0, [], _, _, rfl, rfl, rfl, by omega, by omega, LowJ.zero _ _ _, rfl, rfl, by omega, HO0.out⟩
  case round =>
    obtain ⟨i, k, m, out, A', c', rfl, rfl, rfl, hi, hk, hlo, hf, hm, hmk, ho⟩ := hrel
    clear HO0
    have HM := Lib.hid hm; clear hm
    have HF := Lib.hid hf; clear hf
    have HO := Lib.hid ho; clear ho
    have HLO := Lib.hid hlo; clear hlo
    by_cases hlt : i < n1
    · have hil : i < l1.length := by have := HN1.out; omega
      have HSI := Lib.hid (HST.out i hil)
      have hi1 : (i : Int) < (n1 : Int) := by omega
      clear HST
      go_wp2_with fail
      go_loopw [6] (fun kk wr2 => ∃ (k : Nat), kk = .int .i64 k ∧ k ≤ n2 ∧ LowJ l1 l2 i k ∧ Below wr.heap.size wr wr2) (fun kk _ => n2 - (intOf kk).toNat)
      case atStart => exact ⟨k, rfl, hk, HLO.out, Below.refl _ _⟩
      case round =>
        clear HLO hk
        obtain ⟨k, rfl, hk, hlo, hb4⟩ := hrel
        have HLO := Lib.hid hlo; clear hlo
        have HBB := Lib.hid hb4
        have HO4 := Lib.hid (HO.out.keep hb4); clear hb4
        rename World => wx
        obtain ⟨b, off, hA, hbw, e0, e1⟩ := HAT1.out _ HO4.out.2 i hil
        subst hA
        have HAT2' := Lib.hid (fun h => HAT2.out _ HO4.out.2 k h)
        have HX := Lib.hid (HPK1.out i hil)
        by_cases hlt2 : k < n2
        · have hkl : k < l2.length := by have := HN2.out; omega
          obtain ⟨b2, off2, hA2, hbw2, d0, d1⟩ := HAT2'.out hkl
          subst hA2
          have HY := Lib.hid (HPK2.out k hkl)
          have HG := Lib.hid (fun h => HAT.out i k HLO.out hil hkl h)
          have HMO := Lib.hid (fun h => HLO.out.more hil hkl h)
          have HNN := Lib.hid (HNX.out i k HLO.out)
          have hi2 : (k : Int) < (n2 : Int) := by omega
          have hbs1 : b < wx.heap.size := Nat.lt_of_lt_of_le hbw HO4.out.2.size
          have hbs2 : b2 < wx.heap.size := Nat.lt_of_lt_of_le hbw2 HO4.out.2.size
          have HCE := Lib.hid (fun W (hb : Below wx.heap.size wx W) => And.intro ((hb.cell (p := ⟨b, off + i * 2, none⟩) hbs1).trans e0) (And.intro ((hb.cell (p := ⟨b, off + i * 2 + 1, none⟩) hbs1).trans e1) (And.intro ((hb.cell (p := ⟨b2, off2 + k * 2, none⟩) hbs2).trans d0) ((hb.cell (p := ⟨b2, off2 + k * 2 + 1, none⟩) hbs2).trans d1))))
          have hfd : fitJ l1[i] l2[k] = (l2[k].1.toList == l1[i].1.toList && decide (((l1[i].2.size : Int) + (l2[k].2.size : Int)) ≤ 4)) := rfl
          have hpj : pairJ l1[i] l2[k] = (l1[i].1, l1[i].2 ++ l2[k].2) := rfl
          rw [hfd, hpj] at HG
          clear hfd hpj
          generalize l1[i].1 = x0 at *
          generalize l1[i].2 = x1 at *
          generalize l2[k].1 = y0 at *
          generalize l2[k].2 = y1 at *
          cases hq : ltS y0 x0
          · have hq2 : Op.bytesLess y0.toList x0.toList = false := hq
            have HGG := Lib.hid (HG.out hq)
            clear HG HMO hq
            cases hq3 : (y0.toList == x0.toList)
            · rw [hq3] at HGG
              have HFE := Lib.hid (show joinK (l1.take (i + 1)) l2 = out by rw [HSI.out, HGG.out, HF.out]; simp)
              go_wp2_with fail
              go_quiet (fail)
              go_wp2_with fail
              go_quiet (fail)
              go_wp2_with fail
              go_roundw
              case rel => exact ⟨i + 1, k, m, out, A', c', rfl, rfl, by go_num, by omega, by omega, HNN.out, HFE.out, HM.out, by omega, HO4.out.keep (below_drewN _ _)⟩
              case measure => simp [intOf]; omega
            · have HVV := Lib.hid (fun W => sval_any (x1 ++ y1) W (by have := valB_size HX.out.2; have := valB_size HY.out.2; rw [ByteArray.size_append]; unfold maxLen; omega))
              rw [valB_app HX.out.2 HY.out.2] at HVV
              have hx4 := valB_size HX.out.2
              have hy4 := valB_size HY.out.2
              have hcat : ¬ 9223372036854775807 < x1.size + y1.size := by omega
              by_cases hs : (x1.size : Int) + (y1.size : Int) ≤ 4
              · rw [decide_eq_true hs] at HVV
                rw [hq3, decide_eq_true hs] at HGG
                have HFE := Lib.hid (show joinK (l1.take (i + 1)) l2 = out ++ [(x0, x1 ++ y1)] by rw [HSI.out, HGG.out, HF.out]; rfl)
                clear hs
                go_wp2_with fail
                go_quiet (fail)
                go_wp2_with fail
                go_quiet ((go_at_call 18; refine (HVV.out _).mono ?_; rintro e wz ⟨rfl, rfl⟩; exact ⟨rfl, _, rfl⟩))
                go_wp2_with fail
                --REGION--
                refine wp_region_any (by kernel_rfl) ?_
                try (change wpAny _ _ _ _ _ _ _ (World.drew _))
                refine at_world9 (p := fun W => wpAny _ _ _ _ _ _ _ W) wx _ wx.heap.size (by repeat (first | with_reducible exact Below.refl _ _ | with_reducible refine Below.drew ?_ | with_reducible refine Below.trans ?_ (below_drewN _ _))) ?_
                intro W0 hb0
                have HOW := Lib.hid (HO4.out.keep hb0)
                obtain ⟨e0, e1, d0, d1⟩ := HCE.out W0 hb0
                clear hb0
                refine wpAny_take (i := 0) (v := ?_) rfl (by kernel_rfl) (by kernel_rfl) (by kernel_rfl) (fun _ _ _ h => h) (Or.inl ⟨by kernel_rfl, ?_⟩) ?_
                rotate_left
                · (intro w; go_simp; first | done | with_reducible rfl)
                conv => arg 7; simp [Act.put]
                refine wpAny_take (i := 1) (v := ?_) rfl (by kernel_rfl) (by kernel_rfl) (by kernel_rfl) (fun _ _ _ h => h) (Or.inl ⟨by kernel_rfl, ?_⟩) ?_
                rotate_left
                · (intro w; go_simp; first | done | with_reducible rfl)
                conv => arg 7; simp [Act.put]
                refine wpAny_take (i := 2) (v := ?_) rfl (by kernel_rfl) (by kernel_rfl) (by kernel_rfl) (fun _ _ _ h => h) (Or.inl ⟨by kernel_rfl, ?_⟩) ?_
                rotate_left
                · (intro w; go_simp; first | done | with_reducible rfl)
                conv => arg 7; simp [Act.put]
                refine wpAny_take (i := 3) (v := ?_) rfl (by kernel_rfl) (by kernel_rfl) (by kernel_rfl) (fun _ _ _ h => h) (Or.inl ⟨by kernel_rfl, ?_⟩) ?_
                rotate_left
                · (intro w; go_simp; first | done | with_reducible rfl)
                conv => arg 7; simp [Act.put]
                refine wpAny_take (i := 4) (v := ?_) rfl (by kernel_rfl) (by kernel_rfl) (by kernel_rfl) (fun _ _ _ h => h) (Or.inl ⟨by kernel_rfl, ?_⟩) ?_
                rotate_left
                · (intro w; go_simp; first | done | with_reducible rfl)
                conv => arg 7; simp [Act.put]
                refine wpAny_take (i := 6) (v := ?_) rfl (by kernel_rfl) (by kernel_rfl) (by kernel_rfl) (fun _ _ _ h => h) (Or.inl ⟨by kernel_rfl, ?_⟩) ?_
                rotate_left
                · (intro w; go_simp; first | done | with_reducible rfl)
                conv => arg 7; simp [Act.put]
                refine wpAny_take (i := 7) (v := ?_) rfl (by kernel_rfl) (by kernel_rfl) (by kernel_rfl) (fun _ _ _ h => h) (Or.inl ⟨by kernel_rfl, ?_⟩) ?_
                rotate_left
                · (intro w; go_simp; first | done | with_reducible rfl)
                conv => arg 7; simp [Act.put]
                refine wpAny_take (i := 8) (v := ?_) rfl (by kernel_rfl) (by kernel_rfl) (by kernel_rfl) (fun _ _ _ h => h) (Or.inl ⟨by kernel_rfl, ?_⟩) ?_
                rotate_left
                · (intro w; go_simp; first | done | with_reducible rfl)
                conv => arg 7; simp [Act.put]
                refine wpAny_take (i := 9) (v := ?_) rfl (by kernel_rfl) (by kernel_rfl) (by kernel_rfl) (fun _ _ _ h => h) (Or.inl ⟨by kernel_rfl, ?_⟩) ?_
                rotate_left
                · (intro w; go_simp; first | done | with_reducible rfl)
                conv => arg 7; simp [Act.put]
                refine wpAny_take (i := 11) (v := ?_) rfl (by kernel_rfl) (by kernel_rfl) (by kernel_rfl) (fun _ _ _ h => h) (Or.inl ⟨by kernel_rfl, ?_⟩) ?_
                rotate_left
                · (intro w; go_simp; first | done | with_reducible rfl)
                conv => arg 7; simp [Act.put]
                refine wpAny_take (i := 12) (v := ?_) rfl (by kernel_rfl) (by kernel_rfl) (by kernel_rfl) (fun _ _ _ h => h) (Or.inl ⟨by kernel_rfl, ?_⟩) ?_
                rotate_left
                · (intro w; go_simp; first | done | with_reducible rfl)
                conv => arg 7; simp [Act.put]
                refine wpAny_take (i := 13) (v := ?_) rfl (by kernel_rfl) (by kernel_rfl) (by kernel_rfl) (fun _ _ _ h => h) (Or.inl ⟨by kernel_rfl, ?_⟩) ?_
                rotate_left
                · (intro w; go_simp; first | done | with_reducible rfl)
                conv => arg 7; simp [Act.put]
                refine wpAny_take (i := 14) (v := ?_) rfl (by kernel_rfl) (by kernel_rfl) (by kernel_rfl) (fun _ _ _ h => h) (Or.inl ⟨by kernel_rfl, ?_⟩) ?_
                rotate_left
                · (intro w; go_simp; first | done | with_reducible rfl)
                conv => arg 7; simp [Act.put]
                refine wpAny_ready (rs := [5, 10, 15]) (by kernel_rfl) (by simp) ?_
                refine AllReady.cons rfl (fun K hK => ?_) (AllReady.cons rfl (fun K hK => ?_) (AllReady.cons rfl (fun K hK => ?_) AllReady.nil))
                · go_simp
                  refine hK _ _ ?_; clear hK K
                  refine wpAny_ready (rs := [10, 15]) (by kernel_rfl) (by simp) ?_
                  refine AllReady.cons rfl (fun K hK => ?_) (AllReady.cons rfl (fun K hK => ?_) AllReady.nil)
                  · go_simp
                    refine hK _ _ ?_; clear hK K
                    refine wpAny_ready (rs := [15]) (by kernel_rfl) (by simp) ?_
                    refine AllReady.cons rfl (fun K hK => ?_) AllReady.nil
                    go_simp
                    refine hK _ _ ?_; clear hK K
                    refine wpAny_take (i := 16) (v := ?_) rfl (by kernel_rfl) (by kernel_rfl) (by kernel_rfl) (fun _ _ _ h => h) (Or.inl ⟨by kernel_rfl, ?_⟩) ?_
                    rotate_left
                    · (intro w; go_simp; first | done | with_reducible rfl)
                    conv => arg 7; simp [Act.put]
                    refine wpAny_take (i := 17) (v := ?_) rfl (by kernel_rfl) (by kernel_rfl) (by kernel_rfl) (fun _ _ _ h => h) (Or.inl ⟨by kernel_rfl, ?_⟩) ?_
                    rotate_left
                    · (intro w; go_simp; first | done | with_reducible rfl)
                    conv => arg 7; simp [Act.put]
                    refine wpAny_ready (rs := [18]) (by kernel_rfl) (by simp) ?_
                    refine AllReady.cons rfl (fun K hK => ?_) AllReady.nil
                    go_simp
                    refine hK _ _ ?_; clear hK K
                    have HOZ := Lib.hid (HOW.out.keep ((Below.refl W0.heap.size W0).alloc (Nat.le_refl _) (.cells #[.string x0, .string (x1 ++ y1)] 37)))
                    clear HOW
                    refine wpAny_ready (rs := [19]) (by kernel_rfl) (by simp) ?_
                    refine AllReady.cons rfl (fun K hK => ?_) AllReady.nil
                    refine step_append_lies _ (by rfl) (.tmp 73) (.tmp 91) 24 (by rfl) w.heap.size 37 i0 (.agg #[.string ⟨#[]⟩, .string ⟨#[]⟩]) 2 32 Try.underlying24 HI.out.1 HI.out.2.1 HI.out.2.2.1 HI.out.2.2.2 rfl (by decide) (.slice A' m c') m (prsC out) (by simp [Act.eval, Act.put]) HOZ.out.1 ⟨W0.heap.size, 0, none⟩ 1 1 [.string x0, .string (x1 ++ y1)] (by simp [Act.eval, Act.put]) rfl (fun j u hj => cells_at0 _ _ _ j u hj) (by intro u hu; simp at hu; rcases hu with rfl | rfl <;> rfl) (by decide) (by unfold maxLen; omega) (by omega) HOZ.out.2.size _ rfl ?_
                    intro g cap w4 hown hgrow _ _
                    obtain ⟨A4, c4, hv4, ho4⟩ := HOZ.out.app hown hgrow
                    cases hv4
                    have HO5 := Lib.hid ho4
                    clear hown hgrow ho4 HOZ
                    refine hK _ _ ?_; clear hK K
                    conv => arg 7; simp [Act.put]
                    refine wpAny_take (i := 20) (v := ?_) rfl (by kernel_rfl) (by kernel_rfl) (by kernel_rfl) (fun _ _ _ h => h) (Or.inl ⟨by kernel_rfl, ?_⟩) ?_
                    rotate_left
                    · (intro w; go_simp; first | done | with_reducible rfl)
                    conv => arg 7; simp [Act.put]
                    refine wpAny_done (by kernel_rfl) ?_ _
                    go_wp2_with fail
                    go_roundw
                    case rel => exact ⟨i + 1, k, m + 1, out ++ [(x0, x1 ++ y1)], _, _, rfl, rfl, by go_num, by omega, by omega, HNN.out, HFE.out, by rw [List.length_append, ← HM.out]; rfl, by omega, by rw [prsC_snoc]; exact HO5.out⟩
                    case measure => simp [intOf]; omega
                  · go_simp
                    refine hK _ _ ?_; clear hK K
                    refine wpAny_ready (rs := [10]) (by kernel_rfl) (by simp) ?_
                    refine AllReady.cons rfl (fun K hK => ?_) AllReady.nil
                    go_simp
                    refine hK _ _ ?_; clear hK K
                    refine wpAny_take (i := 16) (v := ?_) rfl (by kernel_rfl) (by kernel_rfl) (by kernel_rfl) (fun _ _ _ h => h) (Or.inl ⟨by kernel_rfl, ?_⟩) ?_
                    rotate_left
                    · (intro w; go_simp; first | done | with_reducible rfl)
                    conv => arg 7; simp [Act.put]
                    refine wpAny_take (i := 17) (v := ?_) rfl (by kernel_rfl) (by kernel_rfl) (by kernel_rfl) (fun _ _ _ h => h) (Or.inl ⟨by kernel_rfl, ?_⟩) ?_
                    rotate_left
                    · (intro w; go_simp; first | done | with_reducible rfl)
                    conv => arg 7; simp [Act.put]
                    refine wpAny_ready (rs := [18]) (by kernel_rfl) (by simp) ?_
                    refine AllReady.cons rfl (fun K hK => ?_) AllReady.nil
                    go_simp
                    refine hK _ _ ?_; clear hK K
                    have HOZ := Lib.hid (HOW.out.keep ((Below.refl W0.heap.size W0).alloc (Nat.le_refl _) (.cells #[.string x0, .string (x1 ++ y1)] 37)))
                    clear HOW
                    refine wpAny_ready (rs := [19]) (by kernel_rfl) (by simp) ?_
                    refine AllReady.cons rfl (fun K hK => ?_) AllReady.nil
                    refine step_append_lies _ (by rfl) (.tmp 73) (.tmp 91) 24 (by rfl) w.heap.size 37 i0 (.agg #[.string ⟨#[]⟩, .string ⟨#[]⟩]) 2 32 Try.underlying24 HI.out.1 HI.out.2.1 HI.out.2.2.1 HI.out.2.2.2 rfl (by decide) (.slice A' m c') m (prsC out) (by simp [Act.eval, Act.put]) HOZ.out.1 ⟨W0.heap.size, 0, none⟩ 1 1 [.string x0, .string (x1 ++ y1)] (by simp [Act.eval, Act.put]) rfl (fun j u hj => cells_at0 _ _ _ j u hj) (by intro u hu; simp at hu; rcases hu with rfl | rfl <;> rfl) (by decide) (by unfold maxLen; omega) (by omega) HOZ.out.2.size _ rfl ?_
                    intro g cap w4 hown hgrow _ _
                    obtain ⟨A4, c4, hv4, ho4⟩ := HOZ.out.app hown hgrow
                    cases hv4
                    have HO5 := Lib.hid ho4
                    clear hown hgrow ho4 HOZ
                    refine hK _ _ ?_; clear hK K
                    conv => arg 7; simp [Act.put]
                    refine wpAny_take (i := 20) (v := ?_) rfl (by kernel_rfl) (by kernel_rfl) (by kernel_rfl) (fun _ _ _ h => h) (Or.inl ⟨by kernel_rfl, ?_⟩) ?_
                    rotate_left
                    · (intro w; go_simp; first | done | with_reducible rfl)
                    conv => arg 7; simp [Act.put]
                    refine wpAny_done (by kernel_rfl) ?_ _
                    go_wp2_with fail
                    go_roundw
                    case rel => exact ⟨i + 1, k, m + 1, out ++ [(x0, x1 ++ y1)], _, _, rfl, rfl, by go_num, by omega, by omega, HNN.out, HFE.out, by rw [List.length_append, ← HM.out]; rfl, by omega, by rw [prsC_snoc]; exact HO5.out⟩
                    case measure => simp [intOf]; omega
                · go_simp
                  refine hK _ _ ?_; clear hK K
                  refine wpAny_ready (rs := [5, 15]) (by kernel_rfl) (by simp) ?_
                  refine AllReady.cons rfl (fun K hK => ?_) (AllReady.cons rfl (fun K hK => ?_) AllReady.nil)
                  · go_simp
                    refine hK _ _ ?_; clear hK K
                    refine wpAny_ready (rs := [15]) (by kernel_rfl) (by simp) ?_
                    refine AllReady.cons rfl (fun K hK => ?_) AllReady.nil
                    go_simp
                    refine hK _ _ ?_; clear hK K
                    refine wpAny_take (i := 16) (v := ?_) rfl (by kernel_rfl) (by kernel_rfl) (by kernel_rfl) (fun _ _ _ h => h) (Or.inl ⟨by kernel_rfl, ?_⟩) ?_
                    rotate_left
                    · (intro w; go_simp; first | done | with_reducible rfl)
                    conv => arg 7; simp [Act.put]
                    refine wpAny_take (i := 17) (v := ?_) rfl (by kernel_rfl) (by kernel_rfl) (by kernel_rfl) (fun _ _ _ h => h) (Or.inl ⟨by kernel_rfl, ?_⟩) ?_
                    rotate_left
                    · (intro w; go_simp; first | done | with_reducible rfl)
                    conv => arg 7; simp [Act.put]
                    refine wpAny_ready (rs := [18]) (by kernel_rfl) (by simp) ?_
                    refine AllReady.cons rfl (fun K hK => ?_) AllReady.nil
                    go_simp
                    refine hK _ _ ?_; clear hK K
                    have HOZ := Lib.hid (HOW.out.keep ((Below.refl W0.heap.size W0).alloc (Nat.le_refl _) (.cells #[.string x0, .string (x1 ++ y1)] 37)))
                    clear HOW
                    refine wpAny_ready (rs := [19]) (by kernel_rfl) (by simp) ?_
                    refine AllReady.cons rfl (fun K hK => ?_) AllReady.nil
                    refine step_append_lies _ (by rfl) (.tmp 73) (.tmp 91) 24 (by rfl) w.heap.size 37 i0 (.agg #[.string ⟨#[]⟩, .string ⟨#[]⟩]) 2 32 Try.underlying24 HI.out.1 HI.out.2.1 HI.out.2.2.1 HI.out.2.2.2 rfl (by decide) (.slice A' m c') m (prsC out) (by simp [Act.eval, Act.put]) HOZ.out.1 ⟨W0.heap.size, 0, none⟩ 1 1 [.string x0, .string (x1 ++ y1)] (by simp [Act.eval, Act.put]) rfl (fun j u hj => cells_at0 _ _ _ j u hj) (by intro u hu; simp at hu; rcases hu with rfl | rfl <;> rfl) (by decide) (by unfold maxLen; omega) (by omega) HOZ.out.2.size _ rfl ?_
                    intro g cap w4 hown hgrow _ _
                    obtain ⟨A4, c4, hv4, ho4⟩ := HOZ.out.app hown hgrow
                    cases hv4
                    have HO5 := Lib.hid ho4
                    clear hown hgrow ho4 HOZ
                    refine hK _ _ ?_; clear hK K
                    conv => arg 7; simp [Act.put]
                    refine wpAny_take (i := 20) (v := ?_) rfl (by kernel_rfl) (by kernel_rfl) (by kernel_rfl) (fun _ _ _ h => h) (Or.inl ⟨by kernel_rfl, ?_⟩) ?_
                    rotate_left
                    · (intro w; go_simp; first | done | with_reducible rfl)
                    conv => arg 7; simp [Act.put]
                    refine wpAny_done (by kernel_rfl) ?_ _
                    go_wp2_with fail
                    go_roundw
                    case rel => exact ⟨i + 1, k, m + 1, out ++ [(x0, x1 ++ y1)], _, _, rfl, rfl, by go_num, by omega, by omega, HNN.out, HFE.out, by rw [List.length_append, ← HM.out]; rfl, by omega, by rw [prsC_snoc]; exact HO5.out⟩
                    case measure => simp [intOf]; omega
                  · go_simp
                    refine hK _ _ ?_; clear hK K
                    refine wpAny_take (i := 16) (v := ?_) rfl (by kernel_rfl) (by kernel_rfl) (by kernel_rfl) (fun _ _ _ h => h) (Or.inl ⟨by kernel_rfl, ?_⟩) ?_
                    rotate_left
                    · (intro w; go_simp; first | done | with_reducible rfl)
                    conv => arg 7; simp [Act.put]
                    refine wpAny_ready (rs := [5]) (by kernel_rfl) (by simp) ?_
                    refine AllReady.cons rfl (fun K hK => ?_) AllReady.nil
                    go_simp
                    refine hK _ _ ?_; clear hK K
                    refine wpAny_take (i := 17) (v := ?_) rfl (by kernel_rfl) (by kernel_rfl) (by kernel_rfl) (fun _ _ _ h => h) (Or.inl ⟨by kernel_rfl, ?_⟩) ?_
                    rotate_left
                    · (intro w; go_simp; first | done | with_reducible rfl)
                    conv => arg 7; simp [Act.put]
                    refine wpAny_ready (rs := [18]) (by kernel_rfl) (by simp) ?_
                    refine AllReady.cons rfl (fun K hK => ?_) AllReady.nil
                    go_simp
                    refine hK _ _ ?_; clear hK K
                    have HOZ := Lib.hid (HOW.out.keep ((Below.refl W0.heap.size W0).alloc (Nat.le_refl _) (.cells #[.string x0, .string (x1 ++ y1)] 37)))
                    clear HOW
                    refine wpAny_ready (rs := [19]) (by kernel_rfl) (by simp) ?_
                    refine AllReady.cons rfl (fun K hK => ?_) AllReady.nil
                    refine step_append_lies _ (by rfl) (.tmp 73) (.tmp 91) 24 (by rfl) w.heap.size 37 i0 (.agg #[.string ⟨#[]⟩, .string ⟨#[]⟩]) 2 32 Try.underlying24 HI.out.1 HI.out.2.1 HI.out.2.2.1 HI.out.2.2.2 rfl (by decide) (.slice A' m c') m (prsC out) (by simp [Act.eval, Act.put]) HOZ.out.1 ⟨W0.heap.size, 0, none⟩ 1 1 [.string x0, .string (x1 ++ y1)] (by simp [Act.eval, Act.put]) rfl (fun j u hj => cells_at0 _ _ _ j u hj) (by intro u hu; simp at hu; rcases hu with rfl | rfl <;> rfl) (by decide) (by unfold maxLen; omega) (by omega) HOZ.out.2.size _ rfl ?_
                    intro g cap w4 hown hgrow _ _
                    obtain ⟨A4, c4, hv4, ho4⟩ := HOZ.out.app hown hgrow
                    cases hv4
                    have HO5 := Lib.hid ho4
                    clear hown hgrow ho4 HOZ
                    refine hK _ _ ?_; clear hK K
                    conv => arg 7; simp [Act.put]
                    refine wpAny_take (i := 20) (v := ?_) rfl (by kernel_rfl) (by kernel_rfl) (by kernel_rfl) (fun _ _ _ h => h) (Or.inl ⟨by kernel_rfl, ?_⟩) ?_
                    rotate_left
                    · (intro w; go_simp; first | done | with_reducible rfl)
                    conv => arg 7; simp [Act.put]
                    refine wpAny_done (by kernel_rfl) ?_ _
                    go_wp2_with fail
                    go_roundw
                    case rel => exact ⟨i + 1, k, m + 1, out ++ [(x0, x1 ++ y1)], _, _, rfl, rfl, by go_num, by omega, by omega, HNN.out, HFE.out, by rw [List.length_append, ← HM.out]; rfl, by omega, by rw [prsC_snoc]; exact HO5.out⟩
                    case measure => simp [intOf]; omega
                · go_simp
                  refine hK _ _ ?_; clear hK K
                  refine wpAny_ready (rs := [5, 10]) (by kernel_rfl) (by simp) ?_
                  refine AllReady.cons rfl (fun K hK => ?_) (AllReady.cons rfl (fun K hK => ?_) AllReady.nil)
                  · go_simp
                    refine hK _ _ ?_; clear hK K
                    refine wpAny_ready (rs := [10]) (by kernel_rfl) (by simp) ?_
                    refine AllReady.cons rfl (fun K hK => ?_) AllReady.nil
                    go_simp
                    refine hK _ _ ?_; clear hK K
                    refine wpAny_take (i := 16) (v := ?_) rfl (by kernel_rfl) (by kernel_rfl) (by kernel_rfl) (fun _ _ _ h => h) (Or.inl ⟨by kernel_rfl, ?_⟩) ?_
                    rotate_left
                    · (intro w; go_simp; first | done | with_reducible rfl)
                    conv => arg 7; simp [Act.put]
                    refine wpAny_take (i := 17) (v := ?_) rfl (by kernel_rfl) (by kernel_rfl) (by kernel_rfl) (fun _ _ _ h => h) (Or.inl ⟨by kernel_rfl, ?_⟩) ?_
                    rotate_left
                    · (intro w; go_simp; first | done | with_reducible rfl)
                    conv => arg 7; simp [Act.put]
                    refine wpAny_ready (rs := [18]) (by kernel_rfl) (by simp) ?_
                    refine AllReady.cons rfl (fun K hK => ?_) AllReady.nil
                    go_simp
                    refine hK _ _ ?_; clear hK K
                    have HOZ := Lib.hid (HOW.out.keep ((Below.refl W0.heap.size W0).alloc (Nat.le_refl _) (.cells #[.string x0, .string (x1 ++ y1)] 37)))
                    clear HOW
                    refine wpAny_ready (rs := [19]) (by kernel_rfl) (by simp) ?_
                    refine AllReady.cons rfl (fun K hK => ?_) AllReady.nil
                    refine step_append_lies _ (by rfl) (.tmp 73) (.tmp 91) 24 (by rfl) w.heap.size 37 i0 (.agg #[.string ⟨#[]⟩, .string ⟨#[]⟩]) 2 32 Try.underlying24 HI.out.1 HI.out.2.1 HI.out.2.2.1 HI.out.2.2.2 rfl (by decide) (.slice A' m c') m (prsC out) (by simp [Act.eval, Act.put]) HOZ.out.1 ⟨W0.heap.size, 0, none⟩ 1 1 [.string x0, .string (x1 ++ y1)] (by simp [Act.eval, Act.put]) rfl (fun j u hj => cells_at0 _ _ _ j u hj) (by intro u hu; simp at hu; rcases hu with rfl | rfl <;> rfl) (by decide) (by unfold maxLen; omega) (by omega) HOZ.out.2.size _ rfl ?_
                    intro g cap w4 hown hgrow _ _
                    obtain ⟨A4, c4, hv4, ho4⟩ := HOZ.out.app hown hgrow
                    cases hv4
                    have HO5 := Lib.hid ho4
                    clear hown hgrow ho4 HOZ
                    refine hK _ _ ?_; clear hK K
                    conv => arg 7; simp [Act.put]
                    refine wpAny_take (i := 20) (v := ?_) rfl (by kernel_rfl) (by kernel_rfl) (by kernel_rfl) (fun _ _ _ h => h) (Or.inl ⟨by kernel_rfl, ?_⟩) ?_
                    rotate_left
                    · (intro w; go_simp; first | done | with_reducible rfl)
                    conv => arg 7; simp [Act.put]
                    refine wpAny_done (by kernel_rfl) ?_ _
                    go_wp2_with fail
                    go_roundw
                    case rel => exact ⟨i + 1, k, m + 1, out ++ [(x0, x1 ++ y1)], _, _, rfl, rfl, by go_num, by omega, by omega, HNN.out, HFE.out, by rw [List.length_append, ← HM.out]; rfl, by omega, by rw [prsC_snoc]; exact HO5.out⟩
                    case measure => simp [intOf]; omega
                  · go_simp
                    refine hK _ _ ?_; clear hK K
                    refine wpAny_take (i := 16) (v := ?_) rfl (by kernel_rfl) (by kernel_rfl) (by kernel_rfl) (fun _ _ _ h => h) (Or.inl ⟨by kernel_rfl, ?_⟩) ?_
                    rotate_left
                    · (intro w; go_simp; first | done | with_reducible rfl)
                    conv => arg 7; simp [Act.put]
                    refine wpAny_ready (rs := [5]) (by kernel_rfl) (by simp) ?_
                    refine AllReady.cons rfl (fun K hK => ?_) AllReady.nil
                    go_simp
                    refine hK _ _ ?_; clear hK K
                    refine wpAny_take (i := 17) (v := ?_) rfl (by kernel_rfl) (by kernel_rfl) (by kernel_rfl) (fun _ _ _ h => h) (Or.inl ⟨by kernel_rfl, ?_⟩) ?_
                    rotate_left
                    · (intro w; go_simp; first | done | with_reducible rfl)
                    conv => arg 7; simp [Act.put]
                    refine wpAny_ready (rs := [18]) (by kernel_rfl) (by simp) ?_
                    refine AllReady.cons rfl (fun K hK => ?_) AllReady.nil
                    go_simp
                    refine hK _ _ ?_; clear hK K
                    have HOZ := Lib.hid (HOW.out.keep ((Below.refl W0.heap.size W0).alloc (Nat.le_refl _) (.cells #[.string x0, .string (x1 ++ y1)] 37)))
                    clear HOW
                    refine wpAny_ready (rs := [19]) (by kernel_rfl) (by simp) ?_
                    refine AllReady.cons rfl (fun K hK => ?_) AllReady.nil
                    refine step_append_lies _ (by rfl) (.tmp 73) (.tmp 91) 24 (by rfl) w.heap.size 37 i0 (.agg #[.string ⟨#[]⟩, .string ⟨#[]⟩]) 2 32 Try.underlying24 HI.out.1 HI.out.2.1 HI.out.2.2.1 HI.out.2.2.2 rfl (by decide) (.slice A' m c') m (prsC out) (by simp [Act.eval, Act.put]) HOZ.out.1 ⟨W0.heap.size, 0, none⟩ 1 1 [.string x0, .string (x1 ++ y1)] (by simp [Act.eval, Act.put]) rfl (fun j u hj => cells_at0 _ _ _ j u hj) (by intro u hu; simp at hu; rcases hu with rfl | rfl <;> rfl) (by decide) (by unfold maxLen; omega) (by omega) HOZ.out.2.size _ rfl ?_
                    intro g cap w4 hown hgrow _ _
                    obtain ⟨A4, c4, hv4, ho4⟩ := HOZ.out.app hown hgrow
                    cases hv4
                    have HO5 := Lib.hid ho4
                    clear hown hgrow ho4 HOZ
                    refine hK _ _ ?_; clear hK K
                    conv => arg 7; simp [Act.put]
                    refine wpAny_take (i := 20) (v := ?_) rfl (by kernel_rfl) (by kernel_rfl) (by kernel_rfl) (fun _ _ _ h => h) (Or.inl ⟨by kernel_rfl, ?_⟩) ?_
                    rotate_left
                    · (intro w; go_simp; first | done | with_reducible rfl)
                    conv => arg 7; simp [Act.put]
                    refine wpAny_done (by kernel_rfl) ?_ _
                    go_wp2_with fail
                    go_roundw
                    case rel => exact ⟨i + 1, k, m + 1, out ++ [(x0, x1 ++ y1)], _, _, rfl, rfl, by go_num, by omega, by omega, HNN.out, HFE.out, by rw [List.length_append, ← HM.out]; rfl, by omega, by rw [prsC_snoc]; exact HO5.out⟩
                    case measure => simp [intOf]; omega
                --END--
              · rw [decide_eq_false hs] at HVV
                rw [hq3, decide_eq_false hs] at HGG
                have HFE := Lib.hid (show joinK (l1.take (i + 1)) l2 = out by rw [HSI.out, HGG.out, HF.out]; simp)
                clear hs
                go_wp2_with fail
                go_quiet (fail)
                go_wp2_with fail
                go_quiet ((go_at_call 18; refine (HVV.out _).mono ?_; rintro e wz ⟨rfl, rfl⟩; exact ⟨rfl, _, rfl⟩))
                go_wp2_with fail
                go_roundw
                case rel => exact ⟨i + 1, k, m, out, A', c', rfl, rfl, by go_num, by omega, by omega, HNN.out, HFE.out, HM.out, by omega, HO4.out.keep (below_drewN _ _)⟩
                case measure => simp [intOf]; omega
          · have hq2 : Op.bytesLess y0.toList x0.toList = true := hq
            have HL2 := Lib.hid (HMO.out hq)
            clear HG HMO hq
            go_wp2_with fail
            go_quiet (fail)
            go_wp2_with fail
            go_roundw
            case rel => exact ⟨k + 1, by go_num, by omega, HL2.out, HBB.out.trans (below_drewN _ _)⟩
            case measure => simp [intOf]; omega
        · obtain rfl : k = n2 := by omega
          have HNN := Lib.hid (HNX.out i k HLO.out)
          have HFE := Lib.hid (show joinK (l1.take (i + 1)) l2 = out by rw [HSI.out, HLO.out.none hil HN2.out, HF.out]; simp)
          go_wp2_with fail
          go_quiet (fail)
          go_wp2_with fail
          go_quiet (fail)
          go_wp2_with fail
          go_roundw
          case rel => exact ⟨i + 1, k, m, out, A', c', rfl, rfl, by go_num, by omega, by omega, HNN.out, HFE.out, HM.out, by omega, HO4.out.keep (below_drewN _ _)⟩
          case measure => simp [intOf]; omega
    · obtain rfl : i = n1 := by omega
      have HFE := Lib.hid (show out = joinK l1 l2 by rw [← HF.out, HN1.out, List.take_length])
      go_wp2_with fail
      go_ret
      rw [← HFE.out]
      have hM := HM.out
      subst hM
      exact ⟨_, rfl, ⟨A', c', rfl, HO.out.1⟩, HO.out.2⟩
end Go.Proofs.Ytdpehojcoohjcaa
