/- Contracts of JoinPairs, in the program and in the model (chapter 9). Conditions: the pairs lie in rows; they are few; their texts are no longer than memory. -/
import Derived.Test.YtdpehojcoohjcaaJoinM
import Derived.Test.YtdpehojcoohjcaaPairsC
import Derived.Test.YtdpehojcoohjcaaOut
import Derived.Deep.AppendLies
import Derived.Deep.QuietTactic
import Derived.BigQuiet
set_option linter.unusedVariables false
set_option linter.unusedSimpArgs false
namespace Go.Proofs.Ytdpehojcoohjcaa
open Go.RowKit Go.ChangeShapes Go.WideShapes

theorem joinR_no {a b : List Pr} (h : (pairsB a && pairsB b) = false) : joinR a b = [] := by unfold joinR; rw [h]; rfl
theorem joinR_yes {a b : List Pr} (h1 : pairsB a = true) (h2 : pairsB b = true) : joinR a b = joinK a b := by unfold joinR; rw [h1, h2]; rfl
theorem join_yes {a b : List Pr} {i k : Nat} {p : Pr} (hk : k < b.length) (h : fitJ p b[k] = true) (out : List Pr) (ho : joinK (a.take i) b ++ rowJ p (b.take k) = out) : joinK (a.take i) b ++ rowJ p (b.take (k + 1)) = out ++ [(p.1, p.2 ++ b[k].2)] := by
  rw [rowJ_step p hk, h, ← List.append_assoc, ho]; rfl
theorem join_no {a b : List Pr} {i k : Nat} {p : Pr} (hk : k < b.length) (h : fitJ p b[k] = false) (out : List Pr) (ho : joinK (a.take i) b ++ rowJ p (b.take k) = out) : joinK (a.take i) b ++ rowJ p (b.take (k + 1)) = out := by
  rw [rowJ_step p hk, h, ← List.append_assoc, ho]; simp

set_option maxRecDepth 100000 in
set_option maxHeartbeats 4000000 in
theorem iJoin_any (A1 : Option Addr) (n1 c1 : Nat) (l1 : List Pr) (A2 : Option Addr) (n2 c2 : Nat) (l2 : List Pr) (w : World)
    (hr1 : RowAt w w.heap.size A1 (prsC l1)) (hn1 : n1 = l1.length) (hs1 : n1 ≤ 1048576) (hw1 : WfPr l1) (hr2 : RowAt w w.heap.size A2 (prsC l2)) (hn2 : n2 = l2.length) (hs2 : n2 ≤ 1048576) (hw2 : WfPr l2) :
    Calls Try.prog 8 #[.slice A1 n1 c1, .slice A2 n2 c2] w (PrsPost (joinR l1 l2) w) := by
  obtain ⟨i0, hi0, hz0, hz1, hz2⟩ := info_parts prInfo
  have HI := Lib.hid (And.intro hi0 (And.intro hz0 (And.intro hz1 hz2))); clear hi0 hz0 hz1 hz2
  have HV1 := Lib.hid (fun W (hb : Below w.heap.size w W) => iPairs_any A1 n1 c1 l1 W ((hr1.below hb).mono hb.size) hn1 hs1 hw1)
  have HV2 := Lib.hid (fun W (hb : Below w.heap.size w W) => iPairs_any A2 n2 c2 l2 W ((hr2.below hb).mono hb.size) hn2 hs2 hw2)
  have HAT1 := Lib.hid (fun W (hb : Below w.heap.size w W) j (hj : j < l1.length) => prs_at (hr1.below hb) hj)
  have HAT2 := Lib.hid (fun W (hb : Below w.heap.size w W) j (hj : j < l2.length) => prs_at (hr2.below hb) hj)
  have HN1 := Lib.hid hn1
  have HN2 := Lib.hid hn2
  clear hr1 hr2 hn1 hn2 hw1 hw2
  have HB0 := Lib.hid (Below.refl w.heap.size w)
  cases hv1 : pairsB l1
  · rw [hv1] at HV1
    have HE := Lib.hid (joinR_no (a := l1) (b := l2) (by rw [hv1]; rfl))
    rw [HE.out]
    clear hv1
    go_enter Try.func8, Try.ntmps8
    go_wp2_with fail
    refine (HV1.out _ HB0.out).mono ?_
    rintro e w2 ⟨rfl, hb2⟩
    have HB := Lib.hid hb2; clear hb2
    go_wp2_with fail
    go_ret
    exact ⟨_, rfl, ⟨none, 0, rfl, World.ownsRow_nil _ _ _ _⟩, HB.out⟩
  cases hv2 : pairsB l2
  · rw [hv1] at HV1
    rw [hv2] at HV2
    have HE := Lib.hid (joinR_no (a := l1) (b := l2) (by rw [hv1, hv2]; rfl))
    rw [HE.out]
    clear hv1 hv2
    go_enter Try.func8, Try.ntmps8
    go_wp2_with fail
    refine (HV1.out _ HB0.out).mono ?_
    rintro e w2 ⟨rfl, hb2⟩
    have HB := Lib.hid hb2; clear hb2
    go_wp2_with fail
    refine (HV2.out _ HB.out).mono ?_
    rintro e w3 ⟨rfl, hb3⟩
    have HB3 := Lib.hid (HB.out.trans (hb3.mono HB.out.size)); clear hb3
    go_wp2_with fail
    go_ret
    exact ⟨_, rfl, ⟨none, 0, rfl, World.ownsRow_nil _ _ _ _⟩, HB3.out⟩
  rw [hv1] at HV1
  rw [hv2] at HV2
  have HE := Lib.hid (joinR_yes hv1 hv2)
  have h24 := pairs_len hv2
  have h241 := pairs_len hv1
  have HOK1 := Lib.hid (fun j (hj : j < l1.length) => valB_size (pairs_ok hv1 hj).2)
  have HOK2 := Lib.hid (fun j (hj : j < l2.length) => valB_size (pairs_ok hv2 hj).2)
  have HST := Lib.hid (fun i (hi : i < l1.length) => joinK_step (a := l1) l2 hi)
  clear hv1 hv2
  rw [← HN2.out] at h24
  rw [← HN1.out] at h241
  rw [HE.out]
  go_enter Try.func8, Try.ntmps8
  go_wp2_with fail
  refine (HV1.out _ HB0.out).mono ?_
  rintro e w2 ⟨rfl, hb2⟩
  have HB := Lib.hid hb2; clear hb2
  go_wp2_with fail
  refine (HV2.out _ HB.out).mono ?_
  rintro e w3 ⟨rfl, hb3⟩
  have HB3 := Lib.hid (HB.out.trans (hb3.mono HB.out.size)); clear hb3
  clear HV1 HV2
  have HO0 := Lib.hid ((OutR.nil 37 2 w).keep (HB3.out))
  go_wp2_with fail
  go_loopw [5, 20] (fun q i wr => ∃ (k m : Nat) (out : List Pr) (A' : Option Addr) (c' : Nat), q = .slice A' m c' ∧ i = .int .i64 k ∧ k ≤ n1 ∧ joinK (l1.take k) l2 = out ∧ m = out.length ∧ m ≤ 24 * k ∧ OutR 37 2 w (prsC out) m A' c' wr) (fun _ i _ => n1 - (intOf i).toNat)
  case atStart => exact ⟨0, 0, [], _, _, rfl, rfl, by omega, rfl, rfl, by omega, HO0.out⟩
  case round =>
    obtain ⟨i, m, out, A', c', rfl, rfl, hk, hf, hm, hmk, ho⟩ := hrel
    clear HO0
    have HM := Lib.hid hm; clear hm
    have HF := Lib.hid hf; clear hf
    have HO := Lib.hid ho; clear ho
    by_cases hlt : i < n1
    · have hkl : i < l1.length := by have := HN1.out; omega
      obtain ⟨b, off, hA, hbw, e0, e1⟩ := HAT1.out _ HO.out.2 i hkl
      subst hA
      have HSI := Lib.hid (HST.out i hkl)
      have hx4 := HOK1.out i hkl
      have hi1 : (i : Int) < (n1 : Int) := by omega
      rw [show l1[i] = (l1[i].1, l1[i].2) from rfl] at HSI
      generalize l1[i].1 = x0 at *
      generalize l1[i].2 = x1 at *
      have HZ := Lib.hid (show joinK (l1.take i) l2 ++ rowJ (x0, x1) (l2.take 0) = out by rw [HF.out]; simp [rowJ])
      have hm0 : m ≤ 24 * i + 0 := by omega
      have hbs : b < wr.heap.size := Nat.lt_of_lt_of_le hbw HO.out.2.size
      have HBK := Lib.hid (show ∀ q, blkOf A' = some q → q ≠ wr.heap.size from fun q hq => by
        have := (HO.out.1.lt q (by rw [blk_slice]; exact hq)).2
        omega)
      have HOK := Lib.hid (fun o => HO.out.keep ((Below.refl wr.heap.size wr).alloc (Nat.le_refl _) o))
      clear HAT1 HOK1 HST
      go_wp2_with fail
      have HOA := Lib.hid (HOK.out (.cells #[.string x0, .string x1] 37))
      generalize hW2 : wr.alloc (.cells #[.string x0, .string x1] 37) = W2 at *
      have hg0 : W2.cell? ⟨wr.heap.size, 0, none⟩ = some (.string x0) := by rw [← hW2]; exact cells_at0 wr [.string x0, .string x1] _ 0 _ rfl
      have hg1 : W2.cell? ⟨wr.heap.size, 1, none⟩ = some (.string x1) := by rw [← hW2]; exact cells_at0 wr [.string x0, .string x1] _ 1 _ rfl
      have hgs : wr.heap.size < W2.heap.size := by rw [← hW2]; simp
      generalize wr.heap.size = G at *
      go_loopw [5, 26] (fun q j wr2 => ∃ (k m2 : Nat) (out2 : List Pr) (A2' : Option Addr) (c2' : Nat), q = .slice A2' m2 c2' ∧ j = .int .i64 k ∧ k ≤ n2 ∧ joinK (l1.take i) l2 ++ rowJ (x0, x1) (l2.take k) = out2 ∧ m2 = out2.length ∧ m2 ≤ 24 * i + k ∧ G < wr2.heap.size ∧ (∀ q, blkOf A2' = some q → q ≠ G) ∧ wr2.cell? ⟨G, 0, none⟩ = some (.string x0) ∧ wr2.cell? ⟨G, 1, none⟩ = some (.string x1) ∧ OutR 37 2 w (prsC out2) m2 A2' c2' wr2) (fun _ j _ => n2 - (intOf j).toNat)
      case atStart => exact ⟨0, m, out, A', c', rfl, rfl, by omega, HZ.out, HM.out, hm0, hgs, HBK.out, hg0, hg1, HOA.out⟩
      case round =>
        clear HM HF HZ HO hmk hm0
        clear HOA HOK HBK hg0 hg1 hgs hW2 hbs
        obtain ⟨k, m2, out2, A2', c2', rfl, rfl, hk2, hf, hm, hmk, hgs, hbk, hg0, hg1, ho⟩ := hrel
        have HM := Lib.hid hm; clear hm
        have HF := Lib.hid hf; clear hf
        have HO := Lib.hid ho; clear ho
        have HBK := Lib.hid hbk; clear hbk
        rename World => wx
        by_cases hlt2 : k < n2
        · have hkl2 : k < l2.length := by have := HN2.out; omega
          obtain ⟨b2, off2, hA2, hbw2, d0, d1⟩ := HAT2.out _ HO.out.2 k hkl2
          subst hA2
          have hy4 := HOK2.out k hkl2
          have HY := Lib.hid (fun h => join_yes (a := l1) (i := i) (p := (x0, x1)) hkl2 h out2 HF.out)
          have HNN := Lib.hid (fun h => join_no (a := l1) (i := i) (p := (x0, x1)) hkl2 h out2 HF.out)
          have hi2 : (k : Int) < (n2 : Int) := by omega
          have hb2s : b2 < wx.heap.size := Nat.lt_of_lt_of_le hbw2 HO.out.2.size
          have hfd : fitJ (x0, x1) l2[k] = (l2[k].1.toList == x0.toList && decide (((x1.size : Int) + (l2[k].2.size : Int)) ≤ 4)) := rfl
          have HFD := Lib.hid hfd; clear hfd
          have HKP := Lib.hid (fun o => HO.out.keep ((Below.refl wx.heap.size wx).alloc (Nat.le_refl _) o))
          have HKQ := Lib.hid (fun o o2 => HO.out.keep (((Below.refl wx.heap.size wx).alloc (Nat.le_refl _) o).alloc (by simp) o2))
          generalize l2[k].1 = y0 at *
          generalize l2[k].2 = y1 at *
          have hwr : IntKind.i64.wrap ((x1.size : Int) + (y1.size : Int)) = (x1.size : Int) + (y1.size : Int) := IntWalk.i64_in _ (by omega)
          have hne : G ≠ wx.heap.size := by omega
          cases hq : (y0.toList == x0.toList)
          · rw [hq] at HFD
            have HR := Lib.hid (HNN.out (by rw [HFD.out]; rfl))
            clear HNN HY HFD
            go_wp2_with fail
            go_roundw
            case rel => exact ⟨k + 1, m2, out2, A2', c2', rfl, by go_num, by omega, HR.out, HM.out, by omega, by simp; omega, HBK.out, (World.cell?_alloc_past _ _ _ hgs).trans hg0, (World.cell?_alloc_past _ _ _ hgs).trans hg1, HKP.out _⟩
            case measure => simp [intOf]; omega
          · by_cases hs : (x1.size : Int) + (y1.size : Int) ≤ 4
            · rw [hq, decide_eq_true hs] at HFD
              have HR := Lib.hid (HY.out (by rw [HFD.out]; rfl))
              clear HNN HY HFD
              go_wp2_with (at_builtin; refine wpList_append_lies _ rfl _ _ 24 rfl w.heap.size 37 i0 (.agg #[.string ⟨#[]⟩, .string ⟨#[]⟩]) 2 32 Try.underlying24 HI.out.1 HI.out.2.1 HI.out.2.2.1 HI.out.2.2.2 rfl (by decide) (.slice A2' m2 c2') m2 (prsC out2) rfl (HKQ.out _ _).1 ⟨wx.heap.size + 1, 0, none⟩ 1 1 [.string x0, .string (x1 ++ y1)] rfl rfl ?c1 ?c2 ?c3 ?c4 ?c5 ?c6 _ rfl ?_)
              try (case c1 => exact fun j u hj => cells_at0 _ _ _ j u hj)
              try (case c2 => first | exact ⟨rfl, rfl⟩ | (intro u hu; simp at hu; rcases hu with rfl | rfl <;> rfl))
              try (case c3 => decide)
              try (case c4 => first | omega | (unfold maxLen; omega))
              try (case c5 => omega)
              try (case c6 => first | omega | (have := HO.out.2.size; simp; omega))
              intro g cap w4 hown' hgrow hat hlt4
              obtain ⟨A4, c4, hv4, ho4⟩ := (HKQ.out _ _).app hown' hgrow
              cases hv4
              have HO4 := Lib.hid ho4
              have hfar : (Value.slice A2' m2 c2').ownBlock ≠ some G := fun hq => HBK.out G (by rw [← blk_slice]; exact hq) rfl
              have hG4 : G < w4.heap.size := Nat.lt_of_lt_of_le (by simp; omega) hgrow.size
              have hgG : g ≠ G := by
                rcases hat with h | h
                · exact HBK.out g (by rw [← blk_slice]; exact h)
                · have := h; first | omega | (simp at this; omega)
              have hG0 : w4.cell? ⟨G, 0, none⟩ = some (.string x0) := (hgrow.cell_far ⟨G, 0, none⟩ (by first | (simp; omega) | omega) (fun e => hfar e.symm)).trans ((World.cell?_alloc_past _ _ _ (by first | (simp; omega) | omega)).trans ((World.cell?_alloc_past _ _ _ hgs).trans hg0))
              have hG1 : w4.cell? ⟨G, 1, none⟩ = some (.string x1) := (hgrow.cell_far ⟨G, 1, none⟩ (by first | (simp; omega) | omega) (fun e => hfar e.symm)).trans ((World.cell?_alloc_past _ _ _ (by first | (simp; omega) | omega)).trans ((World.cell?_alloc_past _ _ _ hgs).trans hg1))
              clear ho4 hown' hgrow hat hlt4 hfar
              go_wp2_with fail
              go_roundw
              case rel => exact ⟨k + 1, m2 + 1, out2 ++ [(x0, x1 ++ y1)], _, _, rfl, by go_num, by omega, HR.out, by rw [List.length_append, ← HM.out]; rfl, by omega, hG4, fun q hq => by cases hq; exact hgG, hG0, hG1, by rw [prsC_snoc]; exact HO4.out⟩
              case measure => simp [intOf]; omega
            · rw [hq, decide_eq_false hs] at HFD
              have HR := Lib.hid (HNN.out (by rw [HFD.out]; rfl))
              clear HNN HY HFD
              go_wp2_with fail
              go_roundw
              case rel => exact ⟨k + 1, m2, out2, A2', c2', rfl, by go_num, by omega, HR.out, HM.out, by omega, by simp; omega, HBK.out, (World.cell?_alloc_past _ _ _ hgs).trans hg0, (World.cell?_alloc_past _ _ _ hgs).trans hg1, HKP.out _⟩
              case measure => simp [intOf]; omega
        · obtain rfl : k = n2 := by omega
          have HFE := Lib.hid (show joinK (l1.take (i + 1)) l2 = out2 by rw [HSI.out, ← HF.out, HN2.out, List.take_length])
          go_wp2_with fail
          go_roundw
          case rel => exact ⟨i + 1, m2, out2, A2', c2', rfl, by go_num, by omega, HFE.out, HM.out, by omega, HO.out⟩
          case measure => simp [intOf]; omega
    · obtain rfl : i = n1 := by omega
      have HFE := Lib.hid (show out = joinK l1 l2 by rw [← HF.out, HN1.out, List.take_length])
      go_wp2_with fail
      go_ret
      rw [← HFE.out]
      have hM := HM.out
      subst hM
      exact ⟨_, rfl, ⟨A', c', rfl, HO.out.1⟩, HO.out.2⟩
end Go.Proofs.Ytdpehojcoohjcaa
