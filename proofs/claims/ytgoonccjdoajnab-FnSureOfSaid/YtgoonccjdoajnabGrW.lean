/- Contracts of sure and SureOf of the model (chapter 10). Conditions: the logs lie in memory; they are few. -/
import Derived.Test.YtgoonccjdoajnabGrU
set_option linter.unusedVariables false
set_option linter.unusedSimpArgs false
namespace Go.Proofs.Ytgoonccjdoajnab
open Go.RowKit Go.ChangeShapes Go.WideShapes

theorem top_full {L : List (List En)} {lead : List En} {tm : Int} {x m : Nat} (hm : lead.length = m) (h : Top (isSure L lead tm) m x) : x = sureN L lead tm := by
  subst hm; exact sureN_of h
set_option maxRecDepth 100000 in
set_option maxHeartbeats 4000000 in
theorem sSureN_any (A : Option Addr) (n c : Nat) (L : List (List En)) (d : Nat) (tm : Int) (w : World) (hr : GvAt w w.heap.size A L) (hn : n = L.length) (hs : n ≤ 1048576) (hsm : SmallGv L) (hd : d < L.length) :
    Calls Try.prog 62 #[.agg #[.slice A n c, .int .i64 (d : Int), .int .i64 tm]] w fun e w' => e = .returned (.int .i64 (sureN L L[d] tm : Int)) ∧ Below w.heap.size w w' := by
  have HSH := Lib.hid (fun (W : World) (k : Nat) (hb : Below w.heap.size w W) => sHold_any A n c L d k tm W ((hr.below hb).mono hb.size) hn hs hsm hd)
  have HM20 := Lib.hid (hsm _ (List.getElem_mem hd))
  have HR := Lib.hid hr
  have HN := Lib.hid hn
  clear hr hn hsm
  obtain ⟨m, hm⟩ : ∃ m, L[d].length = m := ⟨_, rfl⟩
  have HM := Lib.hid hm
  have hm12 : m ≤ 1048576 := by rw [← hm]; exact HM20.out
  clear hm
  have hi2 : (d : Int) < (n : Int) := by have := HN.out; omega
  have hi3 : (0 : Int) ≤ (d : Int) := by omega
  have HX2 := Lib.hid (BoxG.start (w := w) (A := A) (n := n) (c := c) (ld := (d : Int)) (tm := tm))
  obtain ⟨b, off, A2, c2, hA, hbw, e0, hrow⟩ := (HR.out.below HX2.out.hb).at_ hd
  have HROW := Lib.hid (hrow.mono HX2.out.hb.size); clear hrow
  rw [HM.out] at e0
  subst hA
  go_enter Try.func62, Try.ntmps62
  go_wp2_with fail
  go_loopw [4, 5] (fun q i wr => ∃ (k x : Nat), i = .int .i64 ((k + 1 : Nat) : Int) ∧ q = .int .i64 (x : Int) ∧ k ≤ m ∧ Top (isSure L L[d] tm) k x ∧ Below (w.heap.size + 1) (w.alloc (.cells #[.slice (some ⟨b, off, none⟩) n c, .int .i64 (d : Int), .int .i64 tm] 25)) wr) (fun _ i _ => m + 1 - (intOf i).toNat)
  case atStart => exact ⟨0, 0, rfl, rfl, by omega, Top.zero _, Below.refl _ _⟩
  case round =>
    clear e0
    obtain ⟨k, x, rfl, rfl, hk, hu, hb⟩ := hrel
    have HU := Lib.hid hu; clear hu
    have HB := Lib.hid (show Below (w.alloc (.cells #[.slice (some ⟨b, off, none⟩) n c, .int .i64 (d : Int), .int .i64 tm] 25)).heap.size (w.alloc (.cells #[.slice (some ⟨b, off, none⟩) n c, .int .i64 (d : Int), .int .i64 tm] 25)) wr from by rw [World.size_alloc]; exact hb); clear hb
    have HX := Lib.hid (HX2.out.keep HB.out)
    have x0 := HX.out.c0
    have x1 := HX.out.c1
    have x2 := HX.out.c2
    have hbs := HX.out.sz
    have hxk := HU.out.1
    have HK := Lib.hid (fun W (hb : Below wr.heap.size wr W) => (show Below (w.heap.size + 1) (w.alloc (.cells #[.slice (some ⟨b, off, none⟩) n c, .int .i64 (d : Int), .int .i64 tm] 25)) W by
      have h1 := HB.out
      have h2 := h1.size
      rw [World.size_alloc] at h1 h2
      exact h1.trans (hb.mono h2)))
    by_cases hlt : k < m
    · have hkl : k < L[d].length := by have := HM.out; omega
      obtain ⟨b2, off2, hA2, hbw2, d0, d1⟩ := ens_at ((HROW.out.below HB.out).mono HB.out.size) hkl
      subst hA2
      have hi4 : ((k + 1 : Nat) : Int) ≤ (m : Int) := by omega
      have hi5 : IntKind.i64.wrap (((k + 1 : Nat) : Int) - 1) = (k : Int) := by rw [IntWalk.i64_in _ (by omega)]; omega
      have hi6 : ((k + 1 : Nat) : Int) - 1 = (k : Int) := by omega
      have hi7 : (0 : Int) ≤ (k : Int) := by omega
      have hi9 : IntKind.i64.wrap (k : Int) = (k : Int) := IntWalk.i64_in _ (by omega)
      have hi8 : (k : Int) < (m : Int) := by omega
      have HSH2 := Lib.hid (fun W (hb : Below wr.heap.size wr W) => HSH.out W (k + 1) (HX.out.hb.trans (hb.mono HX.out.hb.size)))
      have hcl := cntG_le L L[d] (k + 1)
      have HSU := Lib.hid (show isSure L L[d] tm (k + 1) ↔ (L[d][k].1 = tm ∧ L.length < 2 * cntG L L[d] (k + 1)) from by
        unfold isSure
        constructor
        · rintro ⟨h1, h2, h3⟩
          exact ⟨h2, h3⟩
        · rintro ⟨h2, h3⟩
          exact ⟨⟨by omega, by omega⟩, h2, h3⟩)
      have hbw3 : b2 < wr.heap.size := hbw2
      clear d1 hbw2
      by_cases e : L[d][k].1 = tm
      · have q5 : (L[d][k].1 == tm) = true := by simpa using e
        have hc20 : cntG L L[d] (k + 1) ≤ 1048576 := by have := HN.out; omega
        by_cases hv : L.length < 2 * cntG L L[d] (k + 1)
        · have HF := Lib.hid (Top.yes (HSU.out.2 ⟨e, hv⟩) : Top (isSure L L[d] tm) (k + 1) (k + 1))
          have hv2 : (2 * (cntG L L[d] (k + 1) : Int) > (n : Int)) := by have := HN.out; omega
          have hv3 : (n : Int) < 2 * (cntG L L[d] (k + 1) : Int) := hv2
          have hd3 : decide ((n : Int) < 2 * (cntG L L[d] (k + 1) : Int)) = true := decide_eq_true hv3
          clear hv2
          have hw9 : IntKind.i64.wrap (2 * (cntG L L[d] (k + 1) : Int)) = 2 * (cntG L L[d] (k + 1) : Int) := IntWalk.i64_in _ (by omega)
          clear hv e
          generalize L[d][k].1 = y at *
          generalize cntG L L[d] (k + 1) = s at *
          go_wp2_with fail
          go_region_with (refine (HSH2.out _ (below_drewN _ 1)).mono ?_
                          rintro e w5 ⟨rfl, hb5⟩
                          have HX5 := Lib.hid ((HX.out.keep (below_drewN _ 1)).keep hb5)
                          have HK5 := Lib.hid (HK.out _ ((below_drewN _ 1).trans (hb5.mono (Nat.le_refl _))))
                          have y0 := HX5.out.c0
                          have y1 := HX5.out.c1
                          have y2 := HX5.out.c2
                          have hbs5 := HX5.out.sz)
          all_goals go_wp2_with fail
          all_goals (
            go_roundw
            case rel => exact ⟨k + 1, k + 1, by go_num, by first | rfl | simp, by omega, HF.out, HK5.out⟩
            case measure => simp [intOf]; omega)
        · have HF := Lib.hid (Top.no HU.out (fun q => hv (HSU.out.1 q).2) : Top (isSure L L[d] tm) (k + 1) x)
          have hv2 : ¬ (2 * (cntG L L[d] (k + 1) : Int) > (n : Int)) := by have := HN.out; omega
          have hv3 : ¬ ((n : Int) < 2 * (cntG L L[d] (k + 1) : Int)) := hv2
          have hd3 : decide ((n : Int) < 2 * (cntG L L[d] (k + 1) : Int)) = false := decide_eq_false hv3
          clear hv2
          have hw9 : IntKind.i64.wrap (2 * (cntG L L[d] (k + 1) : Int)) = 2 * (cntG L L[d] (k + 1) : Int) := IntWalk.i64_in _ (by omega)
          clear hv e
          generalize L[d][k].1 = y at *
          generalize cntG L L[d] (k + 1) = s at *
          go_wp2_with fail
          go_region_with (refine (HSH2.out _ (below_drewN _ 1)).mono ?_
                          rintro e w5 ⟨rfl, hb5⟩
                          have HX5 := Lib.hid ((HX.out.keep (below_drewN _ 1)).keep hb5)
                          have HK5 := Lib.hid (HK.out _ ((below_drewN _ 1).trans (hb5.mono (Nat.le_refl _))))
                          have y0 := HX5.out.c0
                          have y1 := HX5.out.c1
                          have y2 := HX5.out.c2
                          have hbs5 := HX5.out.sz)
          all_goals go_wp2_with fail
          all_goals (
            go_roundw
            case rel => exact ⟨k + 1, x, by go_num, by first | rfl | simp, by omega, HF.out, HK5.out⟩
            case measure => simp [intOf]; omega)
      · have q5 : (L[d][k].1 == tm) = false := by simpa using e
        have HF := Lib.hid (Top.no HU.out (fun q => e (HSU.out.1 q).1) : Top (isSure L L[d] tm) (k + 1) x)
        clear e
        generalize L[d][k].1 = y at *
        go_wp2_with fail
        go_quiet (fail)
        go_wp2_with fail
        go_roundw
        case rel => exact ⟨k + 1, x, by go_num, by first | rfl | simp, by omega, HF.out, HK.out _ (below_drewN _ _)⟩
        case measure => simp [intOf]; omega
    · obtain rfl : k = m := by omega
      have HF := Lib.hid (top_full HM.out HU.out)
      go_wp2_with fail
      go_ret
      exact ⟨by rw [← HF.out]; rfl, HX.out.hb⟩
theorem sSure_any (A : Option Addr) (n c : Nat) (L : List (List En)) (ld tm : Int) (w : World) (hr : GvAt w w.heap.size A L) (hn : n = L.length) (hs : n ≤ 1048576) (hsm : SmallGv L) :
    Calls Try.prog 29 #[.agg #[.slice A n c, .int .i64 ld, .int .i64 tm]] w fun e w' => e = .returned (.int .i64 (sureV L ld tm)) ∧ Below w.heap.size w w' := by
  have HB0 := Lib.hid (fun o => (Below.refl w.heap.size w).alloc (Nat.le_refl _) o)
  have HV := Lib.hid (fun o => sGrp_any A n c L ld tm (w.alloc o) ((hr.below (HB0.out o)).mono (HB0.out o).size) hn hs hsm)
  by_cases g : okG L ld tm
  · rw [decide_eq_true g] at HV
    obtain ⟨d, rfl⟩ : ∃ d : Nat, ld = (d : Int) := ⟨ld.toNat, by have := g.2.1; omega⟩
    have hd : d < L.length := by have := g.2.1.2; omega
    have HS := Lib.hid (show sureV L (d : Int) tm = (sureN L L[d] tm : Int) by unfold sureV; rw [if_pos g, leadL_nat hd])
    have HC := Lib.hid (fun W (hb : Below w.heap.size w W) => sSureN_any A n c L d tm W ((hr.below hb).mono hb.size) hn hs hsm hd)
    clear hr hn hsm g
    go_enter Try.func29, Try.ntmps29
    go_wp2_with fail
    refine (HV.out _).mono ?_
    rintro e w2 ⟨rfl, hb2⟩
    have HX2 := Lib.hid (BoxG.start.keep hb2); clear hb2
    have x0 := HX2.out.c0
    have x1 := HX2.out.c1
    have x2 := HX2.out.c2
    go_wp2_with fail
    refine (HC.out _ HX2.out.hb).mono ?_
    rintro e w3 ⟨rfl, hb3⟩
    have HB3 := Lib.hid (HX2.out.hb.trans (hb3.mono HX2.out.hb.size)); clear hb3
    go_wp2_with fail
    go_ret
    exact ⟨by rw [HS.out]; rfl, HB3.out⟩
  · rw [decide_eq_false g] at HV
    have HS := Lib.hid (show sureV L ld tm = -1 by unfold sureV; rw [if_neg g])
    clear hr hn hsm g
    go_enter Try.func29, Try.ntmps29
    go_wp2_with fail
    refine (HV.out _).mono ?_
    rintro e w2 ⟨rfl, hb2⟩
    have HX2 := Lib.hid (BoxG.start.keep hb2); clear hb2
    go_wp2_with fail
    go_ret
    exact ⟨by rw [HS.out]; rfl, HX2.out.hb⟩
end Go.Proofs.Ytgoonccjdoajnab
