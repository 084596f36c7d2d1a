/- Contracts of isSharedByMost and SureOf of the program, of holders, sure and SureOf of the model (chapter 10). Conditions: the logs lie in memory; they are few. -/
import Derived.Test.YtgoonccjdoajnabGrG
import Derived.BigRegion
set_option linter.unusedVariables false
set_option linter.unusedSimpArgs false
namespace Go.Proofs.Ytgoonccjdoajnab
open Go.RowKit Go.ChangeShapes Go.WideShapes

theorem isMost_is {A : Option Addr} {n c k : Nat} {ld tm : Int} {b : Bool} (hb : decide (n < 2 * k) = b) (w : World) (hk : k ≤ 1048576) :
    Calls Try.prog 50 #[.agg #[.slice A n c, .int .i64 ld, .int .i64 tm], .int .i64 (k : Int)] w fun e w' => e = .returned (.bool b) ∧ Below w.heap.size w w' := by
  rw [← hb]; exact isMost_any A n c ld tm k w hk
theorem cntG_full (L : List (List En)) (lead : List En) (f : Nat) : cntG (L.take L.length) lead f = cntG L lead f := by rw [List.take_length]

set_option maxRecDepth 100000 in
set_option maxHeartbeats 2000000 in
theorem iShared_any (A : Option Addr) (n c : Nat) (L : List (List En)) (d f : Nat) (tm : Int) (w : World) (hr : GvAt w w.heap.size A L) (hn : n = L.length) (hs : n ≤ 1048576) (hsm : SmallGv L) (hd : d < L.length) :
    Calls Try.prog 54 #[.agg #[.slice A n c, .int .i64 (d : Int), .int .i64 tm], .int .i64 (f : Int)] w fun e w' => e = .returned (.bool (decide (L.length < 2 * cntG L L[d] f))) ∧ Below w.heap.size w w' := by
  have HR := Lib.hid hr; clear hr
  have HN := Lib.hid hn; clear hn
  have HSM := Lib.hid hsm; clear hsm
  go_enter Try.func54, Try.ntmps54
  go_wp2_with fail
  go_loopw [5, 7, 11] (fun q _ i wr => ∃ k : Nat, i = .int .i64 k ∧ q = .int .i64 ((cntG (L.take k) L[d] f : Nat) : Int) ∧ k ≤ n ∧ BoxG w A n c (d : Int) tm wr) (fun _ _ i _ => n - (intOf i).toNat)
  case atStart => exact ⟨0, rfl, by simp [cntG], by omega, BoxG.start⟩
  case round =>
    obtain ⟨k, rfl, rfl, hk, hx⟩ := hrel
    have HX := Lib.hid hx; clear hx
    have hcl := cntG_le (L.take k) L[d] f
    rw [List.length_take] at hcl
    have HCL := Lib.hid hcl; clear hcl
    by_cases hlt : k < n
    · have hkl : k < L.length := by have := HN.out; omega
      obtain ⟨b, off, A', c', hA, hbw, e0, hrow⟩ := (HR.out.below HX.out.hb).at_ hkl
      obtain ⟨b2, off2, A2, c2, hA2, hbw2, e1, hrow2⟩ := (HR.out.below HX.out.hb).at_ hd
      have HA := Lib.hid hA
      have x0 := HX.out.c0
      have x1 := HX.out.c1
      rw [hA] at hA2
      injection hA2 with hA2
      injection hA2 with h1 h2
      subst h1 h2
      rw [hA] at x0
      rw [HA.out]
      clear hA
      have HC := Lib.hid (iIn_b A' A2 L[k].length L[d].length c' c2 L[k] L[d] wr (hrow.mono HX.out.hb.size) (hrow2.mono HX.out.hb.size) rfl rfl (HSM.out _ (List.getElem_mem hkl)) (HSM.out _ (List.getElem_mem hd)))
      have HST := Lib.hid (cntG_step L L[d] f k hkl)
      have hi1 : (k : Int) < (n : Int) := by omega
      have hi2 : (d : Int) < (n : Int) := by have := HN.out; omega
      have hi3 : (0 : Int) ≤ (d : Int) := by omega
      have hcn : cntG (L.take k) L[d] f ≤ 1048576 := by have := HCL.out; omega
      clear hrow hrow2
      obtain ⟨m, hm⟩ : ∃ m, L[k].length = m := ⟨_, rfl⟩
      obtain ⟨m2, hm2⟩ : ∃ m, L[d].length = m := ⟨_, rfl⟩
      rw [hm, hm2] at HC
      rw [hm] at e0
      rw [hm2] at e1
      clear hm hm2
      generalize hL : L[d] = ld at *
      generalize hLk : L[k] = lk at *
      clear hLk
      by_cases q : f ≤ inC lk ld
      · have HS2 := Lib.hid (show cntG (L.take (k + 1)) ld f = cntG (L.take k) ld f + 1 by rw [HST.out, if_pos q])
        have hq : ((inC lk ld : Int) ≥ (f : Int)) := by omega
        generalize inC lk ld = r at *
        generalize cntG (L.take k) ld f = s at *
        go_wp2_with fail
        refine (HC.out).mono ?_
        rintro e w3 ⟨rfl, hb3⟩
        have HX3 := Lib.hid (HX.out.keep hb3); clear hb3
        go_wp2_with fail
        go_roundw
        case rel => exact ⟨k + 1, by go_num, by rw [HS2.out]; go_num, by omega, by rw [← HA.out]; exact HX3.out⟩
        case measure => simp [intOf]; omega
      · have HS2 := Lib.hid (show cntG (L.take (k + 1)) ld f = cntG (L.take k) ld f by rw [HST.out, if_neg q]; omega)
        have hq : ¬ ((inC lk ld : Int) ≥ (f : Int)) := by omega
        generalize inC lk ld = r at *
        generalize cntG (L.take k) ld f = s at *
        go_wp2_with fail
        refine (HC.out).mono ?_
        rintro e w3 ⟨rfl, hb3⟩
        have HX3 := Lib.hid (HX.out.keep hb3); clear hb3
        go_wp2_with fail
        go_roundw
        case rel => exact ⟨k + 1, by go_num, by rw [HS2.out], by omega, by rw [← HA.out]; exact HX3.out⟩
        case measure => simp [intOf]; omega
    · obtain rfl : k = n := by omega
      have HF := Lib.hid (show cntG (L.take k) L[d] f = cntG L L[d] f by rw [HN.out, cntG_full])
      have hcn : cntG (L.take k) L[d] f ≤ 1048576 := by have := HCL.out; omega
      have x0 := HX.out.c0
      have x1 := HX.out.c1
      have x2 := HX.out.c2
      have HM := Lib.hid (fun w => isMost_any A k c (d : Int) tm (cntG (L.take k) L[d] f) w hcn)
      rw [HF.out] at HM ⊢
      have HD := Lib.hid (show decide (k < 2 * cntG L L[d] f) = decide (L.length < 2 * cntG L L[d] f) by rw [HN.out])
      rw [HD.out] at HM
      obtain ⟨bb, hbb⟩ : ∃ b, decide (L.length < 2 * cntG L L[d] f) = b := ⟨_, rfl⟩
      rw [hbb] at HM
      have HBB := Lib.hid hbb
      clear hbb HD HF
      generalize hsx : cntG L L[d] f = s at *
      have HSS := Lib.hid hsx
      clear hsx
      go_wp2_with fail
      refine (HM.out _).mono ?_
      rintro e w3 ⟨rfl, hb3⟩
      have HX3 := Lib.hid (HX.out.keep hb3); clear hb3
      go_wp2_with fail
      go_ret
      exact ⟨by rw [HSS.out, HBB.out]; rfl, HX3.out.hb⟩

set_option maxRecDepth 100000 in
set_option maxHeartbeats 2000000 in
theorem sHold_any (A : Option Addr) (n c : Nat) (L : List (List En)) (d f : Nat) (tm : Int) (w : World) (hr : GvAt w w.heap.size A L) (hn : n = L.length) (hs : n ≤ 1048576) (hsm : SmallGv L) (hd : d < L.length) :
    Calls Try.prog 72 #[.agg #[.slice A n c, .int .i64 (d : Int), .int .i64 tm], .int .i64 (f : Int)] w fun e w' => e = .returned (.int .i64 (cntG L L[d] f : Int)) ∧ Below w.heap.size w w' := by
  have HR := Lib.hid hr; clear hr
  have HN := Lib.hid hn; clear hn
  have HSM := Lib.hid hsm; clear hsm
  go_enter Try.func72, Try.ntmps72
  go_wp2_with fail
  go_loopw [5, 6] (fun q i wr => ∃ k : Nat, i = .int .i64 k ∧ q = .int .i64 ((cntG (L.take k) L[d] f : Nat) : Int) ∧ k ≤ n ∧ BoxG w A n c (d : Int) tm wr) (fun _ i _ => n - (intOf i).toNat)
  case atStart => exact ⟨0, rfl, by simp [cntG], by omega, BoxG.start⟩
  case round =>
    obtain ⟨k, rfl, rfl, hk, hx⟩ := hrel
    have HX := Lib.hid hx; clear hx
    have hcl := cntG_le (L.take k) L[d] f
    rw [List.length_take] at hcl
    have HCL := Lib.hid hcl; clear hcl
    have x0 := HX.out.c0
    have x1 := HX.out.c1
    have hbs := HX.out.sz
    by_cases hlt : k < n
    · have hkl : k < L.length := by have := HN.out; omega
      obtain ⟨b, off, A', c', hA, hbw, e0, hrow⟩ := (HR.out.below HX.out.hb).at_ hkl
      obtain ⟨b2, off2, A2, c2, hA2, hbw2, e1, hrow2⟩ := (HR.out.below HX.out.hb).at_ hd
      have HA := Lib.hid hA
      rw [hA] at hA2
      injection hA2 with hA2
      injection hA2 with h1 h2
      subst h1 h2
      subst hA
      have HC := Lib.hid (fun q => sIn_any A' A2 L[k].length L[d].length c' c2 L[k] L[d] (wr.drewN q) ((hrow.mono HX.out.hb.size).below (below_drewN _ _)) ((hrow2.mono HX.out.hb.size).below (below_drewN _ _)) rfl rfl (HSM.out _ (List.getElem_mem hkl)) (HSM.out _ (List.getElem_mem hd)))
      have HST := Lib.hid (cntG_step L L[d] f k hkl)
      have hi1 : (k : Int) < (n : Int) := by omega
      have hi2 : (d : Int) < (n : Int) := by have := HN.out; omega
      have hi3 : (0 : Int) ≤ (d : Int) := by omega
      have hcn : cntG (L.take k) L[d] f ≤ 1048576 := by have := HCL.out; omega
      clear hrow hrow2
      obtain ⟨m, hm⟩ : ∃ m, L[k].length = m := ⟨_, rfl⟩
      obtain ⟨m2, hm2⟩ : ∃ m, L[d].length = m := ⟨_, rfl⟩
      rw [hm, hm2] at HC
      rw [hm] at e0
      rw [hm2] at e1
      clear hm hm2
      generalize hL : L[d] = ld at *
      generalize hLk : L[k] = lk at *
      clear hLk
      by_cases q : f ≤ inC lk ld
      · have HS2 := Lib.hid (show cntG (L.take (k + 1)) ld f = cntG (L.take k) ld f + 1 by rw [HST.out, if_pos q])
        have hq : (f : Int) ≤ (inC lk ld : Int) := by omega
        have hd3 : decide ((inC lk ld : Int) ≥ (f : Int)) = true := by simpa using q
        generalize inC lk ld = r at *
        generalize cntG (L.take k) ld f = s at *
        go_wp2_with fail
        go_quiet (exact Calls.quiet_of (HC.out _))
        go_wp2_with fail
        go_roundw
        case rel => exact ⟨k + 1, by go_num, by rw [HS2.out]; go_num, by omega, HX.out.keep (below_drewN _ _)⟩
        case measure => simp [intOf]; omega
      · have HS2 := Lib.hid (show cntG (L.take (k + 1)) ld f = cntG (L.take k) ld f by rw [HST.out, if_neg q]; omega)
        have hq : ¬ ((f : Int) ≤ (inC lk ld : Int)) := by omega
        have hd3 : decide ((inC lk ld : Int) ≥ (f : Int)) = false := by simpa using q
        generalize inC lk ld = r at *
        generalize cntG (L.take k) ld f = s at *
        go_wp2_with fail
        go_quiet (exact Calls.quiet_of (HC.out _))
        go_wp2_with fail
        go_roundw
        case rel => exact ⟨k + 1, by go_num, by rw [HS2.out], by omega, HX.out.keep (below_drewN _ _)⟩
        case measure => simp [intOf]; omega
    · obtain rfl : k = n := by omega
      have HF := Lib.hid (show cntG (L.take k) L[d] f = cntG L L[d] f by rw [HN.out, cntG_full])
      go_wp2_with fail
      go_ret
      exact ⟨by rw [← HF.out]; rfl, HX.out.hb⟩
end Go.Proofs.Ytgoonccjdoajnab
