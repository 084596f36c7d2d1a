/- Contracts of SureOf of the program, of sure and SureOf of the model (chapter 10). Conditions: the logs lie in memory; they are few. -/
import Derived.Test.YtgoonccjdoajnabGrS
set_option linter.unusedVariables false
set_option linter.unusedSimpArgs false
namespace Go.Proofs.Ytgoonccjdoajnab
open Go.RowKit Go.ChangeShapes Go.WideShapes

instance (L : List (List En)) (lead : List En) (tm : Int) (n : Nat) : Decidable (isSure L lead tm n) := by unfold isSure; infer_instance
def topB (p : Nat → Bool) : Nat → Nat
  | 0 => 0
  | k + 1 => if p (k + 1) then k + 1 else topB p k
theorem topB_top (P : Nat → Prop) (p : Nat → Bool) (hp : ∀ n, p n = true ↔ P n) : ∀ k, Top P k (topB p k)
  | 0 => Top.zero P
  | k + 1 => by
    unfold topB
    by_cases h : P (k + 1)
    · rw [if_pos ((hp _).2 h)]; exact Top.yes h
    · rw [if_neg (fun q => h ((hp _).1 q))]; exact (topB_top P p hp k).no h
/-- how many first entries are sure -/
def sureN (L : List (List En)) (lead : List En) (tm : Int) : Nat := topB (fun n => decide (isSure L lead tm n)) lead.length
theorem sureN_top (L : List (List En)) (lead : List En) (tm : Int) : SureIs L lead tm (sureN L lead tm) := topB_top _ _ (fun n => by simp) _
theorem sureN_of {L : List (List En)} {lead : List En} {tm : Int} {x : Nat} (h : SureIs L lead tm x) : x = sureN L lead tm := h.eq (sureN_top L lead tm)
theorem sureN_le (L : List (List En)) (lead : List En) (tm : Int) : sureN L lead tm ≤ lead.length := (sureN_top L lead tm).1
def sureV (L : List (List En)) (ld tm : Int) : Int := if okG L ld tm then (sureN L (leadL L ld) tm : Int) else -1
theorem leadL_nat {L : List (List En)} {d : Nat} (h : d < L.length) : leadL L (d : Int) = L[d] := by
  unfold leadL
  rw [Int.toNat_natCast, List.getD_eq_getElem?_getD, List.getElem?_eq_getElem h]; rfl
theorem ensC_take (l : List En) (k : Nat) : ensC (l.take k) = (ensC l).take (k * 2) := by
  induction l generalizing k with
  | nil => simp [ensC]
  | cons a l ih =>
    cases k with
    | zero => simp [ensC]
    | succ k =>
      have h1 : ensC (a :: l) = enC a ++ ensC l := rfl
      have h2 : ensC ((a :: l).take (k + 1)) = enC a ++ ensC (l.take k) := rfl
      rw [h1, h2, ih, show (k + 1) * 2 = k * 2 + 1 + 1 by omega]
      rfl
theorem row_takeG {w : World} {B : Nat} {A : Option Addr} {l : List En} (h : RowAt w B A (ensC l)) (k : Nat) : RowAt w B A (ensC (l.take k)) := fun h0 => by
  rw [ensC_take] at h0 ⊢
  have hne : ensC l ≠ [] := fun e => h0 (by rw [e]; simp)
  obtain ⟨b, off, rfl, hb, hc⟩ := h hne
  refine ⟨b, off, rfl, hb, fun i v hi => hc i v ?_⟩
  rw [List.getElem?_take] at hi
  split at hi
  · exact hi
  · cases hi
set_option maxRecDepth 100000 in
theorem cut_headG (A : Option Addr) (n c k : Nat) (W : World) (h : k ≤ c) (hA : A = none → c = 0) (hn : n ≤ c) :
    (Instr.sliceAt 39 (.slice A n c) none (some (.int .i64 (k : Int))) none).run Try.prog W = .ok (.slice A k c) W := by
  cases A with
  | some ad =>
    have hu : Try.prog.underlying 39 = some (.slice (Try.prog.elem 39)) := by kernel_rfl
    have hs : (sizeOf (Try.prog.elem 39)).run Try.prog W = .ok 2 W := by kernel_rfl
    rw [run_sliceAt_slice (h := hu), run_slice_h (ht := hu) (h0 := by omega) (h2 := by omega), hs]
    simp only [Result.andThen_ok, sliced, Int.toNat_natCast, Option.map_some, Nat.zero_mul]
    simp [Addr.add]
  | none =>
    obtain rfl := hA rfl
    obtain rfl : k = 0 := by omega
    obtain rfl : n = 0 := by omega
    kernel_rfl

set_option maxRecDepth 100000 in
set_option maxHeartbeats 4000000 in
theorem iSure_any (A : Option Addr) (n c : Nat) (L : List (List En)) (ld tm : Int) (w : World) (hr : GvAt w w.heap.size A L) (hn : n = L.length) (hs : n ≤ 1048576) (hsm : SmallGv L) :
    Calls Try.prog 20 #[.agg #[.slice A n c, .int .i64 ld, .int .i64 tm]] w fun e w' => e = .returned (.int .i64 (sureV L ld tm)) ∧ Below w.heap.size w w' := by
  have HB0 := Lib.hid (fun o => (Below.refl w.heap.size w).alloc (Nat.le_refl _) o)
  have HV := Lib.hid (fun o => iGrp_any A n c L ld tm (w.alloc o) ((hr.below (HB0.out o)).mono (HB0.out o).size) hn hs hsm)
  by_cases g : okG L ld tm
  · rw [decide_eq_true g] at HV
    obtain ⟨d, rfl⟩ : ∃ d : Nat, ld = (d : Int) := ⟨ld.toNat, by have := g.2.1; omega⟩
    have hd : d < L.length := by have := g.2.1.2; omega
    have HS := Lib.hid (show sureV L (d : Int) tm = (sureN L L[d] tm : Int) by unfold sureV; rw [if_pos g, leadL_nat hd])
    have HOK := Lib.hid (g.2.2.2 _ (List.getElem_mem hd))
    have HTM := Lib.hid g.2.2.1
    have HSH := Lib.hid (fun (W : World) (k : Nat) (hb : Below w.heap.size w W) => iShared_any A n c L d k tm W ((hr.below hb).mono hb.size) hn hs hsm hd)
    have HR := Lib.hid hr
    have HN := Lib.hid hn
    clear hr hn hsm g
    obtain ⟨m, hm⟩ : ∃ m, L[d].length = m := ⟨_, rfl⟩
    have HM := Lib.hid hm
    have hm12 : m ≤ 12 := by have := HOK.out.1; omega
    clear hm
    have hi2 : (d : Int) < (n : Int) := by have := HN.out; omega
    have hi3 : (0 : Int) ≤ (d : Int) := by omega
    go_enter Try.func20, Try.ntmps20
    go_wp2_with fail
    refine (HV.out _).mono ?_
    rintro e w2 ⟨rfl, hb2⟩
    have HX2 := Lib.hid (BoxG.start.keep hb2); clear hb2
    obtain ⟨b, off, A2, c2, hA, hbw, e0, hc2, hrow⟩ := (HR.out.below HX2.out.hb).at0 hd
    have x0 := HX2.out.c0
    have x1 := HX2.out.c1
    have x2 := HX2.out.c2
    rw [HM.out] at e0 hc2
    have HROW := Lib.hid (hrow.mono HX2.out.hb.size); clear hrow
    have HC2 := Lib.hid hc2; clear hc2
    have HA := Lib.hid hA
    rw [hA] at x0
    clear hA
    go_wp2_with fail
    go_loopw [4] (fun i wr => ∃ k : Nat, i = .int .i64 (k : Int) ∧ k ≤ m ∧ (∀ i, k < i → i ≤ m → ¬ isSure L L[d] tm i) ∧ Below w2.heap.size w2 wr) (fun i _ => (intOf i).toNat)
    case atStart => exact ⟨m, rfl, by omega, fun i h1 h2 => by omega, Below.refl _ _⟩
    case round =>
      clear x0 x1 x2 e0
      obtain ⟨k, rfl, hk, hu, hb⟩ := hrel
      have HU := Lib.hid hu; clear hu
      have HB := Lib.hid hb; clear hb
      have HX := Lib.hid (HX2.out.keep HB.out)
      have x0 := HX.out.c0
      have x1 := HX.out.c1
      have x2 := HX.out.c2
      have hbs := HX.out.sz
      have HLT := Lib.hid (fun q => lastT_any A2 k c2 (L[d].take k) (wr.drewN q) (row_takeG (((HROW.out.below HB.out).mono HB.out.size).below (below_drewN _ _)) k) (by rw [List.length_take, HM.out]; omega) (by omega))
      have hcut := fun W => cut_headG A2 m c2 k W (by have := HC2.out.2; omega) HC2.out.1 HC2.out.2
      rw [HA.out] at x0
      have hk9 : (k : Int) ≤ 12 := by omega
      have HBX := Lib.hid (HX2.out.hb.trans (HB.out.mono HX2.out.hb.size))
      have HNO := Lib.hid (fun (h : lastT (L[d].take k) ≠ tm) => sureN_of (sure_stop HOK.out (by rw [HM.out]; exact hk) (by rw [HM.out]; exact HU.out) h))
      have HSH2 := Lib.hid (fun q => HSH.out (wr.drewN q) k (HBX.out.trans (below_drewN _ _)))
      by_cases e : lastT (L[d].take k) = tm
      · have hk0 : 0 < k := by
          rcases Nat.eq_zero_or_pos k with h | h
          · subst h
            rw [List.take_zero, lastT_nil] at e
            have := HTM.out.1; omega
          · exact h
        have HYES := Lib.hid (fun h => sureN_of (sure_found hk0 (by rw [HM.out]; exact hk) (by rw [HM.out]; exact HU.out) e h))
        have HNX := Lib.hid (fun (h : ¬ (L.length < 2 * cntG L L[d] k)) => (show ∀ i, k - 1 < i → i ≤ m → ¬ isSure L L[d] tm i from fun i h1 h2 => by
          rcases Nat.lt_or_ge k i with q | q
          · exact HU.out i q h2
          · obtain rfl : i = k := by omega
            exact fun h9 => h h9.2.2))
        rw [e] at HLT
        have q5 : (tm == tm) = true := by simp
        clear e HNO
        by_cases hv : L.length < 2 * cntG L L[d] k
        · rw [decide_eq_true hv] at HSH2
          have HF := Lib.hid (HYES.out hv)
          clear hv
          generalize lastT (L[d].take k) = lt at *
          rw [HA.out] at HSH2
          go_wp2_with fail
          go_quiet (exact Calls.quiet_of_same (HLT.out _))
          go_wp2_with fail
          refine (HSH2.out _).mono ?_
          rintro e w5 ⟨rfl, hb5⟩
          have HB5 := Lib.hid (HBX.out.trans ((below_drewN _ _).trans (hb5.mono HBX.out.size))); clear hb5
          go_wp2_with fail
          go_ret
          exact ⟨by rw [HS.out, ← HF.out]; rfl, HB5.out⟩
        · rw [decide_eq_false hv] at HSH2
          have HF := Lib.hid (HNX.out hv)
          clear hv
          generalize lastT (L[d].take k) = lt at *
          rw [HA.out] at HSH2
          go_wp2_with fail
          go_quiet (exact Calls.quiet_of_same (HLT.out _))
          go_wp2_with fail
          refine (HSH2.out _).mono ?_
          rintro e w5 ⟨rfl, hb5⟩
          have HB5 := Lib.hid (HB.out.trans ((below_drewN _ _).trans (hb5.mono HB.out.size))); clear hb5
          go_wp2_with fail
          go_roundw
          case rel => exact ⟨k - 1, by go_num, by omega, HF.out, HB5.out⟩
          case measure => simp [intOf]; omega
      · have HF := Lib.hid (HNO.out e)
        have q5 : (lastT (L[d].take k) == tm) = false := by simpa using e
        clear e HNO
        generalize lastT (L[d].take k) = lt at *
        go_wp2_with fail
        go_quiet (exact Calls.quiet_of_same (HLT.out _))
        go_wp2_with fail
        go_ret
        exact ⟨by rw [HS.out, ← HF.out]; rfl, HBX.out.trans (below_drewN _ _)⟩
  · rw [decide_eq_false g] at HV
    have HS := Lib.hid (show sureV L ld tm = -1 by unfold sureV; rw [if_neg g])
    clear hr hn hsm g
    go_enter Try.func20, Try.ntmps20
    go_wp2_with fail
    refine (HV.out _).mono ?_
    rintro e w2 ⟨rfl, hb2⟩
    have HX2 := Lib.hid (BoxG.start.keep hb2); clear hb2
    go_wp2_with fail
    go_ret
    exact ⟨by rw [HS.out]; rfl, HX2.out.hb⟩
end Go.Proofs.Ytgoonccjdoajnab
