/- The walk of the law FnValidLevels. Condition: the code lies in a row. -/
import Derived.Test.YtelhgpmklhdhcaaDrawLv
set_option linter.unusedVariables false
set_option linter.unusedSimpArgs false
namespace Go.Proofs.Ytelhgpmklhdhcaa
open Go.RowKit Go.ChangeShapes Go.WideShapes

theorem levB_tail {x : List It} {L : List (List It)} (h : levB (x :: L) = true) : levB L = true := by
  unfold levB at *
  simp only [Bool.and_eq_true, decide_eq_true_eq, List.all_cons, List.length_cons] at *
  exact ⟨by omega, h.2.2⟩
def LevGot (w : World) (e : Ending) (w' : World) : Prop := ∃ (L : List (List It)) (A : Option Addr) (m c : Nat), e = .returned (.slice A m c) ∧ m = L.length ∧ LvFew 8 L ∧ LvAt w' w'.heap.size A L ∧ m ≤ c ∧ (∀ ad, A = some ad → ad.spot = none) ∧ Below w.heap.size w w'
theorem drawValidLevels_any (A : Option Addr) (n c : Nat) (w : World) (h : BytesIn w A n c) :
    Calls Try.prog 36 #[.slice A n c] w (LevGot w) := by
  have HP := Lib.hid (newReader_any A n c w h)
  go_enter Try.func36, Try.ntmps36
  go_wp2_with fail
  refine (HP.out).mono ?_
  rintro e w1 ⟨rfl, hr1, hb1⟩
  have HB := Lib.hid hb1; clear hb1
  have HK := Lib.hid (someLevels_any w.heap.size 0 w1 hr1 (by omega)); clear hr1
  go_wp2_with fail
  refine (HK.out).mono ?_
  rintro e w2 ⟨L, A2, m2, c2, rfl, hf, hd⟩
  have HG := Lib.hid hd; clear hd
  have HF := Lib.hid hf; clear hf
  go_wp2_with fail
  go_ret
  exact ⟨L, A2, m2, c2, rfl, HG.out.len, HF.out, HG.out.lv, HG.out.facts.1, HG.out.facts.2.1, HB.out.trans (below_of_grown HG.out.gr (Nat.le_refl _) HB.out.size)⟩
set_option maxRecDepth 100000 in
set_option maxHeartbeats 2000000 in
theorem walk_FnValidLevels (A : Option Addr) (n c : Nat) (w : World) (h : BytesIn w A n c) :
    Calls Try.prog 8 #[.slice A n c] w fun e w' => e = .returned (.bool true) ∧ Below w.heap.size w w' := by
  have HD := Lib.hid (drawValidLevels_any A n c w h)
  obtain ⟨hc, hm, _⟩ := h
  unfold maxLen at hm
  by_cases hb : n ≤ 1048576
  · go_enter Try.func8, Try.ntmps8
    go_wp2_with fail
    refine (HD.out).mono ?_
    rintro e w1 ⟨L, A1, m, c1, rfl, hml, hfew, hlv, hmc, hsp, hb1⟩
    have HB1 := Lib.hid hb1
    have hm8 : m ≤ 8 := by have := hfew.1; omega
    have hwf : ∀ r ∈ L, r.length ≤ 1048576 ∧ WfIt r := fun r hr => ⟨by have := (hfew.2 r hr).1; omega, (hfew.2 r hr).2.wf⟩
    have HI := Lib.hid (fun W (hb : Below w1.heap.size w1 W) => iLev_any A1 m c1 L W ((hlv.below hb).mono hb.size) hml (by omega) hwf)
    have HS := Lib.hid (fun W (hb : Below w1.heap.size w1 W) => sLevV_any A1 m c1 L W ((hlv.below hb).mono hb.size) hml (by omega) hwf)
    have HWF := Lib.hid hwf
    have HML := Lib.hid hml
    have HLV := Lib.hid hlv
    have HSP := Lib.hid hsp
    clear hb1 hwf hfew hlv hml hsp
    go_wp2_with fail
    refine (HI.out _ (Below.refl _ _)).mono ?_
    rintro e w2 ⟨rfl, hb2⟩
    have HB2 := Lib.hid hb2; clear hb2
    cases hv : levB L
    · rw [hv] at HS
      clear hv
      go_wp2_with fail
      refine (HS.out _ HB2.out).mono ?_
      rintro e w3 ⟨rfl, hb3⟩
      have HB3 := Lib.hid (HB2.out.trans (hb3.mono HB2.out.size)); clear hb3
      go_wp2_with fail
      refine (HS.out _ HB3.out).mono ?_
      rintro e w4 ⟨rfl, hb4⟩
      have HB4 := Lib.hid (HB3.out.trans (hb4.mono HB3.out.size)); clear hb4
      go_wp2_with fail
      go_ret
      exact ⟨rfl, HB1.out.trans (HB4.out.mono HB1.out.size)⟩
    · rw [hv] at HS
      have HLB := Lib.hid hv
      clear hv
      go_wp2_with fail
      refine (HS.out _ HB2.out).mono ?_
      rintro e w3 ⟨rfl, hb3⟩
      have HB3 := Lib.hid (HB2.out.trans (hb3.mono HB2.out.size)); clear hb3
      cases L with
      | nil =>
        obtain rfl : m = 0 := by simpa using HML.out
        go_wp2_with fail
        go_ret
        exact ⟨rfl, HB1.out.trans (HB3.out.mono HB1.out.size)⟩
      | cons x L =>
        obtain ⟨k, rfl⟩ : ∃ k, m = k + 1 := ⟨L.length, by simpa using HML.out⟩
        have hkl : k = L.length := by simpa using HML.out
        obtain ⟨b, off, A', c', hA, _⟩ := HLV.out.at0 (k := 0) (by simp)
        subst hA
        obtain ⟨ad', hsp', hcut, htl⟩ := lv_tail ⟨b, off, none⟩ (k + 1) c1 (by omega) hmc rfl
        have HK := Lib.hid (iLev_any (some ad') (k + 1 - 1) (c1 - 1) L w3 (htl w3 _ x L ((HLV.out.below HB3.out).mono HB3.out.size) (by rw [hkl])) (by omega) (by omega) (fun r hr => HWF.out r (List.mem_cons_of_mem _ hr)))
        rw [levB_tail HLB.out] at HK
        have h2 : ((k : Int) + 1 == 0) = false := by simp; omega
        clear htl hkl
        go_wp2_with fail
        refine (HK.out).mono ?_
        rintro e w4 ⟨rfl, hb4⟩
        have HB4 := Lib.hid (HB3.out.trans (hb4.mono HB3.out.size)); clear hb4
        go_wp2_with fail
        go_ret
        exact ⟨rfl, HB1.out.trans (HB4.out.mono HB1.out.size)⟩
  · go_enter Try.func8, Try.ntmps8
    go_wp2
    go_ret
    exact ⟨rfl, Below.refl _ _⟩
end Go.Proofs.Ytelhgpmklhdhcaa
