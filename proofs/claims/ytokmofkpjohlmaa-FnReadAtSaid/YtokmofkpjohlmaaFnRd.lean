/- The walk of the law FnReadAt. Condition: the code lies in a row. -/
import Derived.Test.YtokmofkpjohlmaaDrawX
import Derived.Test.YtokmofkpjohlmaaValV
import Derived.Test.YtokmofkpjohlmaaSeenI
import Derived.Test.YtokmofkpjohlmaaVerQ
import Derived.Test.YtokmofkpjohlmaaMark
set_option linter.unusedVariables false
set_option linter.unusedSimpArgs false
namespace Go.Proofs.Ytokmofkpjohlmaa
open Go.RowKit Go.ChangeShapes Go.WideShapes

theorem seenR_few {l : List Vr} {at_ : Int} (hl : l.length ≤ 1048576) : (seenR l at_).length ≤ 1048576 := by
  unfold seenR
  split
  · have := seenA_len (l := l) (at_ := at_) l.length (Nat.le_refl _)
    rw [List.take_length] at this; omega
  · simp
set_option maxRecDepth 100000 in
set_option maxHeartbeats 4000000 in
theorem walk_FnReadAt (A : Option Addr) (n c : Nat) (w : World) (h : BytesIn w A n c) :
    Calls Try.prog 11 #[.slice A n c] w fun e w' => e = .returned (.bool true) ∧ Below w.heap.size w w' := by
  have HD := Lib.hid (drawReadAt_any A n c w h)
  obtain ⟨hc, hm, _⟩ := h
  unfold maxLen at hm
  by_cases hb : n ≤ 1048576
  · go_enter Try.func11, Try.ntmps11
    go_wp2_with fail
    refine (HD.out).mono ?_
    rintro e w1 ⟨l, A1, m, c1, key, at_, rfl, hml, hm30, hf, hks, hx1, hx2, ho, hb1⟩
    obtain ⟨hcp1, hcp2⟩ := own_caps ho
    have HB1 := Lib.hid hb1
    have hwf := hf.wf
    have hkm : key.size ≤ maxLen := by unfold maxLen; omega
    have HROW := Lib.hid (fun W (hb : Below w1.heap.size w1 W) => ((RowAt.of_own ho).below hb).mono hb.size)
    have HI := Lib.hid (fun W (hb : Below w1.heap.size w1 W) => iRead_any A1 m c1 l key at_ W (HROW.out W hb) hml (by omega) hwf hcp1 hcp2 hkm)
    have HS := Lib.hid (fun W (hb : Below w1.heap.size w1 W) => sRead_any A1 m c1 l key at_ W (HROW.out W hb) hml (by omega) hwf hkm)
    have HV := Lib.hid (fun W (hb : Below w1.heap.size w1 W) => iVers_any A1 m c1 l W (HROW.out W hb) hml (by omega) hwf hcp1 hcp2)
    have HK := Lib.hid (fun W => iKey_any key W hkm)
    have HSN := Lib.hid (fun W (hb : Below w1.heap.size w1 W) => iSeen_any A1 m c1 l at_ W (HROW.out W hb) hml (by omega) hwf hcp1 hcp2)
    have HSL := Lib.hid (seenR_few (l := l) (at_ := at_) (by omega))
    have HRS := Lib.hid (fun (h1 : versB l = true) (h2 : keyB key = true) (h3 : 0 ≤ at_) (h4 : at_ ≤ 20) => read_seen (l := l) (key := key) (at_ := at_) (by unfold readB; rw [show versK okVr l = true from h1, h2, decide_eq_true h3, decide_eq_true h4]; rfl))
    unfold rdP at HI HS
    clear hb1 hwf hf ho hml hcp1 hcp2 hks hkm
    generalize readK okVr keyB l key at_ = rk at *
    obtain ⟨r1, r2⟩ := rk
    dsimp only at HI HS
    have hbt0 : (r1.toList == r1.toList) = true := by simp
    have hbt1 : (r2 == r2) = true := by simp
    have hbu1 : (r2 != r2) = false := by simp
    go_wp2_with fail
    refine (HI.out _ (Below.refl _ _)).mono ?_
    rintro e w2 ⟨rfl, hb2⟩
    have HB2 := Lib.hid hb2; clear hb2
    go_wp2_with fail
    refine (HS.out _ HB2.out).mono ?_
    rintro e w3 ⟨rfl, hb3⟩
    have HB3 := Lib.hid (HB2.out.trans (hb3.mono HB2.out.size)); clear hb3
    go_wp2_with fail
    refine (HV.out _ HB3.out).mono ?_
    rintro e w4 ⟨rfl, hb4⟩
    have HB4 := Lib.hid (HB3.out.trans (hb4.mono HB3.out.size)); clear hb4
    cases hv : versB l
    · clear hv HRS
      go_wp2_with fail
      go_ret
      exact ⟨rfl, HB1.out.trans (HB4.out.mono HB1.out.size)⟩
    cases hkb : keyB key
    · rw [hkb] at HK
      clear hv HRS hkb
      go_wp2_with (go_at_call 48; refine (HK.out _).mono ?_; rintro e w' ⟨rfl, rfl⟩)
      go_ret
      exact ⟨rfl, HB1.out.trans (HB4.out.mono HB1.out.size)⟩
    rw [hkb] at HK
    by_cases h0 : at_ < 0
    · clear hv HRS hkb
      go_wp2_with (go_at_call 48; refine (HK.out _).mono ?_; rintro e w' ⟨rfl, rfl⟩)
      go_ret
      exact ⟨rfl, HB1.out.trans (HB4.out.mono HB1.out.size)⟩
    by_cases h20 : (20 : Int) < at_
    · clear hv HRS hkb
      go_wp2_with (go_at_call 48; refine (HK.out _).mono ?_; rintro e w' ⟨rfl, rfl⟩)
      go_ret
      exact ⟨rfl, HB1.out.trans (HB4.out.mono HB1.out.size)⟩
    have HE := Lib.hid (HRS.out hv hkb (by omega) (by omega))
    clear hv HRS hkb
    go_wp2_with (go_at_call 48; refine (HK.out _).mono ?_; rintro e w' ⟨rfl, rfl⟩)
    refine (HSN.out _ HB4.out).mono ?_
    rintro e w5 ⟨_, rfl, ⟨A5, c5, rfl, ho5⟩, hb5⟩
    have HB5 := Lib.hid (HB4.out.trans (hb5.mono HB4.out.size)); clear hb5
    have HVI := Lib.hid (lValueV_any A5 (seenR l at_).length c5 (seenR l at_) key w5 (RowAt.of_own ho5) rfl HSL.out)
    rw [HE.out] at HVI
    dsimp only at HVI
    clear ho5
    go_wp2_with fail
    refine (HVI.out).mono ?_
    rintro e w6 ⟨rfl, hw6⟩
    obtain rfl := hw6.symm
    go_wp2_with fail
    go_ret
    exact ⟨rfl, HB1.out.trans (HB5.out.mono HB1.out.size)⟩
  · go_enter Try.func11, Try.ntmps11
    go_wp2
    go_ret
    exact ⟨rfl, Below.refl _ _⟩
end Go.Proofs.Ytokmofkpjohlmaa
