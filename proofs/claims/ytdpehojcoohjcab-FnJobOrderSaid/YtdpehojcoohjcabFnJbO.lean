/- The draw and the walk of the law FnJobOrder. Condition: the code lies in a row. -/
import Derived.Test.YtdpehojcoohjcabDrawJd
import Derived.Test.YtdpehojcoohjcabJoV
import Derived.Test.YtdpehojcoohjcabEqIn
import Derived.Test.YtdpehojcoohjcabDifC
set_option linter.unusedVariables false
set_option linter.unusedSimpArgs false
namespace Go.Proofs.Ytdpehojcoohjcab
open Go.RowKit Go.ChangeShapes Go.WideShapes

def KindGotO (w : World) (e : Ending) (w' : World) : Prop := ∃ (l : List Jb) (A : Option Addr) (m c : Nat) (s : ByteArray), e = .returned (.tuple #[.slice A m c, .string s]) ∧ m = l.length ∧ m ≤ 6 ∧ WfJb l ∧ w'.ownsRow w.heap.size 69 4 (.slice A m c) m (jbsC l) ∧ Below w.heap.size w w'
theorem drawJobOrder_any (A : Option Addr) (n c : Nat) (w : World) (h : BytesIn w A n c) :
    Calls Try.prog 30 #[.slice A n c] w (KindGotO w) := by
  have HP := Lib.hid (newReader_any A n c w h)
  go_enter Try.func30, Try.ntmps30
  go_wp2_with fail
  refine (HP.out).mono ?_
  rintro e w1 ⟨rfl, hr1, hb1⟩
  have HB := Lib.hid hb1; clear hb1
  have hrl := hr1.lt
  have HK := Lib.hid (someJobs_any w.heap.size 0 w1 hr1 (by omega)); clear hr1
  go_wp2_with fail
  refine (HK.out).mono ?_
  rintro e w2 ⟨l, A2, m2, c2, rfl, hm, hm2, hf, hr⟩
  have HG := Lib.hid hr; clear hr
  have HM := Lib.hid hm; clear hm
  have HF := Lib.hid hf; clear hf
  have HO := Lib.hid (fun cs m c t hm hm0 hm1 hs => ofNew_any w.heap.size 60 m c cs t _ HG.out.rd (by omega) hm hm0 hm1 hs)
  go_wp2_with fail
  refine (HO.out _ _ _ _ (by rfl) (by omega) (by omega) (by rfl)).mono ?_
  rintro e w3 ⟨s, rfl, _, hr3, hg3⟩
  have HG3 := Lib.hid (HG.out.grow hrl hg3 hr3); clear hr3 hg3
  go_wp2_with fail
  go_ret2
  exact ⟨l, A2, m2, c2, s, rfl, HM.out, hm2, HF.out, own_le HG3.out.own HB.out.size, HB.out.trans (below_of_grown HG3.out.gr (Nat.le_refl _) HB.out.size)⟩

theorem reads_kind : kindB ⟨#[114, 101, 97, 100, 115]⟩ = true ∧ rdB ⟨#[114, 101, 97, 100, 115]⟩ = true := by
  constructor <;> simp [kindB, rdB, ByteArray.toList_eq] <;> rfl
set_option maxRecDepth 100000 in
set_option maxHeartbeats 8000000 in
theorem walk_FnJobOrder (A : Option Addr) (n c : Nat) (w : World) (h : BytesIn w A n c) :
    Calls Try.prog 7 #[.slice A n c] w fun e w' => e = .returned (.bool true) ∧ Below w.heap.size w w' := by
  have HD := Lib.hid (drawJobOrder_any A n c w h)
  obtain ⟨hc, hm, _⟩ := h
  unfold maxLen at hm
  by_cases hb : n ≤ 1048576
  rotate_left
  · go_enter Try.func7, Try.ntmps7
    go_wp2
    go_ret
    exact ⟨rfl, Below.refl _ _⟩
  go_enter Try.func7, Try.ntmps7
  go_wp2_with fail
  refine (HD.out).mono ?_
  rintro e w0 ⟨l, A1, m, c1, kind, rfl, hml, hm6, hwf, ho, hb0⟩
  have HB0 := Lib.hid hb0; clear hb0
  have HB1 := Lib.hid (Below.refl w0.heap.size w0)
  obtain ⟨hmc, hcm⟩ := own_caps ho
  have HIO := Lib.hid (fun W (hb : Below w0.heap.size w0 W) => iJobO_any A1 m c1 l kind W (((RowAt.of_own ho).below hb).mono hb.size) hml (by omega) hwf hmc hcm)
  have HSO := Lib.hid (fun W (hb : Below w0.heap.size w0 W) => sJobO_any A1 m c1 l kind W (((RowAt.of_own ho).below hb).mono hb.size) hml (by omega) hwf)
  have HIV := Lib.hid (fun W (hb : Below w0.heap.size w0 W) => iJobs_any A1 m c1 l W (((RowAt.of_own ho).below hb).mono hb.size) hml (by omega) hmc hcm)
  have HIR := Lib.hid (fun W (hb : Below w0.heap.size w0 W) => iJobO_any A1 m c1 l ⟨#[114, 101, 97, 100, 115]⟩ W (((RowAt.of_own ho).below hb).mono hb.size) hml (by omega) hwf hmc hcm)
  have HML := Lib.hid hml
  clear ho hcm hml hwf hmc
  obtain ⟨r, hr⟩ : ∃ r, jobO l kind = r := ⟨_, rfl⟩
  have hlen : ∀ o, r = some o → o.length = m ∧ (cntD (natI o) : Int) = m := by
    intro o ho
    rw [ho] at hr
    unfold jobO at hr
    split at hr
    · unfold jobR at hr
      obtain ⟨h1, _⟩ := greedy_order (fun x _ => needJ_irr l _ x) hr
      have h2 := h1.1
      have h3 := HML.out
      exact ⟨by omega, by rw [natI_cntD h1.2.1]; omega⟩
    · cases hr
  have hno : jobsB l = false → r = none := fun hv => by rw [← hr]; simp [jobO, hv]
  have hyes : jobsB l = true → ∃ o2, jobO l ⟨#[114, 101, 97, 100, 115]⟩ = some o2 := fun hv => by
    obtain ⟨o2, h2⟩ := jobR_reads hv
    exact ⟨o2, by unfold jobO; rw [hv, reads_kind.1, reads_kind.2]; exact h2⟩
  rw [hr] at HIO HSO
  clear hr
  cases hv : jobsB l
  · obtain rfl := hno hv
    rw [hv] at HIV
    unfold OrdPost at HIO HSO
    simp only [Option.isSome_none, Option.getD_none] at HIO HSO
    clear hv hno hyes hlen HIR
    have HLEN := Lib.hid (show (natI []).length = 0 from rfl)
    have HE := Lib.hid (fun A1 A2 c1 c2 W (h1 : RowAt W W.heap.size A1 (intC (natI []))) (h2 : RowAt W W.heap.size A2 (intC (natI []))) => equalInts_same A1 A2 0 c1 c2 (natI []) W h1 h2 rfl (by omega))
    go_wp2_with fail
    refine (HIO.out _ HB1.out).mono ?_
    rintro e w2 ⟨_, rfl, ⟨Ag, cg, rfl, hog⟩, hb2⟩
    have HB2 := Lib.hid (HB1.out.trans (hb2.mono HB1.out.size))
    rw [HLEN.out] at hog ⊢
    have HGC := Lib.hid (own_caps hog).1
    have HG2 := Lib.hid (RowAt.of_own hog); clear hog
    clear hb2
    go_wp2_with fail
    refine (HSO.out _ HB2.out).mono ?_
    rintro e w3 ⟨_, rfl, ⟨As, cs, rfl, hos⟩, hb3⟩
    have HB3 := Lib.hid (HB2.out.trans (hb3.mono HB2.out.size))
    rw [HLEN.out] at hos ⊢
    have HG3 := Lib.hid ((HG2.out.below hb3).mono hb3.size)
    have HS3 := Lib.hid (RowAt.of_own hos); clear hos
    have HE3 := Lib.hid (HE.out Ag As cg cs _ HG3.out HS3.out)
    clear hb3
    go_wp2_with fail
    refine (HE3.out).mono ?_
    rintro e w4 ⟨rfl, hb4⟩
    have HB4 := Lib.hid (HB3.out.trans (hb4.mono HB3.out.size))
    have HG4 := Lib.hid ((HG3.out.below hb4).mono hb4.size)
    have HS4 := Lib.hid ((HS3.out.below hb4).mono hb4.size)
    have HE4 := Lib.hid (HE.out Ag As cg cs)
    clear hb4
    go_wp2_with fail
    refine (HIV.out _ HB4.out).mono ?_
    rintro e w5 ⟨rfl, hb5⟩
    have HB5 := Lib.hid (HB4.out.trans (hb5.mono HB4.out.size))
    have HG5 := Lib.hid ((HG4.out.below hb5).mono hb5.size)
    have HS5 := Lib.hid ((HS4.out.below hb5).mono hb5.size)
    have HE5 := Lib.hid (HE4.out _ HG5.out HS5.out)
    clear hb5
    go_wp2_with fail
    refine (HE5.out).mono ?_
    rintro e w6 ⟨rfl, hb6⟩
    have HB6 := Lib.hid (HB5.out.trans (hb6.mono HB5.out.size))
    clear hb6
    go_wp2_with fail
    go_ret
    exact ⟨rfl, HB0.out.trans (HB6.out.mono HB0.out.size)⟩
  · obtain ⟨o2, ho2⟩ := hyes hv
    rw [hv] at HIV
    rw [ho2] at HIR
    unfold OrdPost at HIO HSO HIR
    simp only [Option.isSome_some] at HIR
    clear hv hno hyes ho2
    cases r with
    | none =>
      simp only [Option.isSome_none, Option.getD_none] at HIO HSO
      clear hlen
      have HLEN := Lib.hid (show (natI []).length = 0 from rfl)
      have HE := Lib.hid (fun A1 A2 c1 c2 W (h1 : RowAt W W.heap.size A1 (intC (natI []))) (h2 : RowAt W W.heap.size A2 (intC (natI []))) => equalInts_same A1 A2 0 c1 c2 (natI []) W h1 h2 rfl (by omega))
      go_wp2_with fail
      refine (HIO.out _ HB1.out).mono ?_
      rintro e w2 ⟨_, rfl, ⟨Ag, cg, rfl, hog⟩, hb2⟩
      have HB2 := Lib.hid (HB1.out.trans (hb2.mono HB1.out.size))
      rw [HLEN.out] at hog ⊢
      have HGC := Lib.hid (own_caps hog).1
      have HG2 := Lib.hid (RowAt.of_own hog); clear hog
      clear hb2
      go_wp2_with fail
      refine (HSO.out _ HB2.out).mono ?_
      rintro e w3 ⟨_, rfl, ⟨As, cs, rfl, hos⟩, hb3⟩
      have HB3 := Lib.hid (HB2.out.trans (hb3.mono HB2.out.size))
      rw [HLEN.out] at hos ⊢
      have HG3 := Lib.hid ((HG2.out.below hb3).mono hb3.size)
      have HS3 := Lib.hid (RowAt.of_own hos); clear hos
      have HE3 := Lib.hid (HE.out Ag As cg cs _ HG3.out HS3.out)
      clear hb3
      go_wp2_with fail
      refine (HE3.out).mono ?_
      rintro e w4 ⟨rfl, hb4⟩
      have HB4 := Lib.hid (HB3.out.trans (hb4.mono HB3.out.size))
      have HG4 := Lib.hid ((HG3.out.below hb4).mono hb4.size)
      have HS4 := Lib.hid ((HS3.out.below hb4).mono hb4.size)
      have HE4 := Lib.hid (HE.out Ag As cg cs)
      clear hb4
      go_wp2_with fail
      refine (HIV.out _ HB4.out).mono ?_
      rintro e w5 ⟨rfl, hb5⟩
      have HB5 := Lib.hid (HB4.out.trans (hb5.mono HB4.out.size))
      have HG5 := Lib.hid ((HG4.out.below hb5).mono hb5.size)
      have HS5 := Lib.hid ((HS4.out.below hb5).mono hb5.size)
      have HE5 := Lib.hid (HE4.out _ HG5.out HS5.out)
      clear hb5
      go_wp2_with fail
      refine (HIR.out _ HB5.out).mono ?_
      rintro e w6 ⟨_, rfl, ⟨Ar, cr, rfl, hor⟩, hb6⟩
      have HB6 := Lib.hid (HB5.out.trans (hb6.mono HB5.out.size))
      clear hor
      clear hb6
      go_wp2_with fail
      go_ret
      exact ⟨rfl, HB0.out.trans (HB6.out.mono HB0.out.size)⟩
    | some o =>
      simp only [Option.isSome_some, Option.getD_some] at HIO HSO
      obtain ⟨hl1, hl2⟩ := hlen o rfl
      have HCD := Lib.hid hl2
      have HLEN := Lib.hid (show (natI o).length = m by rw [natI_len]; exact hl1)
      clear hlen hl1 hl2
      have HE := Lib.hid (fun A1 A2 c1 c2 W (h1 : RowAt W W.heap.size A1 (intC (natI o))) (h2 : RowAt W W.heap.size A2 (intC (natI o))) => equalInts_same A1 A2 m c1 c2 (natI o) W h1 h2 HLEN.out.symm (by omega))
      go_wp2_with fail
      refine (HIO.out _ HB1.out).mono ?_
      rintro e w2 ⟨_, rfl, ⟨Ag, cg, rfl, hog⟩, hb2⟩
      have HB2 := Lib.hid (HB1.out.trans (hb2.mono HB1.out.size))
      rw [HLEN.out] at hog ⊢
      have HGC := Lib.hid (own_caps hog).1
      have HG2 := Lib.hid (RowAt.of_own hog); clear hog
      clear hb2
      go_wp2_with fail
      refine (HSO.out _ HB2.out).mono ?_
      rintro e w3 ⟨_, rfl, ⟨As, cs, rfl, hos⟩, hb3⟩
      have HB3 := Lib.hid (HB2.out.trans (hb3.mono HB2.out.size))
      rw [HLEN.out] at hos ⊢
      have HG3 := Lib.hid ((HG2.out.below hb3).mono hb3.size)
      have HS3 := Lib.hid (RowAt.of_own hos); clear hos
      have HE3 := Lib.hid (HE.out Ag As cg cs _ HG3.out HS3.out)
      clear hb3
      go_wp2_with fail
      refine (HE3.out).mono ?_
      rintro e w4 ⟨rfl, hb4⟩
      have HB4 := Lib.hid (HB3.out.trans (hb4.mono HB3.out.size))
      have HG4 := Lib.hid ((HG3.out.below hb4).mono hb4.size)
      have HS4 := Lib.hid ((HS3.out.below hb4).mono hb4.size)
      have HE4 := Lib.hid (HE.out Ag As cg cs)
      clear hb4
      go_wp2_with fail
      refine (HIV.out _ HB4.out).mono ?_
      rintro e w5 ⟨rfl, hb5⟩
      have HB5 := Lib.hid (HB4.out.trans (hb5.mono HB4.out.size))
      have HG5 := Lib.hid ((HG4.out.below hb5).mono hb5.size)
      have HS5 := Lib.hid ((HS4.out.below hb5).mono hb5.size)
      have HE5 := Lib.hid (HE4.out _ HG5.out HS5.out)
      clear hb5
      go_wp2_with fail
      refine (HIR.out _ HB5.out).mono ?_
      rintro e w6 ⟨_, rfl, ⟨Ar, cr, rfl, hor⟩, hb6⟩
      have HB6 := Lib.hid (HB5.out.trans (hb6.mono HB5.out.size))
      have HG6 := Lib.hid ((HG5.out.below hb6).mono hb6.size)
      clear hor
      clear hb6
      have HDF := Lib.hid (different_any Ag m cg (natI o) _ HG6.out HLEN.out.symm (by omega) HGC.out)
      rw [HCD.out] at HDF
      go_wp2_with fail
      refine (HDF.out).mono ?_
      rintro e w7 ⟨rfl, hb7⟩
      have HB7 := Lib.hid (HB6.out.trans (hb7.mono HB6.out.size))
      clear hb7
      go_wp2_with fail
      go_ret
      exact ⟨rfl, HB0.out.trans (HB7.out.mono HB0.out.size)⟩
end Go.Proofs.Ytdpehojcoohjcab
