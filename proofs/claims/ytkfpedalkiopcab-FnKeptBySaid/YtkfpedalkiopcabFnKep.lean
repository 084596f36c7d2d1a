/- The walk of the law FnKeptBy. Condition: the code lies in a row. -/
import Derived.Test.YtkfpedalkiopcabKepD
import Derived.Deep.QuietTactic
import Derived.BigQuiet
set_option linter.unusedVariables false
set_option linter.unusedSimpArgs false
namespace Go.Proofs.Ytkfpedalkiopcab
open Go.RowKit Go.ChangeShapes Go.WideShapes

theorem own_cellsJ {w : World} {B g m c : Nat} {l : List Jb} (h : w.ownsRow B 46 4 (.slice (some ⟨g, 0, none⟩) m c) m (jbsC l)) (hm : m = l.length) {q : Nat} (hq : q < l.length) :
    w.cell? ⟨g, q * 4, none⟩ = some (.int .i64 l[q].1) ∧ w.cell? ⟨g, q * 4 + 1, none⟩ = some (.int .i64 l[q].2.1) ∧ w.cell? ⟨g, q * 4 + 2, none⟩ = some (.int .i64 l[q].2.2.1) ∧ w.cell? ⟨g, q * 4 + 3, none⟩ = some (.int .i64 l[q].2.2.2) := by
  have c0 := h.cellAt (q * 4) (by omega)
  have c1 := h.cellAt (q * 4 + 1) (by omega)
  have c2 := h.cellAt (q * 4 + 2) (by omega)
  have c3 := h.cellAt (q * 4 + 3) (by omega)
  rw [jbsC_at0 hq] at c0
  rw [jbsC_at1 hq] at c1
  rw [jbsC_at2 hq] at c2
  rw [jbsC_at3 hq] at c3
  exact ⟨c0, c1, c2, c3⟩
theorem own_some {w : World} {B m c z : Nat} {e : TypeId} {A : Option Addr} {xs : List Value} (h : w.ownsRow B e z (.slice A m c) m xs) (h0 : 0 < m) : ∃ g, A = some ⟨g, 0, none⟩ := by
  rcases h.2 with ⟨_, h1⟩ | ⟨g, N', cur, a1, _⟩
  · omega
  · injection a1 with a1; exact ⟨g, a1⟩
set_option maxRecDepth 100000 in
set_option maxHeartbeats 8000000 in
theorem walk_FnKeptBy (A : Option Addr) (n c : Nat) (w : World) (h : BytesIn w A n c) :
    Calls Try.prog 10 #[.slice A n c] w fun e w' => e = .returned (.bool true) ∧ Below w.heap.size w w' := by
  have HD := Lib.hid (drawKeptBy_any A n c w h)
  obtain ⟨hc, hm, _⟩ := h
  unfold maxLen at hm
  by_cases hb : n ≤ 1048576
  rotate_left
  · go_enter Try.func10, Try.ntmps10
    go_wp2
    go_ret
    exact ⟨rfl, Below.refl _ _⟩
  go_enter Try.func10, Try.ntmps10
  go_wp2_with fail
  refine (HD.out).mono ?_
  rintro e w1 ⟨l, A1, m, c1, s, rfl, hml, hm6, hwf, ho, hb1⟩
  have HB1 := Lib.hid hb1; clear hb1
  obtain ⟨hmc, hcm⟩ := own_caps ho
  have HIK := Lib.hid (iKept_any A1 m c1 s l w1 (RowAt.of_own ho) hml (by omega) hwf hmc hcm)
  have HSK := Lib.hid (fun W (hb : Below w1.heap.size w1 W) => sKeptV_any A1 m c1 l s W (((RowAt.of_own ho).below hb).mono hb.size) hml (by omega) hwf)
  have HOW := Lib.hid ho; clear ho
  have HML := Lib.hid hml; clear hml
  clear hwf hcm hmc
  by_cases hemp : kepR l s = []
  · rw [hemp] at HIK HSK
    unfold BlsPost at HIK HSK
    clear hemp HOW HML
    have HE := Lib.hid (fun A1 A2 c1 c2 W (h1 : RowAt W W.heap.size A1 (blC [])) (h2 : RowAt W W.heap.size A2 (blC [])) => equalBools_same A1 A2 0 c1 c2 [] W h1 h2 rfl (by omega))
    go_wp2_with fail
    refine (HIK.out).mono ?_
    rintro e w2 ⟨_, rfl, ⟨Ag, cg, rfl, hog⟩, hb2⟩
    rw [show ([] : List Bool).length = 0 from rfl] at hog ⊢
    have HB2 := Lib.hid hb2; clear hb2
    have HG := Lib.hid (RowAt.of_own hog); clear hog
    go_wp2_with fail
    refine (HSK.out _ HB2.out).mono ?_
    rintro e w3 ⟨_, rfl, ⟨As, cs, rfl, hos⟩, hb3⟩
    rw [show ([] : List Bool).length = 0 from rfl] at hos ⊢
    have HB3 := Lib.hid (HB2.out.trans (hb3.mono HB2.out.size))
    have HG3 := Lib.hid ((HG.out.below hb3).mono hb3.size); clear hb3
    have HS3 := Lib.hid (RowAt.of_own hos); clear hos
    have HE3 := Lib.hid (HE.out Ag As cg cs _ HG3.out HS3.out)
    go_wp2_with fail
    refine (HE3.out).mono ?_
    rintro e w4 ⟨rfl, hb4⟩
    have HB4 := Lib.hid (HB3.out.trans (hb4.mono HB3.out.size))
    have HG4 := Lib.hid ((HG3.out.below hb4).mono hb4.size); clear hb4
    go_wp2_with fail
    refine (HSK.out _ HB4.out).mono ?_
    rintro e w5 ⟨_, rfl, ⟨As2, cs2, rfl, hos⟩, hb5⟩
    rw [show ([] : List Bool).length = 0 from rfl] at hos ⊢
    have HB5 := Lib.hid (HB4.out.trans (hb5.mono HB4.out.size))
    have HG5 := Lib.hid ((HG4.out.below hb5).mono hb5.size); clear hb5
    have HS5 := Lib.hid (RowAt.of_own hos); clear hos
    have HE5 := Lib.hid (HE.out Ag As2 cg cs2 _ HG5.out HS5.out)
    go_wp2_with fail
    refine (HE5.out).mono ?_
    rintro e w6 ⟨rfl, hb6⟩
    have HB6 := Lib.hid (HB5.out.trans (hb6.mono HB5.out.size)); clear hb6
    go_wp2_with fail
    go_ret
    exact ⟨rfl, HB1.out.trans (HB6.out.mono HB1.out.size)⟩
  · have hv : jobsB l = true := by
      cases hv : jobsB l with
      | true => rfl
      | false => exact absurd (by simp [kepR, hv]) hemp
    have hk : kindB s = true := by
      cases hk : kindB s with
      | true => rfl
      | false => exact absurd (by simp [kepR, hk]) hemp
    have he : kepR l s = keptL l (rdB s) 21 := by simp [kepR, hv, hk]
    have hlen : (keptL l (rdB s) 21).length = m := by simp [keptL]; exact HML.out.symm
    have hm0 : 0 < m := by
      rcases Nat.eq_zero_or_pos m with h0 | h0
      · exfalso; apply hemp; rw [he]; exact List.eq_nil_of_length_eq_zero (by omega)
      · exact h0
    obtain ⟨g, hA⟩ := own_some HOW.out hm0
    subst hA
    have HJ := Lib.hid (fun W (hb : Below w1.heap.size w1 W) (q : Nat) (hq : q < l.length) => own_cellsJ (HOW.out.kept (grown_of_below (row := none) hb) (by simp [Value.ownBlock])) HML.out hq)
    have HOK := Lib.hid (fun (q : Nat) (hq : q < l.length) => okJ_end (okJ_at hv hq))
    have HAP := Lib.hid (fun (i k : Nat) (hi : i < l.length) (hk : k < l.length) (hw : s.toList = [119, 114, 105, 116, 101, 115]) (hne : i ≠ k) (h1 : keptF l (rdB s) i = true) (h2 : keptF l (rdB s) k = true) (h3 : l[i].1 < l[k].2.1) (h4 : l[k].1 < l[i].2.1) =>
      (show meetB l[i].2.2.2 l[k].2.2.2 = false from by
        have hr : rdB s = false := by simp [rdB, hw]
        rw [hr] at h1 h2
        exact kept_apart hv hi hk hne h1 h2 h3 h4))
    have HFI := Lib.hid (fun (i : Nat) (hi : i < l.length) (hf : ∀ k, k < l.length → (jAt l i).2.1 ≤ (jAt l k).2.1) => kept_first (rd := rdB s) hv hi (fun k hk => by
      have := hf k hk
      rwa [jAt_get hi, jAt_get hk] at this))
    rw [he] at HIK HSK
    unfold BlsPost at HIK HSK
    have HLEN := Lib.hid hlen; clear hlen
    clear hv hk he hemp
    have HKG := Lib.hid (fun (q : Nat) (hq : q < l.length) (h2 : q < (keptL l (rdB s) 21).length) => kept_get (rd := rdB s) hq h2)
    generalize rdB s = rd at *
    have HE := Lib.hid (fun A1 A2 c1 c2 W (h1 : RowAt W W.heap.size A1 (blC (keptL l rd 21))) (h2 : RowAt W W.heap.size A2 (blC (keptL l rd 21))) => equalBools_same A1 A2 m c1 c2 (keptL l rd 21) W h1 h2 HLEN.out.symm (by omega))
    have hm0i : ¬ ((m : Int) = 0) := by omega
    have hm0b : ((m : Int) == 0) = false := by simpa using hm0i
    go_wp2_with fail
    refine (HIK.out).mono ?_
    rintro e w2 ⟨_, rfl, ⟨Ag, cg, rfl, hog⟩, hb2⟩
    rw [HLEN.out] at hog
    rw [HLEN.out]
    obtain ⟨gg, hAg⟩ := own_some hog hm0
    subst hAg
    have HB2 := Lib.hid hb2; clear hb2
    have HG := Lib.hid (RowAt.of_own hog)
    have HOG := Lib.hid (fun W (hb : Below w2.heap.size w2 W) (q : Nat) (hq : q < l.length) => (show W.cell? ⟨gg, q, none⟩ = some (.bool (keptF l rd q)) from by
      have ho2 := hog.kept (grown_of_below (row := none) hb) (by simp [Value.ownBlock])
      have hql : q < (keptL l rd 21).length := by have := HLEN.out; have := HML.out; omega
      have c0 := ho2.cellAt q (by have := HML.out; omega)
      rw [c0, ← HKG.out q hq hql]
      simp [blC, hql]))
    clear hog
    go_wp2_with fail
    refine (HSK.out _ HB2.out).mono ?_
    rintro e w3 ⟨_, rfl, ⟨As, cs, rfl, hos⟩, hb3⟩
    rw [HLEN.out] at hos
    rw [HLEN.out]
    have HB3 := Lib.hid (HB2.out.trans (hb3.mono HB2.out.size))
    have HC3 := Lib.hid hb3
    have HG3 := Lib.hid ((HG.out.below hb3).mono hb3.size); clear hb3
    have HS3 := Lib.hid (RowAt.of_own hos); clear hos
    have HE3 := Lib.hid (HE.out _ As cg cs _ HG3.out HS3.out)
    go_wp2_with fail
    refine (HE3.out).mono ?_
    rintro e w4 ⟨rfl, hb4⟩
    have HB4 := Lib.hid (HB3.out.trans (hb4.mono HB3.out.size))
    have HC4 := Lib.hid (HC3.out.trans (hb4.mono HC3.out.size)); clear hb4
    clear HE HE3 HG3 HS3 HG HC3 HSK HIK
    go_wp2_with fail
    go_loopw [6, 7] (fun f i W => ∃ f' i' : Nat, f = .int .i64 (f' : Int) ∧ i = .int .i64 (i' : Int) ∧ i' ≤ m ∧ f' < m ∧ (∀ k, k < i' → (jAt l f').2.1 ≤ (jAt l k).2.1) ∧ Below w4.heap.size w4 W) (fun _ i _ => m - (intOf i).toNat)
    case atStart => exact ⟨0, 0, rfl, rfl, by omega, hm0, (fun k hk => by omega), Below.refl _ _⟩
    case round =>
      obtain ⟨f, i, rfl, rfl, hi, hf, hmin, hbA⟩ := hrel
      have HBA := Lib.hid hbA; clear hbA
      have HMIN := Lib.hid hmin; clear hmin
      have hfl : f < l.length := by have := HML.out; omega
      have hfi : (f : Int) < (m : Int) := by omega
      have hf0 : (0 : Int) ≤ (f : Int) := by omega
      by_cases hlt : i < m
      · have hil : i < l.length := by have := HML.out; omega
        have hii : (i : Int) < (m : Int) := by omega
        have hi0 : (0 : Int) ≤ (i : Int) := by omega
        obtain ⟨_, p1, _, _⟩ := HJ.out _ (HB4.out.trans (HBA.out.mono HB4.out.size)) i hil
        obtain ⟨_, p2, _, _⟩ := HJ.out _ (HB4.out.trans (HBA.out.mono HB4.out.size)) f hfl
        by_cases hend : l[i].2.1 < l[f].2.1
        · have HMIN2 := Lib.hid (show ∀ k, k < i + 1 → (jAt l i).2.1 ≤ (jAt l k).2.1 from fun k hk => by
            have e1 : (jAt l i).2.1 < (jAt l f).2.1 := by rw [jAt_get hil, jAt_get hfl]; exact hend
            rcases (by omega : k < i ∨ k = i) with h1 | h1
            · have := HMIN.out k h1; omega
            · subst h1; exact Int.le_refl _)
          generalize hE1 : l[i].2.1 = E1 at p1 hend
          generalize hE2 : l[f].2.1 = E2 at p2 hend
          clear hE1 hE2
          go_wp2_with fail
          go_quiet (fail)
          go_wp2_with fail
          clear p1 p2 hend
          go_loopw [8] (fun k W => ∃ k' : Nat, k = .int .i64 (k' : Int) ∧ k' ≤ m ∧ Below w4.heap.size w4 W) (fun k _ => m - (intOf k).toNat)
          case atStart => exact ⟨0, rfl, by omega, HBA.out.trans (below_drewN _ _)⟩
          case round =>
            obtain ⟨k, rfl, hk, hbK⟩ := hrel
            have HBK := Lib.hid hbK; clear hbK
            by_cases hkm : k < m
            · have hkl : k < l.length := by have := HML.out; omega
              have hki : (k : Int) < (m : Int) := by omega
              have hk0 : (0 : Int) ≤ (k : Int) := by omega
              have HWR := Lib.hid (HB4.out.trans (HBK.out.mono HB4.out.size))
              have HCR := Lib.hid (HC4.out.trans (HBK.out.mono HC4.out.size))
              have HX := Lib.hid (fun a b => (((Below.refl wr.heap.size wr).alloc (Nat.le_refl _) (.cells a 46)).alloc (by simp) (.cells b 46)))
              obtain ⟨a0, a1, a2, a3⟩ := HJ.out wr HWR.out i hil
              obtain ⟨c0, c1, c2, c3⟩ := HJ.out (wr.alloc (.cells #[.int .i64 l[i].1, .int .i64 l[i].2.1, .int .i64 l[i].2.2.1, .int .i64 l[i].2.2.2] 46)) (HWR.out.trans (((Below.refl wr.heap.size wr).alloc (Nat.le_refl _) _).mono HWR.out.size)) k hkl
              have q1 := HOG.out ((wr.alloc (.cells #[.int .i64 l[i].1, .int .i64 l[i].2.1, .int .i64 l[i].2.2.1, .int .i64 l[i].2.2.2] 46)).alloc (.cells #[.int .i64 l[k].1, .int .i64 l[k].2.1, .int .i64 l[k].2.2.1, .int .i64 l[k].2.2.2] 46)) (HCR.out.trans ((HX.out _ _).mono HCR.out.size)) i hil
              have q2 := HOG.out ((wr.alloc (.cells #[.int .i64 l[i].1, .int .i64 l[i].2.1, .int .i64 l[i].2.2.1, .int .i64 l[i].2.2.2] 46)).alloc (.cells #[.int .i64 l[k].1, .int .i64 l[k].2.1, .int .i64 l[k].2.2.1, .int .i64 l[k].2.2.2] 46)) (HCR.out.trans ((HX.out _ _).mono HCR.out.size)) k hkl
              have HMT := Lib.hid (HAP.out i k hil hkl)
              have HXO := Lib.hid (HOK.out i hil)
              have HYO := Lib.hid (HOK.out k hkl)
              generalize l[i] = li at *
              generalize l[k] = lk at *
              obtain ⟨x0, x1, x2, x3⟩ := li
              obtain ⟨y0, y1, y2, y3⟩ := lk
              simp only at a0 a1 a2 a3 c0 c1 c2 c3 q1 q2 HMT HXO HYO
              generalize keptF l rd i = p at *
              generalize keptF l rd k = q at *
              by_cases hik : i = k
              · have hiki : (i : Int) = (k : Int) := by omega
                subst hik
                clear HMT
                go_wp2_with fail
                go_roundw
                case rel => exact ⟨i + 1, by go_num, by omega, HBK.out.trans ((HX.out _ _).mono HBK.out.size)⟩
                case measure => simp [intOf]; omega
              have hik1 : ¬ ((i : Int) = (k : Int)) := by omega
              have hik2 : ((i : Int) == (k : Int)) = false := by simpa using hik1
              by_cases hw : s.toList = [119, 114, 105, 116, 101, 115]
              rotate_left
              · have e1 : (s.toList == [119, 114, 105, 116, 101, 115]) = false := by simpa using hw
                clear HMT hik
                go_wp2_with fail
                go_roundw
                case rel => exact ⟨k + 1, by go_num, by omega, HBK.out.trans ((HX.out _ _).mono HBK.out.size)⟩
                case measure => simp [intOf]; omega
              have e1 : (s.toList == [119, 114, 105, 116, 101, 115]) = true := by simpa using hw
              cases p with
              | false =>
                clear HMT hik hw
                go_wp2_with fail
                go_roundw
                case rel => exact ⟨k + 1, by go_num, by omega, HBK.out.trans ((HX.out _ _).mono HBK.out.size)⟩
                case measure => simp [intOf]; omega
              | true =>
                cases q with
                | false =>
                  clear HMT hik hw
                  go_wp2_with fail
                  go_roundw
                  case rel => exact ⟨k + 1, by go_num, by omega, HBK.out.trans ((HX.out _ _).mono HBK.out.size)⟩
                  case measure => simp [intOf]; omega
                | true =>
                  by_cases h3 : x0 < y1
                  rotate_left
                  · clear HMT hik hw
                    go_wp2_with fail
                    go_roundw
                    case rel => exact ⟨k + 1, by go_num, by omega, HBK.out.trans ((HX.out _ _).mono HBK.out.size)⟩
                    case measure => simp [intOf]; omega
                  by_cases h4 : y0 < x1
                  rotate_left
                  · clear HMT hik hw
                    go_wp2_with fail
                    go_roundw
                    case rel => exact ⟨k + 1, by go_num, by omega, HBK.out.trans ((HX.out _ _).mono HBK.out.size)⟩
                    case measure => simp [intOf]; omega
                  obtain ⟨u, hu⟩ := Int.eq_ofNat_of_zero_le HXO.out.2.2.1
                  obtain ⟨v, hv2⟩ := Int.eq_ofNat_of_zero_le HYO.out.2.2.1
                  have hu7 : u ≤ 7 := by have := HXO.out.2.2.2; omega
                  have hv7 : v ≤ 7 := by have := HYO.out.2.2.2; omega
                  subst hu hv2
                  have hmt := HMT.out hw hik rfl rfl h3 h4
                  have hand := and_n u v (by omega) (by omega)
                  have hz : u &&& v = 0 := by simpa [meetB] using hmt
                  rw [hz] at hand
                  clear hmt hz HMT hik hw HXO HYO
                  go_wp2_with fail
                  go_roundw
                  case rel => exact ⟨k + 1, by go_num, by omega, HBK.out.trans ((HX.out _ _).mono HBK.out.size)⟩
                  case measure => simp [intOf]; omega
            · obtain rfl : k = m := by omega
              go_wp2_with fail
              go_roundw
              case rel => exact ⟨i, i + 1, rfl, by go_num, by omega, by omega, HMIN2.out, HBK.out⟩
              case measure => simp [intOf]; omega
        · have HMIN2 := Lib.hid (show ∀ k, k < i + 1 → (jAt l f).2.1 ≤ (jAt l k).2.1 from fun k hk => by
            have e1 : ¬ (jAt l i).2.1 < (jAt l f).2.1 := by rw [jAt_get hil, jAt_get hfl]; exact hend
            rcases (by omega : k < i ∨ k = i) with h1 | h1
            · exact HMIN.out k h1
            · subst h1; omega)
          generalize hE1 : l[i].2.1 = E1 at p1 hend
          generalize hE2 : l[f].2.1 = E2 at p2 hend
          clear hE1 hE2
          go_wp2_with fail
          go_quiet (fail)
          go_wp2_with fail
          clear p1 p2 hend
          go_loopw [8] (fun k W => ∃ k' : Nat, k = .int .i64 (k' : Int) ∧ k' ≤ m ∧ Below w4.heap.size w4 W) (fun k _ => m - (intOf k).toNat)
          case atStart => exact ⟨0, rfl, by omega, HBA.out.trans (below_drewN _ _)⟩
          case round =>
            obtain ⟨k, rfl, hk, hbK⟩ := hrel
            have HBK := Lib.hid hbK; clear hbK
            by_cases hkm : k < m
            · have hkl : k < l.length := by have := HML.out; omega
              have hki : (k : Int) < (m : Int) := by omega
              have hk0 : (0 : Int) ≤ (k : Int) := by omega
              have HWR := Lib.hid (HB4.out.trans (HBK.out.mono HB4.out.size))
              have HCR := Lib.hid (HC4.out.trans (HBK.out.mono HC4.out.size))
              have HX := Lib.hid (fun a b => (((Below.refl wr.heap.size wr).alloc (Nat.le_refl _) (.cells a 46)).alloc (by simp) (.cells b 46)))
              obtain ⟨a0, a1, a2, a3⟩ := HJ.out wr HWR.out i hil
              obtain ⟨c0, c1, c2, c3⟩ := HJ.out (wr.alloc (.cells #[.int .i64 l[i].1, .int .i64 l[i].2.1, .int .i64 l[i].2.2.1, .int .i64 l[i].2.2.2] 46)) (HWR.out.trans (((Below.refl wr.heap.size wr).alloc (Nat.le_refl _) _).mono HWR.out.size)) k hkl
              have q1 := HOG.out ((wr.alloc (.cells #[.int .i64 l[i].1, .int .i64 l[i].2.1, .int .i64 l[i].2.2.1, .int .i64 l[i].2.2.2] 46)).alloc (.cells #[.int .i64 l[k].1, .int .i64 l[k].2.1, .int .i64 l[k].2.2.1, .int .i64 l[k].2.2.2] 46)) (HCR.out.trans ((HX.out _ _).mono HCR.out.size)) i hil
              have q2 := HOG.out ((wr.alloc (.cells #[.int .i64 l[i].1, .int .i64 l[i].2.1, .int .i64 l[i].2.2.1, .int .i64 l[i].2.2.2] 46)).alloc (.cells #[.int .i64 l[k].1, .int .i64 l[k].2.1, .int .i64 l[k].2.2.1, .int .i64 l[k].2.2.2] 46)) (HCR.out.trans ((HX.out _ _).mono HCR.out.size)) k hkl
              have HMT := Lib.hid (HAP.out i k hil hkl)
              have HXO := Lib.hid (HOK.out i hil)
              have HYO := Lib.hid (HOK.out k hkl)
              generalize l[i] = li at *
              generalize l[k] = lk at *
              obtain ⟨x0, x1, x2, x3⟩ := li
              obtain ⟨y0, y1, y2, y3⟩ := lk
              simp only at a0 a1 a2 a3 c0 c1 c2 c3 q1 q2 HMT HXO HYO
              generalize keptF l rd i = p at *
              generalize keptF l rd k = q at *
              by_cases hik : i = k
              · have hiki : (i : Int) = (k : Int) := by omega
                subst hik
                clear HMT
                go_wp2_with fail
                go_roundw
                case rel => exact ⟨i + 1, by go_num, by omega, HBK.out.trans ((HX.out _ _).mono HBK.out.size)⟩
                case measure => simp [intOf]; omega
              have hik1 : ¬ ((i : Int) = (k : Int)) := by omega
              have hik2 : ((i : Int) == (k : Int)) = false := by simpa using hik1
              by_cases hw : s.toList = [119, 114, 105, 116, 101, 115]
              rotate_left
              · have e1 : (s.toList == [119, 114, 105, 116, 101, 115]) = false := by simpa using hw
                clear HMT hik
                go_wp2_with fail
                go_roundw
                case rel => exact ⟨k + 1, by go_num, by omega, HBK.out.trans ((HX.out _ _).mono HBK.out.size)⟩
                case measure => simp [intOf]; omega
              have e1 : (s.toList == [119, 114, 105, 116, 101, 115]) = true := by simpa using hw
              cases p with
              | false =>
                clear HMT hik hw
                go_wp2_with fail
                go_roundw
                case rel => exact ⟨k + 1, by go_num, by omega, HBK.out.trans ((HX.out _ _).mono HBK.out.size)⟩
                case measure => simp [intOf]; omega
              | true =>
                cases q with
                | false =>
                  clear HMT hik hw
                  go_wp2_with fail
                  go_roundw
                  case rel => exact ⟨k + 1, by go_num, by omega, HBK.out.trans ((HX.out _ _).mono HBK.out.size)⟩
                  case measure => simp [intOf]; omega
                | true =>
                  by_cases h3 : x0 < y1
                  rotate_left
                  · clear HMT hik hw
                    go_wp2_with fail
                    go_roundw
                    case rel => exact ⟨k + 1, by go_num, by omega, HBK.out.trans ((HX.out _ _).mono HBK.out.size)⟩
                    case measure => simp [intOf]; omega
                  by_cases h4 : y0 < x1
                  rotate_left
                  · clear HMT hik hw
                    go_wp2_with fail
                    go_roundw
                    case rel => exact ⟨k + 1, by go_num, by omega, HBK.out.trans ((HX.out _ _).mono HBK.out.size)⟩
                    case measure => simp [intOf]; omega
                  obtain ⟨u, hu⟩ := Int.eq_ofNat_of_zero_le HXO.out.2.2.1
                  obtain ⟨v, hv2⟩ := Int.eq_ofNat_of_zero_le HYO.out.2.2.1
                  have hu7 : u ≤ 7 := by have := HXO.out.2.2.2; omega
                  have hv7 : v ≤ 7 := by have := HYO.out.2.2.2; omega
                  subst hu hv2
                  have hmt := HMT.out hw hik rfl rfl h3 h4
                  have hand := and_n u v (by omega) (by omega)
                  have hz : u &&& v = 0 := by simpa [meetB] using hmt
                  rw [hz] at hand
                  clear hmt hz HMT hik hw HXO HYO
                  go_wp2_with fail
                  go_roundw
                  case rel => exact ⟨k + 1, by go_num, by omega, HBK.out.trans ((HX.out _ _).mono HBK.out.size)⟩
                  case measure => simp [intOf]; omega
            · obtain rfl : k = m := by omega
              go_wp2_with fail
              go_roundw
              case rel => exact ⟨f, i + 1, rfl, by go_num, by omega, by omega, HMIN2.out, HBK.out⟩
              case measure => simp [intOf]; omega
      · obtain rfl : i = m := by omega
        have hkf := HFI.out f hfl (fun k hk => HMIN.out k (by have := HML.out; omega))
        have q1 := HOG.out _ (HC4.out.trans (HBA.out.mono HC4.out.size)) f hfl
        rw [hkf] at q1
        clear hkf
        go_wp2_with fail
        go_ret
        exact ⟨rfl, HB1.out.trans ((HB4.out.trans (HBA.out.mono HB4.out.size)).mono HB1.out.size)⟩
end Go.Proofs.Ytkfpedalkiopcab
