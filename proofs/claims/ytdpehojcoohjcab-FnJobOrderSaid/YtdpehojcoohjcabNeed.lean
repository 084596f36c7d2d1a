/- Contract of needs of the model (chapter 8). Conditions: the jobs are valid, they and what is kept lie in rows. -/
import Derived.Test.YtdpehojcoohjcabFitJ
import Derived.Deep.DeepCutAuto
set_option linter.unusedVariables false
set_option linter.unusedSimpArgs false
namespace Go.Proofs.Ytdpehojcoohjcab
open Go.RowKit Go.ChangeShapes Go.WideShapes

/-- what is written down when i stands against k -/
def NPr (R : Nat → Nat → Bool) (i k p j : Nat) : Prop := R p j = true ∧ (p < i ∨ (p = i ∧ j < k))
theorem NPr.skip {R : Nat → Nat → Bool} {i k : Nat} (h : R i k = false) (p j : Nat) : NPr R i k p j ↔ NPr R i (k + 1) p j := by
  unfold NPr
  constructor
  · rintro ⟨a, b⟩; exact ⟨a, by omega⟩
  · rintro ⟨a, b⟩
    refine ⟨a, ?_⟩
    rcases b with b | ⟨rfl, b⟩
    · exact .inl b
    · by_cases e : j = k
      · subst e; rw [h] at a; cases a
      · exact .inr ⟨rfl, by omega⟩
theorem NPr.yes {R : Nat → Nat → Bool} {i k : Nat} (h : R i k = true) (p j : Nat) : (NPr R i k p j ∨ (p = i ∧ j = k)) ↔ NPr R i (k + 1) p j := by
  unfold NPr
  constructor
  · rintro (⟨a, b⟩ | ⟨rfl, rfl⟩)
    · exact ⟨a, by omega⟩
    · exact ⟨h, by omega⟩
  · rintro ⟨a, b⟩
    by_cases e : p = i ∧ j = k
    · exact .inr e
    · exact .inl ⟨a, by omega⟩
theorem NPr.row {R : Nat → Nat → Bool} {i n : Nat} (p j : Nat) (hj : j < n) : NPr R i n p j ↔ NPr R (i + 1) 0 p j := by
  unfold NPr
  constructor
  · rintro ⟨a, b⟩; exact ⟨a, by omega⟩
  · rintro ⟨a, b⟩; exact ⟨a, by omega⟩
theorem NPr.end {R : Nat → Nat → Bool} {n : Nat} (p j : Nat) (hp : p < n) : NPr R n 0 p j ↔ R p j = true := by
  unfold NPr
  exact ⟨fun h => h.1, fun h => ⟨h, .inl hp⟩⟩

set_option maxRecDepth 100000 in
set_option maxHeartbeats 8000000 in
theorem sNeeds_any (A : Option Addr) (n c : Nat) (l : List Jb) (A2 : Option Addr) (n2 c2 : Nat) (kp : List Bool) (w : World)
    (hr : RowAt w w.heap.size A (jbsC l)) (hn : n = l.length) (hs : n ≤ 6) (hok : ∀ x ∈ l, okJb x = true)
    (hr2 : RowAt w w.heap.size A2 (blC kp)) (hn2 : n2 = kp.length) (hkpl : kp.length = l.length) :
    Calls Try.prog 50 #[.slice A n c, .slice A2 n2 c2] w (IntsPost (natI (maskL n (needJ l (fun i => kp.getD i false)))) w) := by
  obtain ⟨i0, hi0, hz0, hz1, hz2⟩ := info_parts intInfo
  have hb2 : i0.bytes * n ≤ 281474976710656 := by rw [hz2]; omega
  have HI := Lib.hid (And.intro hi0 (And.intro hz0 (And.intro hz1 hz2))); clear hi0 hz0 hz1 hz2
  have HJB := Lib.hid (fun W (hb : Below w.heap.size w W) k (hk : k < l.length) => jbs_at (hr.below hb) hk)
  have HKP := Lib.hid (fun W (hb : Below w.heap.size w W) k (hk : k < kp.length) => bls_at (hr2.below hb) hk)
  have HOK := Lib.hid (fun k (hk : k < l.length) => (okJb_iff l[k].1 l[k].2.1 l[k].2.2.1 l[k].2.2.2).1 (hok _ (List.getElem_mem hk)))
  have HN := Lib.hid hn
  have HN2 := Lib.hid hn2
  have HKL := Lib.hid hkpl
  have hnk : n2 = n := by omega
  obtain ⟨Rl, hRl⟩ : ∃ Rl, needJ l (fun i => kp.getD i false) = Rl := ⟨_, rfl⟩
  rw [hRl]
  have HIR := Lib.hid (fun i => (show Rl i i = false by rw [← hRl]; exact needJ_irr _ _ _))
  have HRL := Lib.hid (fun i k (hi : i < l.length) (hk : k < l.length) (hne : i ≠ k) => (show Rl i k = (kp[i] && kp[k] && aheadJ l[i] l[k]) by
    rw [← hRl]
    unfold needJ
    simp [jAt_get hi, jAt_get hk, List.getD_eq_getElem?_getD, hkpl, hi, hk, hne]))
  clear hr hr2 hn hn2 hok hRl
  go_enter Try.func50, Try.ntmps50
  go_wp2_with ((refine wpList_make_full _ rfl _ _ 24 rfl w.heap.size 3 i0 (.int .i64 0) 1 Try.underlying24 HI.out.1 HI.out.2.1 HI.out.2.2.1 .i64 .i64 _ _ n rfl rfl rfl rfl hb2 (by unfold maxLen; omega) (Nat.le_refl _) ?_
                intro w1 hown hg1))
  have HF := Lib.hid (show RI 3 w.heap.size w.heap.size (natI (List.replicate n 0)) w1 from (by have := RI.made hown; unfold natI; rw [List.map_replicate]; exact this))
  have HB1 := Lib.hid (show Below w.heap.size w w1 from (Below.refl _ _).grown hg1 (Nat.le_refl _) (by simp))
  clear hown hg1 hb2
  go_loopw [6] (fun i wr => ∃ (k : Nat) (S : List Nat), i = .int .i64 k ∧ k ≤ n ∧ SetsOf n S (NPr Rl k 0) ∧ RI 3 w.heap.size w.heap.size (natI S) wr ∧ Below w.heap.size w wr) (fun i _ => n - (intOf i).toNat)
  case atStart => exact ⟨0, List.replicate n 0, rfl, by omega, SetsOf.start (fun p j => by unfold NPr; omega), HF.out, HB1.out⟩
  case round =>
    clear HF HB1
    obtain ⟨i, S, rfl, hi, hS, hRI, hb⟩ := hrel
    have HS := Lib.hid hS; clear hS
    have HRI := Lib.hid hRI; clear hRI
    have HB := Lib.hid hb; clear hb
    by_cases hlt : i < n
    · have hil : i < l.length := by have := HN.out; omega
      go_wp2_with fail
      go_loopw [7] (fun j wr => ∃ (k : Nat) (S : List Nat), j = .int .i64 k ∧ k ≤ n ∧ SetsOf n S (NPr Rl i k) ∧ RI 3 w.heap.size w.heap.size (natI S) wr ∧ Below w.heap.size w wr) (fun j _ => n - (intOf j).toNat)
      case atStart => exact ⟨0, S, rfl, by omega, HS.out, HRI.out, HB.out⟩
      case round =>
        clear HS HRI HB
        obtain ⟨k, S, rfl, hk, hS, hRI, hb⟩ := hrel
        have HS := Lib.hid hS; clear hS
        have HRI := Lib.hid hRI; clear hRI
        have HB := Lib.hid hb; clear hb
        rename World => wr
        have hi1 : (i : Int) < (n : Int) := by omega
        by_cases hlt2 : k < n
        · have hkl : k < l.length := by have := HN.out; omega
          have hi2 : (k : Int) < (n : Int) := by omega
          have HSK := Lib.hid (fun (h : Rl i k = false) => HS.out.congr (fun p j _ _ => NPr.skip h p j))
          by_cases hik : i = k
          · subst hik
            have HX := Lib.hid (HSK.out (HIR.out i))
            go_wp2_with fail
            go_roundw
            case rel => exact ⟨i + 1, S, by go_num, by omega, HX.out, HRI.out, HB.out⟩
            case measure => simp [intOf]; omega
          have HRK := Lib.hid (HRL.out i k hil hkl hik)
          have hik2 : ((i : Int) == (k : Int)) = false := by simp; omega
          have hik3 : ¬ (i : Int) = (k : Int) := by omega
          obtain ⟨g2, of2, hA2, hgw2, k0⟩ := HKP.out _ HB.out i (by have := HKL.out; omega)
          obtain ⟨g3, of3, hA3, hgw3, k1⟩ := HKP.out _ HB.out k (by have := HKL.out; omega)
          subst hA2
          injection hA3 with hA3
          injection hA3 with h1 h2
          subst h1 h2
          have hj1 : (i : Int) < (n2 : Int) := by omega
          have hj2 : (k : Int) < (n2 : Int) := by omega
          have hj3 : (0 : Int) ≤ (i : Int) := by omega
          have hj4 : (0 : Int) ≤ (k : Int) := by omega
          generalize kp[i]'(by have := HKL.out; omega) = u at *
          generalize kp[k]'(by have := HKL.out; omega) = v at *
          cases u
          · have HX := Lib.hid (HSK.out (by rw [HRK.out]; rfl))
            go_wp2_with fail
            try go_quiet (fail)
            go_wp2_with fail
            go_roundw
            case rel => exact ⟨k + 1, S, by go_num, by omega, HX.out, by first | exact HRI.out | exact HRI.out.keep (below_drewN _ _), by first | exact HB.out | exact HB.out.trans ((below_drewN wr.heap.size _).mono HB.out.size)⟩
            case measure => simp [intOf]; omega
          cases v
          · have HX := Lib.hid (HSK.out (by rw [HRK.out]; rfl))
            go_wp2_with fail
            try go_quiet (fail)
            go_wp2_with fail
            go_roundw
            case rel => exact ⟨k + 1, S, by go_num, by omega, HX.out, by first | exact HRI.out | exact HRI.out.keep (below_drewN _ _), by first | exact HB.out | exact HB.out.trans ((below_drewN wr.heap.size _).mono HB.out.size)⟩
            case measure => simp [intOf]; omega
          obtain ⟨g4, of4, hA4, hgw4, i0', i1', i2', i3'⟩ := HJB.out _ HB.out i hil
          obtain ⟨g5, of5, hA5, hgw5, j0', j1', j2', j3'⟩ := HJB.out _ HB.out k hkl
          subst hA4
          injection hA5 with hA5
          injection hA5 with h1 h2
          subst h1 h2
          have HXI := Lib.hid (HOK.out i hil)
          have HXK := Lib.hid (HOK.out k hkl)
          have HAJ := Lib.hid (show aheadJ l[i] l[k] = aheadJ (l[i].1, l[i].2.1, l[i].2.2.1, l[i].2.2.2) (l[k].1, l[k].2.1, l[k].2.2.1, l[k].2.2.2) from rfl)
          rw [HAJ.out] at HRK
          clear HAJ
          generalize l[i].1 = x0 at *
          generalize l[i].2.1 = x1 at *
          generalize l[i].2.2.1 = x2 at *
          generalize l[i].2.2.2 = x3 at *
          generalize l[k].1 = y0 at *
          generalize l[k].2.1 = y1 at *
          generalize l[k].2.2.1 = y2 at *
          generalize l[k].2.2.2 = y3 at *
          obtain ⟨a2, ha2⟩ := Int.eq_ofNat_of_zero_le HXI.out.2.2.1.1
          obtain ⟨a3, ha3⟩ := Int.eq_ofNat_of_zero_le HXI.out.2.2.2.1
          obtain ⟨b2, hb2⟩ := Int.eq_ofNat_of_zero_le HXK.out.2.2.1.1
          obtain ⟨b3, hb3⟩ := Int.eq_ofNat_of_zero_le HXK.out.2.2.2.1
          have l1 : a2 ≤ 7 := by have := HXI.out.2.2.1.2; omega
          have l2 : a3 ≤ 7 := by have := HXI.out.2.2.2.2; omega
          have l3 : b2 ≤ 7 := by have := HXK.out.2.2.1.2; omega
          have l4 : b3 ≤ 7 := by have := HXK.out.2.2.2.2; omega
          subst ha2 ha3 hb2 hb3
          have hand1 := and_n a3 b3 (by omega) (by omega)
          have hand2 := and_n a3 b2 (by omega) (by omega)
          have hand3 := and_n a2 b3 (by omega) (by omega)
          have HRZ := Lib.hid (show Rl i k = ((decide (x1 < y1) && !decide (a3 &&& b3 = 0)) || (decide (x1 ≤ y0) && !decide (a3 &&& b2 = 0)) || (decide (x0 < y1) && !decide (a2 &&& b3 = 0))) by rw [HRK.out]; simp [aheadJ, meetB])
          clear HXI HXK HRK l1 l2 l3 l4
          generalize a3 &&& b3 = z1 at *
          generalize a3 &&& b2 = z2 at *
          generalize a2 &&& b3 = z3 at *
          have hgs : g4 < wr.heap.size := Nat.lt_of_lt_of_le hgw4 HB.out.size
          have HCE := Lib.hid (fun W (hb : Below wr.heap.size wr W) => And.intro ((hb.cell (p := ⟨g4, of4 + i * 4, none⟩) hgs).trans i0') (And.intro ((hb.cell (p := ⟨g4, of4 + i * 4 + 1, none⟩) hgs).trans i1') (And.intro ((hb.cell (p := ⟨g4, of4 + i * 4 + 2, none⟩) hgs).trans i2') (And.intro ((hb.cell (p := ⟨g4, of4 + i * 4 + 3, none⟩) hgs).trans i3')
            (And.intro ((hb.cell (p := ⟨g4, of4 + k * 4, none⟩) hgs).trans j0') (And.intro ((hb.cell (p := ⟨g4, of4 + k * 4 + 1, none⟩) hgs).trans j1') (And.intro ((hb.cell (p := ⟨g4, of4 + k * 4 + 2, none⟩) hgs).trans j2') ((hb.cell (p := ⟨g4, of4 + k * 4 + 3, none⟩) hgs).trans j3'))))))))
          go_upto_region 9 with fail
          go_cut [8] from 43 to 134 (fun s wx => s = .bool (decide (x1 < y1) && !decide (z1 = 0)) ∧ Below wr.heap.size wr wx)
          case first =>
            rcases tri3 (x1 < y1) (z1 = 0) with c | ⟨c, d⟩ | ⟨c, d⟩
            · have e := Lib.hid (decide_eq_false c)
              have hv := Lib.hid (show false = (decide (x1 < y1) && !decide (z1 = 0)) by rw [e.out]; rfl)
              go_quiet (fail)
              go_wp2_with fail
              go_meet
              exact ⟨congrArg Value.bool hv.out, below_drewN _ _⟩
            · have e := Lib.hid (decide_eq_true c)
              have f := Lib.hid (decide_eq_true d)
              have hv := Lib.hid (show false = (decide (x1 < y1) && !decide (z1 = 0)) by rw [e.out, f.out]; rfl)
              have g1 : ((z1 : Int) != 0) = false := by rw [d]; rfl
              have g2 : (z1 : Int) = 0 := by omega
              go_quiet (fail)
              go_wp2_with fail
              go_meet
              exact ⟨congrArg Value.bool hv.out, below_drewN _ _⟩
            · have e := Lib.hid (decide_eq_true c)
              have f := Lib.hid (decide_eq_false d)
              have hv := Lib.hid (show true = (decide (x1 < y1) && !decide (z1 = 0)) by rw [e.out, f.out]; rfl)
              have g1 : ((z1 : Int) != 0) = true := by simp; omega
              have g2 : ¬ (z1 : Int) = 0 := by omega
              go_quiet (fail)
              go_wp2_with fail
              go_meet
              exact ⟨congrArg Value.bool hv.out, below_drewN _ _⟩
          case rest =>
            obtain ⟨rfl, hbc⟩ := hcut
            rename World => wc0
            have HBC0 := Lib.hid hbc; clear hbc
            clear i0' i1' i2' i3' j0' j1' j2' j3'
            obtain ⟨i0', i1', i2', i3', j0', j1', j2', j3'⟩ := HCE.out _ HBC0.out
            go_upto_region 10 with fail
            go_cut [9] from 68 to 134 (fun s wx => s = .bool (decide (x1 ≤ y0) && !decide (z2 = 0)) ∧ Below wr.heap.size wr wx)
            case first =>
              rcases tri3 (x1 ≤ y0) (z2 = 0) with c | ⟨c, d⟩ | ⟨c, d⟩
              · have e := Lib.hid (decide_eq_false c)
                have hv := Lib.hid (show false = (decide (x1 ≤ y0) && !decide (z2 = 0)) by rw [e.out]; rfl)
                go_quiet (fail)
                go_wp2_with fail
                go_meet
                exact ⟨congrArg Value.bool hv.out, HBC0.out.trans ((below_drewN wc0.heap.size _).mono HBC0.out.size)⟩
              · have e := Lib.hid (decide_eq_true c)
                have f := Lib.hid (decide_eq_true d)
                have hv := Lib.hid (show false = (decide (x1 ≤ y0) && !decide (z2 = 0)) by rw [e.out, f.out]; rfl)
                have g1 : ((z2 : Int) != 0) = false := by rw [d]; rfl
                have g2 : (z2 : Int) = 0 := by omega
                go_quiet (fail)
                go_wp2_with fail
                go_meet
                exact ⟨congrArg Value.bool hv.out, HBC0.out.trans ((below_drewN wc0.heap.size _).mono HBC0.out.size)⟩
              · have e := Lib.hid (decide_eq_true c)
                have f := Lib.hid (decide_eq_false d)
                have hv := Lib.hid (show true = (decide (x1 ≤ y0) && !decide (z2 = 0)) by rw [e.out, f.out]; rfl)
                have g1 : ((z2 : Int) != 0) = true := by simp; omega
                have g2 : ¬ (z2 : Int) = 0 := by omega
                go_quiet (fail)
                go_wp2_with fail
                go_meet
                exact ⟨congrArg Value.bool hv.out, HBC0.out.trans ((below_drewN wc0.heap.size _).mono HBC0.out.size)⟩
            case rest =>
              obtain ⟨rfl, hbc⟩ := hcut
              rename World => wc1
              have HBC1 := Lib.hid hbc; clear hbc
              clear i0' i1' i2' i3' j0' j1' j2' j3'
              obtain ⟨i0', i1', i2', i3', j0', j1', j2', j3'⟩ := HCE.out _ HBC1.out
              go_upto_region 11 with fail
              go_cut [10] from 93 to 134 (fun s wx => s = .bool (decide (x0 < y1) && !decide (z3 = 0)) ∧ Below wr.heap.size wr wx)
              case first =>
                rcases tri3 (x0 < y1) (z3 = 0) with c | ⟨c, d⟩ | ⟨c, d⟩
                · have e := Lib.hid (decide_eq_false c)
                  have hv := Lib.hid (show false = (decide (x0 < y1) && !decide (z3 = 0)) by rw [e.out]; rfl)
                  go_quiet (fail)
                  go_wp2_with fail
                  go_meet
                  exact ⟨congrArg Value.bool hv.out, HBC1.out.trans ((below_drewN wc1.heap.size _).mono HBC1.out.size)⟩
                · have e := Lib.hid (decide_eq_true c)
                  have f := Lib.hid (decide_eq_true d)
                  have hv := Lib.hid (show false = (decide (x0 < y1) && !decide (z3 = 0)) by rw [e.out, f.out]; rfl)
                  have g1 : ((z3 : Int) != 0) = false := by rw [d]; rfl
                  have g2 : (z3 : Int) = 0 := by omega
                  go_quiet (fail)
                  go_wp2_with fail
                  go_meet
                  exact ⟨congrArg Value.bool hv.out, HBC1.out.trans ((below_drewN wc1.heap.size _).mono HBC1.out.size)⟩
                · have e := Lib.hid (decide_eq_true c)
                  have f := Lib.hid (decide_eq_false d)
                  have hv := Lib.hid (show true = (decide (x0 < y1) && !decide (z3 = 0)) by rw [e.out, f.out]; rfl)
                  have g1 : ((z3 : Int) != 0) = true := by simp; omega
                  have g2 : ¬ (z3 : Int) = 0 := by omega
                  go_quiet (fail)
                  go_wp2_with fail
                  go_meet
                  exact ⟨congrArg Value.bool hv.out, HBC1.out.trans ((below_drewN wc1.heap.size _).mono HBC1.out.size)⟩
              case rest =>
                obtain ⟨rfl, hbc⟩ := hcut
                rename World => wc2
                have HBC2 := Lib.hid hbc; clear hbc
                clear i0' i1' i2' i3' j0' j1' j2' j3'
                have HRIc := Lib.hid (HRI.out.keep HBC2.out)
                have HBc := Lib.hid (HB.out.trans (HBC2.out.mono HB.out.size))
                generalize (decide (x1 < y1) && !decide (z1 = 0)) = p1 at *
                generalize (decide (x1 ≤ y0) && !decide (z2 = 0)) = p2 at *
                generalize (decide (x0 < y1) && !decide (z3 = 0)) = p3 at *
                cases hp : (p1 || p2 || p3)
                · have HX := Lib.hid (HSK.out (by rw [HRZ.out, hp]))
                  obtain ⟨⟨rfl, rfl⟩, rfl⟩ : (p1 = false ∧ p2 = false) ∧ p3 = false := by simpa using hp
                  go_wp2_with fail
                  try go_quiet (fail)
                  go_wp2_with fail
                  go_roundw
                  case rel => exact ⟨k + 1, S, by go_num, by omega, HX.out, by first | exact HRIc.out | exact HRIc.out.keep (below_drewN _ _), by first | exact HBc.out | exact HBc.out.trans ((below_drewN _ _).mono HBc.out.size)⟩
                  case measure => simp [intOf]; omega
                · have HX := Lib.hid ((HS.out.add hlt hlt2).congr (fun p j _ _ => NPr.yes (by rw [HRZ.out, hp]) p j))
                  have hSl := HS.out.1
                  have hSp := (HS.out.2 i hlt).1
                  have h26 : (2 : Nat) ^ n ≤ 2 ^ 6 := Nat.pow_le_pow_right (by omega) hs
                  have HP := Lib.hid (fun w => sPower_any k _ w (by omega) rfl)
                  have hq2 : (2 : Nat) ^ k < 2 ^ 6 := Nat.pow_lt_pow_right (by omega) (by omega)
                  have HPUT := Lib.hid (fun W (h : RI 3 w.heap.size w.heap.size (natI S) W) x (hx : x = ((S.getD i 0 ||| 2 ^ k : Nat) : Int)) => (show RI 3 w.heap.size w.heap.size (natI (addE S i k)) (W.setCell ⟨w.heap.size, i, none⟩ (.int .i64 x)) by
                    rw [addE, natI_set, hx]; exact h.put i _))
                  have HCELL := Lib.hid (fun W (h : RI 3 w.heap.size w.heap.size (natI S) W) => (show W.cell? ⟨w.heap.size, i, none⟩ = some (.int .i64 ((S.getD i 0 : Nat) : Int)) ∧ W.frozen? ⟨w.heap.size, i, none⟩ = false by
                    have := h.cell (k := i) (by rw [natI_len]; omega)
                    rw [natI_get] at this; exact this))
                  have hor := or_n (S.getD i 0) (2 ^ k) (by omega) (by omega)
                  generalize S.getD i 0 = z at *
                  generalize 2 ^ k = q at *
                  clear hSl hSp h26 hq2 HCE hgs
                  have hbi : w.heap.size < wc2.heap.size := HRIc.out.ge.2
                  obtain ⟨hc0, hz0⟩ := HCELL.out _ HRIc.out
                  cases p1 <;> cases p2 <;> cases p3
                  case false.false.false => cases hp
                  all_goals
                    go_wp2_with fail
                    try go_quiet (fail)
                    try go_wp2_with fail
                    refine wp_region_any (by kernel_rfl) ?_
                    try (change wpAny _ _ _ _ _ _ _ (World.drew _))
                    refine wpAny_take (i := 0) (v := ?_) rfl (by kernel_rfl) (by kernel_rfl) (by kernel_rfl) (fun _ _ _ h => h) (Or.inl ⟨by kernel_rfl, ?_⟩) ?_
                    rotate_left
                    · (intro w; go_simp; first | done | with_reducible rfl)
                    conv => arg 7; simp [Act.put]
                    refine wpAny_take (i := 1) (v := ?_) rfl (by kernel_rfl) (by kernel_rfl) (by kernel_rfl) (fun _ _ _ h => h) (Or.inl ⟨by kernel_rfl, ?_⟩) ?_
                    rotate_left
                    · (intro w; go_simp; first | done | with_reducible rfl)
                    conv => arg 7; simp [Act.put]
                    refine wpAny_take (i := 2) (v := ?_) rfl (by kernel_rfl) (by kernel_rfl) (by kernel_rfl) (fun _ _ _ h => h) (Or.inl ⟨by kernel_rfl, ?_⟩) ?_
                    rotate_left
                    · (intro w; go_simp; first | done | with_reducible rfl)
                    conv => arg 7; simp [Act.put]
                    refine wpAny_take (i := 3) (v := ?_) rfl (by kernel_rfl) (by kernel_rfl) (by kernel_rfl) (fun _ _ _ h => h) (Or.inl ⟨by kernel_rfl, ?_⟩) ?_
                    rotate_left
                    · (intro w; go_simp; first | done | with_reducible rfl)
                    conv => arg 7; simp [Act.put]
                    refine wpAny_take (i := 4) (v := ?_) rfl (by kernel_rfl) (by kernel_rfl) (by kernel_rfl) (fun _ _ _ h => h) (Or.inl ⟨by kernel_rfl, ?_⟩) ?_
                    rotate_left
                    · (intro w; go_simp; first | done | with_reducible rfl)
                    conv => arg 7; simp [Act.put]
                    refine wpAny_take (i := 6) (v := ?_) rfl (by kernel_rfl) (by kernel_rfl) (by kernel_rfl) (fun _ _ _ h => h) (Or.inl ⟨by kernel_rfl, ?_⟩) ?_
                    rotate_left
                    · (intro w; go_simp; first | done | with_reducible rfl)
                    conv => arg 7; simp [Act.put]
                    refine wpAny_ready (rs := [5, 7]) (by kernel_rfl) (by simp) ?_
                    refine AllReady.cons rfl (fun K hK => ?_) (AllReady.cons rfl (fun K hK => ?_) AllReady.nil)
                    · go_simp
                      refine hK _ _ ?_; clear hK K
                      refine wpAny_ready (rs := [7]) (by kernel_rfl) (by simp) ?_
                      refine AllReady.cons rfl (fun K hK => ?_) AllReady.nil
                      go_simp
                      go_at_call 74
                      refine (HP.out _).mono ?_
                      rintro e w4 ⟨rfl, hw4⟩
                      obtain rfl := hw4.symm
                      refine hK _ _ ?_; clear hK K
                      refine wpAny_take (i := 8) (v := ?_) rfl (by kernel_rfl) (by kernel_rfl) (by kernel_rfl) (fun _ _ _ h => h) (Or.inl ⟨by kernel_rfl, ?_⟩) ?_
                      rotate_left
                      · (intro w; go_simp; first | done | with_reducible rfl)
                      conv => arg 7; simp [Act.put]
                      refine wpAny_take (i := 9) (v := ?_) rfl (by kernel_rfl) (by kernel_rfl) (by kernel_rfl) (fun _ _ _ h => h) (Or.inl ⟨by kernel_rfl, ?_⟩) ?_
                      rotate_left
                      · (intro w; go_simp; first | done | with_reducible rfl)
                      conv => arg 7; simp [Act.put]
                      refine wpAny_ready (rs := [10]) (by kernel_rfl) (by simp) ?_
                      refine AllReady.cons rfl (fun K hK => ?_) AllReady.nil
                      go_simp
                      refine hK _ _ ?_; clear hK K
                      refine wpAny_done (by kernel_rfl) ?_ _
                      go_wp2_with fail
                      go_roundw
                      case rel => exact ⟨k + 1, addE S i k, by go_num, by omega, HX.out, by first | exact HPUT.out _ HRIc.out _ rfl | exact HPUT.out _ (HRIc.out.keep (below_drewN _ _)) _ rfl, by first | exact HBc.out.setCell (Nat.le_refl _) _ | exact (HBc.out.trans (below_drewN _ _)).setCell (Nat.le_refl _) _⟩
                      case measure => simp [intOf]; omega
                    · go_simp
                      go_at_call 74
                      refine (HP.out _).mono ?_
                      rintro e w4 ⟨rfl, hw4⟩
                      obtain rfl := hw4.symm
                      refine hK _ _ ?_; clear hK K
                      refine wpAny_ready (rs := [5]) (by kernel_rfl) (by simp) ?_
                      refine AllReady.cons rfl (fun K hK => ?_) AllReady.nil
                      go_simp
                      refine hK _ _ ?_; clear hK K
                      refine wpAny_take (i := 8) (v := ?_) rfl (by kernel_rfl) (by kernel_rfl) (by kernel_rfl) (fun _ _ _ h => h) (Or.inl ⟨by kernel_rfl, ?_⟩) ?_
                      rotate_left
                      · (intro w; go_simp; first | done | with_reducible rfl)
                      conv => arg 7; simp [Act.put]
                      refine wpAny_take (i := 9) (v := ?_) rfl (by kernel_rfl) (by kernel_rfl) (by kernel_rfl) (fun _ _ _ h => h) (Or.inl ⟨by kernel_rfl, ?_⟩) ?_
                      rotate_left
                      · (intro w; go_simp; first | done | with_reducible rfl)
                      conv => arg 7; simp [Act.put]
                      refine wpAny_ready (rs := [10]) (by kernel_rfl) (by simp) ?_
                      refine AllReady.cons rfl (fun K hK => ?_) AllReady.nil
                      go_simp
                      refine hK _ _ ?_; clear hK K
                      refine wpAny_done (by kernel_rfl) ?_ _
                      go_wp2_with fail
                      go_roundw
                      case rel => exact ⟨k + 1, addE S i k, by go_num, by omega, HX.out, by first | exact HPUT.out _ HRIc.out _ rfl | exact HPUT.out _ (HRIc.out.keep (below_drewN _ _)) _ rfl, by first | exact HBc.out.setCell (Nat.le_refl _) _ | exact (HBc.out.trans (below_drewN _ _)).setCell (Nat.le_refl _) _⟩
                      case measure => simp [intOf]; omega
        · obtain rfl : k = n := by omega
          have HX := Lib.hid (HS.out.congr (fun p j _ hj => NPr.row (i := i) p j hj))
          go_wp2_with fail
          go_roundw
          case rel => exact ⟨i + 1, S, by go_num, by omega, HX.out, HRI.out, HB.out⟩
          case measure => simp [intOf]; omega
    · obtain rfl : i = n := by omega
      have HX := Lib.hid ((HS.out.congr (Q := fun p j => Rl p j = true) (fun p j hp _ => NPr.end p j hp)).mask)
      have HL := Lib.hid (natI_len S)
      have hSl := HS.out.1
      go_wp2_with fail
      go_ret
      refine ⟨_, rfl, ⟨some ⟨w.heap.size, 0, none⟩, i, ?_, ?_⟩, HB.out⟩
      · rw [← HX.out, HL.out, hSl]; rfl
      · have := HRI.out
        unfold RI at this
        rw [← HX.out]
        rw [HL.out, hSl] at this ⊢
        exact this
end Go.Proofs.Ytdpehojcoohjcab
