/- The walk of the law FnMergeRuns. Condition: the code lies in a row. -/
import Derived.Test.YtofpdelolniklaaPairsI
import Derived.Test.YtofpdelolniklaaGetLP
import Derived.Test.YtofpdelolniklaaMrgT
import Derived.Test.YtofpdelolniklaaEqItem
import Derived.Test.YtofpdelolniklaaEqPair
import Derived.Test.YtofpdelolniklaaFnVLev
import Derived.Test.YtofpdelolniklaaDrawRn
set_option linter.unusedVariables false
set_option linter.unusedSimpArgs false
namespace Go.Proofs.Ytofpdelolniklaa
open Go.RowKit Go.ChangeShapes Go.WideShapes

attribute [local go_sem] Oper.semAt_some
theorem flat_two (x y : List It) : flatL [x, y] = mergeL x y := by unfold flatL; simp [mergeL_nil_left]
theorem flat_one (x : List It) : flatL [x] = x := by unfold flatL; simp [mergeL_nil_left]
theorem held_held (l : List It) : heldL (heldL l) = heldL l := by unfold heldL; rw [List.filter_filter]; congr 1; funext p; simp
theorem pairL_held (l : List It) : pairL (heldL l) = pairL l := by unfold pairL; rw [held_held]
theorem levB_of {L : List (List It)} (h1 : L.length ≤ 6) (h2 : ∀ r ∈ L, 0 < r.length ∧ runB r = true) : levB L = true := by
  unfold levB
  rw [Bool.and_eq_true]
  refine ⟨decide_eq_true h1, List.all_eq_true.2 fun r hr => ?_⟩
  unfold okRun
  rw [Bool.and_eq_true]
  exact ⟨decide_eq_true (h2 r hr).1, (h2 r hr).2⟩
/-- what a merged run is -/
theorem mrg_facts {l1 l2 : List It} {b : Bool} (h1 : runB l1 = true) (h2 : runB l2 = true) (h3 : (mrgS l1 l2 b).length ≤ 40) : runB (mrgS l1 l2 b) = true ∧ (b = true → ∀ p ∈ mrgS l1 l2 b, p.2.2 = false) ∧ pairL (mrgS l1 l2 b) = pairL (mergeL l1 l2) := by
  have ha := mergeL_asc _ l1 l2 (Nat.le_refl _) (asc_pair h1) (asc_pair h2)
  have ho : ∀ p ∈ mergeL l1 l2, okIt p = true := fun p hp => by
    rcases mergeL_mem _ l1 l2 (Nat.le_refl _) p hp with h4 | h4
    · exact runB_okI h1 p h4
    · exact runB_okI h2 p h4
  rw [mrgS_one h1] at h3 ⊢
  cases b
  · simp only [Bool.false_eq_true, if_false] at h3 ⊢
    exact ⟨runB_of ha ho h3, fun h => h.elim, by first | rfl | trivial⟩
  · simp only [if_true] at h3 ⊢
    refine ⟨runB_of (heldL_asc ha) (fun p hp => ho p (List.mem_filter.1 hp).1) h3, fun _ p hp => ?_, pairL_held _⟩
    have := (List.mem_filter.1 hp).2
    simpa using this
theorem pairL_good {R : List It} (h : FewI R) : ∀ p ∈ pairL R, GoodPr p := fun p hp => by
  unfold pairL at hp
  obtain ⟨x, hx, rfl⟩ := List.mem_map.1 hp
  obtain ⟨h1, h2⟩ := h x (List.mem_filter.1 hx).1
  exact ⟨Nat.le_trans h1 (by simp [maxLen]), Nat.le_trans h2 (by simp [maxLen])⟩
theorem pairL_len (R : List It) : (pairL R).length ≤ R.length := by
  unfold pairL; rw [List.length_map]; exact List.length_filter_le _ _
theorem lvC_nil (W : World) (A : Option Addr) : LvC W W.heap.size A [] := ⟨[], rfl, fun h => (h rfl).elim, fun i a => by simp at a⟩
theorem lvC_one {W : World} {B A c A1 n1 c1 l1} (ho : W.ownsRow B 23 1 (.slice A 1 c) 1 (hdsC [(A1, n1, c1)])) (h1 : (A1 = none → c1 = 0) ∧ SlI W W.heap.size A1 n1 c1 l1) : LvC W W.heap.size A [l1] :=
  ⟨[(A1, n1, c1)], rfl, RowAt.of_own ho, fun i a b => by
    have : i = 0 := by simp at a; omega
    subst this; exact h1⟩
theorem lvC_two {W : World} {B A c A1 n1 c1 l1 A2 n2 c2 l2} (ho : W.ownsRow B 23 1 (.slice A 2 c) 2 (hdsC [(A1, n1, c1), (A2, n2, c2)])) (h1 : (A1 = none → c1 = 0) ∧ SlI W W.heap.size A1 n1 c1 l1) (h2 : (A2 = none → c2 = 0) ∧ SlI W W.heap.size A2 n2 c2 l2) : LvC W W.heap.size A [l1, l2] :=
  ⟨[(A1, n1, c1), (A2, n2, c2)], rfl, RowAt.of_own ho, fun i a b => by
    have : i = 0 ∨ i = 1 := by simp at a; omega
    rcases this with rfl | rfl
    · exact h1
    · exact h2⟩
theorem own_far {W W' : World} {B B2 n n2 z z2 : Nat} {e e2 : TypeId} {v v2 : Value} {xs xs2 : List Value} (h : W.ownsRow B e z v n xs) (h2 : W.ownsRow B2 e2 z2 v2 n2 xs2) (hg : W.grownBy W' v2.ownBlock) (hq : ∀ q, v.ownBlock = some q → q < B2) : W'.ownsRow B e z v n xs := by
  refine h.kept hg ?_
  cases hv : v.ownBlock with
  | none => exact .inl rfl
  | some q => exact .inr (fun e => by have := (h2.lt q e.symm).1; have := hq q hv; omega)
/-- a drawn run of the law's own, seen from a later world -/
def RunAt (w1 : World) (A : Option Addr) (n c : Nat) (l : List It) (W : World) : Prop := (A = none → c = 0) ∧ SlI W W.heap.size A n c l
theorem runAt_of {B : Nat} {w1 W : World} {A : Option Addr} {n c : Nat} {l : List It} (ho : w1.ownsRow B 31 3 (.slice A n c) n (itsC l)) (hn : n = l.length) (hb : Below w1.heap.size w1 W) : RunAt w1 A n c l W :=
  ⟨own_cap0 ho, ((slI_own ho hn).below hb).mono hb.size⟩

def TwoRuns (w : World) (e : Ending) (w' : World) : Prop := ∃ (l1 : List It) (A1 : Option Addr) (m1 c1 : Nat) (l2 : List It) (A2 : Option Addr) (m2 c2 : Nat) (b : Bool), e = .returned (.tuple #[.slice A1 m1 c1, .slice A2 m2 c2, .bool b]) ∧ m1 = l1.length ∧ m1 ≤ 25 ∧ FewI l1 ∧ w'.ownsRow w.heap.size 31 3 (.slice A1 m1 c1) m1 (itsC l1) ∧
  m2 = l2.length ∧ m2 ≤ 25 ∧ FewI l2 ∧ w'.ownsRow w.heap.size 31 3 (.slice A2 m2 c2) m2 (itsC l2) ∧ Below w.heap.size w w'
theorem drawMergeRuns_any (A : Option Addr) (n c : Nat) (w : World) (h : BytesIn w A n c) :
    Calls Try.prog 11 #[.slice A n c] w (TwoRuns w) := by
  have HP := Lib.hid (newReader_any A n c w h)
  go_enter Try.func11, Try.ntmps11
  go_wp2_with fail
  refine (HP.out).mono ?_
  rintro e w1 ⟨rfl, hr1, hb1⟩
  have HB := Lib.hid hb1; clear hb1
  have hrl := hr1.lt
  have HK := Lib.hid (someRun_any w.heap.size 0 w1 hr1 (by omega)); clear hr1
  go_wp2_with fail
  refine (HK.out).mono ?_
  rintro e w2 ⟨l1, A1, m1, c1, rfl, hm1, hm25, hf1, hr2⟩
  have HM1 := Lib.hid hm1
  clear hm1
  have hrl2 : w.heap.size < w2.heap.size := Nat.lt_of_lt_of_le hrl hr2.gr.size
  have HG := Lib.hid hr2; clear hr2
  have HK2 := Lib.hid (someRun_any w.heap.size _ w2 HG.out.rd (by omega))
  go_wp2_with fail
  refine (HK2.out).mono ?_
  rintro e w3 ⟨l2, A2, m2, c2, rfl, hm2, hm26, hf2, hr3⟩
  have HM2 := Lib.hid hm2
  clear hm2
  have HG1 := Lib.hid (HG.out.grow hrl hr3.gr hr3.rd)
  have HG2 := Lib.hid hr3; clear hr3
  have HPK := Lib.hid (pick_any w.heap.size _ 2 w3 HG2.out.rd (by omega) (by omega))
  have HF1 := Lib.hid hf1
  have HF2 := Lib.hid hf2
  clear hf1 hf2
  go_wp2_with fail
  refine (HPK.out).mono ?_
  rintro e w4 ⟨x, rfl, hx0, hxn, hr4, hg4⟩
  have HE1 := Lib.hid (HG1.out.grow hrl hg4 hr4)
  have HE2 := Lib.hid (HG2.out.grow hrl2 hg4 hr4)
  have HBB := Lib.hid (HB.out.trans (below_of_grown HE1.out.gr (Nat.le_refl _) HB.out.size))
  have HO1 := Lib.hid (own_le HE1.out.own HB.out.size)
  have HO2 := Lib.hid (own_le HE2.out.own (Nat.le_of_lt hrl2))
  clear hr4 hg4
  by_cases hx : x = 0
  · subst hx
    go_wp2_with fail
    refine bodyPost_ret (v := .tuple #[.slice A1 m1 c1, .slice A2 m2 c2, .bool true]) (by simp [results, Try.results11, go_sem]) rfl ?_
    exact ⟨l1, A1, m1, c1, l2, A2, m2, c2, true, rfl, HM1.out, hm25, HF1.out, HO1.out, HM2.out, hm26, HF2.out, HO2.out, HBB.out⟩
  · have q0 : (x == 0) = false := by simpa using hx
    clear hx
    go_wp2_with fail
    refine bodyPost_ret (v := .tuple #[.slice A1 m1 c1, .slice A2 m2 c2, .bool false]) (by simp [results, Try.results11, go_sem]) rfl ?_
    exact ⟨l1, A1, m1, c1, l2, A2, m2, c2, false, rfl, HM1.out, hm25, HF1.out, HO1.out, HM2.out, hm26, HF2.out, HO2.out, HBB.out⟩

set_option maxRecDepth 100000 in
set_option maxHeartbeats 16000000 in
theorem walk_FnMergeRuns (A : Option Addr) (n c : Nat) (w : World) (h : BytesIn w A n c) :
    Calls Try.prog 3 #[.slice A n c] w fun e w' => e = .returned (.bool true) ∧ Below w.heap.size w w' := by
  obtain ⟨j0, hj0, hy0, hy1, hy2⟩ := info_parts lvInfo
  have HJ := Lib.hid (And.intro hj0 (And.intro hy0 (And.intro hy1 hy2))); clear hj0 hy0 hy1 hy2
  have HD := Lib.hid (drawMergeRuns_any A n c w h)
  obtain ⟨hc, hm, _⟩ := h
  unfold maxLen at hm
  by_cases hb : n ≤ 1048576
  · go_enter Try.func3, Try.ntmps3
    go_wp2_with fail
    refine (HD.out).mono ?_
    rintro e w1 ⟨l1, A1, m1, c1, l2, A2, m2, c2, b, rfl, hl1, hm1, hf1, ho1, hl2, hm2, hf2, ho2, hb1⟩
    have HB1 := Lib.hid hb1
    have hs1 : m1 ≤ 1048576 := by omega
    have hs2 : m2 ≤ 1048576 := by omega
    have HI := Lib.hid (fun W (hb : Below w1.heap.size w1 W) => iMrg_any A1 m1 c1 l1 A2 m2 c2 l2 b W (((RowAt.of_own ho1).below hb).mono hb.size) hl1 hs1 hf1.wf (own_caps ho1).1 (own_caps ho1).2 (((RowAt.of_own ho2).below hb).mono hb.size) hl2 hs2 hf2.wf (own_caps ho2).1 (own_caps ho2).2)
    have HS := Lib.hid (fun W (hb : Below w1.heap.size w1 W) => sMrgW_any A1 m1 c1 l1 A2 m2 c2 l2 b W (((RowAt.of_own ho1).below hb).mono hb.size) hl1 hs1 hf1.wf (((RowAt.of_own ho2).below hb).mono hb.size) hl2 hs2 hf2.wf (own_cap0 ho1) (own_cap0 ho2))
    have HN1 := Lib.hid hl1
    have HN2 := Lib.hid hl2
    have HR1 := Lib.hid (fun W (hb : Below w1.heap.size w1 W) => runAt_of ho1 hl1 hb)
    have HR2 := Lib.hid (fun W (hb : Below w1.heap.size w1 W) => runAt_of ho2 hl2 hb)
    have HFR := Lib.hid (show FewI (mrgS l1 l2 b) from mrgS_all (P := fun p => p.1.size ≤ 16 ∧ p.2.1.size ≤ 16) hf1 hf2 b)
    have HW1 := Lib.hid hf1.wf
    have HW2 := Lib.hid hf2.wf
    clear hb1 hl1 hl2 hf1 hf2 ho1 ho2
    by_cases hv : runB l1 = true ∧ runB l2 = true ∧ (mrgS l1 l2 b).length ≤ 40
    · have HV := Lib.hid hv
      have HFC := Lib.hid (mrg_facts hv.1 hv.2.1 hv.2.2)
      rw [show mergeR l1 l2 b = (mrgS l1 l2 b, true) from mergeR_yes hv.1 hv.2.1 hv.2.2] at HI HS
      have HI := Lib.hid HI.out
      have HS := Lib.hid HS.out
      clear hv
      have HR40 := Lib.hid HV.out.2.2
      have HV1 := Lib.hid HV.out.1
      have HV2 := Lib.hid HV.out.2.1
      clear HV
      generalize mrgS l1 l2 b = R at *
      go_wp2_with fail
      refine (HI.out _ (Below.refl _ _)).mono ?_
      rintro e w2 ⟨v, rfl, ⟨A3, c3, rfl, ho3⟩, hb2⟩
      have HB2 := Lib.hid hb2; clear hb2
      try simp only at ho3
      have HO3 := Lib.hid ho3; clear ho3
      obtain ⟨mR, hmR⟩ : ∃ mR, R.length = mR := ⟨_, rfl⟩
      have HMR := Lib.hid hmR
      rw [hmR] at HO3 HR40 ⊢
      clear hmR
      go_wp2_with fail
      refine (HS.out _ HB2.out).mono ?_
      rintro e w3 ⟨v, rfl, ⟨A4, c4, rfl, ho4⟩, hb3⟩
      try simp only at ho4
      rw [HMR.out] at ho4 ⊢
      have HB3 := Lib.hid (HB2.out.trans (hb3.mono HB2.out.size))
      have HO3w := Lib.hid (own_keep HO3.out hb3)
      have hr40 := HR40.out
      have HEQ := Lib.hid (equalRun_same A3 A4 mR c3 c4 R w3 (RowAt.of_own HO3w.out) (RowAt.of_own ho4) HMR.out.symm (by omega) HFR.out.wf)
      clear ho4 hb3
      go_wp2_with fail
      refine (HEQ.out).mono ?_
      rintro e w4 ⟨rfl, hb4⟩
      have HB4 := Lib.hid (HB3.out.trans (hb4.mono HB3.out.size))
      have HO4 := Lib.hid (own_keep HO3w.out hb4)
      clear hb4 HI HS HEQ HB3 HO3w HO3
      rcases Nat.eq_zero_or_pos m1 with hz | hz
      · have t1 : ¬ (0 : Int) < (m1 : Int) := by omega
        have E1 := Lib.hid (show l1 = [] from List.eq_nil_of_length_eq_zero (by rw [← HN1.out]; exact hz))
        have E1Z := Lib.hid hz
        clear hz
        rcases Nat.eq_zero_or_pos m2 with hz | hz
        · have t2 : ¬ (0 : Int) < (m2 : Int) := by omega
          have E2 := Lib.hid (show l2 = [] from List.eq_nil_of_length_eq_zero (by rw [← HN2.out]; exact hz))
          have E2Z := Lib.hid hz
          clear hz
          rcases Nat.eq_zero_or_pos mR with hz | hz
          · have t3 : ¬ (0 : Int) < (mR : Int) := by omega
            have E3 := Lib.hid (show R = [] from List.eq_nil_of_length_eq_zero (by rw [← HMR.out.symm]; exact hz))
            have E3Z := Lib.hid hz
            clear hz
            have HQRL := Lib.hid (show ∀ q, (Value.slice A3 mR c3).ownBlock = some q → q < w4.heap.size from fun q hq => by have := (HO4.out.lt q hq).2; simpa using this)
            have HZL := Lib.hid (show w1.heap.size ≤ w4.heap.size by have := HB4.out.size; simpa using this)
            have HBx21 := Lib.hid (HB4.out.alloc HB4.out.size (.cells #[] 23))
            have HOxR21 := Lib.hid (own_keep HO4.out ((Below.refl w4.heap.size w4).alloc (Nat.le_refl _) (.cells #[] 23)))
            have hoL21 := own_start w4 23 1
            have HOL21 := Lib.hid hoL21
            clear hoL21
            have HQRK := Lib.hid (show ∀ q, (Value.slice A3 mR c3).ownBlock = some q → q < w4.heap.size + 1 from fun q hq => by have := (HOxR21.out.lt q hq).2; simpa using this)
            have HQLK := Lib.hid (show ∀ q, (Value.slice (some ⟨w4.heap.size, 0, none⟩) 0 0).ownBlock = some q → q < w4.heap.size + 1 from fun q hq => by have := (HOL21.out.lt q hq).2; simpa using this)
            have HZK := Lib.hid (show w1.heap.size ≤ w4.heap.size + 1 by have := HBx21.out.size; simpa using this)
            have HBx22 := Lib.hid (HBx21.out.alloc HBx21.out.size (.cells #[] 23))
            have HOxR22 := Lib.hid (own_keep HOxR21.out ((Below.refl (w4.alloc (.cells #[] 23)).heap.size (w4.alloc (.cells #[] 23))).alloc (Nat.le_refl _) (.cells #[] 23)))
            have HOxL22 := Lib.hid (own_keep HOL21.out ((Below.refl (w4.alloc (.cells #[] 23)).heap.size (w4.alloc (.cells #[] 23))).alloc (Nat.le_refl _) (.cells #[] 23)))
            have hoK22 := own_start (w4.alloc (.cells #[] 23)) 23 1
            simp only [World.size_alloc] at hoK22
            have HOK22 := Lib.hid hoK22
            clear hoK22
            have HLL := Lib.hid (show LvC ((w4.alloc (.cells #[] 23)).alloc (.cells #[] 23)) ((w4.alloc (.cells #[] 23)).alloc (.cells #[] 23)).heap.size (some ⟨w4.heap.size, 0, none⟩) [] from lvC_nil _ _)
            have HKK := Lib.hid (show LvC ((w4.alloc (.cells #[] 23)).alloc (.cells #[] 23)) ((w4.alloc (.cells #[] 23)).alloc (.cells #[] 23)).heap.size (some ⟨w4.heap.size + 1, 0, none⟩) [] from lvC_nil _ _)
            have HRW := Lib.hid (RowAt.of_own HOxR22.out)
            have HBq := Lib.hid HBx22.out
            have HEL := Lib.hid (show pairL (flatL []) = pairL R by
              have e : flatL [] = mergeL l1 l2 := by rw [E1.out, E2.out, mergeL_nil_left]; rfl
              rw [e]; exact HFC.out.2.2.symm)
            have HEK := Lib.hid (show pairL (flatL []) = pairL R from by rw [E3.out]; rfl)
            have HLB := Lib.hid (show levB [] = true from levB_of (by simp) (by simp))
            have HKB := Lib.hid (show levB [] = true from levB_of (by simp) (by simp))
            have HWL := Lib.hid (show ∀ r ∈ [], r.length ≤ 1048576 ∧ WfIt r by simp)
            have HWK := Lib.hid (show ∀ r ∈ [], r.length ≤ 1048576 ∧ WfIt r by simp)
            have HPL := Lib.hid (fun W (hb : Below ((w4.alloc (.cells #[] 23)).alloc (.cells #[] 23)).heap.size ((w4.alloc (.cells #[] 23)).alloc (.cells #[] 23)) W) => iPairs_any (some ⟨w4.heap.size, 0, none⟩) 0 0 [] W ((HLL.out.below hb).mono hb.size) rfl (by omega) HWL.out HLB.out)
            have HPK := Lib.hid (fun W (hb : Below ((w4.alloc (.cells #[] 23)).alloc (.cells #[] 23)).heap.size ((w4.alloc (.cells #[] 23)).alloc (.cells #[] 23)) W) => iPairs_any (some ⟨w4.heap.size + 1, 0, none⟩) 0 0 [] W ((HKK.out.below hb).mono hb.size) rfl (by omega) HWK.out HKB.out)
            rw [HEL.out] at HPL
            rw [HEK.out] at HPK
            have hpl : (pairL R).length ≤ 1048576 := by have h1 := pairL_len R; rw [HMR.out] at h1; omega
            have HPG := Lib.hid (pairL_good HFR.out)
            have HGN := Lib.hid HFC.out.2.1
            have HRB := Lib.hid HFC.out.1
            have HWR := Lib.hid HFR.out.wf
            have HPLN := Lib.hid hpl
            clear HEL HEK HLB HKB HWL HWK HLL HKK HFC HR1 HR2 HN1 HN2 HW1 HW2 HV1 HV2 HFR hpl
            generalize pairL R = Pq at *
            go_wp2_with fail
            generalize ((w4.alloc (.cells #[] 23)).alloc (.cells #[] 23)) = wq at *
            go_loopw [12] (fun i wr => ∃ k : Nat, i = .int .i64 k ∧ k ≤ mR ∧ Below wq.heap.size wq wr) (fun i _ => mR - (intOf i).toNat)
            case atStart => exact ⟨0, rfl, by omega, Below.refl _ _⟩
            case round =>
              obtain ⟨k, rfl, hk, hb⟩ := hrel
              rename World => wr
              have HB := Lib.hid hb; clear hb
              by_cases hlt : k < mR
              · exact absurd hlt (by have := E3Z.out; omega)
              · obtain rfl : k = mR := by omega
                have HVR := Lib.hid (iRun_any A3 k c3 R wr ((HRW.out.below HB.out).mono HB.out.size) HMR.out.symm (by omega) HWR.out)
                rw [HRB.out] at HVR
                go_wp2_with fail
                refine (HVR.out).mono ?_
                rintro e x1 ⟨rfl, hx1⟩
                have HX1 := Lib.hid (HB.out.trans (hx1.mono HB.out.size)); clear hx1
                go_wp2_with fail
                refine (HPK.out _ HX1.out).mono ?_
                rintro e x2 ⟨v8, rfl, ⟨A8, c8, rfl, ho8⟩, hx2⟩
                have HX2 := Lib.hid (HX1.out.trans (hx2.mono HX1.out.size)); clear hx2
                have HO8 := Lib.hid ho8; clear ho8
                go_wp2_with fail
                refine (HPL.out _ HX2.out).mono ?_
                rintro e x3 ⟨v9, rfl, ⟨A9, c9, rfl, ho9⟩, hx3⟩
                have HX3 := Lib.hid (HX2.out.trans (hx3.mono HX2.out.size))
                have HEP := Lib.hid (equalPairs_same A8 A9 Pq.length c8 c9 Pq x3 (RowAt.of_own (own_keep HO8.out hx3)) (RowAt.of_own ho9) rfl HPLN.out HPG.out)
                clear hx3 ho9 HPL HPK
                generalize Pq.length = pl at *
                go_wp2_with fail
                refine (HEP.out).mono ?_
                rintro e x4 ⟨rfl, hx4⟩
                have HX4 := Lib.hid (HX3.out.trans (hx4.mono HX3.out.size)); clear hx4
                go_wp2_with fail
                go_ret
                exact ⟨rfl, HB1.out.trans ((HBq.out.trans (HX4.out.mono HBq.out.size)).mono HB1.out.size)⟩
          · have t3 : (0 : Int) < (mR : Int) := by omega
            have P3 := Lib.hid (show 0 < R.length by rw [← HMR.out.symm]; exact hz)
            clear hz
            have HQRL := Lib.hid (show ∀ q, (Value.slice A3 mR c3).ownBlock = some q → q < w4.heap.size from fun q hq => by have := (HO4.out.lt q hq).2; simpa using this)
            have HZL := Lib.hid (show w1.heap.size ≤ w4.heap.size by have := HB4.out.size; simpa using this)
            have HBx21 := Lib.hid (HB4.out.alloc HB4.out.size (.cells #[] 23))
            have HOxR21 := Lib.hid (own_keep HO4.out ((Below.refl w4.heap.size w4).alloc (Nat.le_refl _) (.cells #[] 23)))
            have hoL21 := own_start w4 23 1
            have HOL21 := Lib.hid hoL21
            clear hoL21
            have HQRK := Lib.hid (show ∀ q, (Value.slice A3 mR c3).ownBlock = some q → q < w4.heap.size + 1 from fun q hq => by have := (HOxR21.out.lt q hq).2; simpa using this)
            have HQLK := Lib.hid (show ∀ q, (Value.slice (some ⟨w4.heap.size, 0, none⟩) 0 0).ownBlock = some q → q < w4.heap.size + 1 from fun q hq => by have := (HOL21.out.lt q hq).2; simpa using this)
            have HZK := Lib.hid (show w1.heap.size ≤ w4.heap.size + 1 by have := HBx21.out.size; simpa using this)
            have HBx22 := Lib.hid (HBx21.out.alloc HBx21.out.size (.cells #[] 23))
            have HOxR22 := Lib.hid (own_keep HOxR21.out ((Below.refl (w4.alloc (.cells #[] 23)).heap.size (w4.alloc (.cells #[] 23))).alloc (Nat.le_refl _) (.cells #[] 23)))
            have HOxL22 := Lib.hid (own_keep HOL21.out ((Below.refl (w4.alloc (.cells #[] 23)).heap.size (w4.alloc (.cells #[] 23))).alloc (Nat.le_refl _) (.cells #[] 23)))
            have hoK22 := own_start (w4.alloc (.cells #[] 23)) 23 1
            simp only [World.size_alloc] at hoK22
            have HOK22 := Lib.hid hoK22
            clear hoK22
            have HBx23 := Lib.hid (HBx22.out.alloc HBx22.out.size (.cells #[.slice A3 mR c3] 23))
            have HOxR23 := Lib.hid (own_keep HOxR22.out ((Below.refl ((w4.alloc (.cells #[] 23)).alloc (.cells #[] 23)).heap.size ((w4.alloc (.cells #[] 23)).alloc (.cells #[] 23))).alloc (Nat.le_refl _) (.cells #[.slice A3 mR c3] 23)))
            have HOxL23 := Lib.hid (own_keep HOxL22.out ((Below.refl ((w4.alloc (.cells #[] 23)).alloc (.cells #[] 23)).heap.size ((w4.alloc (.cells #[] 23)).alloc (.cells #[] 23))).alloc (Nat.le_refl _) (.cells #[.slice A3 mR c3] 23)))
            have HOxK23 := Lib.hid (own_keep HOK22.out ((Below.refl ((w4.alloc (.cells #[] 23)).alloc (.cells #[] 23)).heap.size ((w4.alloc (.cells #[] 23)).alloc (.cells #[] 23))).alloc (Nat.le_refl _) (.cells #[.slice A3 mR c3] 23)))
            have HNR23 := Lib.hid (row_new ((w4.alloc (.cells #[] 23)).alloc (.cells #[] 23)) [.slice A3 mR c3] 23 (w4.heap.size + 1 + 1) (by simp))
            go_wp2_with (at_builtin; refine wpList_append_row rfl _ _ 29 rfl (w4.heap.size + 1) 23 j0 (.slice none 0 0) 1 24 Try.underlying29 HJ.out.1 HJ.out.2.1 HJ.out.2.2.1 HJ.out.2.2.2 rfl (by decide) _ 0 ([] : List Value) rfl HOxK23.out (some ⟨w4.heap.size + 1 + 1, 0, none⟩) 1 1 _ [.slice A3 mR c3] rfl ?z0 ?a0 HNR23.out ?b0 ?d0 ?e0 ?f0 ?_)
            try (case z0 => first | assumption | (intro h; cases h; done))
            try (case a0 => rfl)
            try (case b0 => first | rfl | (intro u hu; simp at hu; subst hu; rfl))
            try (case d0 => unfold maxLen; omega)
            try (case e0 => omega)
            try (case f0 => first | omega | (simp <;> omega))
            intro v23 w123 hown hgrow
            have hown2 : w123.ownsRow (w4.heap.size + 1) 23 1 v23 1 (hdsC [(A3, mR, c3)]) := hown
            obtain ⟨A123, c123, rfl⟩ := own_shape hown2
            have hzz23 : w4.heap.size + 1 ≤ w123.heap.size := by have := hgrow.size; simp at this; omega
            have HBg23 := Lib.hid (HBx23.out.grown hgrow HBx23.out.size (fun q hq => Nat.le_trans HZK.out (HOxK23.out.lt q hq).1))
            have HOgR23 := Lib.hid (own_far HOxR23.out HOxK23.out hgrow HQRK.out)
            have HOgL23 := Lib.hid (own_far HOxL23.out HOxK23.out hgrow HQLK.out)
            have HOK23 := Lib.hid hown2
            clear hown hown2 hgrow
            have HLL := Lib.hid (show LvC w123 w123.heap.size (some ⟨w4.heap.size, 0, none⟩) [] from lvC_nil _ _)
            have HKK := Lib.hid (show LvC w123 w123.heap.size A123 [R] from lvC_one HOK23.out (runAt_of HOgR23.out HMR.out.symm (Below.refl _ _)))
            have HRW := Lib.hid (RowAt.of_own HOgR23.out)
            have HBq := Lib.hid HBg23.out
            have HEL := Lib.hid (show pairL (flatL []) = pairL R by
              have e : flatL [] = mergeL l1 l2 := by rw [E1.out, E2.out, mergeL_nil_left]; rfl
              rw [e]; exact HFC.out.2.2.symm)
            have HEK := Lib.hid (show pairL (flatL [R]) = pairL R from by rw [flat_one])
            have HLB := Lib.hid (show levB [] = true from levB_of (by simp) (by simp))
            have HKB := Lib.hid (show levB [R] = true from levB_of (by simp) (by intro r hr; simp at hr; subst hr; exact ⟨P3.out, HFC.out.1⟩))
            have HWL := Lib.hid (show ∀ r ∈ [], r.length ≤ 1048576 ∧ WfIt r by simp)
            have HWK := Lib.hid (show ∀ r ∈ [R], r.length ≤ 1048576 ∧ WfIt r by intro r hr; simp at hr; subst hr; exact ⟨by rw [HMR.out]; omega, HFR.out.wf⟩)
            have HPL := Lib.hid (fun W (hb : Below w123.heap.size w123 W) => iPairs_any (some ⟨w4.heap.size, 0, none⟩) 0 0 [] W ((HLL.out.below hb).mono hb.size) rfl (by omega) HWL.out HLB.out)
            have HPK := Lib.hid (fun W (hb : Below w123.heap.size w123 W) => iPairs_any A123 1 c123 [R] W ((HKK.out.below hb).mono hb.size) rfl (by omega) HWK.out HKB.out)
            rw [HEL.out] at HPL
            rw [HEK.out] at HPK
            have hpl : (pairL R).length ≤ 1048576 := by have h1 := pairL_len R; rw [HMR.out] at h1; omega
            have HPG := Lib.hid (pairL_good HFR.out)
            have HGN := Lib.hid HFC.out.2.1
            have HRB := Lib.hid HFC.out.1
            have HWR := Lib.hid HFR.out.wf
            have HPLN := Lib.hid hpl
            clear HEL HEK HLB HKB HWL HWK HLL HKK HFC HR1 HR2 HN1 HN2 HW1 HW2 HV1 HV2 HFR hpl
            generalize pairL R = Pq at *
            go_wp2_with fail
            go_loopw [12] (fun i wr => ∃ k : Nat, i = .int .i64 k ∧ k ≤ mR ∧ Below w123.heap.size w123 wr) (fun i _ => mR - (intOf i).toNat)
            case atStart => exact ⟨0, rfl, by omega, Below.refl _ _⟩
            case round =>
              obtain ⟨k, rfl, hk, hb⟩ := hrel
              rename World => wr
              have HB := Lib.hid hb; clear hb
              by_cases hlt : k < mR
              · have hkl : k < R.length := by have := HMR.out; omega
                obtain ⟨bb, off, hA, hbw, e0, e1, e2⟩ := its_at (HRW.out.below HB.out) hkl
                subst hA
                have hi1 : (k : Int) < (mR : Int) := by omega
                have hbs : bb < wr.heap.size := Nat.lt_of_lt_of_le hbw HB.out.size
                have HG0 := Lib.hid (fun hb => HGN.out hb R[k] (List.getElem_mem hkl))
                generalize R[k].2.2 = g at *
                clear HPL HPK
                cases b
                · go_wp2_with fail
                  go_roundw
                  case rel => exact ⟨k + 1, by go_num, by omega, HB.out⟩
                  case measure => simp [intOf]; omega
                · obtain rfl : g = false := HG0.out (by simp)
                  go_wp2_with fail
                  go_roundw
                  case rel => exact ⟨k + 1, by go_num, by omega, HB.out⟩
                  case measure => simp [intOf]; omega
              · obtain rfl : k = mR := by omega
                have HVR := Lib.hid (iRun_any A3 k c3 R wr ((HRW.out.below HB.out).mono HB.out.size) HMR.out.symm (by omega) HWR.out)
                rw [HRB.out] at HVR
                go_wp2_with fail
                refine (HVR.out).mono ?_
                rintro e x1 ⟨rfl, hx1⟩
                have HX1 := Lib.hid (HB.out.trans (hx1.mono HB.out.size)); clear hx1
                go_wp2_with fail
                refine (HPK.out _ HX1.out).mono ?_
                rintro e x2 ⟨v8, rfl, ⟨A8, c8, rfl, ho8⟩, hx2⟩
                have HX2 := Lib.hid (HX1.out.trans (hx2.mono HX1.out.size)); clear hx2
                have HO8 := Lib.hid ho8; clear ho8
                go_wp2_with fail
                refine (HPL.out _ HX2.out).mono ?_
                rintro e x3 ⟨v9, rfl, ⟨A9, c9, rfl, ho9⟩, hx3⟩
                have HX3 := Lib.hid (HX2.out.trans (hx3.mono HX2.out.size))
                have HEP := Lib.hid (equalPairs_same A8 A9 Pq.length c8 c9 Pq x3 (RowAt.of_own (own_keep HO8.out hx3)) (RowAt.of_own ho9) rfl HPLN.out HPG.out)
                clear hx3 ho9 HPL HPK
                generalize Pq.length = pl at *
                go_wp2_with fail
                refine (HEP.out).mono ?_
                rintro e x4 ⟨rfl, hx4⟩
                have HX4 := Lib.hid (HX3.out.trans (hx4.mono HX3.out.size)); clear hx4
                go_wp2_with fail
                go_ret
                exact ⟨rfl, HB1.out.trans ((HBq.out.trans (HX4.out.mono HBq.out.size)).mono HB1.out.size)⟩
        · have t2 : (0 : Int) < (m2 : Int) := by omega
          have P2 := Lib.hid (show 0 < l2.length by rw [← HN2.out]; exact hz)
          clear hz
          rcases Nat.eq_zero_or_pos mR with hz | hz
          · have t3 : ¬ (0 : Int) < (mR : Int) := by omega
            have E3 := Lib.hid (show R = [] from List.eq_nil_of_length_eq_zero (by rw [← HMR.out.symm]; exact hz))
            have E3Z := Lib.hid hz
            clear hz
            have HQRL := Lib.hid (show ∀ q, (Value.slice A3 mR c3).ownBlock = some q → q < w4.heap.size from fun q hq => by have := (HO4.out.lt q hq).2; simpa using this)
            have HZL := Lib.hid (show w1.heap.size ≤ w4.heap.size by have := HB4.out.size; simpa using this)
            have HBx21 := Lib.hid (HB4.out.alloc HB4.out.size (.cells #[] 23))
            have HOxR21 := Lib.hid (own_keep HO4.out ((Below.refl w4.heap.size w4).alloc (Nat.le_refl _) (.cells #[] 23)))
            have hoL21 := own_start w4 23 1
            have HOL21 := Lib.hid hoL21
            clear hoL21
            have HBx22 := Lib.hid (HBx21.out.alloc HBx21.out.size (.cells #[.slice A2 m2 c2] 23))
            have HOxR22 := Lib.hid (own_keep HOxR21.out ((Below.refl (w4.alloc (.cells #[] 23)).heap.size (w4.alloc (.cells #[] 23))).alloc (Nat.le_refl _) (.cells #[.slice A2 m2 c2] 23)))
            have HOxL22 := Lib.hid (own_keep HOL21.out ((Below.refl (w4.alloc (.cells #[] 23)).heap.size (w4.alloc (.cells #[] 23))).alloc (Nat.le_refl _) (.cells #[.slice A2 m2 c2] 23)))
            have HNR22 := Lib.hid (row_new (w4.alloc (.cells #[] 23)) [.slice A2 m2 c2] 23 (w4.heap.size + 1) (by simp))
            go_wp2_with (at_builtin; refine wpList_append_row rfl _ _ 29 rfl (w4.heap.size) 23 j0 (.slice none 0 0) 1 24 Try.underlying29 HJ.out.1 HJ.out.2.1 HJ.out.2.2.1 HJ.out.2.2.2 rfl (by decide) _ 0 ([] : List Value) rfl HOxL22.out (some ⟨w4.heap.size + 1, 0, none⟩) 1 1 _ [.slice A2 m2 c2] rfl ?z0 ?a0 HNR22.out ?b0 ?d0 ?e0 ?f0 ?_)
            try (case z0 => first | assumption | (intro h; cases h; done))
            try (case a0 => rfl)
            try (case b0 => first | rfl | (intro u hu; simp at hu; subst hu; rfl))
            try (case d0 => unfold maxLen; omega)
            try (case e0 => omega)
            try (case f0 => first | omega | (simp <;> omega))
            intro v22 w122 hown hgrow
            have hown2 : w122.ownsRow (w4.heap.size) 23 1 v22 1 (hdsC [(A2, m2, c2)]) := hown
            obtain ⟨A122, c122, rfl⟩ := own_shape hown2
            have hzz22 : w4.heap.size ≤ w122.heap.size := by have := hgrow.size; simp at this; omega
            have HBg22 := Lib.hid (HBx22.out.grown hgrow HBx22.out.size (fun q hq => Nat.le_trans HZL.out (HOxL22.out.lt q hq).1))
            have HOgR22 := Lib.hid (own_far HOxR22.out HOxL22.out hgrow HQRL.out)
            have HOL22 := Lib.hid hown2
            clear hown hown2 hgrow
            have HQRK := Lib.hid (show ∀ q, (Value.slice A3 mR c3).ownBlock = some q → q < w122.heap.size from fun q hq => by have := (HOgR22.out.lt q hq).2; simpa using this)
            have HQLK := Lib.hid (show ∀ q, (Value.slice A122 1 c122).ownBlock = some q → q < w122.heap.size from fun q hq => by have := (HOL22.out.lt q hq).2; simpa using this)
            have HZK := Lib.hid (show w1.heap.size ≤ w122.heap.size by have := HBg22.out.size; simpa using this)
            have HBx23 := Lib.hid (HBg22.out.alloc HBg22.out.size (.cells #[] 23))
            have HOxR23 := Lib.hid (own_keep HOgR22.out ((Below.refl w122.heap.size w122).alloc (Nat.le_refl _) (.cells #[] 23)))
            have HOxL23 := Lib.hid (own_keep HOL22.out ((Below.refl w122.heap.size w122).alloc (Nat.le_refl _) (.cells #[] 23)))
            have hoK23 := own_start w122 23 1
            have HOK23 := Lib.hid hoK23
            clear hoK23
            have HLL := Lib.hid (show LvC (w122.alloc (.cells #[] 23)) (w122.alloc (.cells #[] 23)).heap.size A122 [l2] from lvC_one HOxL23.out (HR2.out (w122.alloc (.cells #[] 23)) HBx23.out))
            have HKK := Lib.hid (show LvC (w122.alloc (.cells #[] 23)) (w122.alloc (.cells #[] 23)).heap.size (some ⟨w122.heap.size, 0, none⟩) [] from lvC_nil _ _)
            have HRW := Lib.hid (RowAt.of_own HOxR23.out)
            have HBq := Lib.hid HBx23.out
            have HEL := Lib.hid (show pairL (flatL [l2]) = pairL R by
              have e : flatL [l2] = mergeL l1 l2 := by rw [E1.out, mergeL_nil_left, flat_one]
              rw [e]; exact HFC.out.2.2.symm)
            have HEK := Lib.hid (show pairL (flatL []) = pairL R from by rw [E3.out]; rfl)
            have HLB := Lib.hid (show levB [l2] = true from levB_of (by simp) (by intro r hr; simp at hr; subst hr; exact ⟨P2.out, HV2.out⟩))
            have HKB := Lib.hid (show levB [] = true from levB_of (by simp) (by simp))
            have HWL := Lib.hid (show ∀ r ∈ [l2], r.length ≤ 1048576 ∧ WfIt r by intro r hr; simp at hr; subst hr; exact ⟨by rw [← HN2.out]; exact hs2, HW2.out⟩)
            have HWK := Lib.hid (show ∀ r ∈ [], r.length ≤ 1048576 ∧ WfIt r by simp)
            have HPL := Lib.hid (fun W (hb : Below (w122.alloc (.cells #[] 23)).heap.size (w122.alloc (.cells #[] 23)) W) => iPairs_any A122 1 c122 [l2] W ((HLL.out.below hb).mono hb.size) rfl (by omega) HWL.out HLB.out)
            have HPK := Lib.hid (fun W (hb : Below (w122.alloc (.cells #[] 23)).heap.size (w122.alloc (.cells #[] 23)) W) => iPairs_any (some ⟨w122.heap.size, 0, none⟩) 0 0 [] W ((HKK.out.below hb).mono hb.size) rfl (by omega) HWK.out HKB.out)
            rw [HEL.out] at HPL
            rw [HEK.out] at HPK
            have hpl : (pairL R).length ≤ 1048576 := by have h1 := pairL_len R; rw [HMR.out] at h1; omega
            have HPG := Lib.hid (pairL_good HFR.out)
            have HGN := Lib.hid HFC.out.2.1
            have HRB := Lib.hid HFC.out.1
            have HWR := Lib.hid HFR.out.wf
            have HPLN := Lib.hid hpl
            clear HEL HEK HLB HKB HWL HWK HLL HKK HFC HR1 HR2 HN1 HN2 HW1 HW2 HV1 HV2 HFR hpl
            generalize pairL R = Pq at *
            go_wp2_with fail
            generalize (w122.alloc (.cells #[] 23)) = wq at *
            go_loopw [12] (fun i wr => ∃ k : Nat, i = .int .i64 k ∧ k ≤ mR ∧ Below wq.heap.size wq wr) (fun i _ => mR - (intOf i).toNat)
            case atStart => exact ⟨0, rfl, by omega, Below.refl _ _⟩
            case round =>
              obtain ⟨k, rfl, hk, hb⟩ := hrel
              rename World => wr
              have HB := Lib.hid hb; clear hb
              by_cases hlt : k < mR
              · exact absurd hlt (by have := E3Z.out; omega)
              · obtain rfl : k = mR := by omega
                have HVR := Lib.hid (iRun_any A3 k c3 R wr ((HRW.out.below HB.out).mono HB.out.size) HMR.out.symm (by omega) HWR.out)
                rw [HRB.out] at HVR
                go_wp2_with fail
                refine (HVR.out).mono ?_
                rintro e x1 ⟨rfl, hx1⟩
                have HX1 := Lib.hid (HB.out.trans (hx1.mono HB.out.size)); clear hx1
                go_wp2_with fail
                refine (HPK.out _ HX1.out).mono ?_
                rintro e x2 ⟨v8, rfl, ⟨A8, c8, rfl, ho8⟩, hx2⟩
                have HX2 := Lib.hid (HX1.out.trans (hx2.mono HX1.out.size)); clear hx2
                have HO8 := Lib.hid ho8; clear ho8
                go_wp2_with fail
                refine (HPL.out _ HX2.out).mono ?_
                rintro e x3 ⟨v9, rfl, ⟨A9, c9, rfl, ho9⟩, hx3⟩
                have HX3 := Lib.hid (HX2.out.trans (hx3.mono HX2.out.size))
                have HEP := Lib.hid (equalPairs_same A8 A9 Pq.length c8 c9 Pq x3 (RowAt.of_own (own_keep HO8.out hx3)) (RowAt.of_own ho9) rfl HPLN.out HPG.out)
                clear hx3 ho9 HPL HPK
                generalize Pq.length = pl at *
                go_wp2_with fail
                refine (HEP.out).mono ?_
                rintro e x4 ⟨rfl, hx4⟩
                have HX4 := Lib.hid (HX3.out.trans (hx4.mono HX3.out.size)); clear hx4
                go_wp2_with fail
                go_ret
                exact ⟨rfl, HB1.out.trans ((HBq.out.trans (HX4.out.mono HBq.out.size)).mono HB1.out.size)⟩
          · have t3 : (0 : Int) < (mR : Int) := by omega
            have P3 := Lib.hid (show 0 < R.length by rw [← HMR.out.symm]; exact hz)
            clear hz
            have HQRL := Lib.hid (show ∀ q, (Value.slice A3 mR c3).ownBlock = some q → q < w4.heap.size from fun q hq => by have := (HO4.out.lt q hq).2; simpa using this)
            have HZL := Lib.hid (show w1.heap.size ≤ w4.heap.size by have := HB4.out.size; simpa using this)
            have HBx21 := Lib.hid (HB4.out.alloc HB4.out.size (.cells #[] 23))
            have HOxR21 := Lib.hid (own_keep HO4.out ((Below.refl w4.heap.size w4).alloc (Nat.le_refl _) (.cells #[] 23)))
            have hoL21 := own_start w4 23 1
            have HOL21 := Lib.hid hoL21
            clear hoL21
            have HBx22 := Lib.hid (HBx21.out.alloc HBx21.out.size (.cells #[.slice A2 m2 c2] 23))
            have HOxR22 := Lib.hid (own_keep HOxR21.out ((Below.refl (w4.alloc (.cells #[] 23)).heap.size (w4.alloc (.cells #[] 23))).alloc (Nat.le_refl _) (.cells #[.slice A2 m2 c2] 23)))
            have HOxL22 := Lib.hid (own_keep HOL21.out ((Below.refl (w4.alloc (.cells #[] 23)).heap.size (w4.alloc (.cells #[] 23))).alloc (Nat.le_refl _) (.cells #[.slice A2 m2 c2] 23)))
            have HNR22 := Lib.hid (row_new (w4.alloc (.cells #[] 23)) [.slice A2 m2 c2] 23 (w4.heap.size + 1) (by simp))
            go_wp2_with (at_builtin; refine wpList_append_row rfl _ _ 29 rfl (w4.heap.size) 23 j0 (.slice none 0 0) 1 24 Try.underlying29 HJ.out.1 HJ.out.2.1 HJ.out.2.2.1 HJ.out.2.2.2 rfl (by decide) _ 0 ([] : List Value) rfl HOxL22.out (some ⟨w4.heap.size + 1, 0, none⟩) 1 1 _ [.slice A2 m2 c2] rfl ?z0 ?a0 HNR22.out ?b0 ?d0 ?e0 ?f0 ?_)
            try (case z0 => first | assumption | (intro h; cases h; done))
            try (case a0 => rfl)
            try (case b0 => first | rfl | (intro u hu; simp at hu; subst hu; rfl))
            try (case d0 => unfold maxLen; omega)
            try (case e0 => omega)
            try (case f0 => first | omega | (simp <;> omega))
            intro v22 w122 hown hgrow
            have hown2 : w122.ownsRow (w4.heap.size) 23 1 v22 1 (hdsC [(A2, m2, c2)]) := hown
            obtain ⟨A122, c122, rfl⟩ := own_shape hown2
            have hzz22 : w4.heap.size ≤ w122.heap.size := by have := hgrow.size; simp at this; omega
            have HBg22 := Lib.hid (HBx22.out.grown hgrow HBx22.out.size (fun q hq => Nat.le_trans HZL.out (HOxL22.out.lt q hq).1))
            have HOgR22 := Lib.hid (own_far HOxR22.out HOxL22.out hgrow HQRL.out)
            have HOL22 := Lib.hid hown2
            clear hown hown2 hgrow
            have HQRK := Lib.hid (show ∀ q, (Value.slice A3 mR c3).ownBlock = some q → q < w122.heap.size from fun q hq => by have := (HOgR22.out.lt q hq).2; simpa using this)
            have HQLK := Lib.hid (show ∀ q, (Value.slice A122 1 c122).ownBlock = some q → q < w122.heap.size from fun q hq => by have := (HOL22.out.lt q hq).2; simpa using this)
            have HZK := Lib.hid (show w1.heap.size ≤ w122.heap.size by have := HBg22.out.size; simpa using this)
            have HBx23 := Lib.hid (HBg22.out.alloc HBg22.out.size (.cells #[] 23))
            have HOxR23 := Lib.hid (own_keep HOgR22.out ((Below.refl w122.heap.size w122).alloc (Nat.le_refl _) (.cells #[] 23)))
            have HOxL23 := Lib.hid (own_keep HOL22.out ((Below.refl w122.heap.size w122).alloc (Nat.le_refl _) (.cells #[] 23)))
            have hoK23 := own_start w122 23 1
            have HOK23 := Lib.hid hoK23
            clear hoK23
            have HBx24 := Lib.hid (HBx23.out.alloc HBx23.out.size (.cells #[.slice A3 mR c3] 23))
            have HOxR24 := Lib.hid (own_keep HOxR23.out ((Below.refl (w122.alloc (.cells #[] 23)).heap.size (w122.alloc (.cells #[] 23))).alloc (Nat.le_refl _) (.cells #[.slice A3 mR c3] 23)))
            have HOxL24 := Lib.hid (own_keep HOxL23.out ((Below.refl (w122.alloc (.cells #[] 23)).heap.size (w122.alloc (.cells #[] 23))).alloc (Nat.le_refl _) (.cells #[.slice A3 mR c3] 23)))
            have HOxK24 := Lib.hid (own_keep HOK23.out ((Below.refl (w122.alloc (.cells #[] 23)).heap.size (w122.alloc (.cells #[] 23))).alloc (Nat.le_refl _) (.cells #[.slice A3 mR c3] 23)))
            have HNR24 := Lib.hid (row_new (w122.alloc (.cells #[] 23)) [.slice A3 mR c3] 23 (w122.heap.size + 1) (by simp))
            go_wp2_with (at_builtin; refine wpList_append_row rfl _ _ 29 rfl (w122.heap.size) 23 j0 (.slice none 0 0) 1 24 Try.underlying29 HJ.out.1 HJ.out.2.1 HJ.out.2.2.1 HJ.out.2.2.2 rfl (by decide) _ 0 ([] : List Value) rfl HOxK24.out (some ⟨w122.heap.size + 1, 0, none⟩) 1 1 _ [.slice A3 mR c3] rfl ?z0 ?a0 HNR24.out ?b0 ?d0 ?e0 ?f0 ?_)
            try (case z0 => first | assumption | (intro h; cases h; done))
            try (case a0 => rfl)
            try (case b0 => first | rfl | (intro u hu; simp at hu; subst hu; rfl))
            try (case d0 => unfold maxLen; omega)
            try (case e0 => omega)
            try (case f0 => first | omega | (simp <;> omega))
            intro v24 w124 hown hgrow
            have hown2 : w124.ownsRow (w122.heap.size) 23 1 v24 1 (hdsC [(A3, mR, c3)]) := hown
            obtain ⟨A124, c124, rfl⟩ := own_shape hown2
            have hzz24 : w122.heap.size ≤ w124.heap.size := by have := hgrow.size; simp at this; omega
            have HBg24 := Lib.hid (HBx24.out.grown hgrow HBx24.out.size (fun q hq => Nat.le_trans HZK.out (HOxK24.out.lt q hq).1))
            have HOgR24 := Lib.hid (own_far HOxR24.out HOxK24.out hgrow HQRK.out)
            have HOgL24 := Lib.hid (own_far HOxL24.out HOxK24.out hgrow HQLK.out)
            have HOK24 := Lib.hid hown2
            clear hown hown2 hgrow
            have HLL := Lib.hid (show LvC w124 w124.heap.size A122 [l2] from lvC_one HOgL24.out (HR2.out w124 HBg24.out))
            have HKK := Lib.hid (show LvC w124 w124.heap.size A124 [R] from lvC_one HOK24.out (runAt_of HOgR24.out HMR.out.symm (Below.refl _ _)))
            have HRW := Lib.hid (RowAt.of_own HOgR24.out)
            have HBq := Lib.hid HBg24.out
            have HEL := Lib.hid (show pairL (flatL [l2]) = pairL R by
              have e : flatL [l2] = mergeL l1 l2 := by rw [E1.out, mergeL_nil_left, flat_one]
              rw [e]; exact HFC.out.2.2.symm)
            have HEK := Lib.hid (show pairL (flatL [R]) = pairL R from by rw [flat_one])
            have HLB := Lib.hid (show levB [l2] = true from levB_of (by simp) (by intro r hr; simp at hr; subst hr; exact ⟨P2.out, HV2.out⟩))
            have HKB := Lib.hid (show levB [R] = true from levB_of (by simp) (by intro r hr; simp at hr; subst hr; exact ⟨P3.out, HFC.out.1⟩))
            have HWL := Lib.hid (show ∀ r ∈ [l2], r.length ≤ 1048576 ∧ WfIt r by intro r hr; simp at hr; subst hr; exact ⟨by rw [← HN2.out]; exact hs2, HW2.out⟩)
            have HWK := Lib.hid (show ∀ r ∈ [R], r.length ≤ 1048576 ∧ WfIt r by intro r hr; simp at hr; subst hr; exact ⟨by rw [HMR.out]; omega, HFR.out.wf⟩)
            have HPL := Lib.hid (fun W (hb : Below w124.heap.size w124 W) => iPairs_any A122 1 c122 [l2] W ((HLL.out.below hb).mono hb.size) rfl (by omega) HWL.out HLB.out)
            have HPK := Lib.hid (fun W (hb : Below w124.heap.size w124 W) => iPairs_any A124 1 c124 [R] W ((HKK.out.below hb).mono hb.size) rfl (by omega) HWK.out HKB.out)
            rw [HEL.out] at HPL
            rw [HEK.out] at HPK
            have hpl : (pairL R).length ≤ 1048576 := by have h1 := pairL_len R; rw [HMR.out] at h1; omega
            have HPG := Lib.hid (pairL_good HFR.out)
            have HGN := Lib.hid HFC.out.2.1
            have HRB := Lib.hid HFC.out.1
            have HWR := Lib.hid HFR.out.wf
            have HPLN := Lib.hid hpl
            clear HEL HEK HLB HKB HWL HWK HLL HKK HFC HR1 HR2 HN1 HN2 HW1 HW2 HV1 HV2 HFR hpl
            generalize pairL R = Pq at *
            go_wp2_with fail
            go_loopw [12] (fun i wr => ∃ k : Nat, i = .int .i64 k ∧ k ≤ mR ∧ Below w124.heap.size w124 wr) (fun i _ => mR - (intOf i).toNat)
            case atStart => exact ⟨0, rfl, by omega, Below.refl _ _⟩
            case round =>
              obtain ⟨k, rfl, hk, hb⟩ := hrel
              rename World => wr
              have HB := Lib.hid hb; clear hb
              by_cases hlt : k < mR
              · have hkl : k < R.length := by have := HMR.out; omega
                obtain ⟨bb, off, hA, hbw, e0, e1, e2⟩ := its_at (HRW.out.below HB.out) hkl
                subst hA
                have hi1 : (k : Int) < (mR : Int) := by omega
                have hbs : bb < wr.heap.size := Nat.lt_of_lt_of_le hbw HB.out.size
                have HG0 := Lib.hid (fun hb => HGN.out hb R[k] (List.getElem_mem hkl))
                generalize R[k].2.2 = g at *
                clear HPL HPK
                cases b
                · go_wp2_with fail
                  go_roundw
                  case rel => exact ⟨k + 1, by go_num, by omega, HB.out⟩
                  case measure => simp [intOf]; omega
                · obtain rfl : g = false := HG0.out (by simp)
                  go_wp2_with fail
                  go_roundw
                  case rel => exact ⟨k + 1, by go_num, by omega, HB.out⟩
                  case measure => simp [intOf]; omega
              · obtain rfl : k = mR := by omega
                have HVR := Lib.hid (iRun_any A3 k c3 R wr ((HRW.out.below HB.out).mono HB.out.size) HMR.out.symm (by omega) HWR.out)
                rw [HRB.out] at HVR
                go_wp2_with fail
                refine (HVR.out).mono ?_
                rintro e x1 ⟨rfl, hx1⟩
                have HX1 := Lib.hid (HB.out.trans (hx1.mono HB.out.size)); clear hx1
                go_wp2_with fail
                refine (HPK.out _ HX1.out).mono ?_
                rintro e x2 ⟨v8, rfl, ⟨A8, c8, rfl, ho8⟩, hx2⟩
                have HX2 := Lib.hid (HX1.out.trans (hx2.mono HX1.out.size)); clear hx2
                have HO8 := Lib.hid ho8; clear ho8
                go_wp2_with fail
                refine (HPL.out _ HX2.out).mono ?_
                rintro e x3 ⟨v9, rfl, ⟨A9, c9, rfl, ho9⟩, hx3⟩
                have HX3 := Lib.hid (HX2.out.trans (hx3.mono HX2.out.size))
                have HEP := Lib.hid (equalPairs_same A8 A9 Pq.length c8 c9 Pq x3 (RowAt.of_own (own_keep HO8.out hx3)) (RowAt.of_own ho9) rfl HPLN.out HPG.out)
                clear hx3 ho9 HPL HPK
                generalize Pq.length = pl at *
                go_wp2_with fail
                refine (HEP.out).mono ?_
                rintro e x4 ⟨rfl, hx4⟩
                have HX4 := Lib.hid (HX3.out.trans (hx4.mono HX3.out.size)); clear hx4
                go_wp2_with fail
                go_ret
                exact ⟨rfl, HB1.out.trans ((HBq.out.trans (HX4.out.mono HBq.out.size)).mono HB1.out.size)⟩
      · have t1 : (0 : Int) < (m1 : Int) := by omega
        have P1 := Lib.hid (show 0 < l1.length by rw [← HN1.out]; exact hz)
        clear hz
        rcases Nat.eq_zero_or_pos m2 with hz | hz
        · have t2 : ¬ (0 : Int) < (m2 : Int) := by omega
          have E2 := Lib.hid (show l2 = [] from List.eq_nil_of_length_eq_zero (by rw [← HN2.out]; exact hz))
          have E2Z := Lib.hid hz
          clear hz
          rcases Nat.eq_zero_or_pos mR with hz | hz
          · have t3 : ¬ (0 : Int) < (mR : Int) := by omega
            have E3 := Lib.hid (show R = [] from List.eq_nil_of_length_eq_zero (by rw [← HMR.out.symm]; exact hz))
            have E3Z := Lib.hid hz
            clear hz
            have HQRL := Lib.hid (show ∀ q, (Value.slice A3 mR c3).ownBlock = some q → q < w4.heap.size from fun q hq => by have := (HO4.out.lt q hq).2; simpa using this)
            have HZL := Lib.hid (show w1.heap.size ≤ w4.heap.size by have := HB4.out.size; simpa using this)
            have HBx21 := Lib.hid (HB4.out.alloc HB4.out.size (.cells #[] 23))
            have HOxR21 := Lib.hid (own_keep HO4.out ((Below.refl w4.heap.size w4).alloc (Nat.le_refl _) (.cells #[] 23)))
            have hoL21 := own_start w4 23 1
            have HOL21 := Lib.hid hoL21
            clear hoL21
            have HBx22 := Lib.hid (HBx21.out.alloc HBx21.out.size (.cells #[.slice A1 m1 c1] 23))
            have HOxR22 := Lib.hid (own_keep HOxR21.out ((Below.refl (w4.alloc (.cells #[] 23)).heap.size (w4.alloc (.cells #[] 23))).alloc (Nat.le_refl _) (.cells #[.slice A1 m1 c1] 23)))
            have HOxL22 := Lib.hid (own_keep HOL21.out ((Below.refl (w4.alloc (.cells #[] 23)).heap.size (w4.alloc (.cells #[] 23))).alloc (Nat.le_refl _) (.cells #[.slice A1 m1 c1] 23)))
            have HNR22 := Lib.hid (row_new (w4.alloc (.cells #[] 23)) [.slice A1 m1 c1] 23 (w4.heap.size + 1) (by simp))
            go_wp2_with (at_builtin; refine wpList_append_row rfl _ _ 29 rfl (w4.heap.size) 23 j0 (.slice none 0 0) 1 24 Try.underlying29 HJ.out.1 HJ.out.2.1 HJ.out.2.2.1 HJ.out.2.2.2 rfl (by decide) _ 0 ([] : List Value) rfl HOxL22.out (some ⟨w4.heap.size + 1, 0, none⟩) 1 1 _ [.slice A1 m1 c1] rfl ?z0 ?a0 HNR22.out ?b0 ?d0 ?e0 ?f0 ?_)
            try (case z0 => first | assumption | (intro h; cases h; done))
            try (case a0 => rfl)
            try (case b0 => first | rfl | (intro u hu; simp at hu; subst hu; rfl))
            try (case d0 => unfold maxLen; omega)
            try (case e0 => omega)
            try (case f0 => first | omega | (simp <;> omega))
            intro v22 w122 hown hgrow
            have hown2 : w122.ownsRow (w4.heap.size) 23 1 v22 1 (hdsC [(A1, m1, c1)]) := hown
            obtain ⟨A122, c122, rfl⟩ := own_shape hown2
            have hzz22 : w4.heap.size ≤ w122.heap.size := by have := hgrow.size; simp at this; omega
            have HBg22 := Lib.hid (HBx22.out.grown hgrow HBx22.out.size (fun q hq => Nat.le_trans HZL.out (HOxL22.out.lt q hq).1))
            have HOgR22 := Lib.hid (own_far HOxR22.out HOxL22.out hgrow HQRL.out)
            have HOL22 := Lib.hid hown2
            clear hown hown2 hgrow
            have HQRK := Lib.hid (show ∀ q, (Value.slice A3 mR c3).ownBlock = some q → q < w122.heap.size from fun q hq => by have := (HOgR22.out.lt q hq).2; simpa using this)
            have HQLK := Lib.hid (show ∀ q, (Value.slice A122 1 c122).ownBlock = some q → q < w122.heap.size from fun q hq => by have := (HOL22.out.lt q hq).2; simpa using this)
            have HZK := Lib.hid (show w1.heap.size ≤ w122.heap.size by have := HBg22.out.size; simpa using this)
            have HBx23 := Lib.hid (HBg22.out.alloc HBg22.out.size (.cells #[] 23))
            have HOxR23 := Lib.hid (own_keep HOgR22.out ((Below.refl w122.heap.size w122).alloc (Nat.le_refl _) (.cells #[] 23)))
            have HOxL23 := Lib.hid (own_keep HOL22.out ((Below.refl w122.heap.size w122).alloc (Nat.le_refl _) (.cells #[] 23)))
            have hoK23 := own_start w122 23 1
            have HOK23 := Lib.hid hoK23
            clear hoK23
            have HLL := Lib.hid (show LvC (w122.alloc (.cells #[] 23)) (w122.alloc (.cells #[] 23)).heap.size A122 [l1] from lvC_one HOxL23.out (HR1.out (w122.alloc (.cells #[] 23)) HBx23.out))
            have HKK := Lib.hid (show LvC (w122.alloc (.cells #[] 23)) (w122.alloc (.cells #[] 23)).heap.size (some ⟨w122.heap.size, 0, none⟩) [] from lvC_nil _ _)
            have HRW := Lib.hid (RowAt.of_own HOxR23.out)
            have HBq := Lib.hid HBx23.out
            have HEL := Lib.hid (show pairL (flatL [l1]) = pairL R by
              have e : flatL [l1] = mergeL l1 l2 := by rw [E2.out, mergeL_nil_right, flat_one]
              rw [e]; exact HFC.out.2.2.symm)
            have HEK := Lib.hid (show pairL (flatL []) = pairL R from by rw [E3.out]; rfl)
            have HLB := Lib.hid (show levB [l1] = true from levB_of (by simp) (by intro r hr; simp at hr; subst hr; exact ⟨P1.out, HV1.out⟩))
            have HKB := Lib.hid (show levB [] = true from levB_of (by simp) (by simp))
            have HWL := Lib.hid (show ∀ r ∈ [l1], r.length ≤ 1048576 ∧ WfIt r by intro r hr; simp at hr; subst hr; exact ⟨by rw [← HN1.out]; exact hs1, HW1.out⟩)
            have HWK := Lib.hid (show ∀ r ∈ [], r.length ≤ 1048576 ∧ WfIt r by simp)
            have HPL := Lib.hid (fun W (hb : Below (w122.alloc (.cells #[] 23)).heap.size (w122.alloc (.cells #[] 23)) W) => iPairs_any A122 1 c122 [l1] W ((HLL.out.below hb).mono hb.size) rfl (by omega) HWL.out HLB.out)
            have HPK := Lib.hid (fun W (hb : Below (w122.alloc (.cells #[] 23)).heap.size (w122.alloc (.cells #[] 23)) W) => iPairs_any (some ⟨w122.heap.size, 0, none⟩) 0 0 [] W ((HKK.out.below hb).mono hb.size) rfl (by omega) HWK.out HKB.out)
            rw [HEL.out] at HPL
            rw [HEK.out] at HPK
            have hpl : (pairL R).length ≤ 1048576 := by have h1 := pairL_len R; rw [HMR.out] at h1; omega
            have HPG := Lib.hid (pairL_good HFR.out)
            have HGN := Lib.hid HFC.out.2.1
            have HRB := Lib.hid HFC.out.1
            have HWR := Lib.hid HFR.out.wf
            have HPLN := Lib.hid hpl
            clear HEL HEK HLB HKB HWL HWK HLL HKK HFC HR1 HR2 HN1 HN2 HW1 HW2 HV1 HV2 HFR hpl
            generalize pairL R = Pq at *
            go_wp2_with fail
            generalize (w122.alloc (.cells #[] 23)) = wq at *
            go_loopw [12] (fun i wr => ∃ k : Nat, i = .int .i64 k ∧ k ≤ mR ∧ Below wq.heap.size wq wr) (fun i _ => mR - (intOf i).toNat)
            case atStart => exact ⟨0, rfl, by omega, Below.refl _ _⟩
            case round =>
              obtain ⟨k, rfl, hk, hb⟩ := hrel
              rename World => wr
              have HB := Lib.hid hb; clear hb
              by_cases hlt : k < mR
              · exact absurd hlt (by have := E3Z.out; omega)
              · obtain rfl : k = mR := by omega
                have HVR := Lib.hid (iRun_any A3 k c3 R wr ((HRW.out.below HB.out).mono HB.out.size) HMR.out.symm (by omega) HWR.out)
                rw [HRB.out] at HVR
                go_wp2_with fail
                refine (HVR.out).mono ?_
                rintro e x1 ⟨rfl, hx1⟩
                have HX1 := Lib.hid (HB.out.trans (hx1.mono HB.out.size)); clear hx1
                go_wp2_with fail
                refine (HPK.out _ HX1.out).mono ?_
                rintro e x2 ⟨v8, rfl, ⟨A8, c8, rfl, ho8⟩, hx2⟩
                have HX2 := Lib.hid (HX1.out.trans (hx2.mono HX1.out.size)); clear hx2
                have HO8 := Lib.hid ho8; clear ho8
                go_wp2_with fail
                refine (HPL.out _ HX2.out).mono ?_
                rintro e x3 ⟨v9, rfl, ⟨A9, c9, rfl, ho9⟩, hx3⟩
                have HX3 := Lib.hid (HX2.out.trans (hx3.mono HX2.out.size))
                have HEP := Lib.hid (equalPairs_same A8 A9 Pq.length c8 c9 Pq x3 (RowAt.of_own (own_keep HO8.out hx3)) (RowAt.of_own ho9) rfl HPLN.out HPG.out)
                clear hx3 ho9 HPL HPK
                generalize Pq.length = pl at *
                go_wp2_with fail
                refine (HEP.out).mono ?_
                rintro e x4 ⟨rfl, hx4⟩
                have HX4 := Lib.hid (HX3.out.trans (hx4.mono HX3.out.size)); clear hx4
                go_wp2_with fail
                go_ret
                exact ⟨rfl, HB1.out.trans ((HBq.out.trans (HX4.out.mono HBq.out.size)).mono HB1.out.size)⟩
          · have t3 : (0 : Int) < (mR : Int) := by omega
            have P3 := Lib.hid (show 0 < R.length by rw [← HMR.out.symm]; exact hz)
            clear hz
            have HQRL := Lib.hid (show ∀ q, (Value.slice A3 mR c3).ownBlock = some q → q < w4.heap.size from fun q hq => by have := (HO4.out.lt q hq).2; simpa using this)
            have HZL := Lib.hid (show w1.heap.size ≤ w4.heap.size by have := HB4.out.size; simpa using this)
            have HBx21 := Lib.hid (HB4.out.alloc HB4.out.size (.cells #[] 23))
            have HOxR21 := Lib.hid (own_keep HO4.out ((Below.refl w4.heap.size w4).alloc (Nat.le_refl _) (.cells #[] 23)))
            have hoL21 := own_start w4 23 1
            have HOL21 := Lib.hid hoL21
            clear hoL21
            have HBx22 := Lib.hid (HBx21.out.alloc HBx21.out.size (.cells #[.slice A1 m1 c1] 23))
            have HOxR22 := Lib.hid (own_keep HOxR21.out ((Below.refl (w4.alloc (.cells #[] 23)).heap.size (w4.alloc (.cells #[] 23))).alloc (Nat.le_refl _) (.cells #[.slice A1 m1 c1] 23)))
            have HOxL22 := Lib.hid (own_keep HOL21.out ((Below.refl (w4.alloc (.cells #[] 23)).heap.size (w4.alloc (.cells #[] 23))).alloc (Nat.le_refl _) (.cells #[.slice A1 m1 c1] 23)))
            have HNR22 := Lib.hid (row_new (w4.alloc (.cells #[] 23)) [.slice A1 m1 c1] 23 (w4.heap.size + 1) (by simp))
            go_wp2_with (at_builtin; refine wpList_append_row rfl _ _ 29 rfl (w4.heap.size) 23 j0 (.slice none 0 0) 1 24 Try.underlying29 HJ.out.1 HJ.out.2.1 HJ.out.2.2.1 HJ.out.2.2.2 rfl (by decide) _ 0 ([] : List Value) rfl HOxL22.out (some ⟨w4.heap.size + 1, 0, none⟩) 1 1 _ [.slice A1 m1 c1] rfl ?z0 ?a0 HNR22.out ?b0 ?d0 ?e0 ?f0 ?_)
            try (case z0 => first | assumption | (intro h; cases h; done))
            try (case a0 => rfl)
            try (case b0 => first | rfl | (intro u hu; simp at hu; subst hu; rfl))
            try (case d0 => unfold maxLen; omega)
            try (case e0 => omega)
            try (case f0 => first | omega | (simp <;> omega))
            intro v22 w122 hown hgrow
            have hown2 : w122.ownsRow (w4.heap.size) 23 1 v22 1 (hdsC [(A1, m1, c1)]) := hown
            obtain ⟨A122, c122, rfl⟩ := own_shape hown2
            have hzz22 : w4.heap.size ≤ w122.heap.size := by have := hgrow.size; simp at this; omega
            have HBg22 := Lib.hid (HBx22.out.grown hgrow HBx22.out.size (fun q hq => Nat.le_trans HZL.out (HOxL22.out.lt q hq).1))
            have HOgR22 := Lib.hid (own_far HOxR22.out HOxL22.out hgrow HQRL.out)
            have HOL22 := Lib.hid hown2
            clear hown hown2 hgrow
            have HQRK := Lib.hid (show ∀ q, (Value.slice A3 mR c3).ownBlock = some q → q < w122.heap.size from fun q hq => by have := (HOgR22.out.lt q hq).2; simpa using this)
            have HQLK := Lib.hid (show ∀ q, (Value.slice A122 1 c122).ownBlock = some q → q < w122.heap.size from fun q hq => by have := (HOL22.out.lt q hq).2; simpa using this)
            have HZK := Lib.hid (show w1.heap.size ≤ w122.heap.size by have := HBg22.out.size; simpa using this)
            have HBx23 := Lib.hid (HBg22.out.alloc HBg22.out.size (.cells #[] 23))
            have HOxR23 := Lib.hid (own_keep HOgR22.out ((Below.refl w122.heap.size w122).alloc (Nat.le_refl _) (.cells #[] 23)))
            have HOxL23 := Lib.hid (own_keep HOL22.out ((Below.refl w122.heap.size w122).alloc (Nat.le_refl _) (.cells #[] 23)))
            have hoK23 := own_start w122 23 1
            have HOK23 := Lib.hid hoK23
            clear hoK23
            have HBx24 := Lib.hid (HBx23.out.alloc HBx23.out.size (.cells #[.slice A3 mR c3] 23))
            have HOxR24 := Lib.hid (own_keep HOxR23.out ((Below.refl (w122.alloc (.cells #[] 23)).heap.size (w122.alloc (.cells #[] 23))).alloc (Nat.le_refl _) (.cells #[.slice A3 mR c3] 23)))
            have HOxL24 := Lib.hid (own_keep HOxL23.out ((Below.refl (w122.alloc (.cells #[] 23)).heap.size (w122.alloc (.cells #[] 23))).alloc (Nat.le_refl _) (.cells #[.slice A3 mR c3] 23)))
            have HOxK24 := Lib.hid (own_keep HOK23.out ((Below.refl (w122.alloc (.cells #[] 23)).heap.size (w122.alloc (.cells #[] 23))).alloc (Nat.le_refl _) (.cells #[.slice A3 mR c3] 23)))
            have HNR24 := Lib.hid (row_new (w122.alloc (.cells #[] 23)) [.slice A3 mR c3] 23 (w122.heap.size + 1) (by simp))
            go_wp2_with (at_builtin; refine wpList_append_row rfl _ _ 29 rfl (w122.heap.size) 23 j0 (.slice none 0 0) 1 24 Try.underlying29 HJ.out.1 HJ.out.2.1 HJ.out.2.2.1 HJ.out.2.2.2 rfl (by decide) _ 0 ([] : List Value) rfl HOxK24.out (some ⟨w122.heap.size + 1, 0, none⟩) 1 1 _ [.slice A3 mR c3] rfl ?z0 ?a0 HNR24.out ?b0 ?d0 ?e0 ?f0 ?_)
            try (case z0 => first | assumption | (intro h; cases h; done))
            try (case a0 => rfl)
            try (case b0 => first | rfl | (intro u hu; simp at hu; subst hu; rfl))
            try (case d0 => unfold maxLen; omega)
            try (case e0 => omega)
            try (case f0 => first | omega | (simp <;> omega))
            intro v24 w124 hown hgrow
            have hown2 : w124.ownsRow (w122.heap.size) 23 1 v24 1 (hdsC [(A3, mR, c3)]) := hown
            obtain ⟨A124, c124, rfl⟩ := own_shape hown2
            have hzz24 : w122.heap.size ≤ w124.heap.size := by have := hgrow.size; simp at this; omega
            have HBg24 := Lib.hid (HBx24.out.grown hgrow HBx24.out.size (fun q hq => Nat.le_trans HZK.out (HOxK24.out.lt q hq).1))
            have HOgR24 := Lib.hid (own_far HOxR24.out HOxK24.out hgrow HQRK.out)
            have HOgL24 := Lib.hid (own_far HOxL24.out HOxK24.out hgrow HQLK.out)
            have HOK24 := Lib.hid hown2
            clear hown hown2 hgrow
            have HLL := Lib.hid (show LvC w124 w124.heap.size A122 [l1] from lvC_one HOgL24.out (HR1.out w124 HBg24.out))
            have HKK := Lib.hid (show LvC w124 w124.heap.size A124 [R] from lvC_one HOK24.out (runAt_of HOgR24.out HMR.out.symm (Below.refl _ _)))
            have HRW := Lib.hid (RowAt.of_own HOgR24.out)
            have HBq := Lib.hid HBg24.out
            have HEL := Lib.hid (show pairL (flatL [l1]) = pairL R by
              have e : flatL [l1] = mergeL l1 l2 := by rw [E2.out, mergeL_nil_right, flat_one]
              rw [e]; exact HFC.out.2.2.symm)
            have HEK := Lib.hid (show pairL (flatL [R]) = pairL R from by rw [flat_one])
            have HLB := Lib.hid (show levB [l1] = true from levB_of (by simp) (by intro r hr; simp at hr; subst hr; exact ⟨P1.out, HV1.out⟩))
            have HKB := Lib.hid (show levB [R] = true from levB_of (by simp) (by intro r hr; simp at hr; subst hr; exact ⟨P3.out, HFC.out.1⟩))
            have HWL := Lib.hid (show ∀ r ∈ [l1], r.length ≤ 1048576 ∧ WfIt r by intro r hr; simp at hr; subst hr; exact ⟨by rw [← HN1.out]; exact hs1, HW1.out⟩)
            have HWK := Lib.hid (show ∀ r ∈ [R], r.length ≤ 1048576 ∧ WfIt r by intro r hr; simp at hr; subst hr; exact ⟨by rw [HMR.out]; omega, HFR.out.wf⟩)
            have HPL := Lib.hid (fun W (hb : Below w124.heap.size w124 W) => iPairs_any A122 1 c122 [l1] W ((HLL.out.below hb).mono hb.size) rfl (by omega) HWL.out HLB.out)
            have HPK := Lib.hid (fun W (hb : Below w124.heap.size w124 W) => iPairs_any A124 1 c124 [R] W ((HKK.out.below hb).mono hb.size) rfl (by omega) HWK.out HKB.out)
            rw [HEL.out] at HPL
            rw [HEK.out] at HPK
            have hpl : (pairL R).length ≤ 1048576 := by have h1 := pairL_len R; rw [HMR.out] at h1; omega
            have HPG := Lib.hid (pairL_good HFR.out)
            have HGN := Lib.hid HFC.out.2.1
            have HRB := Lib.hid HFC.out.1
            have HWR := Lib.hid HFR.out.wf
            have HPLN := Lib.hid hpl
            clear HEL HEK HLB HKB HWL HWK HLL HKK HFC HR1 HR2 HN1 HN2 HW1 HW2 HV1 HV2 HFR hpl
            generalize pairL R = Pq at *
            go_wp2_with fail
            go_loopw [12] (fun i wr => ∃ k : Nat, i = .int .i64 k ∧ k ≤ mR ∧ Below w124.heap.size w124 wr) (fun i _ => mR - (intOf i).toNat)
            case atStart => exact ⟨0, rfl, by omega, Below.refl _ _⟩
            case round =>
              obtain ⟨k, rfl, hk, hb⟩ := hrel
              rename World => wr
              have HB := Lib.hid hb; clear hb
              by_cases hlt : k < mR
              · have hkl : k < R.length := by have := HMR.out; omega
                obtain ⟨bb, off, hA, hbw, e0, e1, e2⟩ := its_at (HRW.out.below HB.out) hkl
                subst hA
                have hi1 : (k : Int) < (mR : Int) := by omega
                have hbs : bb < wr.heap.size := Nat.lt_of_lt_of_le hbw HB.out.size
                have HG0 := Lib.hid (fun hb => HGN.out hb R[k] (List.getElem_mem hkl))
                generalize R[k].2.2 = g at *
                clear HPL HPK
                cases b
                · go_wp2_with fail
                  go_roundw
                  case rel => exact ⟨k + 1, by go_num, by omega, HB.out⟩
                  case measure => simp [intOf]; omega
                · obtain rfl : g = false := HG0.out (by simp)
                  go_wp2_with fail
                  go_roundw
                  case rel => exact ⟨k + 1, by go_num, by omega, HB.out⟩
                  case measure => simp [intOf]; omega
              · obtain rfl : k = mR := by omega
                have HVR := Lib.hid (iRun_any A3 k c3 R wr ((HRW.out.below HB.out).mono HB.out.size) HMR.out.symm (by omega) HWR.out)
                rw [HRB.out] at HVR
                go_wp2_with fail
                refine (HVR.out).mono ?_
                rintro e x1 ⟨rfl, hx1⟩
                have HX1 := Lib.hid (HB.out.trans (hx1.mono HB.out.size)); clear hx1
                go_wp2_with fail
                refine (HPK.out _ HX1.out).mono ?_
                rintro e x2 ⟨v8, rfl, ⟨A8, c8, rfl, ho8⟩, hx2⟩
                have HX2 := Lib.hid (HX1.out.trans (hx2.mono HX1.out.size)); clear hx2
                have HO8 := Lib.hid ho8; clear ho8
                go_wp2_with fail
                refine (HPL.out _ HX2.out).mono ?_
                rintro e x3 ⟨v9, rfl, ⟨A9, c9, rfl, ho9⟩, hx3⟩
                have HX3 := Lib.hid (HX2.out.trans (hx3.mono HX2.out.size))
                have HEP := Lib.hid (equalPairs_same A8 A9 Pq.length c8 c9 Pq x3 (RowAt.of_own (own_keep HO8.out hx3)) (RowAt.of_own ho9) rfl HPLN.out HPG.out)
                clear hx3 ho9 HPL HPK
                generalize Pq.length = pl at *
                go_wp2_with fail
                refine (HEP.out).mono ?_
                rintro e x4 ⟨rfl, hx4⟩
                have HX4 := Lib.hid (HX3.out.trans (hx4.mono HX3.out.size)); clear hx4
                go_wp2_with fail
                go_ret
                exact ⟨rfl, HB1.out.trans ((HBq.out.trans (HX4.out.mono HBq.out.size)).mono HB1.out.size)⟩
        · have t2 : (0 : Int) < (m2 : Int) := by omega
          have P2 := Lib.hid (show 0 < l2.length by rw [← HN2.out]; exact hz)
          clear hz
          rcases Nat.eq_zero_or_pos mR with hz | hz
          · have t3 : ¬ (0 : Int) < (mR : Int) := by omega
            have E3 := Lib.hid (show R = [] from List.eq_nil_of_length_eq_zero (by rw [← HMR.out.symm]; exact hz))
            have E3Z := Lib.hid hz
            clear hz
            have HQRL := Lib.hid (show ∀ q, (Value.slice A3 mR c3).ownBlock = some q → q < w4.heap.size from fun q hq => by have := (HO4.out.lt q hq).2; simpa using this)
            have HZL := Lib.hid (show w1.heap.size ≤ w4.heap.size by have := HB4.out.size; simpa using this)
            have HBx21 := Lib.hid (HB4.out.alloc HB4.out.size (.cells #[] 23))
            have HOxR21 := Lib.hid (own_keep HO4.out ((Below.refl w4.heap.size w4).alloc (Nat.le_refl _) (.cells #[] 23)))
            have hoL21 := own_start w4 23 1
            have HOL21 := Lib.hid hoL21
            clear hoL21
            have HBx22 := Lib.hid (HBx21.out.alloc HBx21.out.size (.cells #[.slice A1 m1 c1] 23))
            have HOxR22 := Lib.hid (own_keep HOxR21.out ((Below.refl (w4.alloc (.cells #[] 23)).heap.size (w4.alloc (.cells #[] 23))).alloc (Nat.le_refl _) (.cells #[.slice A1 m1 c1] 23)))
            have HOxL22 := Lib.hid (own_keep HOL21.out ((Below.refl (w4.alloc (.cells #[] 23)).heap.size (w4.alloc (.cells #[] 23))).alloc (Nat.le_refl _) (.cells #[.slice A1 m1 c1] 23)))
            have HNR22 := Lib.hid (row_new (w4.alloc (.cells #[] 23)) [.slice A1 m1 c1] 23 (w4.heap.size + 1) (by simp))
            go_wp2_with (at_builtin; refine wpList_append_row rfl _ _ 29 rfl (w4.heap.size) 23 j0 (.slice none 0 0) 1 24 Try.underlying29 HJ.out.1 HJ.out.2.1 HJ.out.2.2.1 HJ.out.2.2.2 rfl (by decide) _ 0 ([] : List Value) rfl HOxL22.out (some ⟨w4.heap.size + 1, 0, none⟩) 1 1 _ [.slice A1 m1 c1] rfl ?z0 ?a0 HNR22.out ?b0 ?d0 ?e0 ?f0 ?_)
            try (case z0 => first | assumption | (intro h; cases h; done))
            try (case a0 => rfl)
            try (case b0 => first | rfl | (intro u hu; simp at hu; subst hu; rfl))
            try (case d0 => unfold maxLen; omega)
            try (case e0 => omega)
            try (case f0 => first | omega | (simp <;> omega))
            intro v22 w122 hown hgrow
            have hown2 : w122.ownsRow (w4.heap.size) 23 1 v22 1 (hdsC [(A1, m1, c1)]) := hown
            obtain ⟨A122, c122, rfl⟩ := own_shape hown2
            have hzz22 : w4.heap.size ≤ w122.heap.size := by have := hgrow.size; simp at this; omega
            have HBg22 := Lib.hid (HBx22.out.grown hgrow HBx22.out.size (fun q hq => Nat.le_trans HZL.out (HOxL22.out.lt q hq).1))
            have HOgR22 := Lib.hid (own_far HOxR22.out HOxL22.out hgrow HQRL.out)
            have HOL22 := Lib.hid hown2
            clear hown hown2 hgrow
            have HBx23 := Lib.hid (HBg22.out.alloc HBg22.out.size (.cells #[.slice A2 m2 c2] 23))
            have HOxR23 := Lib.hid (own_keep HOgR22.out ((Below.refl w122.heap.size w122).alloc (Nat.le_refl _) (.cells #[.slice A2 m2 c2] 23)))
            have HOxL23 := Lib.hid (own_keep HOL22.out ((Below.refl w122.heap.size w122).alloc (Nat.le_refl _) (.cells #[.slice A2 m2 c2] 23)))
            have HNR23 := Lib.hid (row_new w122 [.slice A2 m2 c2] 23 (w122.heap.size) (by simp))
            go_wp2_with (at_builtin; refine wpList_append_row rfl _ _ 29 rfl (w4.heap.size) 23 j0 (.slice none 0 0) 1 24 Try.underlying29 HJ.out.1 HJ.out.2.1 HJ.out.2.2.1 HJ.out.2.2.2 rfl (by decide) _ 1 (hdsC [(A1, m1, c1)]) rfl HOxL23.out (some ⟨w122.heap.size, 0, none⟩) 1 1 _ [.slice A2 m2 c2] rfl ?z0 ?a0 HNR23.out ?b0 ?d0 ?e0 ?f0 ?_)
            try (case z0 => first | assumption | (intro h; cases h; done))
            try (case a0 => rfl)
            try (case b0 => first | rfl | (intro u hu; simp at hu; subst hu; rfl))
            try (case d0 => unfold maxLen; omega)
            try (case e0 => omega)
            try (case f0 => first | omega | (simp <;> omega))
            intro v23 w123 hown hgrow
            have hown2 : w123.ownsRow (w4.heap.size) 23 1 v23 2 (hdsC [(A1, m1, c1), (A2, m2, c2)]) := hown
            obtain ⟨A123, c123, rfl⟩ := own_shape hown2
            have hzz23 : w4.heap.size ≤ w123.heap.size := by have := hgrow.size; simp at this; omega
            have HBg23 := Lib.hid (HBx23.out.grown hgrow HBx23.out.size (fun q hq => Nat.le_trans HZL.out (HOxL23.out.lt q hq).1))
            have HOgR23 := Lib.hid (own_far HOxR23.out HOxL23.out hgrow HQRL.out)
            have HOL23 := Lib.hid hown2
            clear hown hown2 hgrow
            have HQRK := Lib.hid (show ∀ q, (Value.slice A3 mR c3).ownBlock = some q → q < w123.heap.size from fun q hq => by have := (HOgR23.out.lt q hq).2; simpa using this)
            have HQLK := Lib.hid (show ∀ q, (Value.slice A123 2 c123).ownBlock = some q → q < w123.heap.size from fun q hq => by have := (HOL23.out.lt q hq).2; simpa using this)
            have HZK := Lib.hid (show w1.heap.size ≤ w123.heap.size by have := HBg23.out.size; simpa using this)
            have HBx24 := Lib.hid (HBg23.out.alloc HBg23.out.size (.cells #[] 23))
            have HOxR24 := Lib.hid (own_keep HOgR23.out ((Below.refl w123.heap.size w123).alloc (Nat.le_refl _) (.cells #[] 23)))
            have HOxL24 := Lib.hid (own_keep HOL23.out ((Below.refl w123.heap.size w123).alloc (Nat.le_refl _) (.cells #[] 23)))
            have hoK24 := own_start w123 23 1
            have HOK24 := Lib.hid hoK24
            clear hoK24
            have HLL := Lib.hid (show LvC (w123.alloc (.cells #[] 23)) (w123.alloc (.cells #[] 23)).heap.size A123 [l1, l2] from lvC_two HOxL24.out (HR1.out (w123.alloc (.cells #[] 23)) HBx24.out) (HR2.out (w123.alloc (.cells #[] 23)) HBx24.out))
            have HKK := Lib.hid (show LvC (w123.alloc (.cells #[] 23)) (w123.alloc (.cells #[] 23)).heap.size (some ⟨w123.heap.size, 0, none⟩) [] from lvC_nil _ _)
            have HRW := Lib.hid (RowAt.of_own HOxR24.out)
            have HBq := Lib.hid HBx24.out
            have HEL := Lib.hid (show pairL (flatL [l1, l2]) = pairL R by
              have e : flatL [l1, l2] = mergeL l1 l2 := flat_two _ _
              rw [e]; exact HFC.out.2.2.symm)
            have HEK := Lib.hid (show pairL (flatL []) = pairL R from by rw [E3.out]; rfl)
            have HLB := Lib.hid (show levB [l1, l2] = true from levB_of (by simp) (by intro r hr; simp at hr; rcases hr with rfl | rfl; exact ⟨P1.out, HV1.out⟩; exact ⟨P2.out, HV2.out⟩))
            have HKB := Lib.hid (show levB [] = true from levB_of (by simp) (by simp))
            have HWL := Lib.hid (show ∀ r ∈ [l1, l2], r.length ≤ 1048576 ∧ WfIt r by intro r hr; simp at hr; rcases hr with rfl | rfl; exact ⟨by rw [← HN1.out]; exact hs1, HW1.out⟩; exact ⟨by rw [← HN2.out]; exact hs2, HW2.out⟩)
            have HWK := Lib.hid (show ∀ r ∈ [], r.length ≤ 1048576 ∧ WfIt r by simp)
            have HPL := Lib.hid (fun W (hb : Below (w123.alloc (.cells #[] 23)).heap.size (w123.alloc (.cells #[] 23)) W) => iPairs_any A123 2 c123 [l1, l2] W ((HLL.out.below hb).mono hb.size) rfl (by omega) HWL.out HLB.out)
            have HPK := Lib.hid (fun W (hb : Below (w123.alloc (.cells #[] 23)).heap.size (w123.alloc (.cells #[] 23)) W) => iPairs_any (some ⟨w123.heap.size, 0, none⟩) 0 0 [] W ((HKK.out.below hb).mono hb.size) rfl (by omega) HWK.out HKB.out)
            rw [HEL.out] at HPL
            rw [HEK.out] at HPK
            have hpl : (pairL R).length ≤ 1048576 := by have h1 := pairL_len R; rw [HMR.out] at h1; omega
            have HPG := Lib.hid (pairL_good HFR.out)
            have HGN := Lib.hid HFC.out.2.1
            have HRB := Lib.hid HFC.out.1
            have HWR := Lib.hid HFR.out.wf
            have HPLN := Lib.hid hpl
            clear HEL HEK HLB HKB HWL HWK HLL HKK HFC HR1 HR2 HN1 HN2 HW1 HW2 HV1 HV2 HFR hpl
            generalize pairL R = Pq at *
            go_wp2_with fail
            generalize (w123.alloc (.cells #[] 23)) = wq at *
            go_loopw [12] (fun i wr => ∃ k : Nat, i = .int .i64 k ∧ k ≤ mR ∧ Below wq.heap.size wq wr) (fun i _ => mR - (intOf i).toNat)
            case atStart => exact ⟨0, rfl, by omega, Below.refl _ _⟩
            case round =>
              obtain ⟨k, rfl, hk, hb⟩ := hrel
              rename World => wr
              have HB := Lib.hid hb; clear hb
              by_cases hlt : k < mR
              · exact absurd hlt (by have := E3Z.out; omega)
              · obtain rfl : k = mR := by omega
                have HVR := Lib.hid (iRun_any A3 k c3 R wr ((HRW.out.below HB.out).mono HB.out.size) HMR.out.symm (by omega) HWR.out)
                rw [HRB.out] at HVR
                go_wp2_with fail
                refine (HVR.out).mono ?_
                rintro e x1 ⟨rfl, hx1⟩
                have HX1 := Lib.hid (HB.out.trans (hx1.mono HB.out.size)); clear hx1
                go_wp2_with fail
                refine (HPK.out _ HX1.out).mono ?_
                rintro e x2 ⟨v8, rfl, ⟨A8, c8, rfl, ho8⟩, hx2⟩
                have HX2 := Lib.hid (HX1.out.trans (hx2.mono HX1.out.size)); clear hx2
                have HO8 := Lib.hid ho8; clear ho8
                go_wp2_with fail
                refine (HPL.out _ HX2.out).mono ?_
                rintro e x3 ⟨v9, rfl, ⟨A9, c9, rfl, ho9⟩, hx3⟩
                have HX3 := Lib.hid (HX2.out.trans (hx3.mono HX2.out.size))
                have HEP := Lib.hid (equalPairs_same A8 A9 Pq.length c8 c9 Pq x3 (RowAt.of_own (own_keep HO8.out hx3)) (RowAt.of_own ho9) rfl HPLN.out HPG.out)
                clear hx3 ho9 HPL HPK
                generalize Pq.length = pl at *
                go_wp2_with fail
                refine (HEP.out).mono ?_
                rintro e x4 ⟨rfl, hx4⟩
                have HX4 := Lib.hid (HX3.out.trans (hx4.mono HX3.out.size)); clear hx4
                go_wp2_with fail
                go_ret
                exact ⟨rfl, HB1.out.trans ((HBq.out.trans (HX4.out.mono HBq.out.size)).mono HB1.out.size)⟩
          · have t3 : (0 : Int) < (mR : Int) := by omega
            have P3 := Lib.hid (show 0 < R.length by rw [← HMR.out.symm]; exact hz)
            clear hz
            have HQRL := Lib.hid (show ∀ q, (Value.slice A3 mR c3).ownBlock = some q → q < w4.heap.size from fun q hq => by have := (HO4.out.lt q hq).2; simpa using this)
            have HZL := Lib.hid (show w1.heap.size ≤ w4.heap.size by have := HB4.out.size; simpa using this)
            have HBx21 := Lib.hid (HB4.out.alloc HB4.out.size (.cells #[] 23))
            have HOxR21 := Lib.hid (own_keep HO4.out ((Below.refl w4.heap.size w4).alloc (Nat.le_refl _) (.cells #[] 23)))
            have hoL21 := own_start w4 23 1
            have HOL21 := Lib.hid hoL21
            clear hoL21
            have HBx22 := Lib.hid (HBx21.out.alloc HBx21.out.size (.cells #[.slice A1 m1 c1] 23))
            have HOxR22 := Lib.hid (own_keep HOxR21.out ((Below.refl (w4.alloc (.cells #[] 23)).heap.size (w4.alloc (.cells #[] 23))).alloc (Nat.le_refl _) (.cells #[.slice A1 m1 c1] 23)))
            have HOxL22 := Lib.hid (own_keep HOL21.out ((Below.refl (w4.alloc (.cells #[] 23)).heap.size (w4.alloc (.cells #[] 23))).alloc (Nat.le_refl _) (.cells #[.slice A1 m1 c1] 23)))
            have HNR22 := Lib.hid (row_new (w4.alloc (.cells #[] 23)) [.slice A1 m1 c1] 23 (w4.heap.size + 1) (by simp))
            go_wp2_with (at_builtin; refine wpList_append_row rfl _ _ 29 rfl (w4.heap.size) 23 j0 (.slice none 0 0) 1 24 Try.underlying29 HJ.out.1 HJ.out.2.1 HJ.out.2.2.1 HJ.out.2.2.2 rfl (by decide) _ 0 ([] : List Value) rfl HOxL22.out (some ⟨w4.heap.size + 1, 0, none⟩) 1 1 _ [.slice A1 m1 c1] rfl ?z0 ?a0 HNR22.out ?b0 ?d0 ?e0 ?f0 ?_)
            try (case z0 => first | assumption | (intro h; cases h; done))
            try (case a0 => rfl)
            try (case b0 => first | rfl | (intro u hu; simp at hu; subst hu; rfl))
            try (case d0 => unfold maxLen; omega)
            try (case e0 => omega)
            try (case f0 => first | omega | (simp <;> omega))
            intro v22 w122 hown hgrow
            have hown2 : w122.ownsRow (w4.heap.size) 23 1 v22 1 (hdsC [(A1, m1, c1)]) := hown
            obtain ⟨A122, c122, rfl⟩ := own_shape hown2
            have hzz22 : w4.heap.size ≤ w122.heap.size := by have := hgrow.size; simp at this; omega
            have HBg22 := Lib.hid (HBx22.out.grown hgrow HBx22.out.size (fun q hq => Nat.le_trans HZL.out (HOxL22.out.lt q hq).1))
            have HOgR22 := Lib.hid (own_far HOxR22.out HOxL22.out hgrow HQRL.out)
            have HOL22 := Lib.hid hown2
            clear hown hown2 hgrow
            have HBx23 := Lib.hid (HBg22.out.alloc HBg22.out.size (.cells #[.slice A2 m2 c2] 23))
            have HOxR23 := Lib.hid (own_keep HOgR22.out ((Below.refl w122.heap.size w122).alloc (Nat.le_refl _) (.cells #[.slice A2 m2 c2] 23)))
            have HOxL23 := Lib.hid (own_keep HOL22.out ((Below.refl w122.heap.size w122).alloc (Nat.le_refl _) (.cells #[.slice A2 m2 c2] 23)))
            have HNR23 := Lib.hid (row_new w122 [.slice A2 m2 c2] 23 (w122.heap.size) (by simp))
            go_wp2_with (at_builtin; refine wpList_append_row rfl _ _ 29 rfl (w4.heap.size) 23 j0 (.slice none 0 0) 1 24 Try.underlying29 HJ.out.1 HJ.out.2.1 HJ.out.2.2.1 HJ.out.2.2.2 rfl (by decide) _ 1 (hdsC [(A1, m1, c1)]) rfl HOxL23.out (some ⟨w122.heap.size, 0, none⟩) 1 1 _ [.slice A2 m2 c2] rfl ?z0 ?a0 HNR23.out ?b0 ?d0 ?e0 ?f0 ?_)
            try (case z0 => first | assumption | (intro h; cases h; done))
            try (case a0 => rfl)
            try (case b0 => first | rfl | (intro u hu; simp at hu; subst hu; rfl))
            try (case d0 => unfold maxLen; omega)
            try (case e0 => omega)
            try (case f0 => first | omega | (simp <;> omega))
            intro v23 w123 hown hgrow
            have hown2 : w123.ownsRow (w4.heap.size) 23 1 v23 2 (hdsC [(A1, m1, c1), (A2, m2, c2)]) := hown
            obtain ⟨A123, c123, rfl⟩ := own_shape hown2
            have hzz23 : w4.heap.size ≤ w123.heap.size := by have := hgrow.size; simp at this; omega
            have HBg23 := Lib.hid (HBx23.out.grown hgrow HBx23.out.size (fun q hq => Nat.le_trans HZL.out (HOxL23.out.lt q hq).1))
            have HOgR23 := Lib.hid (own_far HOxR23.out HOxL23.out hgrow HQRL.out)
            have HOL23 := Lib.hid hown2
            clear hown hown2 hgrow
            have HQRK := Lib.hid (show ∀ q, (Value.slice A3 mR c3).ownBlock = some q → q < w123.heap.size from fun q hq => by have := (HOgR23.out.lt q hq).2; simpa using this)
            have HQLK := Lib.hid (show ∀ q, (Value.slice A123 2 c123).ownBlock = some q → q < w123.heap.size from fun q hq => by have := (HOL23.out.lt q hq).2; simpa using this)
            have HZK := Lib.hid (show w1.heap.size ≤ w123.heap.size by have := HBg23.out.size; simpa using this)
            have HBx24 := Lib.hid (HBg23.out.alloc HBg23.out.size (.cells #[] 23))
            have HOxR24 := Lib.hid (own_keep HOgR23.out ((Below.refl w123.heap.size w123).alloc (Nat.le_refl _) (.cells #[] 23)))
            have HOxL24 := Lib.hid (own_keep HOL23.out ((Below.refl w123.heap.size w123).alloc (Nat.le_refl _) (.cells #[] 23)))
            have hoK24 := own_start w123 23 1
            have HOK24 := Lib.hid hoK24
            clear hoK24
            have HBx25 := Lib.hid (HBx24.out.alloc HBx24.out.size (.cells #[.slice A3 mR c3] 23))
            have HOxR25 := Lib.hid (own_keep HOxR24.out ((Below.refl (w123.alloc (.cells #[] 23)).heap.size (w123.alloc (.cells #[] 23))).alloc (Nat.le_refl _) (.cells #[.slice A3 mR c3] 23)))
            have HOxL25 := Lib.hid (own_keep HOxL24.out ((Below.refl (w123.alloc (.cells #[] 23)).heap.size (w123.alloc (.cells #[] 23))).alloc (Nat.le_refl _) (.cells #[.slice A3 mR c3] 23)))
            have HOxK25 := Lib.hid (own_keep HOK24.out ((Below.refl (w123.alloc (.cells #[] 23)).heap.size (w123.alloc (.cells #[] 23))).alloc (Nat.le_refl _) (.cells #[.slice A3 mR c3] 23)))
            have HNR25 := Lib.hid (row_new (w123.alloc (.cells #[] 23)) [.slice A3 mR c3] 23 (w123.heap.size + 1) (by simp))
            go_wp2_with (at_builtin; refine wpList_append_row rfl _ _ 29 rfl (w123.heap.size) 23 j0 (.slice none 0 0) 1 24 Try.underlying29 HJ.out.1 HJ.out.2.1 HJ.out.2.2.1 HJ.out.2.2.2 rfl (by decide) _ 0 ([] : List Value) rfl HOxK25.out (some ⟨w123.heap.size + 1, 0, none⟩) 1 1 _ [.slice A3 mR c3] rfl ?z0 ?a0 HNR25.out ?b0 ?d0 ?e0 ?f0 ?_)
            try (case z0 => first | assumption | (intro h; cases h; done))
            try (case a0 => rfl)
            try (case b0 => first | rfl | (intro u hu; simp at hu; subst hu; rfl))
            try (case d0 => unfold maxLen; omega)
            try (case e0 => omega)
            try (case f0 => first | omega | (simp <;> omega))
            intro v25 w125 hown hgrow
            have hown2 : w125.ownsRow (w123.heap.size) 23 1 v25 1 (hdsC [(A3, mR, c3)]) := hown
            obtain ⟨A125, c125, rfl⟩ := own_shape hown2
            have hzz25 : w123.heap.size ≤ w125.heap.size := by have := hgrow.size; simp at this; omega
            have HBg25 := Lib.hid (HBx25.out.grown hgrow HBx25.out.size (fun q hq => Nat.le_trans HZK.out (HOxK25.out.lt q hq).1))
            have HOgR25 := Lib.hid (own_far HOxR25.out HOxK25.out hgrow HQRK.out)
            have HOgL25 := Lib.hid (own_far HOxL25.out HOxK25.out hgrow HQLK.out)
            have HOK25 := Lib.hid hown2
            clear hown hown2 hgrow
            have HLL := Lib.hid (show LvC w125 w125.heap.size A123 [l1, l2] from lvC_two HOgL25.out (HR1.out w125 HBg25.out) (HR2.out w125 HBg25.out))
            have HKK := Lib.hid (show LvC w125 w125.heap.size A125 [R] from lvC_one HOK25.out (runAt_of HOgR25.out HMR.out.symm (Below.refl _ _)))
            have HRW := Lib.hid (RowAt.of_own HOgR25.out)
            have HBq := Lib.hid HBg25.out
            have HEL := Lib.hid (show pairL (flatL [l1, l2]) = pairL R by
              have e : flatL [l1, l2] = mergeL l1 l2 := flat_two _ _
              rw [e]; exact HFC.out.2.2.symm)
            have HEK := Lib.hid (show pairL (flatL [R]) = pairL R from by rw [flat_one])
            have HLB := Lib.hid (show levB [l1, l2] = true from levB_of (by simp) (by intro r hr; simp at hr; rcases hr with rfl | rfl; exact ⟨P1.out, HV1.out⟩; exact ⟨P2.out, HV2.out⟩))
            have HKB := Lib.hid (show levB [R] = true from levB_of (by simp) (by intro r hr; simp at hr; subst hr; exact ⟨P3.out, HFC.out.1⟩))
            have HWL := Lib.hid (show ∀ r ∈ [l1, l2], r.length ≤ 1048576 ∧ WfIt r by intro r hr; simp at hr; rcases hr with rfl | rfl; exact ⟨by rw [← HN1.out]; exact hs1, HW1.out⟩; exact ⟨by rw [← HN2.out]; exact hs2, HW2.out⟩)
            have HWK := Lib.hid (show ∀ r ∈ [R], r.length ≤ 1048576 ∧ WfIt r by intro r hr; simp at hr; subst hr; exact ⟨by rw [HMR.out]; omega, HFR.out.wf⟩)
            have HPL := Lib.hid (fun W (hb : Below w125.heap.size w125 W) => iPairs_any A123 2 c123 [l1, l2] W ((HLL.out.below hb).mono hb.size) rfl (by omega) HWL.out HLB.out)
            have HPK := Lib.hid (fun W (hb : Below w125.heap.size w125 W) => iPairs_any A125 1 c125 [R] W ((HKK.out.below hb).mono hb.size) rfl (by omega) HWK.out HKB.out)
            rw [HEL.out] at HPL
            rw [HEK.out] at HPK
            have hpl : (pairL R).length ≤ 1048576 := by have h1 := pairL_len R; rw [HMR.out] at h1; omega
            have HPG := Lib.hid (pairL_good HFR.out)
            have HGN := Lib.hid HFC.out.2.1
            have HRB := Lib.hid HFC.out.1
            have HWR := Lib.hid HFR.out.wf
            have HPLN := Lib.hid hpl
            clear HEL HEK HLB HKB HWL HWK HLL HKK HFC HR1 HR2 HN1 HN2 HW1 HW2 HV1 HV2 HFR hpl
            generalize pairL R = Pq at *
            go_wp2_with fail
            go_loopw [12] (fun i wr => ∃ k : Nat, i = .int .i64 k ∧ k ≤ mR ∧ Below w125.heap.size w125 wr) (fun i _ => mR - (intOf i).toNat)
            case atStart => exact ⟨0, rfl, by omega, Below.refl _ _⟩
            case round =>
              obtain ⟨k, rfl, hk, hb⟩ := hrel
              rename World => wr
              have HB := Lib.hid hb; clear hb
              by_cases hlt : k < mR
              · have hkl : k < R.length := by have := HMR.out; omega
                obtain ⟨bb, off, hA, hbw, e0, e1, e2⟩ := its_at (HRW.out.below HB.out) hkl
                subst hA
                have hi1 : (k : Int) < (mR : Int) := by omega
                have hbs : bb < wr.heap.size := Nat.lt_of_lt_of_le hbw HB.out.size
                have HG0 := Lib.hid (fun hb => HGN.out hb R[k] (List.getElem_mem hkl))
                generalize R[k].2.2 = g at *
                clear HPL HPK
                cases b
                · go_wp2_with fail
                  go_roundw
                  case rel => exact ⟨k + 1, by go_num, by omega, HB.out⟩
                  case measure => simp [intOf]; omega
                · obtain rfl : g = false := HG0.out (by simp)
                  go_wp2_with fail
                  go_roundw
                  case rel => exact ⟨k + 1, by go_num, by omega, HB.out⟩
                  case measure => simp [intOf]; omega
              · obtain rfl : k = mR := by omega
                have HVR := Lib.hid (iRun_any A3 k c3 R wr ((HRW.out.below HB.out).mono HB.out.size) HMR.out.symm (by omega) HWR.out)
                rw [HRB.out] at HVR
                go_wp2_with fail
                refine (HVR.out).mono ?_
                rintro e x1 ⟨rfl, hx1⟩
                have HX1 := Lib.hid (HB.out.trans (hx1.mono HB.out.size)); clear hx1
                go_wp2_with fail
                refine (HPK.out _ HX1.out).mono ?_
                rintro e x2 ⟨v8, rfl, ⟨A8, c8, rfl, ho8⟩, hx2⟩
                have HX2 := Lib.hid (HX1.out.trans (hx2.mono HX1.out.size)); clear hx2
                have HO8 := Lib.hid ho8; clear ho8
                go_wp2_with fail
                refine (HPL.out _ HX2.out).mono ?_
                rintro e x3 ⟨v9, rfl, ⟨A9, c9, rfl, ho9⟩, hx3⟩
                have HX3 := Lib.hid (HX2.out.trans (hx3.mono HX2.out.size))
                have HEP := Lib.hid (equalPairs_same A8 A9 Pq.length c8 c9 Pq x3 (RowAt.of_own (own_keep HO8.out hx3)) (RowAt.of_own ho9) rfl HPLN.out HPG.out)
                clear hx3 ho9 HPL HPK
                generalize Pq.length = pl at *
                go_wp2_with fail
                refine (HEP.out).mono ?_
                rintro e x4 ⟨rfl, hx4⟩
                have HX4 := Lib.hid (HX3.out.trans (hx4.mono HX3.out.size)); clear hx4
                go_wp2_with fail
                go_ret
                exact ⟨rfl, HB1.out.trans ((HBq.out.trans (HX4.out.mono HBq.out.size)).mono HB1.out.size)⟩
    · have hno : mergeR l1 l2 b = ([], false) := by unfold mergeR; rw [if_neg hv]
      rw [hno] at HI HS
      clear hv hno HFR HR1 HR2 HW1 HW2 HN1 HN2
      go_wp2_with fail
      refine (HI.out _ (Below.refl _ _)).mono ?_
      rintro e w2 ⟨v, rfl, ⟨A3, c3, rfl, ho3⟩, hb2⟩
      have HB2 := Lib.hid hb2; clear hb2
      have HO3 := Lib.hid (show w2.ownsRow w1.heap.size 31 3 (.slice A3 0 c3) 0 (itsC []) from ho3); clear ho3
      go_wp2_with fail
      refine (HS.out _ HB2.out).mono ?_
      rintro e w3 ⟨v, rfl, ⟨A4, c4, rfl, ho4⟩, hb3⟩
      have HB3 := Lib.hid (HB2.out.trans (hb3.mono HB2.out.size))
      have hr3 := RowAt.of_own (own_keep HO3.out hb3)
      have hr4 : RowAt w3 w3.heap.size A4 (itsC []) := RowAt.of_own (show w3.ownsRow w2.heap.size 31 3 (.slice A4 0 c4) 0 (itsC []) from ho4)
      have HEQ := Lib.hid (fun W (hb : Below w3.heap.size w3 W) => equalRun_same A3 A4 0 c3 c4 [] W ((hr3.below hb).mono hb.size) ((hr4.below hb).mono hb.size) rfl (by omega) (fun p hp => by cases hp))
      clear ho4 hb3 hr3 hr4 HI HS
      go_wp2_with fail
      refine (HEQ.out _ (Below.refl _ _)).mono ?_
      rintro e w4 ⟨rfl, hb4⟩
      have HB4 := Lib.hid hb4; clear hb4
      go_wp2_with fail
      refine (HEQ.out _ HB4.out).mono ?_
      rintro e w5 ⟨rfl, hb5⟩
      have HB5 := Lib.hid (HB4.out.trans (hb5.mono HB4.out.size)); clear hb5
      go_wp2_with fail
      go_ret
      exact ⟨rfl, HB1.out.trans ((HB3.out.trans (HB5.out.mono HB3.out.size)).mono HB1.out.size)⟩
  · go_enter Try.func3, Try.ntmps3
    go_wp2
    go_ret
    exact ⟨rfl, Below.refl _ _⟩
end Go.Proofs.Ytofpdelolniklaa
