/- The walk of the law of DepthsOf (P16), and what it asks. No condition. -/
import Derived.Test.YthojfcpklknlkabDrawT
import Derived.Test.YthojfcpklknlkabDepth
set_option linter.unusedVariables false
set_option linter.unusedSimpArgs false
namespace Go.Proofs.Ythojfcpklknlkab
open Go.RowKit Go.ChangeShapes Go.WideShapes

/-! the plain mathematics -/
theorem lastIx_none {l : List Int} {p : Int} : ∀ {k}, k ≤ l.length → (lastIx l p k < 0 ↔ (l.take k).contains p = false)
  | 0, _ => by simp [lastIx]
  | k + 1, h => by
    have ih := lastIx_none (l := l) (p := p) (k := k) (by omega)
    have hg : l.getD k 0 = l[k]'(by omega) := by simp [List.getD_eq_getElem?_getD, show k < l.length by omega]
    rw [lastIx, hg, List.take_succ_eq_append_getElem (by omega)]
    generalize l[k]'(by omega) = y at *
    generalize l.take k = t at *
    by_cases he : y = p
    · subst he
      rw [if_pos rfl]
      constructor
      · intro h1; omega
      · intro h1; simp at h1
    · rw [if_neg he, ih]
      constructor
      · intro h1; simp at h1 ⊢; exact ⟨h1, fun e => he e.symm⟩
      · intro h1; simp at h1 ⊢; exact h1.1
theorem cntF_mono (l : List Int) : ∀ {a b : Nat}, a ≤ b → cntF l a ≤ cntF l b
  | a, 0, h => by have : a = 0 := by omega
                  subst this; exact Nat.le_refl _
  | a, b + 1, h => by
    rcases Nat.lt_or_ge a (b + 1) with h1 | h1
    · have := cntF_mono l (a := a) (b := b) (by omega)
      rw [cntF]; omega
    · have : a = b + 1 := by omega
      subst this; exact Nat.le_refl _
theorem cntB_drop : ∀ (l : List Int) (a : Nat), cntB (l.drop a) ≤ cntB l
  | [], a => by simp
  | x :: l, 0 => by simp
  | x :: l, a + 1 => by
    have := cntB_drop l a
    rw [List.drop_succ_cons, cntB]; omega
theorem cntD_take (l : List Int) {b : Nat} (h : b ≤ l.length) : cntD (l.take b) = cntF l b := by
  unfold cntD
  have := cntF_app (l.take b) (l.drop b) b (by rw [List.length_take]; omega)
  rw [List.take_append_drop] at this
  rw [List.length_take, Nat.min_eq_left h, this]
theorem cntD_seg (l : List Int) (a : Nat) {b : Nat} (h : b ≤ l.length) : cntD (segI l a b) ≤ cntD l := by
  unfold segI
  rw [cntD_eq _ _ rfl]
  have h1 := cntB_drop (l.take b) a
  have h2 : cntB (l.take b) = cntD (l.take b) := (cntD_eq _ _ rfl).symm
  rw [h2, cntD_take l h] at h1
  exact Nat.le_trans h1 (cntF_mono l h)
theorem cntB_pos (x : Int) (l : List Int) : 1 ≤ cntB (x :: l) := by
  induction l generalizing x with
  | nil => simp [cntB]
  | cons y l ih => have := ih y; rw [cntB]; omega
theorem cntD_pos {l : List Int} {a b : Nat} (h1 : a < b) (h2 : b ≤ l.length) : 1 ≤ cntD (segI l a b) := by
  rw [cntD_eq _ _ rfl, segI_step h1 h2]
  exact cntB_pos _ _
theorem depthI_cases {l : List Int} {k : Nat} (h : k < l.length) :
    (depthI l k = -1 ∧ cntF l (k + 1) = cntF l k + 1) ∨ (1 ≤ depthI l k ∧ depthI l k ≤ (cntD l : Int) ∧ cntF l (k + 1) = cntF l k) := by
  have hg : l.getD k 0 = l[k] := by simp [List.getD_eq_getElem?_getD, h]
  have hb := lastIx_lt l l[k] k
  have hn := lastIx_none (l := l) (p := l[k]) (k := k) (by omega)
  unfold depthI
  rw [cntF, hg]
  by_cases h0 : 0 ≤ lastIx l l[k] k
  · refine .inr ⟨?_, ?_, ?_⟩
    · rw [if_pos h0]
      have := cntD_pos (l := l) (a := (lastIx l l[k] k).toNat) (b := k) (by omega) (by omega)
      omega
    · rw [if_pos h0]
      have := cntD_seg l (lastIx l l[k] k).toNat (b := k) (by omega)
      omega
    · have : (l.take k).contains l[k] = true := by
        cases hc : (l.take k).contains l[k]
        · exact absurd (hn.2 hc) (by omega)
        · rfl
      rw [this]; rfl
  · refine .inl ⟨by rw [if_neg h0], ?_⟩
    rw [hn.1 (by omega)]; rfl

theorem ownI_mono {w : World} {B B' : Nat} {e : TypeId} {z n : Nat} {v : Value} {xs : List Value} (h : w.ownsRow B e z v n xs) (hB : B' ≤ B) : w.ownsRow B' e z v n xs := own_monoI h hB
theorem ownI_cap {w : World} {B n c z : Nat} {e : TypeId} {A : Option Addr} {xs : List Value} (h : w.ownsRow B e z (.slice A n c) n xs) : n ≤ c ∧ c ≤ maxLen := by
  rcases h.2 with ⟨hv, hn⟩ | ⟨g, cap, cur, hv, _, _, h1, h2, _⟩
  · injection hv with _ h1 h2
    subst h1 h2
    exact ⟨Nat.le_refl _, by simp [maxLen]⟩
  · injection hv with _ _ h3
    subst h3
    exact ⟨h1, h2⟩
/-! the law's own helpers -/
set_option maxHeartbeats 1000000 in
set_option maxRecDepth 100000 in
theorem equalInts_same (A1 A2 : Option Addr) (n c1 c2 : Nat) (l : List Int) (w : World) (h1 : RowAt w w.heap.size A1 (intC l)) (h2 : RowAt w w.heap.size A2 (intC l)) (hn : n = l.length) (hs : n ≤ 1048576) :
    Calls Try.prog 57 #[.slice A1 n c1, .slice A2 n c2] w fun e w' => e = .returned (.bool true) ∧ Below w.heap.size w w' := by
  have H1 := Lib.hid h1; clear h1
  have H2 := Lib.hid h2; clear h2
  have HN := Lib.hid hn; clear hn
  go_enter Try.func57, Try.ntmps57
  go_wp2
  go_loopw [5] (fun i wr => ∃ k : Nat, k ≤ n ∧ i = .int .i64 k ∧ Below w.heap.size w wr) (fun i _ => n - (intOf i).toNat)
  case atStart => exact ⟨0, by omega, rfl, Below.refl _ _⟩
  case round =>
    obtain ⟨k, hk, rfl, hb⟩ := hrel
    have HB := Lib.hid hb; clear hb
    by_cases hlt : k < n
    · have hk1 : k < l.length := by have := HN.out; omega
      obtain ⟨b, off, rfl, hbw, e0⟩ := ints_at (H1.out.below HB.out) hk1
      obtain ⟨b2, off2, rfl, hbw2, e2⟩ := ints_at (H2.out.below HB.out) hk1
      generalize hx1 : l[k] = x1 at *
      clear hx1
      have q0 : (x1 == x1) = true := by simp
      have q1 : (x1 != x1) = false := by simp
      go_wp2_with fail
      go_still_tail 8, (by kernel_rfl)
      go_wp2_with fail
      go_roundw
      case rel => exact ⟨k + 1, by omega, by go_num, HB.out.trans (below_drewN _ _)⟩
      case measure => simp [intOf]; omega
    · obtain rfl : k = n := by omega
      go_wp2_with fail
      go_ret
      exact ⟨rfl, HB.out⟩

def hasI (l : List Int) (p : Int) : Bool := l.contains p
set_option maxHeartbeats 1000000 in
theorem isIn_any (A : Option Addr) (n c : Nat) (l : List Int) (p : Int) (w : World) (hr : RowAt w w.heap.size A (intC l)) (hn : n = l.length) (hs : n ≤ 1048576) :
    Calls Try.prog 102 #[.slice A n c, .int .i64 p] w fun e w' => e = .returned (.bool (hasI l p)) ∧ w' = w := by
  have HR := Lib.hid hr; clear hr
  have HN := Lib.hid hn; clear hn
  go_enter Try.func102, Try.ntmps102
  go_wp2_with fail
  go_loop [5] (fun i => ∃ k : Nat, k ≤ n ∧ i = .int .i64 k ∧ (l.take k).contains p = false) (fun i => n - (intOf i).toNat)
  case atStart => exact ⟨0, by omega, rfl, rfl⟩
  case round =>
    obtain ⟨k, hk, rfl, hno⟩ := hrel
    have HNO := Lib.hid hno; clear hno
    by_cases hlt : k < n
    · have hkl : k < l.length := by have := HN.out; omega
      obtain ⟨b, off, rfl, hbw, e0⟩ := ints_at HR.out hkl
      have HX := Lib.hid (show l[k] = p → hasI l p = true from fun e => by
        unfold hasI; rw [← e]; simp)
      have HX2 := Lib.hid (show l[k] ≠ p → (l.take (k + 1)).contains p = false from fun e => by
        have := HNO.out
        rw [List.take_succ_eq_append_getElem hkl]
        generalize l[k] = y at *
        generalize l.take k = t at *
        simp at this ⊢
        exact ⟨this, fun h => e h.symm⟩)
      generalize l[k] = x1 at *
      by_cases he : x1 = p
      · have q0 : (x1 == p) = true := by simpa using he
        have HF := Lib.hid (HX.out he)
        clear he
        go_wp2_with fail
        go_ret
        exact ⟨ret_bool HF.out.symm, rfl⟩
      · have q0 : (x1 == p) = false := by simpa using he
        have HF := Lib.hid (HX2.out he)
        clear he
        go_wp2_with fail
        go_round
        case rel => exact ⟨k + 1, by omega, by go_num, HF.out⟩
        case measure => simp [intOf]; omega
    · obtain rfl : k = n := by omega
      have HF := Lib.hid (show hasI l p = false by
        unfold hasI
        have := HNO.out
        rw [HN.out, List.take_length] at this
        exact this)
      go_wp2_with fail
      go_ret
      exact ⟨ret_bool HF.out.symm, rfl⟩

set_option maxRecDepth 100000 in
set_option maxHeartbeats 1000000 in
theorem different_any (A : Option Addr) (n c : Nat) (l : List Int) (w : World) (hr : RowAt w w.heap.size A (intC l)) (hn : n = l.length) (hs : n ≤ 1048576) (hnc : n ≤ c) :
    Calls Try.prog 50 #[.slice A n c] w fun e w' => e = .returned (.int .i64 (cntD l : Int)) ∧ Below w.heap.size w w' := by
  have HR := Lib.hid hr; clear hr
  have HN := Lib.hid hn; clear hn
  have HD := Lib.hid (show cntD l = cntF l n by unfold cntD; rw [HN.out])
  go_enter Try.func50, Try.ntmps50
  go_wp2_with fail
  go_loopw [3, 4] (fun q i wr => ∃ k : Nat, k ≤ n ∧ i = .int .i64 k ∧ q = .int .i64 (cntF l k : Int) ∧ Below w.heap.size w wr) (fun _ i _ => n - (intOf i).toNat)
  case atStart => exact ⟨0, by omega, rfl, rfl, Below.refl _ _⟩
  case round =>
    obtain ⟨k, hk, rfl, rfl, hb⟩ := hrel
    have HB := Lib.hid hb; clear hb
    have hle := cntF_le l k
    by_cases hlt : k < n
    · have hkl : k < l.length := by have := HN.out; omega
      obtain ⟨b, off, rfl, hbw, e0⟩ := ints_at (HR.out.below HB.out) hkl
      have HC := Lib.hid (fun W (hb : Below w.heap.size w W) c => isIn_any (some ⟨b, off, none⟩) k c (l.take k) l[k] W (RowAt.head k ((HR.out.below hb).mono hb.size)) (by rw [List.length_take]; omega) (by omega))
      have HS := Lib.hid (show cntF l (k + 1) = cntF l k + if (l.take k).contains l[k] then 0 else 1 by
        rw [cntF]; simp [List.getD_eq_getElem?_getD, hkl])
      have hcut := fun W => cut_head b off n c k W (by omega)
      have i1 : (k : Int) < (n : Int) := by omega
      have i3 : (0 : Int) ≤ (k : Int) := by omega
      generalize l[k] = x1 at *
      cases hq : (l.take k).contains x1
      · have HC := Lib.hid (fun W hb c => (show hasI (l.take k) x1 = false from hq) ▸ HC.out W hb c)
        have HF := Lib.hid (show (cntF l k : Int) + 1 = (cntF l (k + 1) : Int) by rw [HS.out, hq]; simp)
        clear hq
        generalize cntF l k = m at *
        go_wp2_with fail
        go_quiet ((go_at_call 102; exact Calls.quiet_of_same (HC.out _ (HB.out.trans (below_drewN _ _)) _)))
        go_wp2_with fail
        go_roundw
        case rel => exact ⟨k + 1, by omega, by go_num, by rw [HF.out], HB.out.trans (below_drewN _ _)⟩
        case measure => simp [intOf]; omega
      · have HC := Lib.hid (fun W hb c => (show hasI (l.take k) x1 = true from hq) ▸ HC.out W hb c)
        have HF := Lib.hid (show (cntF l k : Int) = (cntF l (k + 1) : Int) by rw [HS.out, hq]; simp)
        clear hq
        generalize cntF l k = m at *
        go_wp2_with fail
        go_quiet ((go_at_call 102; exact Calls.quiet_of_same (HC.out _ (HB.out.trans (below_drewN _ _)) _)))
        go_wp2_with fail
        go_roundw
        case rel => exact ⟨k + 1, by omega, by go_num, by rw [HF.out], HB.out.trans (below_drewN _ _)⟩
        case measure => simp [intOf]; omega
    · obtain rfl : k = n := by omega
      go_wp2_with fail
      go_ret
      exact ⟨by rw [HD.out]; rfl, HB.out⟩

theorem drawDepths_any (A : Option Addr) (n c : Nat) (w : World) (h : BytesIn w A n c) :
    Calls Try.prog 56 #[.slice A n c] w fun e w' => (∃ l A c, e = .returned (.slice A l.length c) ∧ l.length ≤ 31 ∧ w'.ownsRow w.heap.size 3 1 (.slice A l.length c) l.length (intC l)) ∧ Below w.heap.size w w' := by
  have HP := Lib.hid (newReader_any A n c w h)
  go_enter Try.func56, Try.ntmps56
  go_wp2_with fail
  refine (HP.out).mono ?_
  rintro e w1 ⟨rfl, hr1, hb1⟩
  have HB := Lib.hid hb1; clear hb1
  have HK := Lib.hid (someTrace_any w.heap.size 0 w1 hr1 (by omega)); clear hr1
  go_wp2_with fail
  refine (HK.out).mono ?_
  rintro e w2 ⟨l, A', c', rfl, hl, _, ho, hr, hg⟩
  have HG := Lib.hid hg; clear hg hr
  have HO := Lib.hid ho; clear ho
  go_wp2_with fail
  go_ret
  exact ⟨⟨l, A', c', rfl, hl, ownI_mono HO.out HB.out.size⟩, HB.out.trans (below_of_grown HG.out (Nat.le_refl _) HB.out.size)⟩

set_option maxRecDepth 100000 in
set_option maxHeartbeats 4000000 in
theorem walk_FnDepthsOf (A : Option Addr) (n c : Nat) (w : World) (h : BytesIn w A n c) :
    Calls Try.prog 14 #[.slice A n c] w fun e w' => e = .returned (.bool true) ∧ Below w.heap.size w w' := by
  have HD := Lib.hid (drawDepths_any A n c w h)
  obtain ⟨hc, hm, _⟩ := h
  unfold maxLen at hm
  by_cases hb : n ≤ 1048576
  · go_enter Try.func14, Try.ntmps14
    go_wp2_with fail
    refine (HD.out).mono ?_
    rintro e w1 ⟨⟨l, Al, cl, rfl, hl, hol⟩, hb1⟩
    obtain ⟨hc1, hc2⟩ := ownI_cap hol
    have HOL := Lib.hid hol; clear hol
    have HB1 := Lib.hid hb1; clear hb1
    obtain ⟨m, hm'⟩ : ∃ m, l.length = m := ⟨_, rfl⟩
    have HM := Lib.hid hm'
    rw [hm'] at hl hc1 HOL
    have HRL := Lib.hid (fun W (hb : Below w1.heap.size w1 W) => ((RowAt.of_own HOL.out).below hb).mono hb.size)
    have HV := Lib.hid (iDepths_any Al m cl l w1 (RowAt.of_own HOL.out) hm'.symm (by omega) hc1 hc2)
    have HW := Lib.hid (fun W (hb : Below w1.heap.size w1 W) => sDepths_any Al m cl l W (HRL.out _ hb) hm'.symm (by omega))
    have HDF := Lib.hid (fun W (hb : Below w1.heap.size w1 W) => different_any Al m cl l W (HRL.out _ hb) hm'.symm (by omega) hc1)
    clear hc2
    rw [hm']
    clear hm'
    have HLL := Lib.hid (show (if traceB l = true then depthsI l else []).length = 0 ∨ ((if traceB l = true then depthsI l else []) = depthsI l ∧ (depthsI l).length = m) by
      split
      · exact .inr ⟨rfl, by rw [depthsI_len]; exact HM.out⟩
      · exact .inl rfl)
    have HL31 := Lib.hid (show (if traceB l = true then depthsI l else []).length ≤ 31 by
      split
      · rw [depthsI_len, HM.out]; exact hl
      · simp)
    generalize (if traceB l = true then depthsI l else []) = L at *
    have hL31 := HL31.out
    go_wp2_with fail
    refine (HV.out).mono ?_
    rintro e w2 ⟨v2, rfl, ⟨Ag, cg, rfl, ho2⟩, hb2⟩
    have HO2 := Lib.hid ho2; clear ho2
    have HB12 := Lib.hid hb2; clear hb2
    go_wp2_with fail
    refine (HW.out _ HB12.out).mono ?_
    rintro e w3 ⟨v3, rfl, ⟨A3, c3, rfl, ho3⟩, hb3⟩
    have HG3 := Lib.hid (fun W (hb : Below w3.heap.size w3 W) => (HO2.out.kept (grown_of_below (row := none) hb3) (by cases Ag <;> simp [Value.ownBlock])).kept (grown_of_below (row := none) hb) (by cases Ag <;> simp [Value.ownBlock]))
    have HE3 := Lib.hid (equalInts_same Ag A3 L.length cg c3 L w3 (RowAt.of_own (HG3.out _ (Below.refl _ _))) (RowAt.of_own ho3) rfl (by omega))
    have HB13 := Lib.hid (HB12.out.trans (hb3.mono HB12.out.size)); clear hb3 ho3
    have hs3 : w.heap.size ≤ w1.heap.size := HB1.out.size
    by_cases hz : L.length = 0
    · have hz0 : ((L.length : Int) == 0) = true := by rw [hz]; rfl
      clear hz
      go_wp2_with fail
      refine (HE3.out).mono ?_
      rintro e w4 ⟨rfl, hb4⟩
      have HG4 := Lib.hid (fun W (hb : Below w4.heap.size w4 W) => HG3.out W (hb4.trans (hb.mono hb4.size)))
      have HB14 := Lib.hid (HB13.out.trans (hb4.mono HB13.out.size)); clear hb4
      go_wp2_with fail
      refine (HW.out _ HB14.out).mono ?_
      rintro e w5 ⟨v5, rfl, ⟨A5, c5, rfl, ho5⟩, hb5⟩
      have HE5 := Lib.hid (equalInts_same Ag A5 L.length cg c5 L w5 (RowAt.of_own (HG4.out _ hb5)) (RowAt.of_own ho5) rfl (by omega))
      have HB15 := Lib.hid (HB14.out.trans (hb5.mono HB14.out.size)); clear hb5 ho5
      go_wp2_with fail
      refine (HE5.out).mono ?_
      rintro e w6 ⟨rfl, hb6⟩
      have HB16 := Lib.hid (HB15.out.trans (hb6.mono HB15.out.size)); clear hb6
      go_wp2_with fail
      go_ret
      exact ⟨rfl, HB1.out.trans (HB16.out.mono hs3)⟩
    · have hLD : L = depthsI l ∧ L.length = m := by
        rcases HLL.out with h1 | h1
        · exact absurd h1 hz
        · exact ⟨h1.1, by rw [h1.1]; exact h1.2⟩
      have HLD := Lib.hid hLD; clear hLD
      have hz0 : ((L.length : Int) == 0) = false := beq_eq_false_iff_ne.2 (by omega)
      have hzm : ((L.length : Int) == (m : Int)) = true := by have := HLD.out.2; simp; omega
      have hLm : L.length ≤ 31 := by omega
      clear hz
      go_wp2_with fail
      refine (HE3.out).mono ?_
      rintro e w4 ⟨rfl, hb4⟩
      have HG4 := Lib.hid (fun W (hb : Below w4.heap.size w4 W) => HG3.out W (hb4.trans (hb.mono hb4.size)))
      have HB14 := Lib.hid (HB13.out.trans (hb4.mono HB13.out.size)); clear hb4
      go_wp2_with fail
      refine (HDF.out _ HB14.out).mono ?_
      rintro e w5 ⟨rfl, hb5⟩
      have HG5 := Lib.hid (HG4.out _ hb5)
      have HB15 := Lib.hid (HB14.out.trans (hb5.mono HB14.out.size)); clear hb5
      have HCS := Lib.hid (fun k (hk : k < l.length) => depthI_cases hk)
      have HDE := Lib.hid (show cntD l = cntF l m by unfold cntD; rw [HM.out])
      have hd31 : cntD l ≤ 31 := by have := cntF_le l m; rw [HDE.out]; omega
      go_wp2_with fail
      go_loop [6, 7] (fun q i => ∃ k : Nat, k ≤ L.length ∧ i = .int .i64 k ∧ q = .int .i64 (cntF l k : Int)) (fun _ i => L.length - (intOf i).toNat)
      case atStart => exact ⟨0, by omega, rfl, rfl⟩
      case round =>
        obtain ⟨k, hk, rfl, rfl⟩ := hrel
        have hle := cntF_le l k
        by_cases hlt : k < L.length
        · have hkl : k < l.length := by rw [HM.out, ← HLD.out.2]; exact hlt
          obtain ⟨b, off, rfl, hbw, e0⟩ := ints_at (RowAt.of_own HG5.out) hlt
          have hLk : L[k] = depthI l k := by
            have := depthsI_at l hkl
            rw [← this]; congr 1; exact HLD.out.1
          rw [hLk] at e0
          clear hLk
          have hcs := HCS.out k hkl
          generalize depthI l k = dv at *
          rcases hcs with ⟨h1, h2⟩ | ⟨h1, h2, h3⟩
          · subst h1
            have HF := Lib.hid (show (cntF l k : Int) + 1 = (cntF l (k + 1) : Int) by rw [h2]; simp)
            clear h2
            generalize cntF l k = q at *
            go_wp2_with fail
            go_round
            case rel => exact ⟨k + 1, by omega, by go_num, by rw [HF.out]⟩
            case measure => simp [intOf]; omega
          · have q0 : (dv == -1) = false := by simp; omega
            have HF := Lib.hid (show (cntF l k : Int) = (cntF l (k + 1) : Int) by rw [h3])
            clear h3
            generalize cntF l k = q at *
            go_wp2_with fail
            go_round
            case rel => exact ⟨k + 1, by omega, by go_num, by rw [HF.out]⟩
            case measure => simp [intOf]; omega
        · obtain rfl : k = L.length := by omega
          have hde : (cntF l L.length : Int) = (cntD l : Int) := by rw [HDE.out, HLD.out.2]
          rw [hde]
          have q0 : ((cntD l : Int) == (cntD l : Int)) = true := by simp
          clear hde
          go_wp2_with fail
          go_ret
          exact ⟨rfl, HB1.out.trans (HB15.out.mono hs3)⟩
  · go_enter Try.func14, Try.ntmps14
    go_wp2
    go_ret
    exact ⟨rfl, Below.refl _ _⟩
end Go.Proofs.Ythojfcpklknlkab
