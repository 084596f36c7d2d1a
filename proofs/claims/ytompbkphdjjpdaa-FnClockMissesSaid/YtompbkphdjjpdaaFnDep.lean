/- The walk of the law of DepthsOf (P16), and what it asks. No condition. -/
import Derived.Test.YtompbkphdjjpdaaDrawT
import Derived.Test.YtompbkphdjjpdaaDepth
set_option linter.unusedVariables false
set_option linter.unusedSimpArgs false
namespace Go.Proofs.Ytompbkphdjjpdaa
open Go.RowKit Go.ChangeShapes Go.WideShapes

/-! the plain mathematics -/
theorem lastIx_none {l : List Int} {p : Int} : ∀ {k}, k ≤ l.length → (lastIx l p k < 0 ↔ (l.take k).contains p = false)
  | 0, _ => by simp [lastIx]
  | k + 1, h => by
    have ih := lastIx_none (l := l) (p := p) (k := k) (by omega)
    have hg : l.getD k 0 = l[k]'(by omega) := by simp [List.getD_eq_getElem?_getD, show k < l.length by omega]
    rw [lastIx, hg, List.take_succ_eq_append_getElem (by omega)]
    generalize l[k]'(by omega) = y at *
    generalize l.take k = t at *
    by_cases he : y = p
    · subst he
      rw [if_pos rfl]
      constructor
      · intro h1; omega
      · intro h1; simp at h1
    · rw [if_neg he, ih]
      constructor
      · intro h1; simp at h1 ⊢; exact ⟨h1, fun e => he e.symm⟩
      · intro h1; simp at h1 ⊢; exact h1.1
theorem cntF_mono (l : List Int) : ∀ {a b : Nat}, a ≤ b → cntF l a ≤ cntF l b
  | a, 0, h => by have : a = 0 := by omega
                  subst this; exact Nat.le_refl _
  | a, b + 1, h => by
    rcases Nat.lt_or_ge a (b + 1) with h1 | h1
    · have := cntF_mono l (a := a) (b := b) (by omega)
      rw [cntF]; omega
    · have : a = b + 1 := by omega
      subst this; exact Nat.le_refl _
theorem cntB_drop : ∀ (l : List Int) (a : Nat), cntB (l.drop a) ≤ cntB l
  | [], a => by simp
  | x :: l, 0 => by simp
  | x :: l, a + 1 => by
    have := cntB_drop l a
    rw [List.drop_succ_cons, cntB]; omega
theorem cntD_take (l : List Int) {b : Nat} (h : b ≤ l.length) : cntD (l.take b) = cntF l b := by
  unfold cntD
  have := cntF_app (l.take b) (l.drop b) b (by rw [List.length_take]; omega)
  rw [List.take_append_drop] at this
  rw [List.length_take, Nat.min_eq_left h, this]
theorem cntD_seg (l : List Int) (a : Nat) {b : Nat} (h : b ≤ l.length) : cntD (segI l a b) ≤ cntD l := by
  unfold segI
  rw [cntD_eq _ _ rfl]
  have h1 := cntB_drop (l.take b) a
  have h2 : cntB (l.take b) = cntD (l.take b) := (cntD_eq _ _ rfl).symm
  rw [h2, cntD_take l h] at h1
  exact Nat.le_trans h1 (cntF_mono l h)
theorem cntB_pos (x : Int) (l : List Int) : 1 ≤ cntB (x :: l) := by
  induction l generalizing x with
  | nil => simp [cntB]
  | cons y l ih => have := ih y; rw [cntB]; omega
theorem cntD_pos {l : List Int} {a b : Nat} (h1 : a < b) (h2 : b ≤ l.length) : 1 ≤ cntD (segI l a b) := by
  rw [cntD_eq _ _ rfl, segI_step h1 h2]
  exact cntB_pos _ _
theorem depthI_cases {l : List Int} {k : Nat} (h : k < l.length) :
    (depthI l k = -1 ∧ cntF l (k + 1) = cntF l k + 1) ∨ (1 ≤ depthI l k ∧ depthI l k ≤ (cntD l : Int) ∧ cntF l (k + 1) = cntF l k) := by
  have hg : l.getD k 0 = l[k] := by simp [List.getD_eq_getElem?_getD, h]
  have hb := lastIx_lt l l[k] k
  have hn := lastIx_none (l := l) (p := l[k]) (k := k) (by omega)
  unfold depthI
  rw [cntF, hg]
  by_cases h0 : 0 ≤ lastIx l l[k] k
  · refine .inr ⟨?_, ?_, ?_⟩
    · rw [if_pos h0]
      have := cntD_pos (l := l) (a := (lastIx l l[k] k).toNat) (b := k) (by omega) (by omega)
      omega
    · rw [if_pos h0]
      have := cntD_seg l (lastIx l l[k] k).toNat (b := k) (by omega)
      omega
    · have : (l.take k).contains l[k] = true := by
        cases hc : (l.take k).contains l[k]
        · exact absurd (hn.2 hc) (by omega)
        · rfl
      rw [this]; rfl
  · refine .inl ⟨by rw [if_neg h0], ?_⟩
    rw [hn.1 (by omega)]; rfl

theorem ownI_mono {w : World} {B B' : Nat} {e : TypeId} {z n : Nat} {v : Value} {xs : List Value} (h : w.ownsRow B e z v n xs) (hB : B' ≤ B) : w.ownsRow B' e z v n xs := own_monoI h hB
theorem ownI_cap {w : World} {B n c z : Nat} {e : TypeId} {A : Option Addr} {xs : List Value} (h : w.ownsRow B e z (.slice A n c) n xs) : n ≤ c ∧ c ≤ maxLen := by
  rcases h.2 with ⟨hv, hn⟩ | ⟨g, cap, cur, hv, _, _, h1, h2, _⟩
  · injection hv with _ h1 h2
    subst h1 h2
    exact ⟨Nat.le_refl _, by simp [maxLen]⟩
  · injection hv with _ _ h3
    subst h3
    exact ⟨h1, h2⟩
/-! the law's own helpers -/

def hasI (l : List Int) (p : Int) : Bool := l.contains p
set_option maxHeartbeats 1000000 in
theorem isIn_any (A : Option Addr) (n c : Nat) (l : List Int) (p : Int) (w : World) (hr : RowAt w w.heap.size A (intC l)) (hn : n = l.length) (hs : n ≤ 1048576) :
    Calls Try.prog 85 #[.slice A n c, .int .i64 p] w fun e w' => e = .returned (.bool (hasI l p)) ∧ w' = w := by
  have HR := Lib.hid hr; clear hr
  have HN := Lib.hid hn; clear hn
  go_enter Try.func85, Try.ntmps85
  go_wp2_with fail
  go_loop [5] (fun i => ∃ k : Nat, k ≤ n ∧ i = .int .i64 k ∧ (l.take k).contains p = false) (fun i => n - (intOf i).toNat)
  case atStart => exact ⟨0, by omega, rfl, rfl⟩
  case round =>
    obtain ⟨k, hk, rfl, hno⟩ := hrel
    have HNO := Lib.hid hno; clear hno
    by_cases hlt : k < n
    · have hkl : k < l.length := by have := HN.out; omega
      obtain ⟨b, off, rfl, hbw, e0⟩ := ints_at HR.out hkl
      have HX := Lib.hid (show l[k] = p → hasI l p = true from fun e => by
        unfold hasI; rw [← e]; simp)
      have HX2 := Lib.hid (show l[k] ≠ p → (l.take (k + 1)).contains p = false from fun e => by
        have := HNO.out
        rw [List.take_succ_eq_append_getElem hkl]
        generalize l[k] = y at *
        generalize l.take k = t at *
        simp at this ⊢
        exact ⟨this, fun h => e h.symm⟩)
      generalize l[k] = x1 at *
      by_cases he : x1 = p
      · have q0 : (x1 == p) = true := by simpa using he
        have HF := Lib.hid (HX.out he)
        clear he
        go_wp2_with fail
        go_ret
        exact ⟨ret_bool HF.out.symm, rfl⟩
      · have q0 : (x1 == p) = false := by simpa using he
        have HF := Lib.hid (HX2.out he)
        clear he
        go_wp2_with fail
        go_round
        case rel => exact ⟨k + 1, by omega, by go_num, HF.out⟩
        case measure => simp [intOf]; omega
    · obtain rfl : k = n := by omega
      have HF := Lib.hid (show hasI l p = false by
        unfold hasI
        have := HNO.out
        rw [HN.out, List.take_length] at this
        exact this)
      go_wp2_with fail
      go_ret
      exact ⟨ret_bool HF.out.symm, rfl⟩

set_option maxRecDepth 100000 in
set_option maxHeartbeats 1000000 in
theorem different_any (A : Option Addr) (n c : Nat) (l : List Int) (w : World) (hr : RowAt w w.heap.size A (intC l)) (hn : n = l.length) (hs : n ≤ 1048576) (hnc : n ≤ c) :
    Calls Try.prog 39 #[.slice A n c] w fun e w' => e = .returned (.int .i64 (cntD l : Int)) ∧ Below w.heap.size w w' := by
  have HR := Lib.hid hr; clear hr
  have HN := Lib.hid hn; clear hn
  have HD := Lib.hid (show cntD l = cntF l n by unfold cntD; rw [HN.out])
  go_enter Try.func39, Try.ntmps39
  go_wp2_with fail
  go_loopw [3, 4] (fun q i wr => ∃ k : Nat, k ≤ n ∧ i = .int .i64 k ∧ q = .int .i64 (cntF l k : Int) ∧ Below w.heap.size w wr) (fun _ i _ => n - (intOf i).toNat)
  case atStart => exact ⟨0, by omega, rfl, rfl, Below.refl _ _⟩
  case round =>
    obtain ⟨k, hk, rfl, rfl, hb⟩ := hrel
    have HB := Lib.hid hb; clear hb
    have hle := cntF_le l k
    by_cases hlt : k < n
    · have hkl : k < l.length := by have := HN.out; omega
      obtain ⟨b, off, rfl, hbw, e0⟩ := ints_at (HR.out.below HB.out) hkl
      have HC := Lib.hid (fun W (hb : Below w.heap.size w W) c => isIn_any (some ⟨b, off, none⟩) k c (l.take k) l[k] W (RowAt.head k ((HR.out.below hb).mono hb.size)) (by rw [List.length_take]; omega) (by omega))
      have HS := Lib.hid (show cntF l (k + 1) = cntF l k + if (l.take k).contains l[k] then 0 else 1 by
        rw [cntF]; simp [List.getD_eq_getElem?_getD, hkl])
      have hcut := fun W => cut_head b off n c k W (by omega)
      have i1 : (k : Int) < (n : Int) := by omega
      have i3 : (0 : Int) ≤ (k : Int) := by omega
      generalize l[k] = x1 at *
      cases hq : (l.take k).contains x1
      · have HC := Lib.hid (fun W hb c => (show hasI (l.take k) x1 = false from hq) ▸ HC.out W hb c)
        have HF := Lib.hid (show (cntF l k : Int) + 1 = (cntF l (k + 1) : Int) by rw [HS.out, hq]; simp)
        clear hq
        generalize cntF l k = m at *
        go_wp2_with fail
        go_quiet ((go_at_call 85; exact Calls.quiet_of_same (HC.out _ (HB.out.trans (below_drewN _ _)) _)))
        go_wp2_with fail
        go_roundw
        case rel => exact ⟨k + 1, by omega, by go_num, by rw [HF.out], HB.out.trans (below_drewN _ _)⟩
        case measure => simp [intOf]; omega
      · have HC := Lib.hid (fun W hb c => (show hasI (l.take k) x1 = true from hq) ▸ HC.out W hb c)
        have HF := Lib.hid (show (cntF l k : Int) = (cntF l (k + 1) : Int) by rw [HS.out, hq]; simp)
        clear hq
        generalize cntF l k = m at *
        go_wp2_with fail
        go_quiet ((go_at_call 85; exact Calls.quiet_of_same (HC.out _ (HB.out.trans (below_drewN _ _)) _)))
        go_wp2_with fail
        go_roundw
        case rel => exact ⟨k + 1, by omega, by go_num, by rw [HF.out], HB.out.trans (below_drewN _ _)⟩
        case measure => simp [intOf]; omega
    · obtain rfl : k = n := by omega
      go_wp2_with fail
      go_ret
      exact ⟨by rw [HD.out]; rfl, HB.out⟩


end Go.Proofs.Ytompbkphdjjpdaa
