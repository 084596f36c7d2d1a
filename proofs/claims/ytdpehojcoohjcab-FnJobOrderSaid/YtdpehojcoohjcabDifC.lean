/- Contracts of placeOf and different of the laws. Conditions: the numbers lie in a row; they are few. -/
import Derived.Test.YtdpehojcoohjcabRowI
import Derived.Deep.QuietTactic
import Derived.BigQuiet
set_option linter.unusedVariables false
set_option linter.unusedSimpArgs false
namespace Go.Proofs.Ytdpehojcoohjcab
open Go.RowKit Go.ChangeShapes Go.WideShapes

theorem cut_head (b off n c k : Nat) (W : World) (h : k ≤ c) :
    (Instr.sliceAt 24 (.slice (some ⟨b, off, none⟩) n c) none (some (.int .i64 (k : Int))) none).run Try.prog W = .ok (.slice (some ⟨b, off, none⟩) k c) W := by
  have hu : Try.prog.underlying 24 = some (.slice (Try.prog.elem 24)) := by kernel_rfl
  have hs : (sizeOf (Try.prog.elem 24)).run Try.prog W = .ok 1 W := by kernel_rfl
  rw [run_sliceAt_slice (h := hu), run_slice_h (ht := hu) (h0 := by omega) (h2 := by omega), hs]
  simp only [Result.andThen_ok, sliced, Int.toNat_natCast, Option.map_some, Nat.zero_mul]
  rw [add_zero_off]
  simp
theorem RowAt.part {w : World} {B b off : Nat} {l m : List Int} (a : Nat) (h : RowAt w B (some ⟨b, off, none⟩) (intC l)) (hm : ∀ i v, m[i]? = some v → l[a + i]? = some v) : RowAt w B (some ⟨b, off + a, none⟩) (intC m) := fun h0 => by
  obtain ⟨x, hx⟩ : ∃ x, m[0]? = some x := by
    cases m with
    | nil => exact absurd rfl h0
    | cons x t => exact ⟨x, rfl⟩
  have h1 : intC l ≠ [] := by
    intro e
    have h2 := hm 0 x hx
    have h3 : l = [] := by simpa [intC] using e
    rw [h3] at h2; cases h2
  obtain ⟨b', off', e, hb, hc⟩ := h h1
  cases e
  refine ⟨b, off + a, rfl, hb, fun i v hi => ?_⟩
  rw [Nat.add_assoc]
  refine hc _ _ ?_
  simp only [intC, List.getElem?_map, Option.map_eq_some_iff] at hi ⊢
  obtain ⟨y, hy, rfl⟩ := hi
  exact ⟨y, hm i y hy, rfl⟩
theorem RowAt.head {w : World} {B b off : Nat} {l : List Int} (k : Nat) (h : RowAt w B (some ⟨b, off, none⟩) (intC l)) : RowAt w B (some ⟨b, off, none⟩) (intC (l.take k)) := by
  have := h.part (m := l.take k) 0 (fun i v hi => by
    rw [List.getElem?_take] at hi
    split at hi
    · simpa using hi
    · cases hi)
  simpa using this
def hasI (l : List Int) (p : Int) : Bool := l.contains p
set_option maxHeartbeats 1000000 in
theorem isIn_any (A : Option Addr) (n c : Nat) (l : List Int) (p : Int) (w : World) (hr : RowAt w w.heap.size A (intC l)) (hn : n = l.length) (hs : n ≤ 1048576) :
    Calls Try.prog 66 #[.slice A n c, .int .i64 p] w fun e w' => e = .returned (.bool (hasI l p)) ∧ w' = w := by
  have HR := Lib.hid hr; clear hr
  have HN := Lib.hid hn; clear hn
  go_enter Try.func66, Try.ntmps66
  go_wp2_with fail
  go_loop [5] (fun i => ∃ k : Nat, k ≤ n ∧ i = .int .i64 k ∧ (l.take k).contains p = false) (fun i => n - (intOf i).toNat)
  case atStart => exact ⟨0, by omega, rfl, rfl⟩
  case round =>
    obtain ⟨k, hk, rfl, hno⟩ := hrel
    have HNO := Lib.hid hno; clear hno
    by_cases hlt : k < n
    · have hkl : k < l.length := by have := HN.out; omega
      obtain ⟨b, off, rfl, hbw, e0⟩ := ints_at HR.out hkl
      have HX := Lib.hid (show l[k] = p → hasI l p = true from fun e => by
        unfold hasI; rw [← e]; simp)
      have HX2 := Lib.hid (show l[k] ≠ p → (l.take (k + 1)).contains p = false from fun e => by
        have := HNO.out
        rw [List.take_succ_eq_append_getElem hkl]
        generalize l[k] = y at *
        generalize l.take k = t at *
        simp at this ⊢
        exact ⟨this, fun h => e h.symm⟩)
      generalize l[k] = x1 at *
      by_cases he : x1 = p
      · have q0 : (x1 == p) = true := by simpa using he
        have HF := Lib.hid (HX.out he)
        clear he
        go_wp2_with fail
        go_ret
        exact ⟨retb HF.out.symm, rfl⟩
      · have q0 : (x1 == p) = false := by simpa using he
        have HF := Lib.hid (HX2.out he)
        clear he
        go_wp2_with fail
        go_round
        case rel => exact ⟨k + 1, by omega, by go_num, HF.out⟩
        case measure => simp [intOf]; omega
    · obtain rfl : k = n := by omega
      have HF := Lib.hid (show hasI l p = false by
        unfold hasI
        have := HNO.out
        rw [HN.out, List.take_length] at this
        exact this)
      go_wp2_with fail
      go_ret
      exact ⟨retb HF.out.symm, rfl⟩

set_option maxRecDepth 100000 in
set_option maxHeartbeats 1000000 in
theorem different_any (A : Option Addr) (n c : Nat) (l : List Int) (w : World) (hr : RowAt w w.heap.size A (intC l)) (hn : n = l.length) (hs : n ≤ 1048576) (hnc : n ≤ c) :
    Calls Try.prog 32 #[.slice A n c] w fun e w' => e = .returned (.int .i64 (cntD l : Int)) ∧ Below w.heap.size w w' := by
  have HR := Lib.hid hr; clear hr
  have HN := Lib.hid hn; clear hn
  have HD := Lib.hid (show cntD l = cntF l n by unfold cntD; rw [HN.out])
  go_enter Try.func32, Try.ntmps32
  go_wp2_with fail
  go_loopw [3, 4] (fun q i wr => ∃ k : Nat, k ≤ n ∧ i = .int .i64 k ∧ q = .int .i64 (cntF l k : Int) ∧ Below w.heap.size w wr) (fun _ i _ => n - (intOf i).toNat)
  case atStart => exact ⟨0, by omega, rfl, rfl, Below.refl _ _⟩
  case round =>
    obtain ⟨k, hk, rfl, rfl, hb⟩ := hrel
    have HB := Lib.hid hb; clear hb
    have hle := cntF_le l k
    by_cases hlt : k < n
    · have hkl : k < l.length := by have := HN.out; omega
      obtain ⟨b, off, rfl, hbw, e0⟩ := ints_at (HR.out.below HB.out) hkl
      have HC := Lib.hid (fun W (hb : Below w.heap.size w W) c => isIn_any (some ⟨b, off, none⟩) k c (l.take k) l[k] W (RowAt.head k ((HR.out.below hb).mono hb.size)) (by rw [List.length_take]; omega) (by omega))
      have HS := Lib.hid (show cntF l (k + 1) = cntF l k + if (l.take k).contains l[k] then 0 else 1 by
        rw [cntF]; simp [List.getD_eq_getElem?_getD, hkl])
      have hcut := fun W => cut_head b off n c k W (by omega)
      have i1 : (k : Int) < (n : Int) := by omega
      have i3 : (0 : Int) ≤ (k : Int) := by omega
      generalize l[k] = x1 at *
      cases hq : (l.take k).contains x1
      · have HC := Lib.hid (fun W hb c => (show hasI (l.take k) x1 = false from hq) ▸ HC.out W hb c)
        have HF := Lib.hid (show (cntF l k : Int) + 1 = (cntF l (k + 1) : Int) by rw [HS.out, hq]; simp)
        clear hq
        generalize cntF l k = m at *
        go_wp2_with fail
        go_quiet ((go_at_call 66; exact Calls.quiet_of_same (HC.out _ (HB.out.trans (below_drewN _ _)) _)))
        go_wp2_with fail
        go_roundw
        case rel => exact ⟨k + 1, by omega, by go_num, by rw [HF.out], HB.out.trans (below_drewN _ _)⟩
        case measure => simp [intOf]; omega
      · have HC := Lib.hid (fun W hb c => (show hasI (l.take k) x1 = true from hq) ▸ HC.out W hb c)
        have HF := Lib.hid (show (cntF l k : Int) = (cntF l (k + 1) : Int) by rw [HS.out, hq]; simp)
        clear hq
        generalize cntF l k = m at *
        go_wp2_with fail
        go_quiet ((go_at_call 66; exact Calls.quiet_of_same (HC.out _ (HB.out.trans (below_drewN _ _)) _)))
        go_wp2_with fail
        go_roundw
        case rel => exact ⟨k + 1, by omega, by go_num, by rw [HF.out], HB.out.trans (below_drewN _ _)⟩
        case measure => simp [intOf]; omega
    · obtain rfl : k = n := by omega
      go_wp2_with fail
      go_ret
      exact ⟨by rw [HD.out]; rfl, HB.out⟩

theorem natI_cntF {o : List Nat} (h : o.Nodup) : ∀ k, k ≤ o.length → cntF (natI o) k = k
  | 0, _ => rfl
  | k + 1, hk => by
    have hkl : k < o.length := by omega
    rw [cntF, natI_cntF h k (by omega)]
    have : ((natI o).take k).contains ((natI o).getD k 0) = false := by
      rw [natI_get]
      cases hc : ((natI o).take k).contains ((o.getD k 0 : Nat) : Int) with
      | false => rfl
      | true =>
        exfalso
        rw [List.contains_iff_mem] at hc
        obtain ⟨i, hi, e⟩ := List.mem_take_iff_getElem.1 hc
        have hil : i < o.length := by simp [natI] at hi; omega
        simp [natI, List.getD_eq_getElem?_getD, hkl] at e
        have e2 : o[i] = o[k] := by omega
        have e3 := (List.getElem_inj h).1 e2
        omega
    rw [this]; simp
theorem natI_cntD {o : List Nat} (h : o.Nodup) : cntD (natI o) = o.length := by
  unfold cntD
  rw [natI_len]
  exact natI_cntF h _ (Nat.le_refl _)
theorem idxOf_le_at : ∀ (l : List Nat) (k : Nat) (h : k < l.length), l.idxOf l[k] ≤ k
  | [], k, h => absurd h (by simp)
  | a :: l, 0, h => by simp
  | a :: l, k + 1, h => by
    have h2 : k < l.length := by simpa using h
    have := idxOf_le_at l k h2
    rw [List.getElem_cons_succ, List.idxOf_cons]
    by_cases e : a = l[k]
    · simp [e]
    · have e2 : (a == l[k]) = false := by simpa using e
      rw [e2]
      simp
      omega
/-- the place of a number in a list -/
def plI (l : List Nat) (p : Nat) : Int := if p ∈ l then (l.idxOf p : Int) else -1
/-- in an order none stands ahead of one that must be ahead of it -/
theorem fits_place {R : Nat → Nat → Bool} {n : Nat} {o : List Nat} (ho : PreO n 0 o) (hf : fitsR R o = true) {a b : Nat} (ha : a < n) (hb : b < n) (hne : a ≠ b) (hR : R a b = true) : plI o a < plI o b := by
  have hma := ho.full ha
  have hmb := ho.full hb
  unfold plI
  rw [if_pos hma, if_pos hmb]
  have la := List.idxOf_lt_length_of_mem hma
  have lb := List.idxOf_lt_length_of_mem hmb
  unfold fitsR at hf
  rw [decide_eq_true_eq, List.pairwise_iff_getElem] at hf
  rcases Nat.lt_trichotomy (o.idxOf a) (o.idxOf b) with h | h | h
  · omega
  · exfalso
    apply hne
    have e1 := List.getElem_idxOf la
    have e2 := List.getElem_idxOf lb
    rw [← e1, ← e2]
    congr 1
  · exfalso
    have := hf (o.idxOf b) (o.idxOf a) lb la h
    rw [List.getElem_idxOf la, List.getElem_idxOf lb, hR] at this
    cases this
end Go.Proofs.Ytdpehojcoohjcab
