/- Contracts of the exact laws' own helpers on lists of numbers: toIntS, eqIntS, markIntS, heldIntS. Conditions: the numbers lie in a row; they are few. -/
import Derived.Test.YtdpehojcoohjcabKey
import Derived.Test.YtdpehojcoohjcabTraceM
import Derived.StillTailTactics
import Derived.Deep.RegionWith
set_option linter.unusedVariables false
set_option linter.unusedSimpArgs false
namespace Go.Proofs.Ytdpehojcoohjcab
open Go.RowKit Go.ChangeShapes Go.WideShapes

theorem set_appI {α : Type} (A : List α) (r v : α) (R : List α) (k : Nat) (hk : k = A.length) : (A ++ r :: R).set k v = (A ++ [v]) ++ R := by
  subst hk
  rw [List.set_append_right _ _ (Nat.le_refl _)]
  simp
theorem own_monoI {w : World} {B B' : Nat} {e : TypeId} {z n : Nat} {v : Value} {xs : List Value} (h : w.ownsRow B e z v n xs) (hB : B' ≤ B) : w.ownsRow B' e z v n xs := by
  refine ⟨h.1, ?_⟩
  rcases h.2 with h1 | ⟨g, cap, cur, hv, hg, r⟩
  · exact .inl h1
  · exact .inr ⟨g, cap, cur, hv, by omega, r⟩
theorem intInfo : (Try.prog.info? 3).map (fun i => (i.zero, i.size, i.bytes)) = some (some (.int .i64 0), 1, 8) := by kernel_rfl

/-- numbers of the call's own, in a row -/
def OwnInts (B : Nat) (l : List Int) (v : Value) (w : World) : Prop :=
  ∃ (A : Option Addr) (c : Nat), v = .slice A l.length c ∧ w.ownsRow B 3 1 (.slice A l.length c) l.length (intC l)
def IntsPost (l : List Int) (w : World) (e : Ending) (w' : World) : Prop := ∃ v, e = .returned v ∧ OwnInts w.heap.size l v w' ∧ Below w.heap.size w w'

/-- the row of numbers that the call fills: k of them are there -/
def FillI (w : World) (g n : Nat) (l : List Int) (k : Nat) (wr : World) : Prop :=
  k ≤ n ∧ w.heap.size ≤ g ∧ (∃ R : List Value, R.length = n - k ∧ wr.ownsRow w.heap.size 3 1 (.slice (some ⟨g, 0, none⟩) n n) n (intC (l.take k) ++ R)) ∧ Below w.heap.size w wr
theorem FillI.start {w w1 : World} {n : Nat} {l : List Int} {z : Array Value} (hown : w1.ownsRow w.heap.size 3 1 (.slice (some ⟨w.heap.size, 0, none⟩) n n) n (madeCells z (n * 1)).toList) (hg : w.grownBy w1 none) : FillI w w.heap.size n l 0 w1 :=
  ⟨by omega, by omega, ⟨(madeCells z (n * 1)).toList, by simp [size_madeCells], by simpa [intC] using hown⟩, (Below.refl _ _).grown hg (Nat.le_refl _) (by simp)⟩
theorem FillI.keep {w wr W : World} {g n : Nat} {l : List Int} {k : Nat} (h : FillI w g n l k wr) (hb : Below wr.heap.size wr W) : FillI w g n l k W := by
  obtain ⟨h1, h2, ⟨R, hR, ho⟩, hB⟩ := h
  exact ⟨h1, h2, ⟨R, hR, ho.kept (grown_of_below (row := none) hb) (by simp [Value.ownBlock])⟩, hB.trans (hb.mono hB.size)⟩
theorem FillI.put {w wr : World} {g n : Nat} {l : List Int} {k : Nat} (h : FillI w g n l k wr) (hn : n = l.length) (hk : k < n) (x : Int) (hx : x = l[k]'(by omega)) :
    FillI w g n l (k + 1) (wr.setCell ⟨g, k, none⟩ (.int .i64 x)) := by
  subst hx
  obtain ⟨_, hg, ⟨R, hR, ho⟩, hB⟩ := h
  have hlen : (intC (l.take k)).length = k := by rw [intC_len, List.length_take]; omega
  match R, hR with
  | [], hR => simp at hR; omega
  | r1 :: R, hR =>
    have o2 := (ho.stored k (.int .i64 (l[k]'(by omega)))).1
    rw [set_appI _ _ _ _ _ hlen.symm] at o2
    refine ⟨by omega, hg, ⟨R, by simp at hR; omega, ?_⟩, hB.setCell hg _⟩
    have e : intC (l.take (k + 1)) = intC (l.take k) ++ [.int .i64 (l[k]'(by omega))] := by
      rw [List.take_succ_eq_append_getElem (by omega), intC_app]; rfl
    rw [e]
    exact o2
/-- a number that is laid over at once -/
theorem FillI.over {w wr : World} {g n : Nat} {l : List Int} {k : Nat} (h : FillI w g n l k wr) (hn : n = l.length) (hk : k < n) (x : Value) : FillI w g n l k (wr.setCell ⟨g, k, none⟩ x) := by
  obtain ⟨h1, hg, ⟨R, hR, ho⟩, hB⟩ := h
  have hlen : (intC (l.take k)).length = k := by rw [intC_len, List.length_take]; omega
  match R, hR with
  | [], hR => simp at hR; omega
  | r1 :: R, hR =>
    have o2 := (ho.stored k x).1
    rw [set_appI _ _ _ _ _ hlen.symm, List.append_assoc] at o2
    exact ⟨h1, hg, ⟨_, by simpa using hR, o2⟩, hB.setCell hg _⟩
theorem FillI.cell {w wr : World} {g n : Nat} {l : List Int} {k : Nat} (h : FillI w g n l k wr) (hk : k < n) :
    (∃ u, wr.cell? ⟨g, k, none⟩ = some u) ∧ wr.frozen? ⟨g, k, none⟩ = false := by
  obtain ⟨_, hg, ⟨R, hR, ho⟩, hB⟩ := h
  have c0 := ho.cellAt k (by omega)
  rw [List.getElem?_eq_getElem (by rw [ho.1]; omega)] at c0
  exact ⟨⟨_, c0⟩, ho.frozenAt _⟩
theorem FillI.done {w wr : World} {g n : Nat} {l : List Int} (h : FillI w g n l n wr) (hn : n = l.length) : OwnInts w.heap.size l (.slice (some ⟨g, 0, none⟩) n n) wr ∧ Below w.heap.size w wr := by
  obtain ⟨_, hg, ⟨R, hR, ho⟩, hB⟩ := h
  have : R = [] := List.eq_nil_of_length_eq_zero (by omega)
  subst this
  rw [List.append_nil, hn, List.take_length] at ho
  subst hn
  exact ⟨⟨_, _, rfl, ho⟩, hB⟩


set_option maxHeartbeats 1000000 in
set_option maxRecDepth 100000 in
theorem eqIntS_same (A1 A2 : Option Addr) (n c1 c2 : Nat) (l : List Int) (w : World) (h1 : RowAt w w.heap.size A1 (intC l)) (h2 : RowAt w w.heap.size A2 (intC l)) (hn : n = l.length) (hs : n ≤ 1048576) :
    Calls Try.prog 14 #[.slice A1 n c1, .slice A2 n c2] w fun e w' => e = .returned (.bool true) ∧ Below w.heap.size w w' := by
  have H1 := Lib.hid h1; clear h1
  have H2 := Lib.hid h2; clear h2
  have HN := Lib.hid hn; clear hn
  go_enter Try.func14, Try.ntmps14
  go_wp2
  go_loopw [5] (fun i wr => ∃ k : Nat, k ≤ n ∧ i = .int .i64 k ∧ Below w.heap.size w wr) (fun i _ => n - (intOf i).toNat)
  case atStart => exact ⟨0, by omega, rfl, Below.refl _ _⟩
  case round =>
    obtain ⟨k, hk, rfl, hb⟩ := hrel
    have HB := Lib.hid hb; clear hb
    by_cases hlt : k < n
    · have hk1 : k < l.length := by have := HN.out; omega
      obtain ⟨b, off, rfl, hbw, e0⟩ := ints_at (H1.out.below HB.out) hk1
      obtain ⟨b2, off2, rfl, hbw2, e2⟩ := ints_at (H2.out.below HB.out) hk1
      generalize hx1 : l[k] = x1 at *
      clear hx1
      have q0 : (x1 == x1) = true := by simp
      have q1 : (x1 != x1) = false := by simp
      go_wp2_with fail
      go_still_tail 8, (by kernel_rfl)
      go_wp2_with fail
      go_roundw
      case rel => exact ⟨k + 1, by omega, by go_num, HB.out.trans (below_drewN _ _)⟩
      case measure => simp [intOf]; omega
    · obtain rfl : k = n := by omega
      go_wp2_with fail
      go_ret
      exact ⟨rfl, HB.out⟩

/-- the numbers from k on -/
def markI (k : Int) : Nat → List Int
  | 0 => []
  | n + 1 => markI k n ++ [k + (n : Int)]
theorem markI_len (k : Int) : ∀ (n : Nat), (markI k n).length = n
  | 0 => rfl
  | n + 1 => by rw [markI, List.length_append, markI_len]; rfl
theorem markI_at (k : Int) : ∀ (n i : Nat) (h : i < (markI k n).length), (markI k n)[i] = k + (i : Int)
  | 0, i, h => by simp [markI] at h
  | n + 1, i, h => by
    have hl := markI_len k n
    rw [markI_len] at h
    rcases Nat.lt_or_ge i n with h1 | h1
    · simp only [markI]
      rw [List.getElem_append_left (by omega)]
      exact markI_at k n i (by omega)
    · obtain rfl : i = n := by omega
      simp only [markI]
      rw [List.getElem_append_right (by omega)]
      simp [hl]
/-- whichever block a slice's row lies in -/
def blockOf (A : Option Addr) : Option Nat := A.map (·.block)
/-- while the row is marked -/
def MarkIRel (w : World) (B g n c : Nat) (l : List Int) (k : Int) (i : Nat) (wr : World) : Prop :=
  i ≤ n ∧ wr.ownsRow B 3 1 (.slice (some ⟨g, 0, none⟩) n c) n (intC (markI k i ++ l.drop i)) ∧ w.grownBy wr (some g)
theorem MarkIRel.cell {w wr : World} {B g n c : Nat} {l : List Int} {k : Int} {i : Nat} (h : MarkIRel w B g n c l k i wr) (hi : i < n) :
    (∃ u, wr.cell? ⟨g, i, none⟩ = some u) ∧ wr.frozen? ⟨g, i, none⟩ = false := by
  obtain ⟨_, ho, _⟩ := h
  have c0 := ho.cellAt i (by omega)
  rw [List.getElem?_eq_getElem (by rw [ho.1]; omega)] at c0
  exact ⟨⟨_, c0⟩, ho.frozenAt _⟩
theorem MarkIRel.step {w wr : World} {B g n c : Nat} {l : List Int} {k : Int} {i : Nat} (h : MarkIRel w B g n c l k i wr) (hl : n = l.length) (hi : i < n) :
    MarkIRel w B g n c l k (i + 1) (wr.setCell ⟨g, i, none⟩ (.int .i64 (k + (i : Int)))) := by
  obtain ⟨_, ho, hg⟩ := h
  have hlen : (intC (markI k i)).length = i := by rw [intC_len, markI_len]
  rw [intC_app, List.drop_eq_getElem_cons (by omega)] at ho
  have o2 := ho.stored i (.int .i64 (k + (i : Int)))
  rw [show intC (l[i]'(by omega) :: l.drop (i + 1)) = .int .i64 (l[i]'(by omega)) :: intC (l.drop (i + 1)) from rfl, set_appI _ _ _ _ _ hlen.symm] at o2
  refine ⟨by omega, ?_, hg.trans' o2.2⟩
  have e : intC (markI k (i + 1) ++ l.drop (i + 1)) = intC (markI k i) ++ [.int .i64 (k + (i : Int))] ++ intC (l.drop (i + 1)) := by
    rw [intC_app, markI, intC_app]; rfl
  rw [e]
  exact o2.1

set_option maxRecDepth 100000 in
set_option maxHeartbeats 1000000 in
theorem markIntS_some (B g n c : Nat) (l : List Int) (w : World) (ho : w.ownsRow B 3 1 (.slice (some ⟨g, 0, none⟩) n c) n (intC l)) (hl : n = l.length) (hn : n ≤ 1048576) :
    Calls Try.prog 17 #[.slice (some ⟨g, 0, none⟩) n c, .int .i64 1] w fun e w' => e = .returned (.int .i64 (1 + (n : Int))) ∧ w'.ownsRow B 3 1 (.slice (some ⟨g, 0, none⟩) n c) n (intC (markI 1 n)) ∧ w.grownBy w' (some g) := by
  have HO := Lib.hid ho; clear ho
  have HL := Lib.hid hl; clear hl
  go_enter Try.func17, Try.ntmps17
  go_wp2_with fail
  go_loopw [1, 5] (fun q i wr => ∃ j : Nat, i = .int .i64 j ∧ q = .int .i64 (1 + (j : Int)) ∧ MarkIRel w B g n c l 1 j wr) (fun _ i _ => n - (intOf i).toNat)
  case atStart => exact ⟨0, rfl, by simp, by omega, by simpa [markI] using HO.out, World.grownBy.refl _ _⟩
  case round =>
    obtain ⟨j, rfl, rfl, hm⟩ := hrel
    have HM := Lib.hid hm; clear hm
    have hj := HM.out.1
    by_cases hlt : j < n
    · obtain ⟨⟨u0, c0⟩, f0⟩ := HM.out.cell hlt
      have HS := Lib.hid (HM.out.step HL.out hlt)
      go_wp2_with fail
      go_roundw
      case rel => exact ⟨j + 1, by go_num, by go_num, HS.out⟩
      case measure => simp [intOf]; omega
    · obtain rfl : j = n := by omega
      have HF := Lib.hid HM.out.2
      rw [HL.out, List.drop_length, List.append_nil, ← HL.out] at HF
      go_wp2_with fail
      go_ret
      exact ⟨rfl, HF.out⟩

set_option maxRecDepth 100000 in
set_option maxHeartbeats 1000000 in
theorem heldIntS_any (A : Option Addr) (n c : Nat) (w : World) (hr : RowAt w w.heap.size A (intC (markI 1 n))) (hn : n ≤ 1048576) :
    Calls Try.prog 18 #[.slice A n c, .int .i64 1] w fun e w' => e = .returned (.int .i64 (1 + (n : Int))) ∧ w' = w := by
  have HR := Lib.hid hr; clear hr
  go_enter Try.func18, Try.ntmps18
  go_wp2_with fail
  go_loop [1, 5] (fun q i => ∃ j : Nat, j ≤ n ∧ i = .int .i64 j ∧ q = .int .i64 (1 + (j : Int))) (fun _ i => n - (intOf i).toNat)
  case atStart => exact ⟨0, by omega, rfl, by simp⟩
  case round =>
    obtain ⟨j, hj, rfl, rfl⟩ := hrel
    by_cases hlt : j < n
    · have hjl : j < (markI 1 n).length := by rw [markI_len]; exact hlt
      obtain ⟨b, off, rfl, hbw, e0⟩ := ints_at HR.out hjl
      rw [markI_at 1 n j hjl] at e0
      have q0 : ((1 + (j : Int)) == (1 + (j : Int))) = true := by simp
      have q1 : ((1 + (j : Int)) != (1 + (j : Int))) = false := by simp
      go_wp2_with fail
      go_round
      case rel => exact ⟨j + 1, by omega, by go_num, by go_num⟩
      case measure => simp [intOf]; omega
    · obtain rfl : j = n := by omega
      go_wp2_with fail
      go_ret
      exact ⟨rfl, rfl⟩

theorem markIntS_nil (A : Option Addr) (c : Nat) (w : World) :
    Calls Try.prog 17 #[.slice A 0 c, .int .i64 1] w fun e w' => e = .returned (.int .i64 1) ∧ w' = w := by
  go_enter Try.func17, Try.ntmps17
  go_wp2_with fail
  go_loop [1, 5] (fun q i => q = .int .i64 1 ∧ i = .int .i64 0) (fun _ _ => 0)
  case atStart => exact ⟨rfl, rfl⟩
  case round =>
    obtain ⟨rfl, rfl⟩ := hrel
    go_wp2_with fail
    go_ret
    exact ⟨rfl, rfl⟩

theorem markIntS_any (B : Nat) (A : Option Addr) (n c : Nat) (l : List Int) (w : World) (ho : w.ownsRow B 3 1 (.slice A n c) n (intC l)) (hl : n = l.length) (hn : n ≤ 1048576) :
    Calls Try.prog 17 #[.slice A n c, .int .i64 1] w fun e w' => e = .returned (.int .i64 (1 + (n : Int))) ∧ w'.ownsRow B 3 1 (.slice A n c) n (intC (markI 1 n)) ∧ w.grownBy w' (blockOf A) := by
  rcases ho.2 with ⟨hv, rfl⟩ | ⟨g, cap, cur, hv, hg, hh, _⟩
  · injection hv with hA _ hc
    subst hA hc
    refine (markIntS_nil _ _ w).mono ?_
    rintro e w' ⟨rfl, rfl⟩
    have hl0 : l = [] := List.eq_nil_of_length_eq_zero hl.symm
    subst hl0
    exact ⟨by simp, ho, World.grownBy.refl _ _⟩
  · injection hv with hA hn2 hc
    subst hA hc
    exact markIntS_some B g n c l w ho hl hn
end Go.Proofs.Ytdpehojcoohjcab
