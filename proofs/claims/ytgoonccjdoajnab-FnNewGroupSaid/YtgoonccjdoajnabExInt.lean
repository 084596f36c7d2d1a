/- Contracts of the exact laws' own helpers on lists of numbers: toIntS, eqIntS, markIntS, heldIntS. Conditions: the numbers lie in a row; they are few. -/
import Derived.Test.YtgoonccjdoajnabKey
import Derived.Test.YtgoonccjdoajnabTraceM
import Derived.StillTailTactics
import Derived.Deep.RegionWith
set_option linter.unusedVariables false
set_option linter.unusedSimpArgs false
namespace Go.Proofs.Ytgoonccjdoajnab
open Go.RowKit Go.ChangeShapes Go.WideShapes

theorem set_appI {α : Type} (A : List α) (r v : α) (R : List α) (k : Nat) (hk : k = A.length) : (A ++ r :: R).set k v = (A ++ [v]) ++ R := by
  subst hk
  rw [List.set_append_right _ _ (Nat.le_refl _)]
  simp
theorem own_monoI {w : World} {B B' : Nat} {e : TypeId} {z n : Nat} {v : Value} {xs : List Value} (h : w.ownsRow B e z v n xs) (hB : B' ≤ B) : w.ownsRow B' e z v n xs := by
  refine ⟨h.1, ?_⟩
  rcases h.2 with h1 | ⟨g, cap, cur, hv, hg, r⟩
  · exact .inl h1
  · exact .inr ⟨g, cap, cur, hv, by omega, r⟩
theorem intInfo : (Try.prog.info? 3).map (fun i => (i.zero, i.size, i.bytes)) = some (some (.int .i64 0), 1, 8) := by kernel_rfl

/-- numbers of the call's own, in a row -/
def OwnInts (B : Nat) (l : List Int) (v : Value) (w : World) : Prop :=
  ∃ (A : Option Addr) (c : Nat), v = .slice A l.length c ∧ w.ownsRow B 3 1 (.slice A l.length c) l.length (intC l)
def IntsPost (l : List Int) (w : World) (e : Ending) (w' : World) : Prop := ∃ v, e = .returned v ∧ OwnInts w.heap.size l v w' ∧ Below w.heap.size w w'

/-- the row of numbers that the call fills: k of them are there -/
def FillI (w : World) (g n : Nat) (l : List Int) (k : Nat) (wr : World) : Prop :=
  k ≤ n ∧ w.heap.size ≤ g ∧ (∃ R : List Value, R.length = n - k ∧ wr.ownsRow w.heap.size 3 1 (.slice (some ⟨g, 0, none⟩) n n) n (intC (l.take k) ++ R)) ∧ Below w.heap.size w wr
theorem FillI.start {w w1 : World} {n : Nat} {l : List Int} {z : Array Value} (hown : w1.ownsRow w.heap.size 3 1 (.slice (some ⟨w.heap.size, 0, none⟩) n n) n (madeCells z (n * 1)).toList) (hg : w.grownBy w1 none) : FillI w w.heap.size n l 0 w1 :=
  ⟨by omega, by omega, ⟨(madeCells z (n * 1)).toList, by simp [size_madeCells], by simpa [intC] using hown⟩, (Below.refl _ _).grown hg (Nat.le_refl _) (by simp)⟩
theorem FillI.keep {w wr W : World} {g n : Nat} {l : List Int} {k : Nat} (h : FillI w g n l k wr) (hb : Below wr.heap.size wr W) : FillI w g n l k W := by
  obtain ⟨h1, h2, ⟨R, hR, ho⟩, hB⟩ := h
  exact ⟨h1, h2, ⟨R, hR, ho.kept (grown_of_below (row := none) hb) (by simp [Value.ownBlock])⟩, hB.trans (hb.mono hB.size)⟩
theorem FillI.put {w wr : World} {g n : Nat} {l : List Int} {k : Nat} (h : FillI w g n l k wr) (hn : n = l.length) (hk : k < n) (x : Int) (hx : x = l[k]'(by omega)) :
    FillI w g n l (k + 1) (wr.setCell ⟨g, k, none⟩ (.int .i64 x)) := by
  subst hx
  obtain ⟨_, hg, ⟨R, hR, ho⟩, hB⟩ := h
  have hlen : (intC (l.take k)).length = k := by rw [intC_len, List.length_take]; omega
  match R, hR with
  | [], hR => simp at hR; omega
  | r1 :: R, hR =>
    have o2 := (ho.stored k (.int .i64 (l[k]'(by omega)))).1
    rw [set_appI _ _ _ _ _ hlen.symm] at o2
    refine ⟨by omega, hg, ⟨R, by simp at hR; omega, ?_⟩, hB.setCell hg _⟩
    have e : intC (l.take (k + 1)) = intC (l.take k) ++ [.int .i64 (l[k]'(by omega))] := by
      rw [List.take_succ_eq_append_getElem (by omega), intC_app]; rfl
    rw [e]
    exact o2
/-- a number that is laid over at once -/
theorem FillI.over {w wr : World} {g n : Nat} {l : List Int} {k : Nat} (h : FillI w g n l k wr) (hn : n = l.length) (hk : k < n) (x : Value) : FillI w g n l k (wr.setCell ⟨g, k, none⟩ x) := by
  obtain ⟨h1, hg, ⟨R, hR, ho⟩, hB⟩ := h
  have hlen : (intC (l.take k)).length = k := by rw [intC_len, List.length_take]; omega
  match R, hR with
  | [], hR => simp at hR; omega
  | r1 :: R, hR =>
    have o2 := (ho.stored k x).1
    rw [set_appI _ _ _ _ _ hlen.symm, List.append_assoc] at o2
    exact ⟨h1, hg, ⟨_, by simpa using hR, o2⟩, hB.setCell hg _⟩
theorem FillI.cell {w wr : World} {g n : Nat} {l : List Int} {k : Nat} (h : FillI w g n l k wr) (hk : k < n) :
    (∃ u, wr.cell? ⟨g, k, none⟩ = some u) ∧ wr.frozen? ⟨g, k, none⟩ = false := by
  obtain ⟨_, hg, ⟨R, hR, ho⟩, hB⟩ := h
  have c0 := ho.cellAt k (by omega)
  rw [List.getElem?_eq_getElem (by rw [ho.1]; omega)] at c0
  exact ⟨⟨_, c0⟩, ho.frozenAt _⟩
theorem FillI.done {w wr : World} {g n : Nat} {l : List Int} (h : FillI w g n l n wr) (hn : n = l.length) : OwnInts w.heap.size l (.slice (some ⟨g, 0, none⟩) n n) wr ∧ Below w.heap.size w wr := by
  obtain ⟨_, hg, ⟨R, hR, ho⟩, hB⟩ := h
  have : R = [] := List.eq_nil_of_length_eq_zero (by omega)
  subst this
  rw [List.append_nil, hn, List.take_length] at ho
  subst hn
  exact ⟨⟨_, _, rfl, ho⟩, hB⟩



/-- the numbers from k on -/
def markI (k : Int) : Nat → List Int
  | 0 => []
  | n + 1 => markI k n ++ [k + (n : Int)]
theorem markI_len (k : Int) : ∀ (n : Nat), (markI k n).length = n
  | 0 => rfl
  | n + 1 => by rw [markI, List.length_append, markI_len]; rfl
theorem markI_at (k : Int) : ∀ (n i : Nat) (h : i < (markI k n).length), (markI k n)[i] = k + (i : Int)
  | 0, i, h => by simp [markI] at h
  | n + 1, i, h => by
    have hl := markI_len k n
    rw [markI_len] at h
    rcases Nat.lt_or_ge i n with h1 | h1
    · simp only [markI]
      rw [List.getElem_append_left (by omega)]
      exact markI_at k n i (by omega)
    · obtain rfl : i = n := by omega
      simp only [markI]
      rw [List.getElem_append_right (by omega)]
      simp [hl]
/-- whichever block a slice's row lies in -/
def blockOf (A : Option Addr) : Option Nat := A.map (·.block)
/-- while the row is marked -/
def MarkIRel (w : World) (B g n c : Nat) (l : List Int) (k : Int) (i : Nat) (wr : World) : Prop :=
  i ≤ n ∧ wr.ownsRow B 3 1 (.slice (some ⟨g, 0, none⟩) n c) n (intC (markI k i ++ l.drop i)) ∧ w.grownBy wr (some g)
theorem MarkIRel.cell {w wr : World} {B g n c : Nat} {l : List Int} {k : Int} {i : Nat} (h : MarkIRel w B g n c l k i wr) (hi : i < n) :
    (∃ u, wr.cell? ⟨g, i, none⟩ = some u) ∧ wr.frozen? ⟨g, i, none⟩ = false := by
  obtain ⟨_, ho, _⟩ := h
  have c0 := ho.cellAt i (by omega)
  rw [List.getElem?_eq_getElem (by rw [ho.1]; omega)] at c0
  exact ⟨⟨_, c0⟩, ho.frozenAt _⟩
theorem MarkIRel.step {w wr : World} {B g n c : Nat} {l : List Int} {k : Int} {i : Nat} (h : MarkIRel w B g n c l k i wr) (hl : n = l.length) (hi : i < n) :
    MarkIRel w B g n c l k (i + 1) (wr.setCell ⟨g, i, none⟩ (.int .i64 (k + (i : Int)))) := by
  obtain ⟨_, ho, hg⟩ := h
  have hlen : (intC (markI k i)).length = i := by rw [intC_len, markI_len]
  rw [intC_app, List.drop_eq_getElem_cons (by omega)] at ho
  have o2 := ho.stored i (.int .i64 (k + (i : Int)))
  rw [show intC (l[i]'(by omega) :: l.drop (i + 1)) = .int .i64 (l[i]'(by omega)) :: intC (l.drop (i + 1)) from rfl, set_appI _ _ _ _ _ hlen.symm] at o2
  refine ⟨by omega, ?_, hg.trans' o2.2⟩
  have e : intC (markI k (i + 1) ++ l.drop (i + 1)) = intC (markI k i) ++ [.int .i64 (k + (i : Int))] ++ intC (l.drop (i + 1)) := by
    rw [intC_app, markI, intC_app]; rfl
  rw [e]
  exact o2.1




end Go.Proofs.Ytgoonccjdoajnab
