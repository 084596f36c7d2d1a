/- Contracts of the exact laws' own helpers on lists of Pair: sz, to, eq, and how such an argument is opened. Conditions: the elements lie in a row; they are few. -/
import Derived.Test.YtokmofkpjohlmaaKey
import Derived.Test.YtokmofkpjohlmaaOpen
import Derived.StillTailTactics
import Derived.Deep.RegionWith
set_option linter.unusedVariables false
set_option linter.unusedSimpArgs false
namespace Go.Proofs.Ytokmofkpjohlmaa
open Go.RowKit Go.ChangeShapes Go.WideShapes

abbrev Pr := ByteArray × ByteArray
def prC (p : Pr) : List Value := [.string p.1, .string p.2]
theorem prC_len (p : Pr) : (prC p).length = 2 := rfl
def prsC (l : List Pr) : List Value := l.flatMap prC
theorem prsC_len (l : List Pr) : (prsC l).length = l.length * 2 := flat_len prC 2 prC_len l
theorem prsC_app (a b : List Pr) : prsC (a ++ b) = prsC a ++ prsC b := by unfold prsC; rw [List.flatMap_append]
theorem prsC_snoc (A : List Pr) (x : Pr) : prsC (A ++ [x]) = prsC A ++ prC x := by rw [prsC_app]; simp [prsC]
theorem prsC_at0 {l : List Pr} {k : Nat} (h : k < l.length) : (prsC l)[k * 2]? = some (.string l[k].1) := by
  have := flat_at prC 2 prC_len l k 0 (by omega)
  rw [Nat.add_zero] at this
  rw [prsC, this, List.getElem?_eq_getElem h]; rfl
theorem prsC_at1 {l : List Pr} {k : Nat} (h : k < l.length) : (prsC l)[k * 2 + 1]? = some (.string l[k].2) := by
  have := flat_at prC 2 prC_len l k 1 (by omega)
  rw [prsC, this, List.getElem?_eq_getElem h]; rfl
theorem prs_at {w : World} {B : Nat} {A : Option Addr} {l : List Pr} {k : Nat} (h : RowAt w B A (prsC l)) (hk : k < l.length) :
    ∃ b off, A = some ⟨b, off, none⟩ ∧ b < B ∧ w.cell? ⟨b, off + k * 2, none⟩ = some (.string l[k].1) ∧ w.cell? ⟨b, off + k * 2 + 1, none⟩ = some (.string l[k].2) := by
  obtain ⟨b, off, rfl, hb, hc⟩ := h (by intro h0; have := prsC_len l; rw [h0] at this; simp at this; omega)
  exact ⟨b, off, rfl, hb, hc _ _ (prsC_at0 hk), by rw [Nat.add_assoc]; exact hc _ _ (prsC_at1 hk)⟩
theorem prInfo : (Try.prog.info? 93).map (fun i => (i.zero, i.size, i.bytes)) = some (some (.agg #[.string ⟨#[]⟩, .string ⟨#[]⟩]), 2, 32) := by kernel_rfl
def GoodPr (p : Pr) : Prop := p.1.size ≤ maxLen ∧ p.2.size ≤ maxLen
def SmallPr (p : Pr) : Prop := p.1.size ≤ 1048576 ∧ p.2.size ≤ 1048576
def WfPr (l : List Pr) : Prop := ∀ p ∈ l, GoodPr p

theorem pr_cells_string : Try.prog.cellsOf 9 = 1 := by kernel_rfl
section
variable {H : Type} {enc : TypeId × Value → H} {P : Program} {w : World} {base : Nat} {spare : Nat → Bool} {held : Bool}
theorem pr_shape {t e : TypeId} {fuel : Nat} {v : Value} {x : DataW H × List MemPlace} (ht : P.underlying t = some (.slice e)) (h : DataW.trod enc P w base spare held fuel t [v] = some x) : ∃ A n c, v = .slice A n c := by
  rcases Go.Deep.open_slice ht h with ⟨hcs, _⟩ | ⟨ad, len, cap, m, q, D, Pl, hcs, _⟩
  · exact ⟨none, 0, 0, by simpa using hcs⟩
  · exact ⟨some ad, len, cap, by simpa using hcs⟩
/-- a list of Pair as an argument, as it was read -/
def PrArg (w : World) (A : Option Addr) (n c : Nat) (l : List Pr) : Prop := n = l.length ∧ n ≤ c ∧ c ≤ maxLen ∧ RowAt w w.heap.size A (prsC l) ∧ WfPr l
end



theorem set_appPr {α : Type} (A : List α) (r v : α) (R : List α) (k : Nat) (hk : k = A.length) : (A ++ r :: R).set k v = (A ++ [v]) ++ R := by
  subst hk
  rw [List.set_append_right _ _ (Nat.le_refl _)]
  simp
/-- the row that the call fills: k of its elements are there -/
def FillPr (w : World) (g n : Nat) (l : List Pr) (k : Nat) (wr : World) : Prop :=
  k ≤ n ∧ w.heap.size ≤ g ∧ (∃ R : List Value, R.length = (n - k) * 2 ∧ wr.ownsRow w.heap.size 93 2 (.slice (some ⟨g, 0, none⟩) n n) n (prsC (l.take k) ++ R)) ∧ Below w.heap.size w wr
theorem FillPr.keep {w wr W : World} {g n : Nat} {l : List Pr} {k : Nat} (h : FillPr w g n l k wr) (hb : Below wr.heap.size wr W) : FillPr w g n l k W := by
  obtain ⟨h1, h2, ⟨R, hR, ho⟩, hB⟩ := h
  exact ⟨h1, h2, ⟨R, hR, ho.kept (grown_of_below (row := none) hb) (by simp [Value.ownBlock])⟩, hB.trans (hb.mono hB.size)⟩
theorem FillPr.put {w wr : World} {g n : Nat} {l : List Pr} {k : Nat} (h : FillPr w g n l k wr) (hn : n = l.length) (hk : k < n) :
    FillPr w g n l (k + 1) ((wr.setCell ⟨g, k * 2, none⟩ (.string (l[k]'(by omega)).1)).setCell ⟨g, k * 2 + 1, none⟩ (.string (l[k]'(by omega)).2)) := by
  obtain ⟨_, hg, ⟨R, hR, ho⟩, hB⟩ := h
  have hlen : (prsC (l.take k)).length = k * 2 := by rw [prsC_len, List.length_take]; congr 1; omega
  match R, hR with
  | [], hR => simp at hR; omega
  | [_], hR => simp at hR; omega
  | r0 :: r1 :: R, hR =>
    have o0 := (ho.stored (k * 2) (.string (l[k]'(by omega)).1)).1
    rw [set_appPr _ _ _ _ _ hlen.symm] at o0
    have o1 := (o0.stored (k * 2 + 1) (.string (l[k]'(by omega)).2)).1
    rw [set_appPr _ _ _ _ _ (by simp [hlen])] at o1
    refine ⟨by omega, hg, ⟨R, by simp at hR; omega, ?_⟩, ((hB.setCell hg _).setCell hg _)⟩
    have e : prsC (l.take (k + 1)) = prsC (l.take k) ++ [.string (l[k]'(by omega)).1] ++ [.string (l[k]'(by omega)).2] := by
      rw [List.take_succ_eq_append_getElem (by omega), prsC_snoc, List.append_assoc]; rfl
    rw [e]
    exact o1
theorem FillPr.start {w w1 : World} {n : Nat} {l : List Pr} {z : Array Value} (hown : w1.ownsRow w.heap.size 93 2 (.slice (some ⟨w.heap.size, 0, none⟩) n n) n (madeCells z (n * 2)).toList) (hg : w.grownBy w1 none) : FillPr w w.heap.size n l 0 w1 :=
  ⟨by omega, by omega, ⟨(madeCells z (n * 2)).toList, by simp [size_madeCells], by simpa [prsC] using hown⟩, (Below.refl _ _).grown hg (Nat.le_refl _) (by simp)⟩
theorem FillPr.cells {w wr : World} {g n : Nat} {l : List Pr} {k : Nat} (h : FillPr w g n l k wr) (hk : k < n) :
    (∃ u, wr.cell? ⟨g, k * 2, none⟩ = some u) ∧ (∃ u, wr.cell? ⟨g, k * 2 + 1, none⟩ = some u) ∧ wr.frozen? ⟨g, k * 2, none⟩ = false ∧ wr.frozen? ⟨g, k * 2 + 1, none⟩ = false := by
  obtain ⟨_, hg, ⟨R, hR, ho⟩, hB⟩ := h
  have c0 := ho.cellAt (k * 2) (by omega)
  have c1 := ho.cellAt (k * 2 + 1) (by omega)
  rw [List.getElem?_eq_getElem (by rw [ho.1]; omega)] at c0 c1
  exact ⟨⟨_, c0⟩, ⟨_, c1⟩, ho.frozenAt _, ho.frozenAt _⟩
/-- a list of the call's own, in a row -/
def OwnPr (B : Nat) (l : List Pr) (v : Value) (w : World) : Prop :=
  ∃ (A : Option Addr) (c : Nat), v = .slice A l.length c ∧ w.ownsRow B 93 2 (.slice A l.length c) l.length (prsC l)
theorem FillPr.done {w wr : World} {g n : Nat} {l : List Pr} (h : FillPr w g n l n wr) (hn : n = l.length) : OwnPr w.heap.size l (.slice (some ⟨g, 0, none⟩) n n) wr ∧ Below w.heap.size w wr := by
  obtain ⟨_, hg, ⟨R, hR, ho⟩, hB⟩ := h
  have : R = [] := List.eq_nil_of_length_eq_zero (by omega)
  subst this
  rw [List.append_nil, hn, List.take_length] at ho
  subst hn
  exact ⟨⟨_, _, rfl, ho⟩, hB⟩
def PrsPost (l : List Pr) (w : World) (e : Ending) (w' : World) : Prop := ∃ v, e = .returned v ∧ OwnPr w.heap.size l v w' ∧ Below w.heap.size w w'


theorem eqPair_same (x0 : ByteArray) (x1 : ByteArray) (w : World) (s0 : x0.size ≤ maxLen) (s1 : x1.size ≤ maxLen) :
    Calls Try.prog 82 #[.agg #[.string x0, .string x1], .agg #[.string x0, .string x1]] w fun e w' => e = .returned (.bool true) ∧ Below w.heap.size w w' := by
  have hB : ∀ o1 o2, Below w.heap.size w ((w.alloc o1).alloc o2) := fun o1 o2 => ((Below.refl _ _).alloc (Nat.le_refl _) _).alloc (by simp) _
  go_enter Try.func82, Try.ntmps82
  go_wp2
  go_ret
  exact ⟨rfl, hB _ _⟩

set_option maxHeartbeats 1000000 in
set_option maxRecDepth 100000 in
theorem eqPairS_same (A1 A2 : Option Addr) (n c1 c2 : Nat) (l : List Pr) (w : World) (h1 : RowAt w w.heap.size A1 (prsC l)) (h2 : RowAt w w.heap.size A2 (prsC l)) (hn : n = l.length) (hs : n ≤ 1048576) (hw : ∀ p ∈ l, GoodPr p) :
    Calls Try.prog 39 #[.slice A1 n c1, .slice A2 n c2] w fun e w' => e = .returned (.bool true) ∧ Below w.heap.size w w' := by
  have H1 := Lib.hid h1; clear h1
  have H2 := Lib.hid h2; clear h2
  have HN := Lib.hid hn; clear hn
  have HW := Lib.hid hw; clear hw
  go_enter Try.func39, Try.ntmps39
  go_wp2
  go_loopw [5] (fun i wr => ∃ k : Nat, k ≤ n ∧ i = .int .i64 k ∧ Below w.heap.size w wr) (fun i _ => n - (intOf i).toNat)
  case atStart => exact ⟨0, by omega, rfl, Below.refl _ _⟩
  case round =>
    obtain ⟨k, hk, rfl, hb⟩ := hrel
    have HB := Lib.hid hb; clear hb
    by_cases hlt : k < n
    · have hk1 : k < l.length := by have := HN.out; omega
      obtain ⟨b, off, rfl, hbw, e0, e1⟩ := prs_at (H1.out.below HB.out) hk1
      obtain ⟨b2, off2, rfl, hbw2, d0, d1⟩ := prs_at (H2.out.below HB.out) hk1
      have hg := HW.out l[k] (List.getElem_mem hk1)
      unfold GoodPr at hg
      have HE := Lib.hid (fun w => eqPair_same l[k].1 l[k].2 w hg.1 hg.2)
      clear hg
      generalize hx0 : l[k].1 = x0 at *
      generalize hx1 : l[k].2 = x1 at *
      clear hx0 hx1
      go_wp2_with fail
      go_still_tail 8, (by kernel_rfl)
      go_wp2_with fail
      refine (HE.out _).mono ?_
      rintro e w3 ⟨rfl, hb3⟩
      have HB3 := Lib.hid (HB.out.trans ((below_drewN _ _).trans (hb3.mono HB.out.size))); clear hb3
      go_wp2_with fail
      go_roundw
      case rel => exact ⟨k + 1, by omega, by go_num, HB3.out⟩
      case measure => simp [intOf]; omega
    · obtain rfl : k = n := by omega
      go_wp2_with fail
      go_ret
      exact ⟨rfl, HB.out⟩

end Go.Proofs.Ytokmofkpjohlmaa
