/- What AddAt's two sides share; the library's slices.Clone at versions. Conditions: the lists lie in rows; they are few; their texts are no longer than memory. -/
import Derived.Test.YtokmofkpjohlmaaVerS
import Derived.Test.YtokmofkpjohlmaaAppR
import Derived.Test.YtokmofkpjohlmaaOut
import Derived.Test.YtokmofkpjohlmaaShortI
set_option linter.unusedVariables false
set_option linter.unusedSimpArgs false
namespace Go.Proofs.Ytokmofkpjohlmaa
open Go.RowKit Go.ChangeShapes Go.WideShapes

theorem vrs_one (l : List Vr) : ∀ u ∈ vrsC l, u.oneCell' = true := by
  intro u hu
  obtain ⟨p, _, hp⟩ := List.mem_flatMap.1 hu
  simp [vrC] at hp
  rcases hp with rfl | rfl | rfl | rfl <;> rfl
theorem own_startV (w : World) (e : TypeId) (z : Nat) : (w.alloc (.cells #[] e)).ownsRow w.heap.size e z (.slice (some ⟨w.heap.size, 0, none⟩) 0 0) 0 [] :=
  ⟨by simp, .inr ⟨w.heap.size, 0, #[], rfl, Nat.le_refl _, heap_alloc_new w _, by omega, by simp [maxLen], by simp, by simp⟩⟩
theorem own_shapeV {w : World} {B n z : Nat} {e : TypeId} {v : Value} {xs : List Value} (h : w.ownsRow B e z v n xs) : ∃ (A : Option Addr) (c : Nat), v = .slice A n c := by
  rcases h.2 with ⟨h1, h2⟩ | ⟨g, N, cur, h1, _⟩
  · exact ⟨none, 0, h1.trans (by rw [h2])⟩
  · exact ⟨_, _, h1⟩
theorem laterT_nil (at_ : Int) : laterT [] at_ = true := rfl
theorem laterT_last {l : List Vr} {at_ : Int} (h : 0 < l.length) : laterT l at_ = decide ((l[l.length - 1]'(by omega)).2.2.2 < at_) := by
  unfold laterT; rw [List.getLast?_eq_getElem?, List.getElem?_eq_getElem (by omega)]
theorem addR_no {l : List Vr} {ops : List Cg} {at_ : Int} (h : addB l ops at_ = false) : addR l ops at_ = ([], false) := by unfold addR; rw [if_neg (by rw [h]; simp)]
theorem addR_yes {l : List Vr} {ops : List Cg} {at_ : Int} (h : addB l ops at_ = true) : addR l ops at_ = (addL l ops at_, true) := by unfold addR; rw [if_pos h]
theorem addL_zero (l : List Vr) (ops : List Cg) (at_ : Int) : addL l (ops.take 0) at_ = l := by simp [addL]
theorem addL_succ {l : List Vr} {ops : List Cg} {at_ : Int} {k : Nat} (h : k < ops.length) : addL l (ops.take (k + 1)) at_ = addL l (ops.take k) at_ ++ [(ops[k].1, ops[k].2.1, ops[k].2.2, at_)] := by
  unfold addL; rw [List.take_succ_eq_append_getElem h, List.map_append, ← List.append_assoc]; rfl
theorem addL_full (l : List Vr) (ops : List Cg) (at_ : Int) : addL l (ops.take ops.length) at_ = addL l ops at_ := by rw [List.take_length]
def AddPost (r : List Vr × Bool) (w : World) (e : Ending) (w' : World) : Prop := ∃ v, e = .returned (.tuple #[v, .bool r.2]) ∧ OwnVr w.heap.size r.1 v w' ∧ Below w.heap.size w w'
theorem addPost_no {w w' : World} (hb : Below w.heap.size w w') : AddPost ([], false) w (.returned (.tuple #[.slice none 0 0, .bool false])) w' := ⟨_, rfl, ⟨none, 0, rfl, World.ownsRow_nil _ _ _ _⟩, hb⟩
theorem cloneVr_any (A : Option Addr) (n c : Nat) (l : List Vr) (w : World) (hr : RowAt w w.heap.size A (vrsC l)) (hn : n = l.length) (hs : n ≤ 1048576) :
    Calls Try.prog 71 #[.slice A n c] w (fun e w' => ∃ v, e = .returned v ∧ OwnVr w.heap.size l v w' ∧ Below w.heap.size w w') := by
  obtain ⟨i0, hi0, hz0, hz1, hz2⟩ := info_parts vrInfo
  have HI := Lib.hid (And.intro hi0 (And.intro hz0 (And.intro hz1 hz2))); clear hi0 hz0 hz1 hz2
  have HR := Lib.hid hr; clear hr
  have HN := Lib.hid hn; clear hn
  have hnil := @Lib.run_eql_slice_nil
  cases A with
  | none =>
    have HE := Lib.hid (show l = [] by
      cases l with
      | nil => rfl
      | cons p t =>
        obtain ⟨b, off, e, _⟩ := HR.out (by simp [vrsC, vrC])
        cases e)
    rw [HE.out]
    go_enter Try.func71, Try.ntmps71
    go_wp2_with fail
    refine bodyPost_ret (v := .slice none 0 0) (by simp [results, Try.results71, go_sem]) rfl ?_
    exact ⟨_, rfl, ⟨none, 0, rfl, World.ownsRow_nil _ _ _ _⟩, Below.refl _ _⟩
  | some ad =>
    have HB0 := Lib.hid ((Below.refl w.heap.size w).alloc (Nat.le_refl _) (.cells #[] 57))
    have HO := Lib.hid (own_startV w 57 4)
    go_enter Try.func71, Try.ntmps71
    go_wp2_with (at_builtin; refine wpList_append_row rfl _ _ 25 rfl w.heap.size 57 i0 (.agg #[.string ⟨#[]⟩, .string ⟨#[]⟩, .bool false, .int .i64 0]) 4 48 Try.underlying25 HI.out.1 HI.out.2.1 HI.out.2.2.1 HI.out.2.2.2 rfl (by decide) _ 0 [] rfl HO.out (some ad) n c w.heap.size (vrsC l) rfl ?c0 ?c1 (HR.out.below HB0.out) (vrs_one l) ?c3 ?c4 ?c5 ?_)
    try (case c0 => intro h; cases h)
    try (case c1 => rw [vrsC_len, ← HN.out])
    try (case c3 => unfold maxLen; omega)
    try (case c4 => omega)
    try (case c5 => exact HB0.out.size)
    intro v1 w1 hown1 hgrow1
    have hb1 : Below w.heap.size w w1 := HB0.out.grown hgrow1 HB0.out.size (fun q hq => (HO.out.lt q hq).1)
    obtain ⟨A3, c3, rfl⟩ := own_shapeV hown1
    have HP := Lib.hid (show OwnVr w.heap.size l (.slice A3 n c3) w1 from ⟨A3, c3, by rw [← HN.out], by rw [← HN.out]; exact hown1⟩)
    have HB1 := Lib.hid hb1
    clear hown1 hgrow1 hb1
    go_wp2_with fail
    refine bodyPost_ret (v := .slice A3 n c3) (by simp [results, Try.results71, go_sem]) rfl ?_
    exact ⟨_, rfl, HP.out, HB1.out⟩
end Go.Proofs.Ytokmofkpjohlmaa
