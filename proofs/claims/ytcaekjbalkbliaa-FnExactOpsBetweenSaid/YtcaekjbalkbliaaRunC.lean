/- Contracts of ValidRun, in the program and in the model (chapter 4). Conditions: the items lie in a row; they are few; their texts are no longer than memory. -/
import Derived.Test.YtcaekjbalkbliaaExItem
import Derived.Test.YtcaekjbalkbliaaAsc
import Derived.Deep.QuietTactic
import Derived.Deep.RegionWith
import Derived.BigQuiet
set_option linter.unusedVariables false
set_option linter.unusedSimpArgs false
namespace Go.Proofs.Ytcaekjbalkbliaa
open Go.RowKit Go.ChangeShapes Go.WideShapes

abbrev kIt : ItS → ByteArray := fun p => p.1
theorem goodIt_zero {l : List It} (h : 0 < l.length) : goodI kIt okIt l 0 = (keyB l[0].1 && valB l[0].2.1 && (!l[0].2.2 || l[0].2.1.toList.isEmpty)) := good_zero h
theorem goodIt_succ {l : List It} {k : Nat} (h : k + 1 < l.length) : goodI kIt okIt l (k + 1) = (keyB l[k + 1].1 && valB l[k + 1].2.1 && (!l[k + 1].2.2 || l[k + 1].2.1.toList.isEmpty) && ltS l[k].1 l[k + 1].1) := good_succ h
theorem runB_no {l : List It} {k : Nat} (h : goodI kIt okIt l k = false) (hk : k < l.length) : runB l = false := by
  unfold runB; rw [show ascB (fun p : ItS => p.1) okIt l = false from asc_no h hk]; simp
theorem runB_all {l : List It} (h : upB kIt okIt l l.length = true) : runB l = decide (l.length ≤ 40) := by
  unfold runB; rw [show ascB (fun p : ItS => p.1) okIt l = true from h]; simp
theorem runB_long {l : List It} (h : 40 < l.length) : runB l = false := by
  unfold runB; rw [decide_eq_false (by omega)]; rfl

theorem iWhole_any (x0 x1 : ByteArray) (x2 : Bool) (w : World) (h0 : x0.size ≤ maxLen) (h1 : x1.size ≤ maxLen) :
    Calls Try.prog 65 #[.agg #[.string x0, .string x1, .bool x2]] w fun e w' => e = .returned (.bool (okIt (x0, x1, x2))) ∧ Below w.heap.size w w' := by
  have HK := Lib.hid (fun w => iCell_any x0 x1 w h0 h1)
  have HE := Lib.hid (cellS_emp x0 x1)
  have HO := Lib.hid (show okIt (x0, x1, x2) = (keyB x0 && valB x1 && (!x2 || x1.toList.isEmpty)) from rfl)
  have HB := Lib.hid (fun o => (Below.refl w.heap.size w).alloc (Nat.le_refl _) o)
  clear h0 h1
  cases h1 : (keyB x0 && valB x1)
  · rw [h1] at HE HO
    have he := HE.out
    generalize cellS x0 x1 = y at *
    clear h1 HE
    go_enter Try.func65, Try.ntmps65
    go_wp2_with (go_at_call 57; refine (HK.out _).mono ?_; rintro e w' ⟨rfl, rfl⟩)
    all_goals go_ret
    all_goals exact ⟨ret_bool (by rw [HO.out]; rfl), HB.out _⟩
  · rw [h1] at HE HO
    have he := HE.out
    generalize cellS x0 x1 = y at *
    clear h1 HE
    by_cases hx : x1.toList = []
    · have q8 : x1.toList.isEmpty = true := by rw [hx]; rfl
      rw [q8] at HO
      cases x2
      all_goals
        go_enter Try.func65, Try.ntmps65
        go_wp2_with (go_at_call 57; refine (HK.out _).mono ?_; rintro e w' ⟨rfl, rfl⟩)
        go_ret
        exact ⟨ret_bool (by rw [HO.out]; rfl), HB.out _⟩
    · have q8 := emp_false hx
      have q9 : (x1.toList == []) = false := by simpa using hx
      rw [q8] at HO
      cases x2
      all_goals
        go_enter Try.func65, Try.ntmps65
        go_wp2_with (go_at_call 57; refine (HK.out _).mono ?_; rintro e w' ⟨rfl, rfl⟩)
        go_ret
        exact ⟨ret_bool (by rw [HO.out]; rfl), HB.out _⟩
end Go.Proofs.Ytcaekjbalkbliaa