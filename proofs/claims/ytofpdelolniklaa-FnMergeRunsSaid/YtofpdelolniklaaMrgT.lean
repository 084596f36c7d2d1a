/- Contracts of MergeRuns of the model and of the program at all arguments (chapter 4). Conditions: the lists lie in rows; they are few; their texts are no longer than memory. -/
import Derived.Test.YtofpdelolniklaaMrgR
set_option linter.unusedVariables false
set_option linter.unusedSimpArgs false
namespace Go.Proofs.Ytofpdelolniklaa
open Go.RowKit Go.ChangeShapes Go.WideShapes

theorem mergeR_good {f o : List It} {b : Bool} (h1 : ∀ p ∈ f, SmallIt p) (h2 : ∀ p ∈ o, SmallIt p) : (mergeR f o b).1.length ≤ 1048576 ∧ ∀ p ∈ (mergeR f o b).1, GoodIt p := by
  unfold mergeR
  split
  · rename_i h
    refine ⟨by simp only; omega, fun p hp => ?_⟩
    have := mrgS_all (P := SmallIt) h1 h2 b p hp
    exact ⟨Nat.le_trans this.1 (by simp [maxLen]), Nat.le_trans this.2 (by simp [maxLen])⟩
  · exact ⟨by simp, fun p hp => by cases hp⟩
theorem sMrgW_any (A1 : Option Addr) (n1 c1 : Nat) (l1 : List It) (A2 : Option Addr) (n2 c2 : Nat) (l2 : List It) (b : Bool) (w : World) (hr1 : RowAt w w.heap.size A1 (itsC l1)) (hn1 : n1 = l1.length) (hs1 : n1 ≤ 1048576) (hw1 : WfIt l1) (hr2 : RowAt w w.heap.size A2 (itsC l2)) (hn2 : n2 = l2.length) (hs2 : n2 ≤ 1048576) (hw2 : WfIt l2) (hA1 : A1 = none → c1 = 0) (hA2 : A2 = none → c2 = 0) :
    Calls Try.prog 13 #[.slice A1 n1 c1, .slice A2 n2 c2, .bool b] w (fun e w' => ∃ v, e = .returned (.tuple #[v, .bool (mergeR l1 l2 b).2]) ∧ OwnIt w.heap.size (mergeR l1 l2 b).1 v w' ∧ Below w.heap.size w w') :=
  sMrgV_any A1 n1 c1 l1 A2 n2 c2 l2 b w hr1 hn1 hs1 hw1 hr2 hn2 hs2 hw2 hA1 hA2
theorem iMrg_any (A1 : Option Addr) (n1 c1 : Nat) (l1 : List It) (A2 : Option Addr) (n2 c2 : Nat) (l2 : List It) (b : Bool) (w : World) (hr1 : RowAt w w.heap.size A1 (itsC l1)) (hn1 : n1 = l1.length) (hs1 : n1 ≤ 1048576) (hw1 : WfIt l1) (hc1 : n1 ≤ c1) (hm1 : c1 ≤ maxLen) (hr2 : RowAt w w.heap.size A2 (itsC l2)) (hn2 : n2 = l2.length) (hs2 : n2 ≤ 1048576) (hw2 : WfIt l2) (hc2 : n2 ≤ c2) (hm2 : c2 ≤ maxLen) :
    Calls Try.prog 12 #[.slice A1 n1 c1, .slice A2 n2 c2, .bool b] w (fun e w' => ∃ v, e = .returned (.tuple #[v, .bool (mergeR l1 l2 b).2]) ∧ OwnIt w.heap.size (mergeR l1 l2 b).1 v w' ∧ Below w.heap.size w w') := by
  cases q1 : runB l1
  · have H1 := Lib.hid (fun W (hb : Below w.heap.size w W) => iRun_any A1 n1 c1 l1 W ((hr1.below hb).mono hb.size) hn1 hs1 hw1)
    rw [q1] at H1
    rw [mergeR_no (.inl q1)]
    clear hr1 hn1 hw1 hr2 hn2 hw2 q1
    go_enter Try.func12, Try.ntmps12
    go_wp2_with fail
    refine (H1.out _ (((Below.refl _ _).alloc (Nat.le_refl _) _).alloc (by simp) _)).mono ?_
    rintro e w2 ⟨rfl, hb2⟩
    have HB2 := Lib.hid ((((Below.refl w.heap.size w).alloc (Nat.le_refl _) (.cells #[.slice none 0 0] 23)).alloc (by simp) (.cells #[.bool false] 4)).trans (hb2.mono (by simp; omega)))
    have k6 : w2.cell? ⟨w.heap.size, 0, none⟩ = some (.slice none 0 0) := (hb2.cell (p := ⟨w.heap.size, 0, none⟩) (by simp; omega)).trans (by simp)
    have k7 : w2.cell? ⟨w.heap.size + 1, 0, none⟩ = some (.bool false) := (hb2.cell (p := ⟨w.heap.size + 1, 0, none⟩) (by simp)).trans (by simp)
    have m6 : w2.frozen? ⟨w.heap.size, 0, none⟩ = false := (frozen_same (hb2.block w.heap.size (by simp; omega))).trans (by simp)
    have m7 : w2.frozen? ⟨w.heap.size + 1, 0, none⟩ = false := (frozen_same (hb2.block (w.heap.size + 1) (by simp))).trans (by simp)
    have r6 : ((w2.setCell ⟨w.heap.size, 0, none⟩ (.slice none 0 0)).setCell ⟨w.heap.size + 1, 0, none⟩ (.bool false)).cell? ⟨w.heap.size, 0, none⟩ = some (.slice none 0 0) := (World.cell?_setCell_other _ _ _ _ (by simp)).trans (World.cell?_setCell_same _ _ _ k6)
    have r7 : ((w2.setCell ⟨w.heap.size, 0, none⟩ (.slice none 0 0)).setCell ⟨w.heap.size + 1, 0, none⟩ (.bool false)).cell? ⟨w.heap.size + 1, 0, none⟩ = some (.bool false) := World.cell?_setCell_same _ _ _ ((World.cell?_setCell_other _ _ _ _ (by simp)).trans k7)
    have HB3 := Lib.hid ((HB2.out.setCell (p := ⟨w.heap.size, 0, none⟩) (Nat.le_refl _) (.slice none 0 0)).setCell (p := ⟨w.heap.size + 1, 0, none⟩) (Nat.le_succ _) (.bool false))
    clear hb2
    go_wp2_with fail
    refine bodyPost_ret (v := .tuple #[.slice none 0 0, .bool false]) (by simp [results, Try.results12, go_sem, r6, r7]) rfl ?_
    exact ⟨_, rfl, ⟨none, 0, rfl, World.ownsRow_nil _ _ _ _⟩, HB3.out⟩
  cases q2 : runB l2
  · have H1 := Lib.hid (fun W (hb : Below w.heap.size w W) => iRun_any A1 n1 c1 l1 W ((hr1.below hb).mono hb.size) hn1 hs1 hw1)
    have H2 := Lib.hid (fun W (hb : Below w.heap.size w W) => iRun_any A2 n2 c2 l2 W ((hr2.below hb).mono hb.size) hn2 hs2 hw2)
    rw [q1] at H1
    rw [q2] at H2
    rw [mergeR_no (.inr q2)]
    clear hr1 hn1 hw1 hr2 hn2 hw2 q1 q2
    go_enter Try.func12, Try.ntmps12
    go_wp2_with fail
    refine (H1.out _ (((Below.refl _ _).alloc (Nat.le_refl _) _).alloc (by simp) _)).mono ?_
    rintro e w1 ⟨rfl, hb1⟩
    have HB1 := Lib.hid ((((Below.refl w.heap.size w).alloc (Nat.le_refl _) (.cells #[.slice none 0 0] 23)).alloc (by simp) (.cells #[.bool false] 4)).trans (hb1.mono (by simp; omega)))
    go_wp2_with fail
    refine (H2.out _ HB1.out).mono ?_
    rintro e w2 ⟨rfl, hb2'⟩
    have hb2 := hb1.trans (hb2'.mono hb1.size)
    have HB2 := Lib.hid (HB1.out.trans (hb2'.mono HB1.out.size))
    clear hb1 hb2'
    have k6 : w2.cell? ⟨w.heap.size, 0, none⟩ = some (.slice none 0 0) := (hb2.cell (p := ⟨w.heap.size, 0, none⟩) (by simp; omega)).trans (by simp)
    have k7 : w2.cell? ⟨w.heap.size + 1, 0, none⟩ = some (.bool false) := (hb2.cell (p := ⟨w.heap.size + 1, 0, none⟩) (by simp)).trans (by simp)
    have m6 : w2.frozen? ⟨w.heap.size, 0, none⟩ = false := (frozen_same (hb2.block w.heap.size (by simp; omega))).trans (by simp)
    have m7 : w2.frozen? ⟨w.heap.size + 1, 0, none⟩ = false := (frozen_same (hb2.block (w.heap.size + 1) (by simp))).trans (by simp)
    have r6 : ((w2.setCell ⟨w.heap.size, 0, none⟩ (.slice none 0 0)).setCell ⟨w.heap.size + 1, 0, none⟩ (.bool false)).cell? ⟨w.heap.size, 0, none⟩ = some (.slice none 0 0) := (World.cell?_setCell_other _ _ _ _ (by simp)).trans (World.cell?_setCell_same _ _ _ k6)
    have r7 : ((w2.setCell ⟨w.heap.size, 0, none⟩ (.slice none 0 0)).setCell ⟨w.heap.size + 1, 0, none⟩ (.bool false)).cell? ⟨w.heap.size + 1, 0, none⟩ = some (.bool false) := World.cell?_setCell_same _ _ _ ((World.cell?_setCell_other _ _ _ _ (by simp)).trans k7)
    have HB3 := Lib.hid ((HB2.out.setCell (p := ⟨w.heap.size, 0, none⟩) (Nat.le_refl _) (.slice none 0 0)).setCell (p := ⟨w.heap.size + 1, 0, none⟩) (Nat.le_succ _) (.bool false))
    clear hb2
    go_wp2_with fail
    refine bodyPost_ret (v := .tuple #[.slice none 0 0, .bool false]) (by simp [results, Try.results12, go_sem, r6, r7]) rfl ?_
    exact ⟨_, rfl, ⟨none, 0, rfl, World.ownsRow_nil _ _ _ _⟩, HB3.out⟩
  cases b
  · exact iMrgF_any A1 n1 c1 l1 A2 n2 c2 l2 w hr1 hn1 hs1 hw1 hc1 hm1 hr2 hn2 hs2 hw2 hc2 hm2 q1 q2
  · exact iMrgT_any A1 n1 c1 l1 A2 n2 c2 l2 w hr1 hn1 hs1 hw1 hc1 hm1 hr2 hn2 hs2 hw2 hc2 hm2 q1 q2
end Go.Proofs.Ytofpdelolniklaa
