/- Two runs as one, item by item, are the newer one's items put into the older one; plain. And MergeRuns of the model. Conditions: the runs lie in rows; they are few. -/
import Derived.Test.YtcaekjbalkbliaaWoG
import Derived.Test.YtcaekjbalkbliaaMrgS
import Derived.Test.YtcaekjbalkbliaaRunI
set_option linter.unusedVariables false
set_option linter.unusedSimpArgs false
namespace Go.Proofs.Ytcaekjbalkbliaa
open Go.RowKit Go.ChangeShapes Go.WideShapes

def AscI (l : List It) : Prop := l.Pairwise (fun p q => ltS p.1 q.1 = true)
theorem asc_pair {l : List It} (h : runB l = true) : AscI l := by
  unfold runB at h
  rw [Bool.and_eq_true] at h
  exact List.pairwise_iff_getElem.2 fun i j hi hj hij => asc_lt (key := fun p : ItS => p.1) (ok := okIt) h.2 hj hij
theorem put_behind {p x : It} {o : List It} (h : ltS x.1 p.1 = true) : putK keyIt p (x :: o) = x :: putK keyIt p o := by
  have hle : leS p.1 x.1 = false := by
    unfold leS
    rw [ltS_asymm h]
    have := ltS_beq h
    rw [Bool.false_or, beq_eq_false_iff_ne]
    intro e
    rw [beq_eq_false_iff_ne] at this
    exact this e.symm
  conv => lhs; unfold putK
  rw [if_neg (by show ¬ leS p.1 x.1 = true; rw [hle]; simp)]
theorem fold_behind {x : It} : ∀ (f o : List It), (∀ p ∈ f, ltS x.1 p.1 = true) → f.foldl (fun a p => putK keyIt p a) (x :: o) = x :: f.foldl (fun a p => putK keyIt p a) o
  | [], o, _ => rfl
  | p :: f, o, h => by
    rw [List.foldl_cons, List.foldl_cons, put_behind (h p List.mem_cons_self)]
    exact fold_behind f _ (fun q hq => h q (List.mem_cons_of_mem _ hq))
theorem mergeL_fold : ∀ (k : Nat) (f o : List It), f.length + o.length ≤ k → AscI f → mrgK f o = mergeL f o
  | 0, f, o, h, _ => by
    obtain rfl : f = [] := List.eq_nil_of_length_eq_zero (by omega)
    rw [mergeL_nil_left]; rfl
  | k + 1, f, o, h, ha => by
    match f, o with
    | [], o => rw [mergeL_nil_left]; rfl
    | x :: f, [] =>
      obtain ⟨h1, h2⟩ := List.pairwise_cons.1 ha
      simp only [List.length_cons, List.length_nil] at h
      rw [mergeL_nil_right]
      have := mergeL_fold k f [] (by simp; omega) h2
      rw [mergeL_nil_right] at this
      unfold mrgK at this ⊢
      rw [List.foldl_cons]
      show f.foldl _ [x] = _
      rw [fold_behind f [] h1, this]
    | x :: f, y :: o =>
      obtain ⟨h1, h2⟩ := List.pairwise_cons.1 ha
      simp only [List.length_cons] at h
      cases hl : ltS x.1 y.1
      · cases hg : ltS y.1 x.1
        · rw [mergeL_same hl hg]
          have := mergeL_fold k f o (by omega) h2
          unfold mrgK at this ⊢
          rw [List.foldl_cons]
          have he : x.1 = y.1 := ltS_total hl hg
          have hp : putK keyIt x (y :: o) = x :: o := by
            unfold putK
            rw [if_pos (by show leS x.1 y.1 = true; unfold leS; rw [he]; simp), if_pos (by show x.1.toList = y.1.toList; rw [he])]
          rw [hp, fold_behind f o h1, this]
        · rw [mergeL_more hl hg]
          have := mergeL_fold k (x :: f) o (by simp only [List.length_cons]; omega) ha
          unfold mrgK at this ⊢
          rw [List.foldl_cons] at this ⊢
          rw [put_behind hg, fold_behind f _ (fun p hp => ltS_trans hg (h1 p hp)), this]
      · rw [mergeL_less hl]
        have := mergeL_fold k f (y :: o) (by simp only [List.length_cons]; omega) h2
        unfold mrgK at this ⊢
        rw [List.foldl_cons]
        have hp : putK keyIt x (y :: o) = x :: y :: o := by
          conv => lhs; unfold putK
          rw [if_pos (by show leS x.1 y.1 = true; unfold leS; rw [hl]; rfl), if_neg (by
            show ¬ x.1.toList = y.1.toList
            intro e
            have := ltS_beq hl
            rw [beq_eq_false_iff_ne] at this
            exact this e)]
        rw [hp, fold_behind f _ h1, this]
/-- what MergeRuns answers -/
def mergeR (f o : List It) (last : Bool) : List It × Bool :=
  if runB f = true ∧ runB o = true ∧ (mrgS f o last).length ≤ 40 then (mrgS f o last, true) else ([], false)
theorem mergeR_no {f o : List It} {last : Bool} (h : runB f = false ∨ runB o = false) : mergeR f o last = ([], false) := by
  unfold mergeR
  rw [if_neg]
  rintro ⟨h1, h2, _⟩
  rcases h with h | h
  · rw [h1] at h; cases h
  · rw [h2] at h; cases h
theorem mergeR_many {f o : List It} {last : Bool} (h : 40 < (mrgS f o last).length) : mergeR f o last = ([], false) := by
  unfold mergeR
  rw [if_neg]
  rintro ⟨_, _, h3⟩
  omega
theorem mergeR_yes {f o : List It} {last : Bool} (h1 : runB f = true) (h2 : runB o = true) (h3 : (mrgS f o last).length ≤ 40) : mergeR f o last = (mrgS f o last, true) := by
  unfold mergeR; rw [if_pos ⟨h1, h2, h3⟩]
theorem mrgS_one {f o : List It} (h : runB f = true) (last : Bool) : mrgS f o last = if last = true then heldL (mergeL f o) else mergeL f o := by
  unfold mrgS
  rw [mergeL_fold _ f o (Nat.le_refl _) (asc_pair h)]
  cases last
  · rw [if_neg (by simp)]
    exact List.filter_eq_self.2 (fun p _ => rfl)
  · rw [if_pos rfl]
    unfold heldL
    exact List.filter_congr (fun p _ => by unfold keptI; simp)
theorem runB_few {l : List It} (h : runB l = true) : l.length ≤ 40 := by unfold runB at h; rw [Bool.and_eq_true] at h; exact of_decide_eq_true h.1

def MrgPost (r : List It × Bool) (w : World) (e : Ending) (w' : World) : Prop := ∃ v, e = .returned (.tuple #[v, .bool r.2]) ∧ OwnIt w.heap.size r.1 v w' ∧ Below w.heap.size w w'
end Go.Proofs.Ytcaekjbalkbliaa
