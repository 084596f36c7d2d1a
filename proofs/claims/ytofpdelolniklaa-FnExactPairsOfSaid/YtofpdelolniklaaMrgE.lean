/- Two runs as one, item by item, are the newer one's items put into the older one; plain. And MergeRuns of the model. Conditions: the runs lie in rows; they are few. -/
import Derived.Test.YtofpdelolniklaaWoG
import Derived.Test.YtofpdelolniklaaMrgS
import Derived.Test.YtofpdelolniklaaRunI
set_option linter.unusedVariables false
set_option linter.unusedSimpArgs false
namespace Go.Proofs.Ytofpdelolniklaa
open Go.RowKit Go.ChangeShapes Go.WideShapes

def AscI (l : List It) : Prop := l.Pairwise (fun p q => ltS p.1 q.1 = true)
theorem asc_pair {l : List It} (h : runB l = true) : AscI l := by
  unfold runB at h
  rw [Bool.and_eq_true] at h
  exact List.pairwise_iff_getElem.2 fun i j hi hj hij => asc_lt (key := fun p : ItS => p.1) (ok := okIt) h.2 hj hij
theorem put_behind {p x : It} {o : List It} (h : ltS x.1 p.1 = true) : putK keyIt p (x :: o) = x :: putK keyIt p o := by
  have hle : leS p.1 x.1 = false := by
    unfold leS
    rw [ltS_asymm h]
    have := ltS_beq h
    rw [Bool.false_or, beq_eq_false_iff_ne]
    intro e
    rw [beq_eq_false_iff_ne] at this
    exact this e.symm
  conv => lhs; unfold putK
  rw [if_neg (by show ¬ leS p.1 x.1 = true; rw [hle]; simp)]
theorem fold_behind {x : It} : ∀ (f o : List It), (∀ p ∈ f, ltS x.1 p.1 = true) → f.foldl (fun a p => putK keyIt p a) (x :: o) = x :: f.foldl (fun a p => putK keyIt p a) o
  | [], o, _ => rfl
  | p :: f, o, h => by
    rw [List.foldl_cons, List.foldl_cons, put_behind (h p List.mem_cons_self)]
    exact fold_behind f _ (fun q hq => h q (List.mem_cons_of_mem _ hq))
theorem mergeL_fold : ∀ (k : Nat) (f o : List It), f.length + o.length ≤ k → AscI f → mrgK f o = mergeL f o
  | 0, f, o, h, _ => by
    obtain rfl : f = [] := List.eq_nil_of_length_eq_zero (by omega)
    rw [mergeL_nil_left]; rfl
  | k + 1, f, o, h, ha => by
    match f, o with
    | [], o => rw [mergeL_nil_left]; rfl
    | x :: f, [] =>
      obtain ⟨h1, h2⟩ := List.pairwise_cons.1 ha
      simp only [List.length_cons, List.length_nil] at h
      rw [mergeL_nil_right]
      have := mergeL_fold k f [] (by simp; omega) h2
      rw [mergeL_nil_right] at this
      unfold mrgK at this ⊢
      rw [List.foldl_cons]
      show f.foldl _ [x] = _
      rw [fold_behind f [] h1, this]
    | x :: f, y :: o =>
      obtain ⟨h1, h2⟩ := List.pairwise_cons.1 ha
      simp only [List.length_cons] at h
      cases hl : ltS x.1 y.1
      · cases hg : ltS y.1 x.1
        · rw [mergeL_same hl hg]
          have := mergeL_fold k f o (by omega) h2
          unfold mrgK at this ⊢
          rw [List.foldl_cons]
          have he : x.1 = y.1 := ltS_total hl hg
          have hp : putK keyIt x (y :: o) = x :: o := by
            unfold putK
            rw [if_pos (by show leS x.1 y.1 = true; unfold leS; rw [he]; simp), if_pos (by show x.1.toList = y.1.toList; rw [he])]
          rw [hp, fold_behind f o h1, this]
        · rw [mergeL_more hl hg]
          have := mergeL_fold k (x :: f) o (by simp only [List.length_cons]; omega) ha
          unfold mrgK at this ⊢
          rw [List.foldl_cons] at this ⊢
          rw [put_behind hg, fold_behind f _ (fun p hp => ltS_trans hg (h1 p hp)), this]
      · rw [mergeL_less hl]
        have := mergeL_fold k f (y :: o) (by simp only [List.length_cons]; omega) h2
        unfold mrgK at this ⊢
        rw [List.foldl_cons]
        have hp : putK keyIt x (y :: o) = x :: y :: o := by
          conv => lhs; unfold putK
          rw [if_pos (by show leS x.1 y.1 = true; unfold leS; rw [hl]; rfl), if_neg (by
            show ¬ x.1.toList = y.1.toList
            intro e
            have := ltS_beq hl
            rw [beq_eq_false_iff_ne] at this
            exact this e)]
        rw [hp, fold_behind f _ h1, this]
/-- what MergeRuns answers -/
def mergeR (f o : List It) (last : Bool) : List It × Bool :=
  if runB f = true ∧ runB o = true ∧ (mrgS f o last).length ≤ 40 then (mrgS f o last, true) else ([], false)
theorem mergeR_no {f o : List It} {last : Bool} (h : runB f = false ∨ runB o = false) : mergeR f o last = ([], false) := by
  unfold mergeR
  rw [if_neg]
  rintro ⟨h1, h2, _⟩
  rcases h with h | h
  · rw [h1] at h; cases h
  · rw [h2] at h; cases h
theorem mergeR_many {f o : List It} {last : Bool} (h : 40 < (mrgS f o last).length) : mergeR f o last = ([], false) := by
  unfold mergeR
  rw [if_neg]
  rintro ⟨_, _, h3⟩
  omega
theorem mergeR_yes {f o : List It} {last : Bool} (h1 : runB f = true) (h2 : runB o = true) (h3 : (mrgS f o last).length ≤ 40) : mergeR f o last = (mrgS f o last, true) := by
  unfold mergeR; rw [if_pos ⟨h1, h2, h3⟩]
theorem mrgS_one {f o : List It} (h : runB f = true) (last : Bool) : mrgS f o last = if last = true then heldL (mergeL f o) else mergeL f o := by
  unfold mrgS
  rw [mergeL_fold _ f o (Nat.le_refl _) (asc_pair h)]
  cases last
  · rw [if_neg (by simp)]
    exact List.filter_eq_self.2 (fun p _ => rfl)
  · rw [if_pos rfl]
    unfold heldL
    exact List.filter_congr (fun p _ => by unfold keptI; simp)
theorem runB_few {l : List It} (h : runB l = true) : l.length ≤ 40 := by unfold runB at h; rw [Bool.and_eq_true] at h; exact of_decide_eq_true h.1

def MrgPost (r : List It × Bool) (w : World) (e : Ending) (w' : World) : Prop := ∃ v, e = .returned (.tuple #[v, .bool r.2]) ∧ OwnIt w.heap.size r.1 v w' ∧ Below w.heap.size w w'
theorem sMrgV_any (A1 : Option Addr) (n1 c1 : Nat) (l1 : List It) (A2 : Option Addr) (n2 c2 : Nat) (l2 : List It) (b : Bool) (w : World) (hr1 : RowAt w w.heap.size A1 (itsC l1)) (hn1 : n1 = l1.length) (hs1 : n1 ≤ 1048576) (hw1 : WfIt l1) (hr2 : RowAt w w.heap.size A2 (itsC l2)) (hn2 : n2 = l2.length) (hs2 : n2 ≤ 1048576) (hw2 : WfIt l2) (hA1 : A1 = none → c1 = 0) (hA2 : A2 = none → c2 = 0) :
    Calls Try.prog 13 #[.slice A1 n1 c1, .slice A2 n2 c2, .bool b] w (MrgPost (mergeR l1 l2 b) w) := by
  have H1 := Lib.hid (sRun_any A1 n1 c1 l1 w hr1 hn1 hs1 hw1)
  have H2 := Lib.hid (fun W (hb : Below w.heap.size w W) => sRun_any A2 n2 c2 l2 W ((hr2.below hb).mono hb.size) hn2 hs2 hw2)
  have HR1 := Lib.hid hr1; clear hr1
  have HR2 := Lib.hid hr2; clear hr2
  have HN1 := Lib.hid hn1; clear hn1
  have HN2 := Lib.hid hn2; clear hn2
  clear hw1 hw2
  cases q1 : runB l1
  · rw [q1] at H1
    rw [mergeR_no (.inl q1)]
    clear q1
    go_enter Try.func13, Try.ntmps13
    go_wp2_with fail
    refine (H1.out).mono ?_
    rintro e w2 ⟨rfl, hb2⟩
    have HB2 := Lib.hid hb2; clear hb2
    go_wp2_with fail
    refine bodyPost_ret (v := .tuple #[.slice none 0 0, .bool false]) (by simp [results, Try.results13, go_sem]) rfl ?_
    exact ⟨_, rfl, ⟨none, 0, rfl, World.ownsRow_nil _ _ _ _⟩, HB2.out⟩
  · rw [q1] at H1
    cases q2 : runB l2
    · rw [q2] at H2
      rw [mergeR_no (.inr q2)]
      clear q1 q2
      go_enter Try.func13, Try.ntmps13
      go_wp2_with fail
      refine (H1.out).mono ?_
      rintro e w2 ⟨rfl, hb2⟩
      have HB2 := Lib.hid hb2; clear hb2
      go_wp2_with fail
      refine (H2.out _ HB2.out).mono ?_
      rintro e w3 ⟨rfl, hb3⟩
      have HB3 := Lib.hid (HB2.out.trans (hb3.mono HB2.out.size)); clear hb3
      go_wp2_with fail
      refine bodyPost_ret (v := .tuple #[.slice none 0 0, .bool false]) (by simp [results, Try.results13, go_sem]) rfl ?_
      exact ⟨_, rfl, ⟨none, 0, rfl, World.ownsRow_nil _ _ _ _⟩, HB3.out⟩
    · rw [q2] at H2
      have hf1 := runB_few q1
      have hf2 := runB_few q2
      have HLEN := Lib.hid (mrgS_len l1 l2 b)
      have HNO := Lib.hid (fun h => mergeR_many (f := l1) (o := l2) (last := b) h)
      have HYES := Lib.hid (fun h => mergeR_yes (last := b) q1 q2 h)
      have HM := Lib.hid (fun W (hb : Below w.heap.size w W) => sMerge_any A1 A2 n1 c1 n2 c2 l1 l2 b W ((HR1.out.below hb).mono hb.size) HN1.out ((HR2.out.below hb).mono hb.size) HN2.out hA2 (by have := HN1.out; omega) (by have := HN2.out; omega))
      have hsm : (mrgS l1 l2 b).length ≤ 80 := by have := HLEN.out; omega
      clear q1 q2 hA1 hA2
      generalize mergeR l1 l2 b = r at *
      generalize mrgS l1 l2 b = L at *
      go_enter Try.func13, Try.ntmps13
      go_wp2_with fail
      refine (H1.out).mono ?_
      rintro e w2 ⟨rfl, hb2⟩
      have HB2 := Lib.hid hb2; clear hb2
      go_wp2_with fail
      refine (H2.out _ HB2.out).mono ?_
      rintro e w3 ⟨rfl, hb3⟩
      have HB3 := Lib.hid (HB2.out.trans (hb3.mono HB2.out.size)); clear hb3
      go_wp2_with fail
      refine (HM.out _ HB3.out).mono ?_
      rintro e w4 ⟨v, rfl, ⟨A4, c4, rfl, ho4⟩, hb4⟩
      have HO4 := Lib.hid (own_mono ho4 HB3.out.size)
      have HB4 := Lib.hid (HB3.out.trans (hb4.mono HB3.out.size)); clear hb4 ho4
      by_cases hL : 40 < L.length
      · have hr := HNO.out hL
        subst hr
        have hi : (40 : Int) < (L.length : Int) := by omega
        go_wp2_with fail
        refine bodyPost_ret (v := .tuple #[.slice none 0 0, .bool false]) (by simp [results, Try.results13, go_sem]) rfl ?_
        exact ⟨_, rfl, ⟨none, 0, rfl, World.ownsRow_nil _ _ _ _⟩, HB4.out⟩
      · have hr := HYES.out (by omega)
        subst hr
        have hi : ¬ (40 : Int) < (L.length : Int) := by omega
        go_wp2_with fail
        refine bodyPost_ret (v := .tuple #[.slice A4 L.length c4, .bool true]) (by simp [results, Try.results13, go_sem]) rfl ?_
        exact ⟨_, rfl, ⟨A4, c4, rfl, HO4.out⟩, HB4.out⟩
end Go.Proofs.Ytofpdelolniklaa
