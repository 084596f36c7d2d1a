/- The library's slices.SortFunc at pairs by their keys, on a row of the call's own. Conditions: the row is the call's own; it is short. -/
import Derived.Test.YtcaekjbalkbliaaSeenP
import Derived.Test.YtcaekjbalkbliaaShelf
import Derived.Test.YtcaekjbalkbliaaMark
import Derived.Shelf.SlSortCmp.NoneTotal
import Derived.Shelf.SlSortCmp.WholeK
set_option linter.unusedVariables false
set_option linter.unusedSimpArgs false
namespace Go.Proofs.Ytcaekjbalkbliaa
open Go.RowKit Go.ChangeShapes Go.WideShapes
open Go.Sort (flatK get_flatK size_flatK setMany size_setMany get_setMany HoldsK putRowK setCells_putRow putRow_self)

theorem cmp_sameV : ∀ (a : List UInt8), Lib.compareBytes a a = 0
  | [] => rfl
  | x :: a => by
    unfold Lib.compareBytes
    rw [if_neg (by rw [UInt8.lt_iff_toNat_lt]; omega), if_neg (by rw [UInt8.lt_iff_toNat_lt]; omega)]
    exact cmp_sameV a
theorem cmp_lessV : ∀ (a b : List UInt8), Op.bytesLess a b = true → Lib.compareBytes a b = -1
  | _, [], h => by simp [Op.bytesLess] at h
  | [], _ :: _, _ => rfl
  | x :: a, y :: b, h => by
    simp only [Op.bytesLess, Bool.or_eq_true, decide_eq_true_eq, Bool.and_eq_true, beq_iff_eq] at h
    unfold Lib.compareBytes
    rcases h with h | ⟨h, h2⟩
    · rw [if_pos h]
    · subst h
      rw [if_neg (by rw [UInt8.lt_iff_toNat_lt]; omega), if_neg (by rw [UInt8.lt_iff_toNat_lt]; omega)]
      exact cmp_lessV a b h2
theorem cmp_moreV : ∀ (a b : List UInt8), Op.bytesLess b a = true → Lib.compareBytes a b = 1
  | [], _, h => by simp [Op.bytesLess] at h
  | _ :: _, [], _ => rfl
  | x :: a, y :: b, h => by
    simp only [Op.bytesLess, Bool.or_eq_true, decide_eq_true_eq, Bool.and_eq_true, beq_iff_eq] at h
    unfold Lib.compareBytes
    rcases h with h | ⟨h, h2⟩
    · rw [if_neg (by rw [UInt8.lt_iff_toNat_lt] at *; omega), if_pos h]
    · subst h
      rw [if_neg (by rw [UInt8.lt_iff_toNat_lt]; omega), if_neg (by rw [UInt8.lt_iff_toNat_lt]; omega)]
      exact cmp_moreV a b h2
def cfP (x y : Pr) : Int := Lib.compareBytes x.1.data.toList y.1.data.toList
theorem ltOf_cf (x y : Pr) : ltOf cfP x y = ltS x.1 y.1 := by
  unfold ltOf cfP
  have e1 := ByteArray.toList_eq x.1
  have e2 := ByteArray.toList_eq y.1
  cases h : ltS x.1 y.1
  · cases k : ltS y.1 x.1
    · rw [ltS_total h k, cmp_sameV]; rfl
    · rw [← e1, ← e2, cmp_moreV _ _ k]; rfl
  · rw [← e1, ← e2, cmp_lessV _ _ h]; rfl
theorem swoP : Sort.SWO (ltOf cfP) where
  irrefl x := by rw [ltOf_cf]; exact ltS_irr _
  trans x y z h1 h2 := by rw [ltOf_cf] at *; exact ltS_trans h1 h2
  ntrans x y z h1 h2 := by
    rw [ltOf_cf] at *
    cases h : ltS x.1 z.1
    · rfl
    · cases k : ltS y.1 x.1
      · have := ltS_total h1 k
        rw [this, h2] at h; cases h
      · have := ltS_trans k h
        rw [h2] at this; cases this
set_option maxHeartbeats 1000000 in
theorem clo_any (x y : Pr) (W : World) : Calls Try.prog 53 #[.agg #[.string x.1, .string x.2], .agg #[.string y.1, .string y.2]] W fun e w' => e = .returned (.int .i64 (cfP x y)) ∧ ∃ q os', w' = Sort.grow (W.drewN q) os' := by
  have hcon := Lib.hid (fun W' => Try.strings_Compare x.1 y.1 W')
  unfold cfP
  generalize Lib.compareBytes x.1.data.toList y.1.data.toList = r at hcon ⊢
  go_enter Try.func53, Try.ntmps53
  go_wp2_with (go_at_call 54; refine (hcon.out _).mono ?_; rintro e w' ⟨rfl, rfl⟩)
  go_ret
  exact ⟨rfl, 0, _, by rw [Sort.alloc_eq_grow, Sort.alloc_eq_grow, Sort.grow_grow]; rfl⟩
theorem cmpLaysP (blk off size : Nat) (w : World) : CmpLays Try.prog 53 #[] prC 2 cfP blk off size w := fun _ _ _ _ x y => clo_any x y _
theorem flatP_get (Q : List Pr) (j : Nat) (h : j < Q.length * 2) : (flatK prC 2 Q.toArray)[j]! = (prsC Q)[j]'(by rw [prsC_len]; exact h) := by
  rw [get_flatK _ _ _ _ (by simpa using h)]
  have hj : j / 2 < Q.length := by omega
  have e0 := prsC_at0 hj
  have e1 := prsC_at1 hj
  have hl : j < (prsC Q).length := by rw [prsC_len]; exact h
  rw [show Q.toArray[j / 2]! = Q[j / 2] by rw [getElem!_pos Q.toArray (j / 2) (by simpa using hj)]; simp]
  rcases Nat.mod_two_eq_zero_or_one j with hm | hm
  · have hj2 : j / 2 * 2 = j := by omega
    rw [hj2, List.getElem?_eq_getElem hl] at e0
    injection e0 with e0
    rw [hm, e0]; rfl
  · have hj2 : j / 2 * 2 + 1 = j := by omega
    rw [hj2, List.getElem?_eq_getElem hl] at e1
    injection e1 with e1
    rw [hm, e1]; rfl
theorem flatP_list (Q : List Pr) : (flatK prC 2 Q.toArray).toList = prsC Q := by
  apply List.ext_getElem
  · simp [prsC_len]
  · intro i h1 h2
    have h3 : i < Q.length * 2 := by rw [prsC_len] at h2; exact h2
    rw [← flatP_get Q i h3, getElem!_pos (flatK prC 2 Q.toArray) i (by simpa using h3)]
    simp
def overS {α : Type} : List α → Nat → List α → List α
  | xs, _, [] => xs
  | xs, o, v :: vs => overS (xs.set o v) (o + 1) vs
theorem overS_eq {α : Type} : ∀ (vs xs : List α) (o : Nat), o + vs.length = xs.length → overS xs o vs = xs.take o ++ vs
  | [], xs, o, h => by simp at h; rw [overS, List.append_nil, List.take_of_length_le (by omega)]
  | v :: vs, xs, o, h => by
    rw [overS, overS_eq vs _ _ (by rw [List.length_set]; simp at h; omega)]
    simp at h
    rw [List.take_succ_eq_append_getElem (by rw [List.length_set]; omega)]
    rw [List.take_set, List.set_eq_of_length_le (by rw [List.length_take]; omega)]
    simp
theorem ownsRow_setCellsS {B g n c z : Nat} {e : TypeId} : ∀ (vs : List Value) (o : Nat) (xs : List Value) (w : World), w.ownsRow B e z (.slice (some ⟨g, 0, none⟩) n c) n xs →
    (w.setCells g o vs).ownsRow B e z (.slice (some ⟨g, 0, none⟩) n c) n (overS xs o vs) ∧ w.grownBy (w.setCells g o vs) (some g)
  | [], o, xs, w, h => ⟨h, ⟨rfl, rfl, rfl, Nat.le_refl _, fun _ _ _ => rfl⟩⟩
  | v :: vs, o, xs, w, h => by
    have h1 := h.stored o v
    have h2 := ownsRow_setCellsS vs (o + 1) _ _ h1.1
    exact ⟨h2.1, h1.2.trans' h2.2⟩
theorem setMany_all (F : Array Value) (vs : List Value) (h : vs.length = F.size) : setMany F 0 vs = vs.toArray := by
  apply Array.ext
  · simp [h]
  · intro i h1 h2
    have hi : i < F.size := by simpa using h1
    have := get_setMany vs 0 F i hi
    rw [getElem!_pos (setMany F 0 vs) i h1] at this
    rw [this]
    have h3 : i < vs.length := by omega
    simp [h3]
theorem sort_own (B m c : Nat) (Q : List Pr) (A : Option Addr) (w : World) (h : w.ownsRow B 52 2 (.slice A m c) m (prsC Q)) (hn : m = Q.length) (hs : m ≤ 1048576) :
    Calls Try.prog 52 #[.slice A m c, .func (.func 53) #[] #[]] w fun e w' => e = .returned (.tuple #[]) ∧ ∃ R, R.Perm Q ∧ R.Pairwise (fun p q => ltS q.1 p.1 = false) ∧ w'.ownsRow B 52 2 (.slice A m c) m (prsC R) ∧ w.grownBy w' (Value.slice A m c).ownBlock := by
  by_cases h0 : m = 0
  · have hq : Q = [] := List.eq_nil_of_length_eq_zero (by omega)
    subst h0 hq
    refine (AnyF.slices_SortFunc_none Try.sortPr A c (.func (.func 53) #[] #[]) w).mono ?_
    rintro e w' ⟨rfl, rfl⟩
    exact ⟨rfl, [], List.Perm.refl _, List.Pairwise.nil, h, World.grownBy.refl _ _⟩
  · obtain ⟨g, rfl, hnc, hcm, hlt⟩ : ∃ g, A = some ⟨g, 0, none⟩ ∧ m ≤ c ∧ c ≤ maxLen ∧ g < w.heap.size := by
      have hl := h.lt
      rcases h.2 with ⟨h1, h2⟩ | ⟨g', cap, cur, h1, h2, h3, h4, h5, h6, h7⟩
      · omega
      · injection h1 with a1 a2 a3
        subst a1 a3
        exact ⟨_, rfl, h4, h5, (hl g' rfl).2⟩
    have eg : ∀ args w, (callFunc 53 args).run Try.prog w = .ok (.enter 53 args) w := enters_of Try.func53 (by kernel_rfl) rfl
    have hsz : Q.toArray.size = m := by simp [hn]
    have hH : HoldsK prC 2 w g 0 Q.toArray := by
      intro j hj
      have hj2 : j < Q.length * 2 := by simpa using hj
      rw [flatP_get Q j hj2, Nat.zero_add]
      refine ⟨?_, h.frozenAt _⟩
      rw [h.cellAt j (by omega), List.getElem?_eq_getElem (by rw [prsC_len]; exact hj2)]; rfl
    have hcon := AnyQ.slices_SortFunc Try.sortPr 2 Try.isAgg52 Try.sizeOf52 prC (fun _ => rfl) (fun x v hv => by simp [prC] at hv; rcases hv with rfl | rfl <;> rfl) cfP swoP 53 #[] g 0 c Q.toArray w eg (cmpLaysP g 0 Q.toArray.size w) hH hlt (by rw [hsz]; omega)
    rw [hsz] at hcon
    refine Calls.mono hcon ?_
    rintro e w' ⟨rfl, d', n, os, hp, hso, rfl⟩
    have hps : d'.size = m := by rw [hp.1, hsz]
    have hl2 : d'.toList.length = m := by simpa using hps
    have hperm : d'.toList.Perm Q := by
      have := hp.2.2
      have e1 : d'.extract 0 m = d' := by rw [← hps]; simp
      have e2 : Q.toArray.extract 0 m = Q.toArray := by rw [← hsz]; simp
      rw [e1, e2] at this
      simpa using this
    refine ⟨rfl, d'.toList, hperm, ?_, ?_⟩
    · rw [List.pairwise_iff_getElem]
      intro i j hi hj hij
      have := hso i j (Nat.zero_le _) hij (by omega)
      rw [ltOf_cf, getElem!_pos d' j (by omega), getElem!_pos d' i (by omega)] at this
      simpa using this
    · have ew : sortWorldK prC 2 w g 0 n d' os = Sort.grow ((Sort.ahead w n).setCells g 0 (prsC d'.toList)) os := by
        unfold sortWorldK putRowK
        congr 1
        have hself := putRow_self id (Sort.ahead w n) g 0 (flatK prC 2 Q.toArray) hH
        have hfl : (prsC d'.toList).length = (flatK prC 2 Q.toArray).size := by rw [prsC_len, size_flatK, hl2, hsz]
        have hset := setCells_putRow (Sort.ahead w n) g 0 (prsC d'.toList) 0 (flatK prC 2 Q.toArray) (by omega)
        rw [hself, setMany_all _ _ hfl, Nat.add_zero] at hset
        rw [hset]
        congr 1
        rw [← flatP_list d'.toList]
      rw [ew]
      have hq : (Sort.ahead w n).ownsRow B 52 2 (.slice (some ⟨g, 0, none⟩) m c) m (prsC Q) := h
      have hsc := ownsRow_setCellsS (prsC d'.toList) 0 _ _ hq
      rw [overS_eq _ _ _ (by rw [prsC_len, prsC_len, hl2, ← hn]; omega), List.take_zero, List.nil_append] at hsc
      have hg1 : ((Sort.ahead w n).setCells g 0 (prsC d'.toList)).grownBy (Sort.grow ((Sort.ahead w n).setCells g 0 (prsC d'.toList)) os) none := ⟨rfl, rfl, rfl, by simp, fun k hk _ => by show ((((Sort.ahead w n).setCells g 0 (prsC d'.toList)).heap ++ os)[k]?) = _; rw [Array.getElem?_append_left hk]⟩
      have hg0 : w.grownBy (Sort.ahead w n) (some g) := ⟨rfl, rfl, rfl, Nat.le_refl _, fun _ _ _ => rfl⟩
      exact ⟨hsc.1.kept hg1 (by simp [Value.ownBlock]), (hg0.trans' hsc.2).trans' ⟨hg1.os, hg1.tape, hg1.output, hg1.size, fun k hk _ => hg1.block k hk (by simp)⟩⟩
end Go.Proofs.Ytcaekjbalkbliaa
