/- Plain facts of the law of JoinPairs (chapter 9). No condition. -/
import Derived.Test.YtdpehojcoohjcaaJoinM
set_option linter.unusedVariables false
set_option linter.unusedSimpArgs false
namespace Go.Proofs.Ytdpehojcoohjcaa
open Go.RowKit Go.ChangeShapes Go.WideShapes

def AscJ (l : List Pr) : Prop := l.Pairwise (fun p q => ltS p.1 q.1 = true)
theorem ascJ_of {l : List Pr} (h : pairsB l = true) : AscJ l := List.pairwise_iff_getElem.2 (fun i j hi hj hij => pairs_lt h hj hij)
theorem rowJ_small {b : List Pr} (hb : AscJ b) (p : Pr) : (rowJ p b).length ≤ 1 := by
  unfold rowJ
  rw [List.length_map]
  have hp : (b.filter (fitJ p)).Pairwise (fun p q => ltS p.1 q.1 = true) := List.Pairwise.filter _ hb
  have hf : ∀ o ∈ b.filter (fitJ p), o.1 = p.1 := fun o ho => fit_key (List.mem_filter.1 ho).2
  match h : b.filter (fitJ p), hp, hf with
  | [], _, _ => simp
  | [x], _, _ => simp
  | x :: y :: t, hp, hf =>
    have h1 := (List.pairwise_cons.1 hp).1 y (by simp)
    rw [hf x (by simp), hf y (by simp), ltS_irr] at h1; cases h1
theorem rowJ_key {p q : Pr} {b : List Pr} (h : q ∈ rowJ p b) : q.1 = p.1 := by
  obtain ⟨o, _, _, rfl⟩ := rowJ_mem.1 h; rfl
theorem joinK_asc {a b : List Pr} (ha : AscJ a) (hb : AscJ b) : AscJ (joinK a b) := by
  unfold AscJ joinK
  rw [List.pairwise_flatMap]
  refine ⟨fun p _ => ?_, ?_⟩
  · have := rowJ_small hb p
    match h : rowJ p b, this with
    | [], _ => exact List.Pairwise.nil
    | [x], _ => exact List.pairwise_singleton _ _
  · refine ha.imp ?_
    intro p q hpq x hx y hy
    rw [rowJ_key hx, rowJ_key hy]; exact hpq
theorem joinK_len {b : List Pr} (hb : AscJ b) : ∀ a : List Pr, (joinK a b).length ≤ a.length
  | [] => by simp [joinK]
  | p :: a => by
    have h1 := rowJ_small hb p
    have h2 := joinK_len hb a
    unfold joinK at *
    rw [List.flatMap_cons, List.length_append, List.length_cons]
    omega
theorem fitJ_comm (p o : Pr) : fitJ p o = fitJ o p := by
  unfold fitJ
  rw [Int.add_comm, BEq.comm]
theorem rowJ_count (p : Pr) (b : List Pr) : (rowJ p b).length = b.countP (fitJ p) := by
  unfold rowJ; rw [List.length_map, List.countP_eq_length_filter]
theorem joinK_cons_right (p : Pr) (a : List Pr) : ∀ b : List Pr, (joinK b (p :: a)).length = b.countP (fun o => fitJ o p) + (joinK b a).length
  | [] => by simp [joinK]
  | o :: b => by
    have h2 := joinK_cons_right p a b
    unfold joinK at *
    rw [List.flatMap_cons, List.flatMap_cons, List.length_append, List.length_append, h2, rowJ_count, rowJ_count, List.countP_cons, List.countP_cons]
    omega
theorem joinK_comm (b : List Pr) : ∀ a : List Pr, (joinK a b).length = (joinK b a).length
  | [] => by
    have h : ∀ b : List Pr, joinK b [] = [] := fun b => by unfold joinK rowJ; simp
    rw [h]; rfl
  | p :: a => by
    have h2 := joinK_comm b a
    rw [joinK_cons_right, ← h2]
    unfold joinK
    rw [List.flatMap_cons, List.length_append, rowJ_count]
    congr 2
    funext o
    exact fitJ_comm p o
theorem asc_of_pw {l : List Pr} (h : AscJ l) (ho : ∀ p ∈ l, okPr p = true) : ascB (fun p : PrS => p.1) okPr l = true := by
  refine asc_of fun k hk => ?_
  match k with
  | 0 => rw [good_zero hk]; exact ho _ (List.getElem_mem hk)
  | k + 1 =>
    rw [good_succ hk, ho _ (List.getElem_mem hk)]
    exact List.pairwise_iff_getElem.1 h k (k + 1) (by omega) hk (by omega)
theorem pairs_okm {l : List Pr} (h : pairsB l = true) {p : Pr} (hp : p ∈ l) : keyB p.1 = true ∧ valB p.2 = true := by
  obtain ⟨k, hk, rfl⟩ := List.mem_iff_getElem.1 hp
  exact pairs_ok h hk
theorem joinK_ok {a b : List Pr} (ha : pairsB a = true) (hb : pairsB b = true) : pairsB (joinK a b) = true := by
  unfold pairsB
  rw [Bool.and_eq_true]
  refine ⟨decide_eq_true (Nat.le_trans (joinK_len (ascJ_of hb) a) (pairs_len ha)), asc_of_pw (joinK_asc (ascJ_of ha) (ascJ_of hb)) fun q hq => ?_⟩
  obtain ⟨p, hp, o, ho, hf, rfl⟩ := joinK_mem.1 hq
  unfold okPr pairJ
  rw [(pairs_okm ha hp).1, valB_app (pairs_okm ha hp).2 (pairs_okm hb ho).2]
  unfold fitJ at hf
  rw [Bool.and_eq_true] at hf
  exact hf.2
def valJ (l : List Pr) (key : ByteArray) : ByteArray × Bool := match l.find? (fun p => p.1.toList == key.toList) with
  | none => (⟨#[]⟩, false)
  | some p => (p.2, true)
theorem valJ_of {key : ByteArray} {p : Pr} (hk : p.1 = key) : ∀ {l : List Pr}, AscJ l → p ∈ l → valJ l key = (p.2, true)
  | x :: l, h, hp => by
    obtain ⟨h1, h2⟩ := List.pairwise_cons.1 h
    unfold valJ
    rw [List.find?_cons]
    rcases List.mem_cons.1 hp with rfl | hp
    · rw [show (p.1.toList == key.toList) = true by rw [hk]; simp]
    · have h3 := h1 p hp
      have h4 : (x.1.toList == key.toList) = false := by rw [← hk]; exact ltS_beq h3
      rw [h4]
      exact valJ_of hk h2 hp
theorem valJ_yes {l : List Pr} {key : ByteArray} {k : Nat} (h : k < l.length) (he : l[k].1.toList = key.toList) : valJ (l.drop k) key = (l[k].2, true) := by
  rw [List.drop_eq_getElem_cons h]; unfold valJ; rw [List.find?_cons, show (l[k].1.toList == key.toList) = true by simpa using he]
theorem valJ_no {l : List Pr} {key : ByteArray} {k : Nat} (h : k < l.length) (he : ¬ l[k].1.toList = key.toList) : valJ (l.drop k) key = valJ (l.drop (k + 1)) key := by
  rw [List.drop_eq_getElem_cons h]; unfold valJ; rw [List.find?_cons, show (l[k].1.toList == key.toList) = false by simpa using he]
theorem joinK_val {a b : List Pr} (ha : pairsB a = true) (hb : pairsB b = true) {k : Nat} (hk : k < (joinK a b).length) : ∃ x y : ByteArray, valJ a (joinK a b)[k].1 = (x, true) ∧ valJ b (joinK a b)[k].1 = (y, true) ∧ (joinK a b)[k].2 = x ++ y := by
  obtain ⟨p, hp, o, ho, hf, he⟩ := joinK_mem.1 (List.getElem_mem hk)
  rw [he]
  exact ⟨p.2, o.2, valJ_of rfl (ascJ_of ha) hp, valJ_of (fit_key hf) (ascJ_of hb) ho, rfl⟩
end Go.Proofs.Ytdpehojcoohjcaa
