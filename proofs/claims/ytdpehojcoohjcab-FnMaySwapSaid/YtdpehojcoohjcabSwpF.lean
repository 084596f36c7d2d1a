/- Plain facts of the law of MaySwap (chapter 8): acts that may be exchanged read the same; a prefix may be exchanged, too. No condition. -/
import Derived.Test.YtdpehojcoohjcabSerM
set_option linter.unusedVariables false
set_option linter.unusedSimpArgs false
namespace Go.Proofs.Ytdpehojcoohjcab

theorem firstS_all {f : Nat → Option (List Nat)} : ∀ {m k : Nat}, firstS f k m = none → ∀ x, k ≤ x → x < k + m → f x = none
  | 0, k, _, x, h1, h2 => by omega
  | m + 1, k, h, x, h1, h2 => by
    rw [firstS] at h
    cases hk : f k with
    | some o => rw [hk] at h; cases h
    | none =>
      rw [hk] at h
      rcases Nat.lt_or_ge k x with h3 | h3
      · exact firstS_all h x (by omega) (by omega)
      · obtain rfl : x = k := by omega
        exact hk
/-- if an order fits, there is a first one -/
theorem firstO_ex {n : Nat} {fits : List Nat → Bool} : ∀ {d : Nat} {s t : List Nat}, PreO n d s → PreO n 0 (s ++ t) → fits (s ++ t) = true → firstO n fits d s ≠ none
  | 0, s, t, h, ht, hf => by
    have h1 := h.1
    have h2 := ht.1
    have : t = [] := List.length_eq_zero_iff.1 (by rw [List.length_append] at h2; omega)
    subst this
    rw [List.append_nil] at hf
    rw [firstO, if_pos hf]; simp
  | d + 1, s, t, h, ht, hf => by
    match t, ht, hf with
    | [], ht, hf => exfalso; have := h.1; have := ht.1; rw [List.append_nil] at this; omega
    | x :: t, ht, hf =>
      intro hn
      rw [firstO] at hn
      have hx : x < n := ht.2.2 x (by simp)
      have hxs : x ∉ s := fun e => by
        have := ht.2.1
        rw [List.nodup_append] at this
        exact this.2.2 x e x (by simp) rfl
      have h1 := firstS_all hn x (by omega) (by omega)
      rw [if_neg hxs] at h1
      have e : s ++ x :: t = (s ++ [x]) ++ t := by simp
      rw [e] at ht hf
      exact firstO_ex (h.snoc hx hxs) ht hf h1
/-- less is ahead in a part -/
theorem aheadB_take {l : List AcT} {k p j : Nat} (h : aheadB (l.take k) p j = true) : aheadB l p j = true := by
  obtain ⟨a, b, x, y, hab, _, ha, hb, hc, h1, h2⟩ := (aheadB_iff _ _ _).1 h
  have hget : ∀ {a : Nat} {x : AcT}, (l.take k)[a]? = some x → l[a]? = some x := fun {a x} h => by
    rw [List.getElem?_take] at h
    split at h
    · exact h
    · cases h
  exact (aheadB_iff _ _ _).2 ⟨a, b, x, y, hab, trivial, hget ha, hget hb, hc, h1, h2⟩
theorem swapB_take {l : List AcT} (h : swapB l = true) (k : Nat) : swapB (l.take k) = true := by
  rw [swapB_ord] at h ⊢
  have hv : actsB l = true := by
    cases hv : actsB l with
    | true => rfl
    | false => rw [ordR, hv] at h; simp at h
  have hvt : actsB (l.take k) = true := by
    unfold actsB at hv ⊢
    rw [Bool.and_eq_true] at hv ⊢
    refine ⟨decide_eq_true (by have := of_decide_eq_true hv.1; rw [List.length_take]; omega), List.all_eq_true.2 fun x hx => List.all_eq_true.1 hv.2 x (List.mem_of_mem_take hx)⟩
  rw [ordR, hv] at h
  rw [ordR, hvt]
  simp only [if_true] at h ⊢
  have hall : cntLeft (fun _ => true) 4 = 4 := by decide
  cases hg : greedy (aheadB (l.take k)) 4 4 (fun _ => true) with
  | some o => rfl
  | none =>
    exfalso
    have h1 := (stuckA_iff _).1 ((greedy_none hall).1 hg)
    obtain ⟨S, hS, hs⟩ := h1
    have h2 : StuckA l := ⟨S, hS, fun x hx => by
      obtain ⟨h3, y, h4, h5, h6⟩ := hs x hx
      exact ⟨h3, y, h4, h5, aheadB_take h6⟩⟩
    rw [(greedy_none hall).2 ((stuckA_iff _).2 h2)] at h
    cases h
/-! acts in an order that goes with what is ahead read the same -/
def txA (l : List AcT) (q : Nat) : Int := (l.getD q (0, 0, false)).1
theorem turnP_pw {l : List AcT} {o : List Nat} (hf : fitsR (aheadB l) o = true) (hnd : o.Nodup) : (turnP l o).Pairwise (fun a b => (txA l a = txA l b ∧ a < b) ∨ txA l a ≠ txA l b ∧ ∀ p j : Nat, txA l b = (p : Int) → txA l a = (j : Int) → aheadB l p j = false) := by
  unfold fitsR at hf
  have hf2 := of_decide_eq_true hf
  unfold turnP
  rw [List.pairwise_flatMap]
  refine ⟨fun p _ => ?_, (List.Pairwise.and hf2 hnd).imp ?_⟩
  · have hr : (List.range l.length).Pairwise (fun a b => a < b) := List.pairwise_lt_range
    have := List.Pairwise.filter (fun i => decide ((l.getD i (0, 0, false)).1 = (p : Int))) hr
    refine List.Pairwise.imp_of_mem ?_ this
    intro a b ha hb hab
    have h1 := of_decide_eq_true (List.mem_filter.1 ha).2
    have h2 := of_decide_eq_true (List.mem_filter.1 hb).2
    exact .inl ⟨by unfold txA; rw [h1, h2], hab⟩
  · intro p q hpq' a ha b hb
    obtain ⟨hpq, hpn⟩ := hpq'
    have h1 := of_decide_eq_true (List.mem_filter.1 ha).2
    have h2 := of_decide_eq_true (List.mem_filter.1 hb).2
    refine .inr ⟨by unfold txA; rw [h1, h2]; intro e; exact hpn (by omega), fun p' j' e1 e2 => ?_⟩
    unfold txA at e1 e2
    rw [h2] at e1
    rw [h1] at e2
    obtain rfl : q = p' := by omega
    obtain rfl : p = j' := by omega
    exact hpq
/-- two that clash, or are of one party, stand in the order of the schedule -/
theorem turnP_lt_of {l : List AcT} (hok : ∀ x ∈ l, okAc x = true) {a b : Nat} (ha : a < l.length) (hb : b < l.length) (hne : a ≠ b)
    (hR : (txA l a = txA l b ∧ a < b) ∨ txA l a ≠ txA l b ∧ ∀ p j : Nat, txA l b = (p : Int) → txA l a = (j : Int) → aheadB l p j = false) (hc : l[a].2.1 = l[b].2.1) (hw : l[a].2.2 = true ∨ l[b].2.2 = true) : a < b := by
  rcases hR with ⟨_, h⟩ | ⟨hnt, h⟩
  · exact h
  · rcases Nat.lt_or_ge a b with h1 | h1
    · exact h1
    · exfalso
      have hba : b < a := by omega
      obtain ⟨p, hp, ep⟩ := okAc_tx (hok _ (List.getElem_mem hb))
      obtain ⟨j, hj, ej⟩ := okAc_tx (hok _ (List.getElem_mem ha))
      have e1 : txA l b = (p : Int) := by unfold txA; simp [List.getD_eq_getElem?_getD, hb, ep]
      have e2 : txA l a = (j : Int) := by unfold txA; simp [List.getD_eq_getElem?_getD, ha, ej]
      have h2 := h p j e1 e2
      have h3 : aheadB l p j = true := (aheadB_iff _ _ _).2 ⟨b, a, l[b], l[a], hba, trivial, List.getElem?_eq_getElem hb, List.getElem?_eq_getElem ha, by
        unfold clashB
        have hn : ¬ l[b].1 = l[a].1 := fun e => hnt (by rw [e1, e2, ← ep, ← ej, e])
        rw [decide_eq_false hn, decide_eq_true hc.symm]
        rcases hw with h | h <;> simp [h], ep, ej⟩
      rw [h3] at h2; cases h2
theorem asc_nat_ext : ∀ {a b : List Nat}, a.Pairwise (fun x y => x < y) → b.Pairwise (fun x y => x < y) → (∀ x, x ∈ a ↔ x ∈ b) → a = b
  | [], [], _, _, _ => rfl
  | [], y :: b, _, _, h => by have := (h y).2 (by simp); cases this
  | x :: a, [], _, _, h => by have := (h x).1 (by simp); cases this
  | x :: a, y :: b, ha, hb, h => by
    obtain ⟨ha1, ha2⟩ := List.pairwise_cons.1 ha
    obtain ⟨hb1, hb2⟩ := List.pairwise_cons.1 hb
    have e : x = y := by
      rcases List.mem_cons.1 ((h x).1 (by simp)) with e | e
      · exact e
      · rcases List.mem_cons.1 ((h y).2 (by simp)) with e2 | e2
        · exact e2.symm
        · have := ha1 y e2; have := hb1 x e; omega
    subst e
    congr 1
    refine asc_nat_ext ha2 hb2 fun z => ?_
    constructor
    · intro hz
      rcases List.mem_cons.1 ((h z).1 (List.mem_cons_of_mem _ hz)) with e | e
      · have := ha1 z hz; omega
      · exact e
    · intro hz
      rcases List.mem_cons.1 ((h z).2 (List.mem_cons_of_mem _ hz)) with e | e
      · have := hb1 z hz; omega
      · exact e
/-- does the act at a place write a thing -/
def wrT (l : List AcT) (t q : Nat) : Bool := (l.getD q (0, 0, false)).2.2 && decide ((l.getD q (0, 0, false)).2.1 = (t : Int))
def lastT (l : List AcT) (F : List Nat) : Int := match F.getLast? with | none => -1 | some q => txA l q
theorem last_filter {l : List AcT} (hok : ∀ x ∈ l, okAc x = true) {t : Nat} (ht : t < 3) (P : List Nat) : ∀ k, k ≤ P.length → (lastR last0 (actsAt l (P.take k))).getD t 0 = lastT l ((P.take k).filter (wrT l t))
  | 0, _ => by
    match t, ht with
    | 0, _ => rfl
    | 1, _ => rfl
    | 2, _ => rfl
  | k + 1, hk => by
    have ih := last_filter hok ht P k (by omega)
    have hkl : k < P.length := by omega
    rw [List.take_succ_eq_append_getElem hkl, List.filter_append]
    have ha : actsAt l (P.take k ++ [P[k]]) = actsAt l (P.take k) ++ [l.getD P[k] (0, 0, false)] := by unfold actsAt; rw [List.map_append]; rfl
    rw [ha, lastR_snoc]
    have hl : (lastR last0 (actsAt l (P.take k))).length = 3 := by rw [lastR_len]; rfl
    generalize lastR last0 (actsAt l (P.take k)) = L at *
    generalize P[k] = q at *
    unfold stepW
    cases hw : (l.getD q (0, 0, false)).2.2 with
    | false =>
      have h1 : wrT l t q = false := by unfold wrT; rw [hw]; rfl
      simp only [Bool.false_eq_true, if_false]
      rw [ih]
      simp [h1]
    | true =>
      have hq : q < l.length := by
        rcases Nat.lt_or_ge q l.length with h | h
        · exact h
        · rw [List.getD_eq_getElem?_getD, List.getElem?_eq_none h] at hw; cases hw
      have hg : l.getD q (0, 0, false) = l[q] := by simp [List.getD_eq_getElem?_getD, hq]
      obtain ⟨u, hu3, hu⟩ := okAc_th (hok _ (List.getElem_mem hq))
      rw [← hg] at hu
      simp only [if_true]
      rw [hu]
      by_cases e : u = t
      · subst e
        have h1 : wrT l u q = true := by unfold wrT; rw [hw, hu]; simp
        have h2 : lastT l (List.filter (wrT l u) (List.take k P) ++ List.filter (wrT l u) [q]) = txA l q := by
          unfold lastT; simp [h1]
        rw [h2]
        simp [List.getD_eq_getElem?_getD, hl, hu3, txA]
      · have h1 : wrT l t q = false := by
          unfold wrT; rw [hw, hu]; simp; omega
        have h2 : lastT l (List.filter (wrT l t) (List.take k P) ++ List.filter (wrT l t) [q]) = lastT l (List.filter (wrT l t) (List.take k P)) := by
          simp [h1]
        rw [h2, ← ih]
        simp [List.getD_eq_getElem?_getD, List.getElem?_set_ne e]
theorem wrT_get {l : List AcT} {t q : Nat} (h : q < l.length) : wrT l t q = true ↔ l[q].2.2 = true ∧ l[q].2.1 = (t : Int) := by
  unfold wrT; simp [List.getD_eq_getElem?_getD, h]
/-- the writes of a thing stand in the order of the schedule -/
theorem writes_asc {l : List AcT} {o : List Nat} (hok : ∀ x ∈ l, okAc x = true) (ho : PreO 4 0 o) (hf : fitsR (aheadB l) o = true) (t k : Nat) : (((turnP l o).take k).filter (wrT l t)).Pairwise (fun x y => x < y) := by
  have h1 := (turnP_pw hf ho.2.1).sublist ((List.filter_sublist (p := wrT l t)).trans (List.take_sublist k (turnP l o)))
  have h2 := ((turnP_nodup l ho.2.1)).sublist ((List.filter_sublist (p := wrT l t)).trans (List.take_sublist k (turnP l o)))
  refine List.Pairwise.imp_of_mem ?_ (List.Pairwise.and h1 h2)
  intro a b ha hb hab
  have ha1 := turnP_lt (List.mem_of_mem_take (List.mem_filter.1 ha).1)
  have hb1 := turnP_lt (List.mem_of_mem_take (List.mem_filter.1 hb).1)
  have wa := (wrT_get ha1).1 (List.mem_filter.1 ha).2
  have wb := (wrT_get hb1).1 (List.mem_filter.1 hb).2
  exact turnP_lt_of hok ha1 hb1 hab.2 hab.1 (by rw [wa.2, wb.2]) (.inl wa.1)
theorem range_asc (t i : Nat) (l : List AcT) : ((List.range i).filter (wrT l t)).Pairwise (fun x y => x < y) := List.Pairwise.filter _ List.pairwise_lt_range
theorem same_last {l : List AcT} {o : List Nat} (hok : ∀ x ∈ l, okAc x = true) (ho : PreO 4 0 o) (hf : fitsR (aheadB l) o = true) {k t : Nat} (hk : k < (turnP l o).length) (hi : (turnP l o)[k] < l.length) (ht : l[(turnP l o)[k]].2.1 = (t : Int)) :
    ((turnP l o).take k).filter (wrT l t) = (List.range (turnP l o)[k]).filter (wrT l t) := by
  have hpw := turnP_pw hf ho.2.1
  have hnd := turnP_nodup l ho.2.1
  refine asc_nat_ext (writes_asc hok ho hf t k) (range_asc t _ l) fun j => ?_
  rw [List.mem_filter, List.mem_filter, List.mem_range]
  have hidx : ∀ {m : Nat} (hm : m < (turnP l o).length), wrT l t (turnP l o)[m] = true → (m < k ↔ (turnP l o)[m] < (turnP l o)[k]) ∨ m = k := by
    intro m hm hw
    have hml : (turnP l o)[m] < l.length := turnP_lt (List.getElem_mem hm)
    have wm := (wrT_get hml).1 hw
    rcases Nat.lt_trichotomy m k with h | h | h
    · left
      have hne : (turnP l o)[m] ≠ (turnP l o)[k] := fun e => by have := (List.getElem_inj hnd).1 e; omega
      have := turnP_lt_of hok hml hi hne (List.pairwise_iff_getElem.1 hpw m k hm hk h) (by rw [wm.2, ht]) (.inl wm.1)
      exact ⟨fun _ => this, fun _ => h⟩
    · exact .inr h
    · left
      have hne : (turnP l o)[k] ≠ (turnP l o)[m] := fun e => by have := (List.getElem_inj hnd).1 e; omega
      have := turnP_lt_of hok hi hml hne (List.pairwise_iff_getElem.1 hpw k m hk hm h) (by rw [wm.2, ht]) (.inr wm.1)
      exact ⟨fun h2 => by omega, fun h2 => by omega⟩
  constructor
  · rintro ⟨hj, hw⟩
    obtain ⟨m, hm, rfl⟩ := List.mem_take_iff_getElem.1 hj
    refine ⟨?_, hw⟩
    rcases hidx (m := m) (by omega) hw with h | h
    · exact h.1 (by omega)
    · omega
  · rintro ⟨hj, hw⟩
    have hmem := (turnP_mem hok ho (q := j)).2 (by omega)
    obtain ⟨m, hm, rfl⟩ := List.mem_iff_getElem.1 hmem
    refine ⟨?_, hw⟩
    rcases hidx hm hw with h | h
    · exact List.mem_take_iff_getElem.2 ⟨m, by have := h.2 hj; omega, rfl⟩
    · subst h; omega
theorem same_all {l : List AcT} {o : List Nat} (hok : ∀ x ∈ l, okAc x = true) (ho : PreO 4 0 o) (hf : fitsR (aheadB l) o = true) (t : Nat) :
    (turnP l o).filter (wrT l t) = (List.range l.length).filter (wrT l t) := by
  have h1 := writes_asc hok ho hf t (turnP l o).length
  rw [List.take_length] at h1
  refine asc_nat_ext h1 (range_asc t _ l) fun j => ?_
  rw [List.mem_filter, List.mem_filter, List.mem_range, turnP_mem hok ho]
theorem readsR_atS : ∀ (l : List AcT) (last : List Int) (i : Nat) (h : i < l.length), (readsR last l)[i]? = some (readV (lastR last (l.take i)) l[i])
  | a :: t, last, 0, h => rfl
  | a :: t, last, i + 1, h => by
    show (readsR (stepW last a) t)[i]? = _
    rw [readsR_atS t (stepW last a) i (by simpa using h)]
    rfl
theorem range_takeS (i n : Nat) (h : i ≤ n) : (List.range n).take i = List.range i := by
  rw [List.take_range, Nat.min_eq_left h]
theorem sameV_ord {l : List AcT} {o : List Nat} (hv : actsB l = true) (ho : PreO 4 0 o) (hf : fitsR (aheadB l) o = true) : sameV l o = true := by
  have hok : ∀ x ∈ l, okAc x = true := by
    unfold actsB at hv; rw [Bool.and_eq_true] at hv; exact List.all_eq_true.1 hv.2
  have hql := turnP_len hok ho
  have hA := actsAt_turn l o
  have hAR := actsAt_range l
  have hil : (inTurnL l o).length = l.length := by rw [← hA]; simp [actsAt, hql]
  unfold sameV
  rw [Bool.and_eq_true]
  refine ⟨List.all_eq_true.2 fun k hk => decide_eq_true ?_, List.all_eq_true.2 fun t ht => decide_eq_true ?_⟩
  · have hkq : k < (turnP l o).length := List.mem_range.1 hk
    have hi : (turnP l o)[k] < l.length := turnP_lt (List.getElem_mem hkq)
    rw [List.getD_eq_getElem?_getD, List.getD_eq_getElem?_getD, List.getD_eq_getElem?_getD, List.getElem?_eq_getElem hkq, Option.getD_some]
    unfold readsL
    rw [List.getElem?_append_left (by rw [readsR_len]; omega), List.getElem?_append_left (by rw [readsR_len]; exact hi)]
    rw [readsR_atS _ _ k (by omega), readsR_atS _ _ _ hi, Option.getD_some, Option.getD_some]
    have e1 : (inTurnL l o)[k]'(by omega) = l[(turnP l o)[k]] := by
      have : (inTurnL l o)[k]? = some l[(turnP l o)[k]] := by
        rw [← hA]; simp [actsAt, hkq, hi]
      rw [List.getElem?_eq_getElem (by omega)] at this
      exact Option.some.inj this
    have e2 : (inTurnL l o).take k = actsAt l ((turnP l o).take k) := by rw [← hA]; simp [actsAt]
    have e3 : ∀ i, l.take i = actsAt l ((List.range l.length).take i) := fun i => by
      rw [show actsAt l ((List.range l.length).take i) = (actsAt l (List.range l.length)).take i by unfold actsAt; rw [List.map_take], hAR]
    rw [e1, e2, e3]
    obtain ⟨t, ht3, ht⟩ := okAc_th (hok _ (List.getElem_mem hi))
    unfold readV
    rw [ht]
    cases l[(turnP l o)[k]].2.2 with
    | true => rfl
    | false =>
      simp only [Bool.false_eq_true, if_false, Int.toNat_natCast]
      rw [last_filter hok ht3 _ k (by omega), last_filter hok ht3 _ _ (by simp; omega), same_last hok ho hf hkq hi ht, range_takeS _ _ (by omega)]
  · have ht3 : t < 3 := List.mem_range.1 ht
    rw [List.getD_eq_getElem?_getD, List.getD_eq_getElem?_getD]
    unfold readsL
    rw [List.getElem?_append_right (by rw [readsR_len]; omega), List.getElem?_append_right (by rw [readsR_len]; omega), readsR_len, readsR_len, hil]
    have h1 := last_filter hok ht3 (turnP l o) (turnP l o).length (Nat.le_refl _)
    have h2 := last_filter hok ht3 (List.range l.length) (List.range l.length).length (Nat.le_refl _)
    rw [List.take_length, hA, same_all hok ho hf t] at h1
    rw [List.take_length, hAR] at h2
    rw [← h2] at h1
    rw [List.getD_eq_getElem?_getD, List.getD_eq_getElem?_getD] at h1
    rw [show l.length + t - l.length = t by omega]
    exact h1
/-- acts that may be exchanged have an order that reads the same -/
theorem swap_view {l : List AcT} (h : swapB l = true) : (viewR l).isSome = true := by
  rw [swapB_ord] at h
  have hv : actsB l = true := by
    cases hv : actsB l with
    | true => rfl
    | false => rw [ordR, hv] at h; simp at h
  rw [ordR, hv] at h
  simp only [if_true] at h
  cases hg : greedy (aheadB l) 4 4 (fun _ => true) with
  | none => rw [hg] at h; cases h
  | some o =>
    obtain ⟨ho, hf⟩ := greedy_order (fun x _ => aheadB_irr l x) hg
    have hs := sameV_ord hv ho hf
    rw [← fitsV_sameV hv ho] at hs
    have := firstO_ex (fits := fitsV l) (preO_nil 4) (t := o) (by simpa using ho) (by simpa using hs)
    unfold viewR
    rw [hv]
    simp only [if_true]
    cases hx : firstO 4 (fitsV l) 4 [] with
    | none => exact absurd hx this
    | some o => rfl
end Go.Proofs.Ytdpehojcoohjcab
