/- Plain mathematics of histories (chapter 6): what the program keeps of records, which record may stand behind others, and that the model's tests say the same. No condition. -/
import Derived.Test.YthpfijhmdeciaaaExRec
set_option linter.unusedVariables false
set_option linter.unusedSimpArgs false
namespace Go.Proofs.Ythpfijhmdeciaaa

structure TxP where
  st : List Nat
  bg : Bool
  bk : Bool
  fin : Int
structure HP where
  wd : List Int
  wr : List Nat
  tx : List TxP
def tx0 : TxP := ⟨[], false, false, 0⟩
def h0 : HP := ⟨[0, 0, 0], [0, 0, 0], [tx0, tx0, tx0, tx0, tx0]⟩
def TxP.opn (x : TxP) : Bool := x.bg && x.fin == 0
def rc0 : Rc := (0, 0, 0, 0, 0)
def HP.t (h : HP) (t : Nat) : TxP := h.tx.getD t tx0
def HP.w (h : HP) (p : Nat) : Int := h.wd.getD p 0
def HP.o (h : HP) (p : Nat) : Nat := h.wr.getD p 0
def kd (l : List Rc) (i : Nat) : Int := (l.getD i rc0).1
def tn (l : List Rc) (i : Nat) : Int := (l.getD i rc0).2.1
def pl (l : List Rc) (i : Nat) : Int := (l.getD i rc0).2.2.1
def bf (l : List Rc) (i : Nat) : Int := (l.getD i rc0).2.2.2.1
def af (l : List Rc) (i : Nat) : Int := (l.getD i rc0).2.2.2.2
def mayW (h : HP) (r : Rc) : Bool :=
  decide (0 ≤ r.2.2.1) && decide (r.2.2.1 ≤ 2) && decide (0 ≤ r.2.2.2.2) && decide (r.2.2.2.2 ≤ 9) && decide (r.2.2.2.1 = h.w r.2.2.1.toNat) && (!(h.t r.2.1.toNat).bk) && (h.o r.2.2.1.toNat == r.2.1.toNat || !(h.t (h.o r.2.2.1.toNat)).opn)
def backOf (r : Rc) : Rc := (2, r.2.1, r.2.2.1, r.2.2.2.2, r.2.2.2.1)
def mayB (l : List Rc) (h : HP) (r : Rc) : Bool :=
  match (h.t r.2.1.toNat).st.getLast? with
  | none => false
  | some i => decide (r = backOf (l.getD i rc0))
def mayE (h : HP) (r : Rc) : Bool :=
  decide (r.2.2 = (0, 0, 0)) && (if r.1 = 3 then !(h.t r.2.1.toNat).bk else (h.t r.2.1.toNat).st.isEmpty)
def mayK (l : List Rc) (h : HP) (r : Rc) : Bool :=
  if r.1 = 1 then mayW h r else if r.1 = 2 then mayB l h r else if r.1 = 3 ∨ r.1 = 4 then mayE h r else false
def mayP (l : List Rc) (h : HP) (r : Rc) : Bool :=
  decide (1 ≤ r.2.1) && decide (r.2.1 ≤ 4) && decide ((h.t r.2.1.toNat).fin = 0) && mayK l h r
def addP (h : HP) (k : Nat) (r : Rc) : HP :=
  let t := r.2.1.toNat
  let x := h.t t
  if r.1 = 1 then ⟨h.wd.set r.2.2.1.toNat r.2.2.2.2, h.wr.set r.2.2.1.toNat t, h.tx.set t ⟨x.st ++ [k], true, x.bk, x.fin⟩⟩
  else if r.1 = 2 then ⟨h.wd.set r.2.2.1.toNat r.2.2.2.2, h.wr, h.tx.set t ⟨x.st.dropLast, true, true, x.fin⟩⟩
  else ⟨h.wd, h.wr, h.tx.set t ⟨x.st, true, x.bk, r.1⟩⟩
def histP (l : List Rc) : Nat → Option HP
  | 0 => some h0
  | k + 1 => match histP l k with
    | none => none
    | some h => if mayP l h (l.getD k rc0) = true then some (addP h k (l.getD k rc0)) else none
def validP (l : List Rc) : Bool := decide (l.length ≤ 24) && (histP l l.length).isSome

/-! counts on the first records -/
def wrs (l : List Rc) : Nat → Nat → List Nat
  | 0, _ => []
  | k + 1, t => if tn l k = t ∧ kd l k = 1 then wrs l k t ++ [k] else wrs l k t
def nb (l : List Rc) : Nat → Nat → Nat
  | 0, _ => 0
  | k + 1, t => if tn l k = t ∧ kd l k = 2 then nb l k t + 1 else nb l k t
def ends (l : List Rc) : Nat → Nat → Int
  | 0, _ => 0
  | k + 1, t => if ends l k t ≠ 0 then ends l k t else if tn l k = t ∧ (kd l k = 3 ∨ kd l k = 4) then kd l k else 0
def upd (f : Nat → Int) (p : Nat) (x : Int) : Nat → Int := fun q => if q = p then x else f q
def chain (l : List Rc) : List Nat → (Nat → Int) → Prop
  | [], _ => True
  | i :: s, f => f (pl l i).toNat = af l i ∧ chain l s (upd f (pl l i).toNat (bf l i))
theorem chain_congr (l : List Rc) : ∀ (s : List Nat) (f g : Nat → Int), (∀ i ∈ s, f (pl l i).toNat = g (pl l i).toNat) → chain l s f → chain l s g
  | [], _, _, _, _ => trivial
  | i :: s, f, g, h, hc => by
    refine ⟨by rw [← h i (by simp)]; exact hc.1, chain_congr l s _ _ (fun j hj => ?_) hc.2⟩
    unfold upd
    split
    · rfl
    · exact h j (by simp [hj])
theorem gd_set {α : Type} (l : List α) (i j : Nat) (x d : α) (h : i < l.length) : (l.set i x).getD j d = if i = j then x else l.getD j d := by
  simp only [List.getD_eq_getElem?_getD, List.getElem?_set]
  by_cases h1 : i = j
  · subst h1; simp [h]
  · simp [h1]

structure Inv (l : List Rc) (k : Nat) (h : HP) : Prop where
  lw : h.wd.length = 3
  lr : h.wr.length = 3
  lt : h.tx.length = 5
  z0 : h.t 0 = tx0
  wrl : ∀ p, h.o p ≤ 4
  stk : ∀ t, ∀ i ∈ (h.t t).st, i < k ∧ kd l i = 1 ∧ tn l i = (t : Int) ∧ 0 ≤ pl l i ∧ pl l i ≤ 2 ∧ 0 ≤ af l i ∧ af l i ≤ 9
  own : ∀ t, (h.t t).opn = true → ∀ i ∈ (h.t t).st, h.o (pl l i).toNat = t
  chn : ∀ t, (h.t t).opn = true → chain l (h.t t).st.reverse h.w
  wrt : ∀ t, nb l k t ≤ (wrs l k t).length ∧ (h.t t).st = (wrs l k t).take ((wrs l k t).length - nb l k t)
  bks : ∀ t, (h.t t).bk = decide (0 < nb l k t)
  bgn : ∀ t, (h.t t).bg = true ↔ ∃ i, i < k ∧ tn l i = (t : Int)
  fin : ∀ t, (h.t t).fin = ends l k t
  ob : ∀ p, h.o p ≠ 0 → (h.t (h.o p)).bg = true

theorem h0t (t : Nat) : h0.t t = tx0 := by
  unfold HP.t h0
  match t with
  | 0 => rfl
  | 1 => rfl
  | 2 => rfl
  | 3 => rfl
  | 4 => rfl
  | t + 5 => simp
theorem inv0 (l : List Rc) : Inv l 0 h0 := by
  have ho : ∀ p, h0.o p = 0 := fun p => by
    unfold HP.o h0
    match p with
    | 0 => rfl
    | 1 => rfl
    | 2 => rfl
    | p + 3 => simp
  refine ⟨rfl, rfl, rfl, rfl, fun p => ?_, ?_, ?_, ?_, ?_, ?_, ?_, ?_, fun p hp => absurd (ho p) hp⟩
  · rw [ho]; omega
  all_goals intro t; rw [h0t]
  · intro i hi; simp [tx0] at hi
  · intro h; simp [tx0, TxP.opn] at h
  · intro h; simp [tx0, TxP.opn] at h
  · simp [tx0, nb, wrs]
  · simp [tx0, nb]
  · simp [tx0]
  · simp [tx0, ends]

theorem t_set (h : HP) (wd : List Int) (wr : List Nat) (t t' : Nat) (x : TxP) (ht : t < h.tx.length) : (HP.mk wd wr (h.tx.set t x)).t t' = if t = t' then x else h.t t' := gd_set _ _ _ _ _ ht
theorem st_open {l : List Rc} {k : Nat} {h : HP} (I : Inv l k h) {t : Nat} (hf : (h.t t).fin = 0) (hs : (h.t t).st ≠ []) : (h.t t).opn = true := by
  obtain ⟨i, hi⟩ := List.exists_mem_of_ne_nil _ hs
  obtain ⟨h1, _, h3, _⟩ := I.stk t i hi
  have := (I.bgn t).2 ⟨i, h1, h3⟩
  simp [TxP.opn, this, hf]

theorem inv_step (l : List Rc) (k : Nat) (h : HP) (I : Inv l k h) (hm : mayP l h (l.getD k rc0) = true) : Inv l (k + 1) (addP h k (l.getD k rc0)) := by
  unfold mayP at hm
  simp only [Bool.and_eq_true, decide_eq_true_eq] at hm
  obtain ⟨⟨⟨ht1, ht4⟩, hfin⟩, hK⟩ := hm
  have ekd : kd l k = (l.getD k rc0).1 := rfl
  have etn : tn l k = (l.getD k rc0).2.1 := rfl
  have epl : pl l k = (l.getD k rc0).2.2.1 := rfl
  have ebf : bf l k = (l.getD k rc0).2.2.2.1 := rfl
  have eaf : af l k = (l.getD k rc0).2.2.2.2 := rfl
  generalize hr : l.getD k rc0 = r at *
  obtain ⟨kind, tx, p, b, a⟩ := r
  simp only at *
  obtain ⟨t, rfl⟩ : ∃ t : Nat, tx = (t : Int) := ⟨tx.toNat, by omega⟩
  simp only [Int.toNat_natCast] at *
  have htl : t < h.tx.length := by rw [I.lt]; omega
  have hne : ∀ t', t ≠ t' → wrs l (k + 1) t' = wrs l k t' ∧ nb l (k + 1) t' = nb l k t' ∧ ends l (k + 1) t' = ends l k t' ∧ ((∃ i, i < k + 1 ∧ tn l i = (t' : Int)) ↔ ∃ i, i < k ∧ tn l i = (t' : Int)) := by
    intro t' hne
    have hn : ¬ ((t : Int) = (t' : Int)) := by omega
    refine ⟨by simp [wrs, etn, hn], by simp [nb, etn, hn], ?_, ?_⟩
    · simp only [ends, etn, hn, false_and, if_false]
      split
      · rfl
      · rename_i h1; exact (Decidable.not_not.1 h1).symm
    · constructor
      · rintro ⟨i, hi, h2⟩
        rcases Nat.lt_succ_iff_lt_or_eq.1 hi with h3 | rfl
        · exact ⟨i, h3, h2⟩
        · rw [etn] at h2; exact absurd h2 hn
      · rintro ⟨i, hi, h2⟩
        exact ⟨i, by omega, h2⟩
  have hbg : ∃ i, i < k + 1 ∧ tn l i = (t : Int) := ⟨k, by omega, etn⟩
  have hends : kind ≠ 3 → kind ≠ 4 → ends l (k + 1) t = 0 := by
    intro h3 h4
    have := I.fin t
    rw [hfin] at this
    simp [ends, ← this, ekd, h3, h4]
  unfold mayK at hK
  simp only at hK
  unfold addP
  simp only [Int.toNat_natCast]
  by_cases k1 : kind = 1
  · subst k1
    rw [if_pos rfl] at hK ⊢
    unfold mayW at hK
    simp only [Bool.and_eq_true, decide_eq_true_eq, Int.toNat_natCast, Bool.or_eq_true, beq_iff_eq, Bool.not_eq_true'] at hK
    obtain ⟨⟨⟨⟨⟨⟨hp0, hp2⟩, ha0⟩, ha9⟩, hb⟩, hbk⟩, ho⟩ := hK
    obtain ⟨p, rfl⟩ : ∃ q : Nat, p = (q : Int) := ⟨p.toNat, by omega⟩
    simp only [Int.toNat_natCast] at *
    have hpw : p < h.wd.length := by rw [I.lw]; omega
    have hpr : p < h.wr.length := by rw [I.lr]; omega
    have hnb : nb l k t = 0 := by have := I.bks t; rw [hbk] at this; simpa using this.symm
    have hT : ∀ t', (HP.mk (h.wd.set p a) (h.wr.set p t) (h.tx.set t ⟨(h.t t).st ++ [k], true, (h.t t).bk, (h.t t).fin⟩)).t t' = if t = t' then ⟨(h.t t).st ++ [k], true, (h.t t).bk, (h.t t).fin⟩ else h.t t' := fun t' => t_set h _ _ t t' _ htl
    have hO : ∀ q, (HP.mk (h.wd.set p a) (h.wr.set p t) (h.tx.set t ⟨(h.t t).st ++ [k], true, (h.t t).bk, (h.t t).fin⟩)).o q = if p = q then t else h.o q := fun q => gd_set _ _ _ _ _ hpr
    have hW : ∀ q, (HP.mk (h.wd.set p a) (h.wr.set p t) (h.tx.set t ⟨(h.t t).st ++ [k], true, (h.t t).bk, (h.t t).fin⟩)).w q = if p = q then a else h.w q := fun q => gd_set _ _ _ _ _ hpw
    have hW' := hW
    revert hT hO hW hW'
    generalize hg : (HP.mk (h.wd.set p a) (h.wr.set p t) (h.tx.set t ⟨(h.t t).st ++ [k], true, (h.t t).bk, (h.t t).fin⟩)) = h'
    intro hT hO hW hW'
    have hop : ∀ t', t ≠ t' → (h.t t').opn = true → h.o p ≠ t' := by
      rintro t' hne ho' rfl
      rcases ho with h1 | h1
      · exact hne h1.symm
      · rw [h1] at ho'; cases ho'
    refine ⟨by rw [← hg]; simpa using I.lw, by rw [← hg]; simpa using I.lr, by rw [← hg]; simpa using I.lt, ?_, ?_, ?_, ?_, ?_, ?_, ?_, ?_, ?_, fun q hq => by
      rw [hO] at hq ⊢
      rw [hT]
      split
      · rw [if_pos rfl]
      · rename_i h1; rw [if_neg h1] at hq
        split
        · rfl
        · exact I.ob q hq⟩
    · rw [hT, if_neg (by omega)]; exact I.z0
    · intro q; rw [hO]; split
      · omega
      · exact I.wrl q
    all_goals intro t'; rw [hT]; by_cases hc : t = t'
    · subst hc
      rw [if_pos rfl]
      intro i hi
      rcases List.mem_append.1 hi with h1 | h1
      · obtain ⟨g1, g2⟩ := I.stk t i h1
        exact ⟨by omega, g2⟩
      · rw [List.mem_singleton.1 h1]
        exact ⟨by omega, ekd, etn, by rw [epl]; omega, by rw [epl]; omega, by rw [eaf]; omega, by rw [eaf]; omega⟩
    · rw [if_neg hc]
      intro i hi
      obtain ⟨g1, g2⟩ := I.stk t' i hi
      exact ⟨by omega, g2⟩
    · subst hc
      rw [if_pos rfl]
      intro _ i hi
      rw [hO]
      rcases List.mem_append.1 hi with h1 | h1
      · split
        · rfl
        · exact I.own t (st_open I hfin (List.ne_nil_of_mem h1)) i h1
      · rw [List.mem_singleton.1 h1, epl, Int.toNat_natCast, if_pos rfl]
    · rw [if_neg hc]
      intro ho' i hi
      have h1 := I.own t' ho' i hi
      rw [hO, if_neg (by rintro rfl; exact hop t' hc ho' h1)]
      exact h1
    · subst hc
      rw [if_pos rfl]
      intro _
      rw [List.reverse_append, List.reverse_singleton, List.singleton_append]
      refine ⟨by rw [hW, epl, Int.toNat_natCast, if_pos rfl, eaf], ?_⟩
      by_cases hs : (h.t t).st = []
      · rw [hs]; exact trivial
      · refine chain_congr l _ _ _ ?_ (I.chn t (st_open I hfin hs))
        intro i _
        unfold upd
        rw [epl, Int.toNat_natCast, ebf]
        split
        · rename_i e; rw [e]; exact hb.symm
        · rename_i e; rw [hW, if_neg (fun h => e h.symm)]
    · rw [if_neg hc]
      intro ho'
      refine chain_congr l _ _ _ ?_ (I.chn t' ho')
      intro i hi
      have h1 := I.own t' ho' i (by simpa using hi)
      rw [hW, if_neg (by rintro rfl; exact hop t' hc ho' h1)]
    · subst hc
      rw [if_pos rfl]
      have h1 := I.wrt t
      have e1 : wrs l (k + 1) t = wrs l k t ++ [k] := by simp [wrs, etn, ekd]
      have e2 : nb l (k + 1) t = 0 := by simp [nb, etn, ekd, hnb]
      rw [hnb] at h1
      rw [e1, e2]
      refine ⟨by omega, ?_⟩
      have h2 := h1.2
      rw [Nat.sub_zero, List.take_length] at h2
      rw [h2, Nat.sub_zero, List.take_length]
    · obtain ⟨q1, q2, q3, q4⟩ := hne t' hc
      rw [if_neg hc, q1, q2]; exact I.wrt t'
    · subst hc
      rw [if_pos rfl, hbk]
      have e2 : nb l (k + 1) t = 0 := by simp [nb, etn, ekd, hnb]
      simp [e2]
    · obtain ⟨q1, q2, q3, q4⟩ := hne t' hc
      rw [if_neg hc, q2]; exact I.bks t'
    · subst hc
      rw [if_pos rfl]
      exact ⟨fun _ => hbg, fun _ => rfl⟩
    · obtain ⟨q1, q2, q3, q4⟩ := hne t' hc
      rw [if_neg hc, q4]; exact I.bgn t'
    · subst hc
      rw [if_pos rfl, hfin, hends (by decide) (by decide)]
    · obtain ⟨q1, q2, q3, q4⟩ := hne t' hc
      rw [if_neg hc, q3]; exact I.fin t'
  · rw [if_neg k1] at hK
    rw [if_neg k1]
    by_cases k2 : kind = 2
    · subst k2
      rw [if_pos rfl] at hK ⊢
      unfold mayB at hK
      simp only [Int.toNat_natCast] at hK
      cases hl : (h.t t).st.getLast? with
      | none => rw [hl] at hK; cases hK
      | some i =>
        rw [hl] at hK
        simp only [decide_eq_true_eq] at hK
        have hK' : (2, (t : Int), p, b, a) = ((2 : Int), tn l i, pl l i, af l i, bf l i) := hK
        simp only [Prod.mk.injEq, true_and] at hK'
        obtain ⟨k_tn, rfl, rfl, rfl⟩ := hK'
        have hst : (h.t t).st = (h.t t).st.dropLast ++ [i] := by
          have hne0 : (h.t t).st ≠ [] := by intro h0; rw [h0] at hl; simp at hl
          have := List.dropLast_concat_getLast hne0
          rw [List.getLast?_eq_some_getLast hne0] at hl
          injection hl with hl
          rw [hl] at this
          exact this.symm
        have hmem : i ∈ (h.t t).st := by rw [hst]; simp
        have hdm : ∀ j, j ∈ (h.t t).st.dropLast → j ∈ (h.t t).st := fun j hj => by rw [hst]; simp [hj]
        have hopn : (h.t t).opn = true := st_open I hfin (List.ne_nil_of_mem hmem)
        obtain ⟨s1, s2, s3, s4, s5, s6, s7⟩ := I.stk t i hmem
        have hoi := I.own t hopn i hmem
        have hch := I.chn t hopn
        rw [hst, List.reverse_append, List.reverse_singleton, List.singleton_append] at hch
        obtain ⟨p, hp⟩ : ∃ q : Nat, pl l i = (q : Int) := ⟨(pl l i).toNat, by omega⟩
        simp only [chain, hp, Int.toNat_natCast] at *
        have hpw : p < h.wd.length := by rw [I.lw]; omega
        have hT : ∀ t', (HP.mk (h.wd.set p (bf l i)) h.wr (h.tx.set t ⟨(h.t t).st.dropLast, true, true, (h.t t).fin⟩)).t t' = if t = t' then ⟨(h.t t).st.dropLast, true, true, (h.t t).fin⟩ else h.t t' := fun t' => t_set h _ _ t t' _ htl
        have hO : ∀ q, (HP.mk (h.wd.set p (bf l i)) h.wr (h.tx.set t ⟨(h.t t).st.dropLast, true, true, (h.t t).fin⟩)).o q = h.o q := fun q => rfl
        have hW : ∀ q, (HP.mk (h.wd.set p (bf l i)) h.wr (h.tx.set t ⟨(h.t t).st.dropLast, true, true, (h.t t).fin⟩)).w q = if p = q then bf l i else h.w q := fun q => gd_set _ _ _ _ _ hpw
        revert hT hO hW
        generalize hg : (HP.mk (h.wd.set p (bf l i)) h.wr (h.tx.set t ⟨(h.t t).st.dropLast, true, true, (h.t t).fin⟩)) = h'
        intro hT hO hW
        refine ⟨by rw [← hg]; simpa using I.lw, by rw [← hg]; exact I.lr, by rw [← hg]; simpa using I.lt, ?_, ?_, ?_, ?_, ?_, ?_, ?_, ?_, ?_, fun q hq => by
          rw [hO] at hq ⊢
          rw [hT]
          split
          · rfl
          · exact I.ob q hq⟩
        · rw [hT, if_neg (by omega)]; exact I.z0
        · intro q; rw [hO]; exact I.wrl q
        all_goals intro t'; rw [hT]; by_cases hc : t = t'
        · subst hc
          rw [if_pos rfl]
          intro j hj
          obtain ⟨g1, g2⟩ := I.stk t j (hdm j hj)
          exact ⟨by omega, g2⟩
        · rw [if_neg hc]
          intro j hj
          obtain ⟨g1, g2⟩ := I.stk t' j hj
          exact ⟨by omega, g2⟩
        · subst hc
          rw [if_pos rfl]
          intro _ j hj
          rw [hO]
          exact I.own t hopn j (hdm j hj)
        · rw [if_neg hc]
          intro ho' j hj
          rw [hO]
          exact I.own t' ho' j hj
        · subst hc
          rw [if_pos rfl]
          intro _
          refine chain_congr l _ _ _ ?_ hch.2
          intro j _
          unfold upd
          rw [hW]
          by_cases e : p = (pl l j).toNat
          · rw [if_pos e, if_pos e.symm]
          · rw [if_neg e, if_neg (fun h => e h.symm)]
        · rw [if_neg hc]
          intro ho'
          refine chain_congr l _ _ _ ?_ (I.chn t' ho')
          intro j hj
          have h1 := I.own t' ho' j (by simpa using hj)
          rw [hW, if_neg (by rintro rfl; exact hc (hoi.symm.trans h1))]
        · subst hc
          rw [if_pos rfl]
          have h1 := I.wrt t
          have e1 : wrs l (k + 1) t = wrs l k t := by simp [wrs, etn, ekd]
          have e2 : nb l (k + 1) t = nb l k t + 1 := by simp [nb, etn, ekd]
          rw [e1, e2]
          have hlen : (h.t t).st.length = (wrs l k t).length - nb l k t := by rw [h1.2, List.length_take]; omega
          have hpos : 0 < (h.t t).st.length := List.length_pos_of_mem hmem
          refine ⟨by omega, ?_⟩
          show (h.t t).st.dropLast = _
          rw [List.dropLast_eq_take, hlen, h1.2, List.take_take]
          congr 1
          omega
        · obtain ⟨q1, q2, q3, q4⟩ := hne t' hc
          rw [if_neg hc, q1, q2]; exact I.wrt t'
        · subst hc
          rw [if_pos rfl]
          have e2 : nb l (k + 1) t = nb l k t + 1 := by simp [nb, etn, ekd]
          simp [e2]
        · obtain ⟨q1, q2, q3, q4⟩ := hne t' hc
          rw [if_neg hc, q2]; exact I.bks t'
        · subst hc
          rw [if_pos rfl]
          exact ⟨fun _ => hbg, fun _ => rfl⟩
        · obtain ⟨q1, q2, q3, q4⟩ := hne t' hc
          rw [if_neg hc, q4]; exact I.bgn t'
        · subst hc
          rw [if_pos rfl, hfin, hends (by decide) (by decide)]
        · obtain ⟨q1, q2, q3, q4⟩ := hne t' hc
          rw [if_neg hc, q3]; exact I.fin t'
    · rw [if_neg k2] at hK
      rw [if_neg k2]
      have k34 : kind = 3 ∨ kind = 4 := by
        by_cases hh : kind = 3 ∨ kind = 4
        · exact hh
        · rw [if_neg hh] at hK; cases hK
      have hT : ∀ t', (HP.mk h.wd h.wr (h.tx.set t ⟨(h.t t).st, true, (h.t t).bk, kind⟩)).t t' = if t = t' then ⟨(h.t t).st, true, (h.t t).bk, kind⟩ else h.t t' := fun t' => t_set h _ _ t t' _ htl
      have hO : ∀ q, (HP.mk h.wd h.wr (h.tx.set t ⟨(h.t t).st, true, (h.t t).bk, kind⟩)).o q = h.o q := fun q => rfl
      have hW : (HP.mk h.wd h.wr (h.tx.set t ⟨(h.t t).st, true, (h.t t).bk, kind⟩)).w = h.w := rfl
      revert hT hO hW
      generalize hg : (HP.mk h.wd h.wr (h.tx.set t ⟨(h.t t).st, true, (h.t t).bk, kind⟩)) = h'
      intro hT hO hW
      have hno : (TxP.mk (h.t t).st true (h.t t).bk kind).opn = false := by rcases k34 with rfl | rfl <;> simp [TxP.opn]
      have e1 : wrs l (k + 1) t = wrs l k t := by simp [wrs, etn, ekd, k1]
      have e2 : nb l (k + 1) t = nb l k t := by simp [nb, etn, ekd, k2]
      refine ⟨by rw [← hg]; exact I.lw, by rw [← hg]; exact I.lr, by rw [← hg]; simpa using I.lt, ?_, ?_, ?_, ?_, ?_, ?_, ?_, ?_, ?_, fun q hq => by
        rw [hO] at hq ⊢
        rw [hT]
        split
        · rfl
        · exact I.ob q hq⟩
      · rw [hT, if_neg (by omega)]; exact I.z0
      · intro q; rw [hO]; exact I.wrl q
      all_goals intro t'; rw [hT]; by_cases hc : t = t'
      · subst hc
        rw [if_pos rfl]
        intro j hj
        obtain ⟨g1, g2⟩ := I.stk t j hj
        exact ⟨by omega, g2⟩
      · rw [if_neg hc]
        intro j hj
        obtain ⟨g1, g2⟩ := I.stk t' j hj
        exact ⟨by omega, g2⟩
      · subst hc
        rw [if_pos rfl, hno]
        intro h; cases h
      · rw [if_neg hc]
        intro ho' j hj
        rw [hO]
        exact I.own t' ho' j hj
      · subst hc
        rw [if_pos rfl, hno]
        intro h; cases h
      · rw [if_neg hc, hW]
        exact I.chn t'
      · subst hc
        rw [if_pos rfl, e1, e2]; exact I.wrt t
      · obtain ⟨q1, q2, q3, q4⟩ := hne t' hc
        rw [if_neg hc, q1, q2]; exact I.wrt t'
      · subst hc
        rw [if_pos rfl, e2]; exact I.bks t
      · obtain ⟨q1, q2, q3, q4⟩ := hne t' hc
        rw [if_neg hc, q2]; exact I.bks t'
      · subst hc
        rw [if_pos rfl]
        exact ⟨fun _ => hbg, fun _ => rfl⟩
      · obtain ⟨q1, q2, q3, q4⟩ := hne t' hc
        rw [if_neg hc, q4]; exact I.bgn t'
      · subst hc
        rw [if_pos rfl]
        have := I.fin t
        rw [hfin] at this
        show kind = _
        simp [ends, ← this, etn, ekd, k34]
      · obtain ⟨q1, q2, q3, q4⟩ := hne t' hc
        rw [if_neg hc, q3]; exact I.fin t'

theorem hist_inv (l : List Rc) : ∀ (k : Nat) (h : HP), histP l k = some h → Inv l k h
  | 0, h, e => by injection e with e; rw [← e]; exact inv0 l
  | k + 1, h, e => by
    unfold histP at e
    cases hk : histP l k with
    | none => rw [hk] at e; cases e
    | some g =>
      rw [hk] at e
      simp only at e
      split at e
      · rename_i hm
        injection e with e
        rw [← e]
        exact inv_step l k g (hist_inv l k g hk) hm
      · cases e
theorem hist_none (l : List Rc) (k : Nat) (h : histP l k = none) : ∀ j, k ≤ j → histP l j = none := by
  intro j hj
  induction j with
  | zero => obtain rfl : k = 0 := by omega
            exact h
  | succ j ih =>
    rcases Nat.lt_or_eq_of_le hj with h1 | rfl
    · unfold histP; rw [ih (by omega)]
    · exact h
/-! who owns a place, as the model counts it -/
def ownS (h : HP) (p : Nat) : Nat := if (h.t (h.o p)).opn then h.o p else 0
/-- the write that is to be taken back next -/
def lastW (h : HP) (t : Nat) : Int := match (h.t t).st.getLast? with | none => -1 | some i => (i : Int)

theorem last_mem {l : List Rc} {k : Nat} {h : HP} (I : Inv l k h) (t : Nat) : (lastW h t = -1 ∧ (h.t t).st = []) ∨ ∃ i : Nat, lastW h t = (i : Int) ∧ (h.t t).st.getLast? = some i ∧ i ∈ (h.t t).st := by
  unfold lastW
  cases hl : (h.t t).st.getLast? with
  | none => exact .inl ⟨rfl, by simpa using hl⟩
  | some i => exact .inr ⟨i, rfl, rfl, List.mem_of_getLast? hl⟩
def uaS (l : List Rc) (k t s : Nat) : Int := match (wrs l k t)[(wrs l k t).length - 1 - s]? with | none => -1 | some i => if s < (wrs l k t).length then (i : Int) else -1
theorem ua_last {l : List Rc} {k : Nat} {h : HP} (I : Inv l k h) (t : Nat) : uaS l k t (nb l k t) = lastW h t := by
  obtain ⟨h1, h2⟩ := I.wrt t
  unfold lastW uaS
  rw [h2, List.getLast?_eq_getElem?, List.length_take, List.getElem?_take]
  rw [show min ((wrs l k t).length - nb l k t) (wrs l k t).length - 1 = (wrs l k t).length - 1 - nb l k t by omega]
  by_cases h3 : nb l k t < (wrs l k t).length
  · rw [if_pos (by omega)]
    rw [List.getElem?_eq_getElem (by omega)]
    simp only [if_pos h3]
  · rw [if_neg (by omega)]
    split
    · rfl
    · rw [if_neg h3]
theorem uaS_zero (l : List Rc) (t s : Nat) : uaS l 0 t s = -1 := by simp [uaS, wrs]
theorem uaS_skip (l : List Rc) (k t s : Nat) (h : ¬ (tn l k = t ∧ kd l k = 1)) : uaS l (k + 1) t s = uaS l k t s := by
  unfold uaS
  simp only [wrs, if_neg h]
theorem uaS_here (l : List Rc) (k t : Nat) (h : tn l k = t ∧ kd l k = 1) : uaS l (k + 1) t 0 = k := by
  unfold uaS
  simp only [wrs, if_pos h]
  simp
theorem uaS_next (l : List Rc) (k t s : Nat) (h : tn l k = t ∧ kd l k = 1) : uaS l (k + 1) t (s + 1) = uaS l k t s := by
  unfold uaS
  simp only [wrs, if_pos h, List.length_append, List.length_singleton]
  by_cases h1 : s < (wrs l k t).length
  · rw [List.getElem?_append_left (by omega), show (wrs l k t).length + 1 - 1 - (s + 1) = (wrs l k t).length - 1 - s by omega]
    rw [List.getElem?_eq_getElem (by omega)]
    simp [h1]
  · split
    · split
      · rfl
      · rw [if_neg h1]
    · rw [if_neg (by omega)]
      split
      · rfl
      · rw [if_neg h1]
/-! the model's tests -/
theorem may_write {l : List Rc} {k : Nat} {h : HP} (I : Inv l k h) (r : Rc) (t : Nat) (ht : r.2.1 = t) (ht1 : 1 ≤ t) : mayW h r = true ↔ (0 ≤ r.2.2.1 ∧ r.2.2.1 ≤ 2 ∧ 0 ≤ r.2.2.2.2 ∧ r.2.2.2.2 ≤ 9 ∧ r.2.2.2.1 = h.w r.2.2.1.toNat ∧ (ownS h r.2.2.1.toNat = 0 ∨ ownS h r.2.2.1.toNat = t) ∧ nb l k t = 0) := by
  have hb := I.bks t
  have hz := I.z0
  unfold mayW
  rw [ht]
  simp only [Bool.and_eq_true, decide_eq_true_eq, Int.toNat_natCast, Bool.or_eq_true, beq_iff_eq, Bool.not_eq_true', hb, decide_eq_false_iff_not]
  have e : (h.o r.2.2.1.toNat = t ∨ (h.t (h.o r.2.2.1.toNat)).opn = false) ↔ (ownS h r.2.2.1.toNat = 0 ∨ ownS h r.2.2.1.toNat = t) := by
    unfold ownS
    cases ho : (h.t (h.o r.2.2.1.toNat)).opn with
    | false => simp
    | true =>
      have : h.o r.2.2.1.toNat ≠ 0 := by
        intro h0; rw [h0, hz] at ho; simp [tx0, TxP.opn] at ho
      simp [this]
  rw [e]
  constructor
  · rintro ⟨⟨⟨⟨⟨⟨h1, h2⟩, h3⟩, h4⟩, h5⟩, h6⟩, h7⟩
    exact ⟨h1, h2, h3, h4, h5, h7, by omega⟩
  · rintro ⟨h1, h2, h3, h4, h5, h7, h6⟩
    exact ⟨⟨⟨⟨⟨⟨h1, h2⟩, h3⟩, h4⟩, h5⟩, by omega⟩, h7⟩
theorem may_back {l : List Rc} {k : Nat} {h : HP} (I : Inv l k h) (r : Rc) (t : Nat) (hk : r.1 = 2) (ht : r.2.1 = t) (ht1 : 1 ≤ t) (hf : (h.t t).fin = 0) : mayB l h r = true ↔ (0 ≤ r.2.2.1 ∧ r.2.2.1 ≤ 2 ∧ ownS h r.2.2.1.toNat = t ∧ r.2.2.2.1 = h.w r.2.2.1.toNat ∧ 0 ≤ lastW h t ∧ pl l (lastW h t).toNat = r.2.2.1 ∧ bf l (lastW h t).toNat = r.2.2.2.2) := by
  unfold mayB
  rw [ht, Int.toNat_natCast]
  rcases last_mem I t with ⟨h1, h2⟩ | ⟨i, h1, h2, h3⟩
  · rw [h2, h1]; simp
  · rw [h2, h1]
    simp only [Int.toNat_natCast, decide_eq_true_eq]
    obtain ⟨s1, s2, s3, s4, s5, s6, s7⟩ := I.stk t i h3
    have hopn : (h.t t).opn = true := st_open I hf (List.ne_nil_of_mem h3)
    have hoi := I.own t hopn i h3
    have hch := I.chn t hopn
    have hst : (h.t t).st = (h.t t).st.dropLast ++ [i] := by
      have hne0 : (h.t t).st ≠ [] := List.ne_nil_of_mem h3
      have := List.dropLast_concat_getLast hne0
      rw [List.getLast?_eq_some_getLast hne0] at h2
      injection h2 with h2
      rw [h2] at this
      exact this.symm
    rw [hst, List.reverse_append, List.reverse_singleton, List.singleton_append] at hch
    have hw : h.w (pl l i).toNat = af l i := hch.1
    obtain ⟨kind, tx, p, b, a⟩ := r
    simp only at *
    subst hk
    have e : ((2, tx, p, b, a) = backOf (l.getD i rc0)) ↔ (tx = tn l i ∧ p = pl l i ∧ b = af l i ∧ a = bf l i) := by
      show ((2, tx, p, b, a) = ((2 : Int), tn l i, pl l i, af l i, bf l i)) ↔ _
      simp
    rw [e]
    constructor
    · rintro ⟨e1, rfl, rfl, rfl⟩
      refine ⟨s4, s5, ?_, hw.symm, by omega, rfl, rfl⟩
      unfold ownS
      rw [hoi, hopn]; rfl
    · rintro ⟨g1, g2, g3, g4, g5, rfl, rfl⟩
      exact ⟨by rw [ht, s3], rfl, by rw [g4, hw], rfl⟩
theorem own_add1 {l : List Rc} {k : Nat} {h : HP} (I : Inv l k h) (r : Rc) (t p : Nat) (hk : r.1 = 1) (ht : r.2.1 = t) (ht4 : t ≤ 4) (hf : (h.t t).fin = 0) (hp : r.2.2.1 = p) (hp2 : p ≤ 2) (q : Nat) : ownS (addP h k r) q = if p = q then t else ownS h q := by
  have htl : t < h.tx.length := by rw [I.lt]; omega
  have hpr : p < h.wr.length := by rw [I.lr]; omega
  unfold addP
  rw [if_pos hk, ht, hp]
  simp only [Int.toNat_natCast]
  unfold ownS
  have hO : ∀ q, (HP.mk (h.wd.set p r.2.2.2.2) (h.wr.set p t) (h.tx.set t ⟨(h.t t).st ++ [k], true, (h.t t).bk, (h.t t).fin⟩)).o q = if p = q then t else h.o q := fun q => gd_set _ _ _ _ _ hpr
  rw [hO, t_set h _ _ _ _ _ htl]
  split
  · rw [if_pos rfl]; simp [TxP.opn, hf]
  · split
    · rename_i h1 h2
      have : (h.t (h.o q)).opn = true ∨ h.o q = 0 := by
        rcases Nat.eq_zero_or_pos (h.o q) with h0 | h0
        · exact .inr h0
        · left
          have := I.ob q (by omega)
          rw [← h2] at this ⊢
          simp [TxP.opn, this, hf]
      rcases this with h3 | h3
      · rw [h3]; simp [TxP.opn, hf]
      · rw [h3]; simp
    · rfl
theorem own_add2 {l : List Rc} {k : Nat} {h : HP} (I : Inv l k h) (r : Rc) (t : Nat) (hk : r.1 = 2) (ht : r.2.1 = t) (ht4 : t ≤ 4) (ho : (h.t t).opn = true) (q : Nat) : ownS (addP h k r) q = ownS h q := by
  have htl : t < h.tx.length := by rw [I.lt]; omega
  have hf : (h.t t).fin = 0 := by simp [TxP.opn] at ho; exact ho.2
  unfold addP
  rw [if_neg (by omega), if_pos hk, ht]
  simp only [Int.toNat_natCast]
  unfold ownS
  show (if (HP.t (HP.mk (h.wd.set r.2.2.1.toNat r.2.2.2.2) h.wr (h.tx.set t ⟨(h.t t).st.dropLast, true, true, (h.t t).fin⟩)) (h.o q)).opn = true then h.o q else 0) = _
  rw [t_set h _ _ _ _ _ htl]
  split
  · rename_i h2
    rw [← h2, ho]; simp [TxP.opn, hf]
  · rfl
theorem own_add3 {l : List Rc} {k : Nat} {h : HP} (I : Inv l k h) (r : Rc) (t : Nat) (hk : r.1 = 3 ∨ r.1 = 4) (ht : r.2.1 = t) (ht1 : 1 ≤ t) (ht4 : t ≤ 4) (hf : (h.t t).fin = 0) (q : Nat) : ownS (addP h k r) q = if ownS h q = t then 0 else ownS h q := by
  have htl : t < h.tx.length := by rw [I.lt]; omega
  unfold addP
  rw [if_neg (by omega), if_neg (by omega), ht]
  simp only [Int.toNat_natCast]
  unfold ownS
  show (if (HP.t (HP.mk h.wd h.wr (h.tx.set t ⟨(h.t t).st, true, (h.t t).bk, r.1⟩)) (h.o q)).opn = true then h.o q else 0) = _
  rw [t_set h _ _ _ _ _ htl]
  have hno : (TxP.mk (h.t t).st true (h.t t).bk r.1).opn = false := by rcases hk with h1 | h1 <;> simp [TxP.opn, h1]
  by_cases h2 : t = h.o q
  · rw [if_pos h2, hno]
    have := I.ob q (by omega)
    rw [← h2] at this
    have h3 : (h.t t).opn = true := by simp [TxP.opn, this, hf]
    rw [← h2, h3]; simp
  · rw [if_neg h2]
    cases (h.t (h.o q)).opn with
    | false => simp
    | true => simp [Ne.symm h2]
theorem fin_add (l : List Rc) (k : Nat) (h : HP) (r : Rc) (t q : Nat) (hl : h.tx.length = 5) (ht : r.2.1 = t) (ht4 : t ≤ 4) : ((addP h k r).t q).fin = if r.1 = 1 ∨ r.1 = 2 then (h.t q).fin else if t = q then r.1 else (h.t q).fin := by
  have htl : t < h.tx.length := by rw [hl]; omega
  unfold addP
  rw [ht]
  simp only [Int.toNat_natCast]
  by_cases h1 : r.1 = 1
  · rw [if_pos h1, if_pos (.inl h1), t_set h _ _ _ _ _ htl]
    split
    · rename_i e; rw [← e]
    · rfl
  · rw [if_neg h1]
    by_cases h2 : r.1 = 2
    · rw [if_pos h2, if_pos (.inr h2), t_set h _ _ _ _ _ htl]
      split
      · rename_i e; rw [← e]
      · rfl
    · rw [if_neg h2, if_neg (by omega), t_set h _ _ _ _ _ htl]
      split <;> rfl
end Go.Proofs.Ythpfijhmdeciaaa
