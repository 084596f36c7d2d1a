/- What lies where while the program reads a history (chapter 6): the history's block, its words and the rows of writes that stand. No condition. -/
import Derived.Test.YthpfijhmdeciaaaRecG
set_option linter.unusedVariables false
set_option linter.unusedSimpArgs false
namespace Go.Proofs.Ythpfijhmdeciaaa
open Go.RowKit Go.ChangeShapes Go.WideShapes

def txF (s : Value) (x : TxP) (c : Nat) : Value := if c = 0 then s else if c = 1 then .bool x.bg else if c = 2 then .bool x.bk else .int .i64 x.fin
def hisF (lv wv : Value) (sv : Nat → Value) (h : HP) (j : Nat) : Value := if j = 0 then lv else if j = 1 then wv else if j < 5 then .int .i64 (h.o (j - 2) : Int) else txF (sv ((j - 5) / 4)) (h.t ((j - 5) / 4)) ((j - 5) % 4)
theorem hisF_tx (lv wv : Value) (sv : Nat → Value) (h : HP) (t c : Nat) (hc : c < 4) : hisF lv wv sv h (5 + t * 4 + c) = txF (sv t) (h.t t) c := by
  unfold hisF
  rw [if_neg (by omega), if_neg (by omega), if_neg (by omega), show (5 + t * 4 + c - 5) / 4 = t by omega, show (5 + t * 4 + c - 5) % 4 = c by omega]
theorem hisF_o (lv wv : Value) (sv : Nat → Value) (h : HP) (p : Nat) (hp : p < 3) : hisF lv wv sv h (2 + p) = .int .i64 (h.o p : Int) := by
  unfold hisF
  rw [if_neg (by omega), if_neg (by omega), if_pos (by omega), show 2 + p - 2 = p by omega]
def natC (l : List Nat) : List Value := l.map (fun n : Nat => Value.int .i64 (n : Int))
theorem natC_len (l : List Nat) : (natC l).length = l.length := by simp [natC]
theorem natC_snoc (l : List Nat) (k : Nat) : natC (l ++ [k]) = natC l ++ [.int .i64 (k : Int)] := by simp [natC]

structure HAt (B hb wb : Nat) (lv : Value) (sv : Nat → Value) (h : HP) (W : World) : Prop where
  r : RowG W B 45 hb 25 (hisF lv (.slice (some ⟨wb, 0, none⟩) 3 3) sv h)
  w : RowG W B 3 wb 3 (nowF h)
  s : ∀ t, t < 5 → W.ownsRow B 3 1 (sv t) (h.t t).st.length (natC (h.t t).st)
  d : ∀ t t', t < 5 → t' < 5 → t ≠ t' → (sv t).ownBlock = none ∨ (sv t).ownBlock ≠ (sv t').ownBlock
  hw : hb ≠ wb
  hs : ∀ t, t < 5 → (sv t).ownBlock ≠ some hb
  ws : ∀ t, t < 5 → (sv t).ownBlock ≠ some wb
section
variable {B hb wb : Nat} {lv : Value} {sv : Nat → Value} {h : HP} {W W' : World}
theorem HAt.keep (m : HAt B hb wb lv sv h W) (hb' : Below W.heap.size W W') : HAt B hb wb lv sv h W' :=
  ⟨m.r.keep hb', m.w.keep hb', fun t ht => (m.s t ht).kept (grown_of_below (row := (sv t).ownBlock.map (fun _ => W.heap.size)) hb') (by
    cases hq : (sv t).ownBlock with
    | none => exact .inl rfl
    | some q => exact .inr (fun e => by
      have h1 := ((m.s t ht).lt q hq).2
      simp at e; omega)), m.d, m.hw, m.hs, m.ws⟩
theorem HAt.lt (m : HAt B hb wb lv sv h W) : B ≤ hb ∧ hb < W.heap.size ∧ B ≤ wb ∧ wb < W.heap.size := ⟨m.r.lt.1, m.r.lt.2, m.w.lt.1, m.w.lt.2⟩
theorem HAt.tx (m : HAt B hb wb lv sv h W) {t : Nat} (ht : t < 5) :
    W.cell? ⟨hb, 5 + t * 4, none⟩ = some (sv t) ∧ W.cell? ⟨hb, 5 + t * 4 + 1, none⟩ = some (.bool (h.t t).bg) ∧ W.cell? ⟨hb, 5 + t * 4 + 2, none⟩ = some (.bool (h.t t).bk) ∧ W.cell? ⟨hb, 5 + t * 4 + 3, none⟩ = some (.int .i64 (h.t t).fin) := by
  have c0 := (m.r.cell (i := 5 + t * 4 + 0) (by omega)).1
  have c1 := (m.r.cell (i := 5 + t * 4 + 1) (by omega)).1
  have c2 := (m.r.cell (i := 5 + t * 4 + 2) (by omega)).1
  have c3 := (m.r.cell (i := 5 + t * 4 + 3) (by omega)).1
  rw [hisF_tx _ _ _ _ _ _ (by omega)] at c0 c1 c2 c3
  exact ⟨c0, c1, c2, c3⟩
theorem HAt.froz (m : HAt B hb wb lv sv h W) (j : Nat) : W.frozen? ⟨hb, j, none⟩ = false := World.ownsRow.frozenAt m.r j
theorem HAt.own (m : HAt B hb wb lv sv h W) {p : Nat} (hp : p < 3) : W.cell? ⟨hb, 2 + p, none⟩ = some (.int .i64 (h.o p : Int)) := by
  have c0 := (m.r.cell (i := 2 + p) (by omega)).1
  rw [hisF_o _ _ _ _ _ hp] at c0
  exact c0
theorem HAt.list (m : HAt B hb wb lv sv h W) : W.cell? ⟨hb, 0, none⟩ = some lv := (m.r.cell (i := 0) (by omega)).1
theorem HAt.words (m : HAt B hb wb lv sv h W) : W.cell? ⟨hb, 1, none⟩ = some (.slice (some ⟨wb, 0, none⟩) 3 3) := (m.r.cell (i := 1) (by omega)).1
theorem HAt.word (m : HAt B hb wb lv sv h W) {p : Nat} (hp : p < 3) : W.cell? ⟨wb, p, none⟩ = some (.int .i64 (h.w p)) ∧ W.frozen? ⟨wb, p, none⟩ = false := m.w.cell hp
/-- one cell of the history's block turns: what it tells then -/
theorem HAt.put {h' : HP} {sv' : Nat → Value} (m : HAt B hb wb lv sv h W) (j : Nat) (v : Value) (he : ∀ q, q < 25 → (if q = j then v else hisF lv (.slice (some ⟨wb, 0, none⟩) 3 3) sv h q) = hisF lv (.slice (some ⟨wb, 0, none⟩) 3 3) sv' h' q)
    (hw : ∀ q, nowF h q = nowF h' q) (hs : ∀ t, t < 5 → W.ownsRow B 3 1 (sv' t) (h'.t t).st.length (natC (h'.t t).st))
    (hd : ∀ t t', t < 5 → t' < 5 → t ≠ t' → (sv' t).ownBlock = none ∨ (sv' t).ownBlock ≠ (sv' t').ownBlock) (hh : ∀ t, t < 5 → (sv' t).ownBlock ≠ some hb) (hws : ∀ t, t < 5 → (sv' t).ownBlock ≠ some wb) :
    HAt B hb wb lv sv' h' (W.setCell ⟨hb, j, none⟩ v) :=
  ⟨(m.r.set j v).congr he, (m.w.other (a := ⟨hb, j, none⟩) (fun e => m.hw e.symm) v).congr (fun q _ => hw q), fun t ht => ownsRow_setCell_other (hs t ht) (a := ⟨hb, j, none⟩) (hh t ht) v, hd, m.hw, hh, hws⟩
def setT (h : HP) (t : Nat) (x : TxP) : HP := ⟨h.wd, h.wr, h.tx.set t x⟩
theorem setT_t (h : HP) (t t' : Nat) (x : TxP) (hl : h.tx.length = 5) (ht : t < 5) : (setT h t x).t t' = if t = t' then x else h.t t' := t_set h _ _ t t' x (by omega)
theorem hisF_set (lv wv : Value) (sv sv' : Nat → Value) (h : HP) (t c : Nat) (x : TxP) (v : Value) (hl : h.tx.length = 5) (ht : t < 5) (hc : c < 4) (hsv : ∀ q, q ≠ t → sv' q = sv q)
    (hx : ∀ c', c' < 4 → (if c' = c then v else txF (sv t) (h.t t) c') = txF (sv' t) x c') (q : Nat) :
    (if q = 5 + t * 4 + c then v else hisF lv wv sv h q) = hisF lv wv sv' (setT h t x) q := by
  rcases Nat.lt_or_ge q 5 with h1 | h1
  · rw [if_neg (by omega)]
    unfold hisF
    rw [if_pos h1, if_pos h1]
    rfl
  · obtain ⟨t', c', hc', rfl⟩ : ∃ t' c', c' < 4 ∧ q = 5 + t' * 4 + c' := ⟨(q - 5) / 4, (q - 5) % 4, by omega, by omega⟩
    rw [hisF_tx _ _ _ _ _ _ hc', hisF_tx _ _ _ _ _ _ hc', setT_t h t t' x hl ht]
    by_cases e : t = t'
    · subst e
      rw [if_pos rfl, ← hx c' hc']
      by_cases e2 : c' = c
      · rw [if_pos (by omega), if_pos e2]
      · rw [if_neg (by omega), if_neg e2]
    · rw [if_neg (by omega), if_neg e, hsv t' (fun e2 => e e2.symm)]
theorem HAt.same (m : HAt B hb wb lv sv h W) (t c : Nat) (x : TxP) (v : Value) (hl : h.tx.length = 5) (ht : t < 5) (hc : c < 4) (hst : x.st = (h.t t).st)
    (hx : ∀ c', c' < 4 → (if c' = c then v else txF (sv t) (h.t t) c') = txF (sv t) x c') : HAt B hb wb lv sv (setT h t x) (W.setCell ⟨hb, 5 + t * 4 + c, none⟩ v) := by
  refine m.put _ v (fun q _ => hisF_set lv _ sv sv h t c x v hl ht hc (fun _ _ => rfl) hx q) (fun q => rfl) (fun t' ht' => ?_) m.d m.hs m.ws
  rw [setT_t h t t' x hl ht]
  split
  · rename_i e; subst e; rw [hst]; exact m.s t ht
  · exact m.s t' ht'
theorem HAt.bg (m : HAt B hb wb lv sv h W) {t : Nat} (b : Bool) (hl : h.tx.length = 5) (ht : t < 5) : HAt B hb wb lv sv (setT h t ⟨(h.t t).st, b, (h.t t).bk, (h.t t).fin⟩) (W.setCell ⟨hb, 5 + t * 4 + 1, none⟩ (.bool b)) :=
  m.same t 1 _ _ hl ht (by omega) rfl (fun c hc => by
    match c, hc with
    | 0, _ => rfl
    | 1, _ => rfl
    | 2, _ => rfl
    | 3, _ => rfl)
theorem HAt.bk (m : HAt B hb wb lv sv h W) {t : Nat} (b : Bool) (hl : h.tx.length = 5) (ht : t < 5) : HAt B hb wb lv sv (setT h t ⟨(h.t t).st, (h.t t).bg, b, (h.t t).fin⟩) (W.setCell ⟨hb, 5 + t * 4 + 2, none⟩ (.bool b)) :=
  m.same t 2 _ _ hl ht (by omega) rfl (fun c hc => by
    match c, hc with
    | 0, _ => rfl
    | 1, _ => rfl
    | 2, _ => rfl
    | 3, _ => rfl)
theorem HAt.fn (m : HAt B hb wb lv sv h W) {t : Nat} (b : Int) (hl : h.tx.length = 5) (ht : t < 5) : HAt B hb wb lv sv (setT h t ⟨(h.t t).st, (h.t t).bg, (h.t t).bk, b⟩) (W.setCell ⟨hb, 5 + t * 4 + 3, none⟩ (.int .i64 b)) :=
  m.same t 3 _ _ hl ht (by omega) rfl (fun c hc => by
    match c, hc with
    | 0, _ => rfl
    | 1, _ => rfl
    | 2, _ => rfl
    | 3, _ => rfl)
/-- the writes of t that stand are others now -/
theorem HAt.st {t : Nat} {s' : Value} {st' : List Nat} (hl : h.tx.length = 5) (ht : t < 5)
    (m1 : RowG W B 45 hb 25 (hisF lv (.slice (some ⟨wb, 0, none⟩) 3 3) sv h)) (m2 : RowG W B 3 wb 3 (nowF h)) (hw : hb ≠ wb)
    (ms : ∀ t', t' < 5 → t' ≠ t → W.ownsRow B 3 1 (sv t') (h.t t').st.length (natC (h.t t').st)) (mt : W.ownsRow B 3 1 s' st'.length (natC st'))
    (d : ∀ t t', t < 5 → t' < 5 → t ≠ t' → (sv t).ownBlock = none ∨ (sv t).ownBlock ≠ (sv t').ownBlock) (hs : ∀ t, t < 5 → (sv t).ownBlock ≠ some hb) (ws : ∀ t, t < 5 → (sv t).ownBlock ≠ some wb)
    (d' : ∀ t', t' < 5 → t' ≠ t → (sv t').ownBlock = none ∨ (sv t').ownBlock ≠ s'.ownBlock) (hs' : s'.ownBlock ≠ some hb) (ws' : s'.ownBlock ≠ some wb) :
    HAt B hb wb lv (fun q => if q = t then s' else sv q) (setT h t ⟨st', (h.t t).bg, (h.t t).bk, (h.t t).fin⟩) (W.setCell ⟨hb, 5 + t * 4, none⟩ s') := by
  have key : ∀ q, q < 5 → ((fun q => if q = t then s' else sv q) q).ownBlock ≠ some hb ∧ ((fun q => if q = t then s' else sv q) q).ownBlock ≠ some wb := by
    intro q hq
    show (if q = t then s' else sv q).ownBlock ≠ some hb ∧ (if q = t then s' else sv q).ownBlock ≠ some wb
    split
    · exact ⟨hs', ws'⟩
    · exact ⟨hs q hq, ws q hq⟩
  refine ⟨(m1.set (5 + t * 4) s').congr (fun q _ => ?_), (m2.other (a := ⟨hb, 5 + t * 4, none⟩) (fun e => hw e.symm) s').congr (fun q _ => rfl), fun t' ht' => ?_, fun a b ha hb' hab => ?_, hw, fun q hq => (key q hq).1, fun q hq => (key q hq).2⟩
  · have := hisF_set lv (.slice (some ⟨wb, 0, none⟩) 3 3) sv (fun q => if q = t then s' else sv q) h t 0 ⟨st', (h.t t).bg, (h.t t).bk, (h.t t).fin⟩ s' hl ht (by omega) (fun q hq => by simp [hq]) (fun c hc => by
      match c, hc with
      | 0, _ => simp [txF]
      | 1, _ => rfl
      | 2, _ => rfl
      | 3, _ => rfl) q
    exact this
  · refine ownsRow_setCell_other ?_ (a := ⟨hb, 5 + t * 4, none⟩) (key t' ht').1 s'
    rw [setT_t h t t' _ hl ht]
    by_cases e : t = t'
    · subst e; simp only [if_true]; exact mt
    · simp only [if_neg e, if_neg (fun e2 => e (Eq.symm e2))]; exact ms t' ht' (fun e2 => e e2.symm)
  · show (if a = t then s' else sv a).ownBlock = none ∨ (if a = t then s' else sv a).ownBlock ≠ (if b = t then s' else sv b).ownBlock
    by_cases e1 : a = t
    · have e2 : b ≠ t := by omega
      rw [if_pos e1, if_neg e2]
      rcases d' b hb' e2 with h1 | h1
      · cases hq : s'.ownBlock with
        | none => exact .inl rfl
        | some q => exact .inr (by rw [h1]; simp)
      · exact .inr (fun e => h1 e.symm)
    · rw [if_neg e1]
      by_cases e2 : b = t
      · rw [if_pos e2]; exact d' a ha e1
      · rw [if_neg e2]; exact d a b ha hb' hab
/-- who wrote last at a place -/
theorem HAt.wr {p t : Nat} (m : HAt B hb wb lv sv h W) (hl : h.wr.length = 3) (hp : p < 3) : HAt B hb wb lv sv ⟨h.wd, h.wr.set p t, h.tx⟩ (W.setCell ⟨hb, 2 + p, none⟩ (.int .i64 (t : Int))) := by
  refine m.put _ _ (fun q _ => ?_) (fun q => rfl) m.s m.d m.hs m.ws
  unfold hisF
  rcases Nat.lt_or_ge q 5 with h1 | h1
  · by_cases e0 : q = 0
    · rw [if_neg (by omega), if_pos e0, if_pos e0]
    · by_cases e1 : q = 1
      · rw [if_neg (by omega), if_neg e0, if_pos e1, if_neg e0, if_pos e1]
      · rw [if_neg e0, if_neg e1, if_pos h1, if_neg e0, if_neg e1, if_pos h1]
        show _ = Value.int .i64 (((h.wr.set p t).getD (q - 2) 0 : Nat) : Int)
        rw [gd_set _ _ _ _ _ (by omega)]
        by_cases e : q = 2 + p
        · rw [if_pos e, if_pos (by omega)]
        · rw [if_neg e, if_neg (by omega)]; rfl
  · rw [if_neg (by omega), if_neg (by omega), if_neg (by omega), if_neg (by omega), if_neg (by omega), if_neg (by omega), if_neg (by omega)]; rfl
/-- a word at its place -/
theorem HAt.wd {p : Nat} {x : Int} (m : HAt B hb wb lv sv h W) (hl : h.wd.length = 3) (hp : p < 3) : HAt B hb wb lv sv ⟨h.wd.set p x, h.wr, h.tx⟩ (W.setCell ⟨wb, p, none⟩ (.int .i64 x)) := by
  refine ⟨m.r.other (a := ⟨wb, p, none⟩) m.hw _, (m.w.set p _).congr (fun q _ => ?_), fun t ht => ownsRow_setCell_other (m.s t ht) (a := ⟨wb, p, none⟩) (m.ws t ht) _, m.d, m.hw, m.hs, m.ws⟩
  show (if q = p then Value.int .i64 x else nowF h q) = Value.int .i64 ((h.wd.set p x).getD q 0)
  rw [gd_set _ _ _ _ _ (by omega)]
  by_cases e : q = p
  · rw [if_pos e, if_pos e.symm]
  · rw [if_neg e, if_neg (fun e2 => e e2.symm)]; rfl
end
theorem own_less {w : World} {B n c m : Nat} {e : TypeId} {g : Nat} {xs : List Value} (h : w.ownsRow B e 1 (.slice (some ⟨g, 0, none⟩) n c) n xs) (hm : m ≤ n) : w.ownsRow B e 1 (.slice (some ⟨g, 0, none⟩) m c) m (xs.take m) := by
  rcases h.2 with ⟨h', _⟩ | ⟨g', cap', cur, h', hb, hg, hnc, hcm, hcs, htake⟩
  · simp at h'
  · simp only [Value.slice.injEq, Option.some.injEq, Addr.mk.injEq, and_true, true_and] at h'
    obtain ⟨rfl, rfl⟩ := h'
    refine ⟨by have := h.1; simp; omega, .inr ⟨g, c, cur, rfl, hb, hg, by omega, hcm, hcs, ?_⟩⟩
    rw [← htake, List.take_take]
    congr 1
    omega
theorem wrs_le (l : List Rc) (t : Nat) : ∀ k, (wrs l k t).length ≤ k
  | 0 => Nat.le_refl _
  | k + 1 => by
    have := wrs_le l t k
    unfold wrs
    split
    · simp; omega
    · omega
theorem st_le {l : List Rc} {k : Nat} {h : HP} (I : Inv l k h) (t : Nat) : (h.t t).st.length ≤ k := by
  have h1 := (I.wrt t).2
  have h2 := wrs_le l t k
  rw [h1, List.length_take]; omega
end Go.Proofs.Ythpfijhmdeciaaa
