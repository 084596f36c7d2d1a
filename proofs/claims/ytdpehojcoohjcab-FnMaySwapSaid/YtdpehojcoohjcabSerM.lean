/- Plain mathematics of schedules and jobs: who is ahead, orders always with the least one that may be next and the first one of all that fits, exchanges, whose write is read, what is kept. No program is in it. -/
set_option linter.unusedVariables false
set_option linter.unusedSimpArgs false
namespace Go.Proofs.Ytdpehojcoohjcab

/-- an act: party, thing, whether it writes -/
abbrev AcT := Int × Int × Bool
/-- a job: start, end, what it reads, what it writes -/
abbrev JbT := Int × Int × Int × Int
/-! schedules -/
def okAc (a : AcT) : Bool := decide (0 ≤ a.1) && decide (a.1 ≤ 3) && decide (0 ≤ a.2.1) && decide (a.2.1 ≤ 2)
def actsB (l : List AcT) : Bool := decide (l.length ≤ 10) && l.all okAc
def clashB (a b : AcT) : Bool := !decide (a.1 = b.1) && decide (a.2.1 = b.2.1) && (a.2.2 || b.2.2)
theorem clashB_symm (a b : AcT) : clashB a b = clashB b a := by
  unfold clashB
  have h1 : decide (a.1 = b.1) = decide (b.1 = a.1) := decide_eq_decide.2 ⟨fun h => h.symm, fun h => h.symm⟩
  have h2 : decide (a.2.1 = b.2.1) = decide (b.2.1 = a.2.1) := decide_eq_decide.2 ⟨fun h => h.symm, fun h => h.symm⟩
  rw [h1, h2, Bool.or_comm]
/-- an act of party j stands behind one of party p that it clashes with -/
def aheadB : List AcT → Nat → Nat → Bool
  | [], _, _ => false
  | x :: t, p, j => (decide (x.1 = (p : Int)) && t.any (fun y => clashB x y && decide (y.1 = (j : Int)))) || aheadB t p j
/-- the same with indexes: those that one row of two loops has passed -/
def HasP (L : List AcT) (Q : Nat → Nat → Prop) (p j : Nat) : Prop :=
  ∃ a b x y, a < b ∧ Q a b ∧ L[a]? = some x ∧ L[b]? = some y ∧ clashB x y = true ∧ x.1 = (p : Int) ∧ y.1 = (j : Int)
theorem aheadB_iff : ∀ (L : List AcT) (p j : Nat), aheadB L p j = true ↔ HasP L (fun _ _ => True) p j
  | [], p, j => by
    constructor
    · intro h; cases h
    · rintro ⟨a, b, x, y, _, _, h, _⟩; simp at h
  | x :: t, p, j => by
    have ih := aheadB_iff t p j
    simp only [aheadB, Bool.or_eq_true, Bool.and_eq_true, decide_eq_true_eq, List.any_eq_true]
    constructor
    · rintro (⟨h1, y, hy, hc, h2⟩ | h)
      · obtain ⟨b, hb⟩ := List.getElem?_of_mem hy
        exact ⟨0, b + 1, x, y, by omega, trivial, rfl, by simpa using hb, hc, h1, h2⟩
      · obtain ⟨a, b, x', y, hab, _, ha, hb, hc, h1, h2⟩ := ih.1 h
        exact ⟨a + 1, b + 1, x', y, by omega, trivial, by simpa using ha, by simpa using hb, hc, h1, h2⟩
    · rintro ⟨a, b, x', y, hab, _, ha, hb, hc, h1, h2⟩
      obtain ⟨b, rfl⟩ : ∃ b', b = b' + 1 := ⟨b - 1, by omega⟩
      simp at hb
      cases a with
      | zero =>
        simp at ha
        subst ha
        exact .inl ⟨h1, y, List.mem_of_getElem? hb, hc, h2⟩
      | succ a =>
        simp at ha
        exact .inr (ih.2 ⟨a, b, x', y, by omega, trivial, ha, hb, hc, h1, h2⟩)

/-! sets of numbers -/
def maskF (f : Nat → Bool) : Nat → Nat
  | 0 => 0
  | n + 1 => maskF f n + if f n then 2 ^ n else 0
theorem maskF_lt (f : Nat → Bool) : ∀ n, maskF f n < 2 ^ n
  | 0 => by simp [maskF]
  | n + 1 => by
    have := maskF_lt f n
    rw [maskF, Nat.pow_succ]
    split <;> omega
theorem maskF_test (f : Nat → Bool) : ∀ n j, (maskF f n).testBit j = (decide (j < n) && f j)
  | 0, j => by simp [maskF]
  | n + 1, j => by
    have ih := maskF_test f n j
    have hlt := maskF_lt f n
    rw [maskF]
    by_cases hf : f n = true
    · rw [if_pos hf, Nat.add_comm]
      rcases Nat.lt_trichotomy j n with h | h | h
      · rw [Nat.testBit_two_pow_add_gt h, ih]
        simp [h, Nat.lt_succ_of_lt h]
      · subst h
        rw [Nat.testBit_two_pow_add_eq, Nat.testBit_lt_two_pow hlt]
        simp [hf]
      · have : 2 ^ n + maskF f n < 2 ^ (n + 1) := by rw [Nat.pow_succ]; omega
        rw [Nat.testBit_lt_two_pow (Nat.lt_of_lt_of_le this (Nat.pow_le_pow_right (by omega) (by omega)))]
        simp; intro h2; omega
    · rw [if_neg hf, Nat.add_zero, ih]
      by_cases h : j = n
      · subst h; simp at hf; simp [hf]
      · have : decide (j < n + 1) = decide (j < n) := decide_eq_decide.2 (by omega)
        rw [this]
/-- S: n sets, of which each has what P tells -/
def SetsOf (n : Nat) (S : List Nat) (P : Nat → Nat → Prop) : Prop := S.length = n ∧ ∀ p, p < n → S.getD p 0 < 2 ^ n ∧ ∀ j, (S.getD p 0).testBit j = true ↔ (j < n ∧ P p j)
theorem SetsOf.congr {n : Nat} {S : List Nat} {P Q : Nat → Nat → Prop} (h : SetsOf n S P) (hq : ∀ p j, p < n → j < n → (P p j ↔ Q p j)) : SetsOf n S Q :=
  ⟨h.1, fun p hp => ⟨(h.2 p hp).1, fun j => by
    rw [(h.2 p hp).2 j]
    constructor
    · rintro ⟨a, b⟩; exact ⟨a, (hq p j hp a).1 b⟩
    · rintro ⟨a, b⟩; exact ⟨a, (hq p j hp a).2 b⟩⟩⟩
theorem SetsOf.start {n : Nat} {P : Nat → Nat → Prop} (h : ∀ p j, ¬ P p j) : SetsOf n (List.replicate n 0) P :=
  ⟨by simp, fun p hp => by
    have : (List.replicate n 0).getD p 0 = 0 := by simp [List.getD_eq_getElem?_getD, List.getElem?_replicate, hp]
    rw [this]
    exact ⟨Nat.two_pow_pos n, fun j => by simp [h]⟩⟩
def addE (S : List Nat) (p j : Nat) : List Nat := S.set p (S.getD p 0 ||| 2 ^ j)
theorem SetsOf.add {n : Nat} {S : List Nat} {P : Nat → Nat → Prop} (h : SetsOf n S P) {p j : Nat} (hp : p < n) (hj : j < n) : SetsOf n (addE S p j) (fun p' j' => P p' j' ∨ (p' = p ∧ j' = j)) := by
  refine ⟨by simp [addE, h.1], fun p' hp' => ?_⟩
  have hl := h.1
  by_cases e : p = p'
  · subst e
    have hg : (addE S p j).getD p 0 = S.getD p 0 ||| 2 ^ j := by
      simp [addE, List.getD_eq_getElem?_getD, hl, hp]
    rw [hg]
    refine ⟨Nat.or_lt_two_pow (h.2 p hp).1 (Nat.pow_lt_pow_right (by omega) hj), fun j' => ?_⟩
    rw [Nat.testBit_or, Nat.testBit_two_pow]
    simp only [Bool.or_eq_true, decide_eq_true_eq]
    rw [(h.2 p hp).2 j']
    constructor
    · rintro (⟨a, b⟩ | rfl)
      · exact ⟨a, .inl b⟩
      · exact ⟨hj, .inr (by simp)⟩
    · rintro ⟨a, b | ⟨_, rfl⟩⟩
      · exact .inl ⟨a, b⟩
      · exact .inr rfl
  · have hg : (addE S p j).getD p' 0 = S.getD p' 0 := by
      simp [addE, List.getD_eq_getElem?_getD, List.getElem?_set_ne e]
    rw [hg]
    refine ⟨(h.2 p' hp').1, fun j' => ?_⟩
    rw [(h.2 p' hp').2 j']
    constructor
    · rintro ⟨a, b⟩; exact ⟨a, .inl b⟩
    · rintro ⟨a, b | ⟨b, _⟩⟩
      · exact ⟨a, b⟩
      · exact absurd b.symm e
/-- the sets of a relation of numbers below n -/
def maskL (n : Nat) (R : Nat → Nat → Bool) : List Nat := (List.range n).map (fun p => maskF (R p) n)
theorem maskL_len (n : Nat) (R : Nat → Nat → Bool) : (maskL n R).length = n := by simp [maskL]
theorem maskL_get {n : Nat} (R : Nat → Nat → Bool) {p : Nat} (hp : p < n) : (maskL n R).getD p 0 = maskF (R p) n := by
  simp [maskL, List.getD_eq_getElem?_getD, hp]
theorem maskL_test {n : Nat} (R : Nat → Nat → Bool) {p j : Nat} (hp : p < n) (hj : j < n) : ((maskL n R).getD p 0).testBit j = R p j := by
  rw [maskL_get R hp, maskF_test]; simp [hj]
theorem list_extD {n : Nat} {S T : List Nat} (h1 : S.length = n) (h2 : T.length = n) (h : ∀ p, p < n → S.getD p 0 = T.getD p 0) : S = T := by
  refine List.ext_getElem (by omega) (fun i a b => ?_)
  have := h i (by omega)
  simpa [List.getD_eq_getElem?_getD, a, b] using this
theorem SetsOf.mask {n : Nat} {S : List Nat} {R : Nat → Nat → Bool} (h : SetsOf n S (fun p j => R p j = true)) : S = maskL n R := by
  refine list_extD h.1 (maskL_len n R) (fun p hp => ?_)
  rw [maskL_get R hp]
  refine Nat.eq_of_testBit_eq (fun j => ?_)
  rw [maskF_test, Bool.eq_iff_iff, (h.2 p hp).2 j]
  simp only [Bool.and_eq_true, decide_eq_true_eq]
def aheadL (L : List AcT) : List Nat := maskL 4 (aheadB L)
theorem aheadL_test (L : List AcT) {p j : Nat} (hp : p < 4) (hj : j < 4) : ((aheadL L).getD p 0).testBit j = aheadB L p j := maskL_test _ hp hj
theorem SetsOf.done {S : List Nat} {L : List AcT} (h : SetsOf 4 S (HasP L (fun _ _ => True))) : S = aheadL L :=
  SetsOf.mask (h.congr (fun p j _ _ => (aheadB_iff L p j).symm))
/-! the two loops of the model: the first act outside; of the program: the second one outside -/
def QM (i k a b : Nat) : Prop := a < i ∨ (a = i ∧ b < k)
def QI (i k a b : Nat) : Prop := b < i ∨ (b = i ∧ a < k)
theorem HasP.congr {L : List AcT} {Q R : Nat → Nat → Prop} {p j : Nat} (h : ∀ a b, a < b → b < L.length → (Q a b ↔ R a b)) : HasP L Q p j ↔ HasP L R p j := by
  constructor
  · rintro ⟨a, b, x, y, h1, h2, h3, h4, h5⟩
    exact ⟨a, b, x, y, h1, (h a b h1 (List.getElem?_eq_some_iff.1 h4).1).1 h2, h3, h4, h5⟩
  · rintro ⟨a, b, x, y, h1, h2, h3, h4, h5⟩
    exact ⟨a, b, x, y, h1, (h a b h1 (List.getElem?_eq_some_iff.1 h4).1).2 h2, h3, h4, h5⟩
theorem HasP.none {L : List AcT} {Q : Nat → Nat → Prop} {p j : Nat} (h : ∀ a b, a < b → ¬ Q a b) : ¬ HasP L Q p j := by
  rintro ⟨a, b, x, y, h1, h2, _⟩
  exact h a b h1 h2
/-- one pair more: they clash -/
theorem HasP.clash {L : List AcT} {Q R : Nat → Nat → Prop} {i k : Nat} (hik : i < k) (hi : i < L.length) (hk : k < L.length) (hc : clashB L[i] L[k] = true) {p j : Nat} (hp : L[i].1 = (p : Int)) (hj : L[k].1 = (j : Int))
    (hR : ∀ a b, R a b ↔ (Q a b ∨ (a = i ∧ b = k))) (p' j' : Nat) : (HasP L Q p' j' ∨ (p' = p ∧ j' = j)) ↔ HasP L R p' j' := by
  constructor
  · rintro (⟨a, b, x, y, h1, h2, h3⟩ | ⟨rfl, rfl⟩)
    · exact ⟨a, b, x, y, h1, (hR a b).2 (.inl h2), h3⟩
    · exact ⟨i, k, _, _, hik, (hR i k).2 (.inr ⟨rfl, rfl⟩), List.getElem?_eq_getElem hi, List.getElem?_eq_getElem hk, hc, hp, hj⟩
  · rintro ⟨a, b, x, y, h1, h2, h3, h4, h5, h6, h7⟩
    rcases (hR a b).1 h2 with h | ⟨rfl, rfl⟩
    · exact .inl ⟨a, b, x, y, h1, h, h3, h4, h5, h6, h7⟩
    · rw [List.getElem?_eq_getElem hi] at h3
      rw [List.getElem?_eq_getElem hk] at h4
      injection h3 with h3; injection h4 with h4
      subst h3 h4
      exact .inr ⟨by omega, by omega⟩
theorem HasP.skip {L : List AcT} {Q R : Nat → Nat → Prop} {i k : Nat} (hi : i < L.length) (hk : k < L.length) (hc : clashB L[i] L[k] = false)
    (hR : ∀ a b, R a b ↔ (Q a b ∨ (a = i ∧ b = k))) (p' j' : Nat) : HasP L Q p' j' ↔ HasP L R p' j' := by
  constructor
  · rintro ⟨a, b, x, y, h1, h2, h3⟩
    exact ⟨a, b, x, y, h1, (hR a b).2 (.inl h2), h3⟩
  · rintro ⟨a, b, x, y, h1, h2, h3, h4, h5, h6, h7⟩
    rcases (hR a b).1 h2 with h | ⟨rfl, rfl⟩
    · exact ⟨a, b, x, y, h1, h, h3, h4, h5, h6, h7⟩
    · rw [List.getElem?_eq_getElem hi] at h3
      rw [List.getElem?_eq_getElem hk] at h4
      injection h3 with h3; injection h4 with h4
      subst h3 h4
      rw [hc] at h5; cases h5
theorem okAc_tx {a : AcT} (h : okAc a = true) : ∃ p : Nat, p < 4 ∧ a.1 = (p : Int) := by
  unfold okAc at h
  simp only [Bool.and_eq_true, decide_eq_true_eq] at h
  exact ⟨a.1.toNat, by omega, by omega⟩
theorem okAc_th {a : AcT} (h : okAc a = true) : ∃ p : Nat, p < 3 ∧ a.2.1 = (p : Int) := by
  unfold okAc at h
  simp only [Bool.and_eq_true, decide_eq_true_eq] at h
  exact ⟨a.2.1.toNat, by omega, by omega⟩
/-! orders: always the least one that may be next; and the first one of all orders that fits -/
/-- the first of the numbers from k on, m of them, at which f answers -/
def firstS (f : Nat → Option (List Nat)) : Nat → Nat → Option (List Nat)
  | _, 0 => none
  | k, m + 1 => match f k with | some o => some o | none => firstS f (k + 1) m
/-- the first order of the numbers below n that goes on from s and fits; d numbers are left -/
def firstO (n : Nat) (fits : List Nat → Bool) : Nat → List Nat → Option (List Nat)
  | 0, s => if fits s then some s else none
  | d + 1, s => firstS (fun x => if x ∈ s then none else firstO n fits d (s ++ [x])) 0 n
theorem firstS_none {f : Nat → Option (List Nat)} : ∀ {m k : Nat}, (∀ x, k ≤ x → x < k + m → f x = none) → firstS f k m = none
  | 0, k, h => rfl
  | m + 1, k, h => by
    rw [firstS, h k (Nat.le_refl _) (by omega)]
    exact firstS_none (fun x h1 h2 => h x (by omega) (by omega))
theorem firstS_some {f : Nat → Option (List Nat)} {x : Nat} {o : List Nat} : ∀ {m k : Nat}, k ≤ x → x < k + m → (∀ y, k ≤ y → y < x → f y = none) → f x = some o → firstS f k m = some o
  | 0, k, h1, h2, _, _ => by omega
  | m + 1, k, h1, h2, h3, h4 => by
    rw [firstS]
    by_cases e : k = x
    · subst e; rw [h4]
    · rw [h3 k (Nat.le_refl _) (by omega)]
      exact firstS_some (by omega) (by omega) (fun y a b => h3 y (by omega) b) h4
theorem firstS_get {f : Nat → Option (List Nat)} {o : List Nat} : ∀ {m k : Nat}, firstS f k m = some o → ∃ x, k ≤ x ∧ x < k + m ∧ f x = some o
  | 0, k, h => by cases h
  | m + 1, k, h => by
    rw [firstS] at h
    cases hk : f k with
    | some o' =>
      rw [hk] at h
      exact ⟨k, Nat.le_refl _, by omega, by rw [hk]; exact h⟩
    | none =>
      rw [hk] at h
      obtain ⟨x, h1, h2, h3⟩ := firstS_get h
      exact ⟨x, by omega, by omega, h3⟩
theorem firstS_cong {f g : Nat → Option (List Nat)} : ∀ {m k : Nat}, (∀ x, k ≤ x → x < k + m → f x = g x) → firstS f k m = firstS g k m
  | 0, k, h => rfl
  | m + 1, k, h => by
    rw [firstS, firstS, h k (Nat.le_refl _) (by omega), firstS_cong (fun x a b => h x (by omega) (by omega))]
/-- s has d numbers less than n, none twice -/
def PreO (n d : Nat) (s : List Nat) : Prop := s.length + d = n ∧ s.Nodup ∧ ∀ x ∈ s, x < n
theorem PreO.snoc {n d : Nat} {s : List Nat} {x : Nat} (h : PreO n (d + 1) s) (hx : x < n) (hs : x ∉ s) : PreO n d (s ++ [x]) :=
  ⟨by have := h.1; simp; omega, by
    rw [List.nodup_append]
    exact ⟨h.2.1, by simp, fun a ha b hb => by simp at hb; subst hb; intro e; subst e; exact hs ha⟩, fun y hy => by
    rcases List.mem_append.1 hy with h1 | h1
    · exact h.2.2 y h1
    · simp at h1; omega⟩
theorem nodup_len : ∀ (n : Nat) (s : List Nat), s.Nodup → (∀ x ∈ s, x < n) → s.length ≤ n
  | 0, s, _, h => by
    cases s with
    | nil => simp
    | cons a t => exact absurd (h a (by simp)) (by omega)
  | n + 1, s, hd, h => by
    have ih := nodup_len n (s.erase n) (hd.erase n) (fun x hx => by
      have h1 := h x (List.mem_of_mem_erase hx)
      have h2 : x ≠ n := fun e => by subst e; exact (List.Nodup.not_mem_erase hd) hx
      omega)
    rw [List.length_erase] at ih
    split at ih <;> omega
theorem PreO.full {n : Nat} {s : List Nat} (h : PreO n 0 s) {x : Nat} (hx : x < n) : x ∈ s := by
  apply Classical.byContradiction
  intro hn
  have h1 := nodup_len n (s ++ [x]) (by
    rw [List.nodup_append]
    exact ⟨h.2.1, by simp, fun a ha b hb => by simp at hb; subst hb; intro e; subst e; exact hn ha⟩) (fun y hy => by
    rcases List.mem_append.1 hy with h1 | h1
    · exact h.2.2 y h1
    · simp at h1; omega)
  have := h.1
  simp at h1
  omega
/-- what firstO answers is an order that fits and goes on from s -/
theorem firstO_get {n : Nat} {fits : List Nat → Bool} : ∀ {d : Nat} {s o : List Nat}, PreO n d s → firstO n fits d s = some o → fits o = true ∧ PreO n 0 o ∧ ∃ t, o = s ++ t
  | 0, s, o, hp, h => by
    rw [firstO] at h
    split at h
    · injection h with h; subst h
      rename_i hf
      exact ⟨hf, hp, [], by simp⟩
    · cases h
  | d + 1, s, o, hp, h => by
    rw [firstO] at h
    obtain ⟨x, h1, h2, h3⟩ := firstS_get h
    split at h3
    · cases h3
    · rename_i hs
      obtain ⟨a, b, t, c⟩ := firstO_get (hp.snoc (by omega) hs) h3
      exact ⟨a, b, x :: t, by rw [c]; simp⟩
theorem firstO_cong {n : Nat} {f g : List Nat → Bool} (h : ∀ o, PreO n 0 o → f o = g o) : ∀ {d : Nat} {s : List Nat}, PreO n d s → firstO n f d s = firstO n g d s
  | 0, s, hp => by rw [firstO, firstO, h s hp]
  | d + 1, s, hp => by
    rw [firstO, firstO]
    refine firstS_cong (fun x h1 h2 => ?_)
    by_cases hs : x ∈ s
    · simp [hs]
    · simp only [hs, if_false]
      exact firstO_cong h (hp.snoc (by omega) hs)
/-- x may be next: none that is left must be ahead of it -/
def freeB (R : Nat → Nat → Bool) (n : Nat) (left : Nat → Bool) (x : Nat) : Bool := left x && (List.range n).all (fun y => !(left y && R y x))
theorem freeB_iff {R : Nat → Nat → Bool} {n : Nat} {left : Nat → Bool} {x : Nat} : freeB R n left x = true ↔ left x = true ∧ ∀ y, y < n → left y = true → R y x = false := by
  unfold freeB
  simp only [Bool.and_eq_true, List.all_eq_true, List.mem_range, Bool.not_eq_true', Bool.and_eq_false_iff]
  constructor
  · rintro ⟨h1, h2⟩
    exact ⟨h1, fun y hy hl => by
      rcases h2 y hy with h | h
      · rw [hl] at h; cases h
      · exact h⟩
  · rintro ⟨h1, h2⟩
    refine ⟨h1, fun y hy => ?_⟩
    cases hl : left y
    · exact .inl rfl
    · exact .inr (h2 y hy hl)
def leastF (R : Nat → Nat → Bool) (n : Nat) (left : Nat → Bool) : Option Nat := (List.range n).find? (freeB R n left)
def without (left : Nat → Bool) (x : Nat) : Nat → Bool := fun y => left y && !decide (y = x)
def greedy (R : Nat → Nat → Bool) (n : Nat) : Nat → (Nat → Bool) → Option (List Nat)
  | 0, _ => some []
  | d + 1, left => match leastF R n left with | none => none | some x => (greedy R n d (without left x)).map (x :: ·)
theorem leastF_some {R : Nat → Nat → Bool} {n : Nat} {left : Nat → Bool} {x : Nat} (h : leastF R n left = some x) : x < n ∧ freeB R n left x = true ∧ ∀ y, y < x → freeB R n left y = false := by
  unfold leastF at h
  rw [List.find?_eq_some_iff_getElem] at h
  obtain ⟨h1, i, hi, e, h2⟩ := h
  simp at e
  subst e
  simp at hi
  refine ⟨hi, h1, fun y hy => ?_⟩
  have := h2 y hy
  simpa using this
theorem leastF_none {R : Nat → Nat → Bool} {n : Nat} {left : Nat → Bool} (h : leastF R n left = none) : ∀ y, y < n → freeB R n left y = false := by
  intro y hy
  unfold leastF at h
  rw [List.find?_eq_none] at h
  simpa using h y (by simpa using hy)
/-- some are left of which none may ever be next -/
def Stuck (R : Nat → Nat → Bool) (n : Nat) (left : Nat → Bool) : Prop := ∃ S : Nat → Bool, (∃ x, x < n ∧ S x = true) ∧ (∀ x, S x = true → x < n ∧ left x = true ∧ ∃ y, y < n ∧ S y = true ∧ R y x = true)
theorem without_le {left : Nat → Bool} {x y : Nat} (h : without left x y = true) : left y = true ∧ y ≠ x := by
  unfold without at h
  simpa using h
/-- how many are left -/
def cntLeft (left : Nat → Bool) (n : Nat) : Nat := ((List.range n).filter left).length
theorem cntLeft_without {left : Nat → Bool} {n x : Nat} (hx : x < n) (hl : left x = true) : cntLeft (without left x) n + 1 = cntLeft left n := by
  unfold cntLeft
  induction n with
  | zero => omega
  | succ n ih =>
    rw [List.range_succ, List.filter_append, List.filter_append, List.length_append, List.length_append]
    by_cases e : x = n
    · subst e
      have h1 : (List.range x).filter (without left x) = (List.range x).filter left := by
        apply List.filter_congr
        intro y hy
        simp at hy
        unfold without
        have : decide (y = x) = false := by simp; omega
        simp [this]
      rw [h1]
      simp [without, hl]
    · have := ih (by omega)
      have h2 : without left x n = left n := by unfold without; simp; intro; omega
      simp only [List.filter_cons, h2, List.filter_nil]
      omega
theorem greedy_none {R : Nat → Nat → Bool} {n : Nat} : ∀ {d : Nat} {left : Nat → Bool}, cntLeft left n = d → (greedy R n d left = none ↔ Stuck R n left)
  | 0, left, hc => by
    constructor
    · intro h; cases h
    · rintro ⟨S, ⟨x, hx, hs⟩, h⟩
      exfalso
      have h1 := (h x hs).2.1
      have := cntLeft_without hx h1
      omega
  | d + 1, left, hc => by
    rw [greedy]
    cases hf : leastF R n left with
    | none =>
      simp only [true_iff]
      have h0 := leastF_none hf
      refine ⟨fun x => decide (x < n) && left x, ?_, ?_⟩
      · have : (List.range n).filter left ≠ [] := by
          intro e
          unfold cntLeft at hc
          rw [e] at hc; simp at hc
        obtain ⟨x, hx⟩ := List.exists_mem_of_ne_nil _ this
        rw [List.mem_filter, List.mem_range] at hx
        exact ⟨x, hx.1, by simp [hx]⟩
      · intro x hx
        simp only [Bool.and_eq_true, decide_eq_true_eq] at hx
        refine ⟨hx.1, hx.2, ?_⟩
        apply Classical.byContradiction
        intro hn
        have : freeB R n left x = true := freeB_iff.2 ⟨hx.2, fun y hy hl => by
          cases hR : R y x
          · rfl
          · exact absurd ⟨y, hy, by simp [hy, hl], hR⟩ hn⟩
        rw [h0 x hx.1] at this; cases this
    | some x =>
      obtain ⟨hx, hfr, _⟩ := leastF_some hf
      have hfr2 := freeB_iff.1 hfr
      have ih := greedy_none (R := R) (n := n) (d := d) (left := without left x) (by have := cntLeft_without hx hfr2.1; omega)
      simp only [Option.map_eq_none_iff]
      rw [ih]
      constructor
      · rintro ⟨S, h1, h2⟩
        exact ⟨S, h1, fun z hz => ⟨(h2 z hz).1, (without_le (h2 z hz).2.1).1, (h2 z hz).2.2⟩⟩
      · rintro ⟨S, h1, h2⟩
        refine ⟨S, h1, fun z hz => ⟨(h2 z hz).1, ?_, (h2 z hz).2.2⟩⟩
        unfold without
        simp only [Bool.and_eq_true, Bool.not_eq_true', decide_eq_false_iff_not]
        refine ⟨(h2 z hz).2.1, fun e => ?_⟩
        subst e
        obtain ⟨y, hy, hsy, hR⟩ := (h2 z hz).2.2
        have := hfr2.2 y hy (h2 y hsy).2.1
        rw [hR] at this; cases this
/-- any one that may be next leaves as much: it is stuck if it was -/
theorem stuck_without {R : Nat → Nat → Bool} {n : Nat} {left : Nat → Bool} {x : Nat} (hfr : freeB R n left x = true) (h : Stuck R n left) : Stuck R n (without left x) := by
  obtain ⟨S, h1, h2⟩ := h
  refine ⟨S, h1, fun z hz => ⟨(h2 z hz).1, ?_, (h2 z hz).2.2⟩⟩
  unfold without
  simp only [Bool.and_eq_true, Bool.not_eq_true', decide_eq_false_iff_not]
  refine ⟨(h2 z hz).2.1, fun e => ?_⟩
  subst e
  obtain ⟨y, hy, hsy, hR⟩ := (h2 z hz).2.2
  have := (freeB_iff.1 hfr).2 y hy (h2 y hsy).2.1
  rw [hR] at this; cases this
theorem stuck_of_without {R : Nat → Nat → Bool} {n : Nat} {left : Nat → Bool} {x : Nat} (h : Stuck R n (without left x)) : Stuck R n left := by
  obtain ⟨S, h1, h2⟩ := h
  exact ⟨S, h1, fun z hz => ⟨(h2 z hz).1, (without_le (h2 z hz).2.1).1, (h2 z hz).2.2⟩⟩
/-- an order in which none stands behind one that it must be ahead of -/
def fitsR (R : Nat → Nat → Bool) (o : List Nat) : Bool := decide (o.Pairwise (fun a b => R b a = false))
def leftO (s : List Nat) : Nat → Bool := fun x => !decide (x ∈ s)
theorem leftO_snoc (s : List Nat) (x : Nat) : leftO (s ++ [x]) = without (leftO s) x := by
  funext y
  unfold leftO without
  rw [Bool.eq_iff_iff]
  simp
theorem cntLeft_leftO {n : Nat} : ∀ {d : Nat} {s : List Nat}, PreO n d s → cntLeft (leftO s) n = d := by
  have key : ∀ (s : List Nat), s.Nodup → (∀ x ∈ s, x < n) → cntLeft (leftO s) n + s.length = n := by
    intro s
    induction s with
    | nil =>
      intro _ _
      have : (List.range n).filter (leftO []) = List.range n := by
        apply List.filter_eq_self.2; intro a _; simp [leftO]
      unfold cntLeft; rw [this]; simp
    | cons a t ih =>
      intro hd hl
      rw [List.nodup_cons] at hd
      have h1 := ih hd.2 (fun x hx => hl x (List.mem_cons_of_mem _ hx))
      have h2 : leftO (a :: t) = without (leftO t) a := by
        funext y
        unfold leftO without
        rw [Bool.eq_iff_iff]
        simp [and_comm]
      have h3 := cntLeft_without (left := leftO t) (hl a List.mem_cons_self) (by simp [leftO, hd.1])
      rw [h2, List.length_cons]
      omega
  intro d s h
  have := key s h.2.1 h.2.2
  have := h.1
  omega
theorem firstO_greedy {R : Nat → Nat → Bool} {n : Nat} (hirr : ∀ x, x < n → R x x = false) : ∀ {d : Nat} {s : List Nat}, PreO n d s → s.Pairwise (fun a b => R b a = false) → (∀ x ∈ s, ∀ y, y < n → y ∉ s → R y x = false) →
    firstO n (fitsR R) d s = (greedy R n d (leftO s)).map (s ++ ·)
  | 0, s, hp, hw, hc => by
    rw [firstO, greedy]
    simp [fitsR, hw]
  | d + 1, s, hp, hw, hc => by
    have hcnt := cntLeft_leftO hp
    -- one that may not be next leads nowhere
    have hbad : ∀ x, x < n → freeB R n (leftO s) x = false → (if x ∈ s then none else firstO n (fitsR R) d (s ++ [x])) = none := by
      intro x hx hf
      by_cases hs : x ∈ s
      · simp [hs]
      · simp only [hs, if_false]
        cases hq : firstO n (fitsR R) d (s ++ [x]) with
        | none => rfl
        | some o =>
          exfalso
          obtain ⟨h1, h2, t, rfl⟩ := firstO_get (hp.snoc hx hs) hq
          have : ¬ ∀ y, y < n → leftO s y = true → R y x = false := fun h => by
            have := freeB_iff.2 ⟨(by simp [leftO, hs] : leftO s x = true), h⟩
            rw [hf] at this; cases this
          apply this
          intro y hy hl
          have hys : y ∉ s := by simpa [leftO] using hl
          unfold fitsR at h1
          rw [decide_eq_true_eq, List.append_assoc, List.pairwise_append] at h1
          have hyo := h2.full hy
          rw [List.append_assoc, List.mem_append] at hyo
          rcases hyo with h | h
          · exact absurd h hys
          · simp only [List.singleton_append, List.mem_cons] at h
            rcases h with rfl | h
            · exact hirr _ hy
            · have := h1.2.1
              rw [List.singleton_append, List.pairwise_cons] at this
              exact this.1 y h
    have hgood : ∀ x, x < n → freeB R n (leftO s) x = true → (if x ∈ s then none else firstO n (fitsR R) d (s ++ [x])) = (greedy R n d (without (leftO s) x)).map ((s ++ [x]) ++ ·) := by
      intro x hx hf
      obtain ⟨f1, f2⟩ := freeB_iff.1 hf
      have hs : x ∉ s := by simpa [leftO] using f1
      simp only [hs, if_false]
      rw [← leftO_snoc]
      refine firstO_greedy hirr (hp.snoc hx hs) ?_ ?_
      · rw [List.pairwise_append]
        exact ⟨hw, by simp, fun a ha b hb => by simp at hb; subst hb; exact hc a ha b hx hs⟩
      · intro z hz y hy hny
        have hny2 : y ∉ s := fun h => hny (List.mem_append_left _ h)
        rcases List.mem_append.1 hz with h | h
        · exact hc z h y hy hny2
        · simp at h; subst h
          exact f2 y hy (by simp [leftO, hny2])
    rw [firstO, greedy]
    cases hl : leastF R n (leftO s) with
    | none =>
      have h0 := leastF_none hl
      simp only [Option.map_none]
      exact firstS_none (fun x _ hx => hbad x (by omega) (h0 x (by omega)))
    | some x =>
      obtain ⟨hx, hf, hlt⟩ := leastF_some hl
      simp only [Option.map_map]
      cases hg : greedy R n d (without (leftO s) x) with
      | some o =>
        have := hgood x hx hf
        rw [hg] at this
        rw [firstS_some (Nat.zero_le _) (by omega) (fun y _ hy => hbad y (by omega) (hlt y hy)) this]
        simp
      | none =>
        have hst : Stuck R n (leftO s) := stuck_of_without ((greedy_none (by have := cntLeft_without hx (freeB_iff.1 hf).1; omega)).1 hg)
        simp only [Option.map_none]
        refine firstS_none (fun y _ hy => ?_)
        cases hfy : freeB R n (leftO s) y
        · exact hbad y (by omega) hfy
        · rw [hgood y (by omega) hfy, (greedy_none (by have := cntLeft_without (n := n) (x := y) (by omega) (freeB_iff.1 hfy).1; omega)).2 (stuck_without hfy hst)]
          rfl
/-! one party after the other -/
def inTurnL (L : List AcT) (o : List Nat) : List AcT := o.flatMap (fun (p : Nat) => L.filter (fun a => decide (a.1 = (p : Int))))
/-- p stands ahead of j -/
def befB : List Nat → Nat → Nat → Bool
  | [], _, _ => false
  | q :: t, p, j => (decide (q = p) && decide (j ∈ t)) || befB t p j
/-- some act of p and some act of j clash -/
def metB (L : List AcT) (p j : Nat) : Bool := L.any (fun x => decide (x.1 = (p : Int)) && L.any (fun y => clashB x y && decide (y.1 = (j : Int))))
theorem aheadB_app : ∀ (A B : List AcT) (p j : Nat), aheadB (A ++ B) p j = (aheadB A p j || aheadB B p j || A.any (fun x => decide (x.1 = (p : Int)) && B.any (fun y => clashB x y && decide (y.1 = (j : Int)))))
  | [], B, p, j => by simp [aheadB]
  | x :: A, B, p, j => by
    have ih := aheadB_app A B p j
    simp only [List.cons_append, aheadB, ih, List.any_append, List.any_cons]
    generalize aheadB A p j = a1
    generalize aheadB B p j = a2
    generalize A.any (fun y => clashB x y && decide (y.1 = (j : Int))) = a3
    generalize B.any (fun y => clashB x y && decide (y.1 = (j : Int))) = a4
    generalize decide (x.1 = (p : Int)) = a5
    generalize A.any _ = a6
    cases a1 <;> cases a2 <;> cases a3 <;> cases a4 <;> cases a5 <;> cases a6 <;> rfl
theorem aheadB_one (L : List AcT) (q : Int) (h : ∀ x ∈ L, x.1 = q) (p j : Nat) : aheadB L p j = false := by
  cases hb : aheadB L p j with
  | false => rfl
  | true =>
    obtain ⟨a, b, x, y, _, _, h3, h4, h5, _⟩ := (aheadB_iff L p j).1 hb
    have h1 := h x (List.mem_of_getElem? h3)
    have h2 := h y (List.mem_of_getElem? h4)
    unfold clashB at h5
    rw [h1, h2] at h5
    simp at h5
theorem inTurn_ahead (L : List AcT) : ∀ (o : List Nat) (p j : Nat), aheadB (inTurnL L o) p j = (befB o p j && metB L p j)
  | [], p, j => by simp [inTurnL, aheadB, befB]
  | q :: t, p, j => by
    have ih := inTurn_ahead L t p j
    have e : inTurnL L (q :: t) = L.filter (fun a => decide (a.1 = (q : Int))) ++ inTurnL L t := by simp [inTurnL]
    rw [e, aheadB_app, ih, aheadB_one (L.filter (fun a => decide (a.1 = (q : Int)))) (q : Int) (fun x hx => by simpa using (List.mem_filter.1 hx).2), Bool.false_or, befB]
    rw [Bool.eq_iff_iff]
    simp only [Bool.or_eq_true, Bool.and_eq_true, List.any_eq_true, decide_eq_true_eq, List.mem_filter, inTurnL, List.mem_flatMap, metB]
    constructor
    · rintro (⟨a, b⟩ | ⟨x, ⟨hx, hq⟩, hp, y, ⟨r, hr, hy, hyr⟩, hc, hj⟩)
      · exact ⟨.inr a, b⟩
      · refine ⟨.inl ⟨by omega, ?_⟩, x, hx, hp, y, hy, hc, hj⟩
        have : r = j := by omega
        subst this; exact hr
    · rintro ⟨⟨rfl, hj⟩ | h, x, hx, hp, y, hy, hc, hyj⟩
      · exact .inr ⟨x, ⟨hx, hp⟩, hp, y, ⟨j, hj, hy, hyj⟩, hc, hyj⟩
      · exact .inl ⟨h, x, hx, hp, y, hy, hc, hyj⟩
theorem metB_iff (L : List AcT) (p j : Nat) : metB L p j = true ↔ (aheadB L p j = true ∨ aheadB L j p = true) := by
  rw [aheadB_iff, aheadB_iff]
  unfold metB HasP
  simp only [List.any_eq_true, Bool.and_eq_true, decide_eq_true_eq]
  constructor
  · rintro ⟨x, hx, hp, y, hy, hc, hj⟩
    obtain ⟨a, ha⟩ := List.getElem?_of_mem hx
    obtain ⟨b, hb⟩ := List.getElem?_of_mem hy
    rcases Nat.lt_trichotomy a b with h | h | h
    · exact .inl ⟨a, b, x, y, h, trivial, ha, hb, hc, hp, hj⟩
    · subst h
      rw [ha] at hb; injection hb with hb; subst hb
      simp [clashB] at hc
    · exact .inr ⟨b, a, y, x, h, trivial, hb, ha, by rw [clashB_symm]; exact hc, hj, hp⟩
  · rintro (⟨a, b, x, y, _, _, h3, h4, h5, h6, h7⟩ | ⟨a, b, x, y, _, _, h3, h4, h5, h6, h7⟩)
    · exact ⟨x, List.mem_of_getElem? h3, h6, y, List.mem_of_getElem? h4, h5, h7⟩
    · exact ⟨y, List.mem_of_getElem? h4, h7, x, List.mem_of_getElem? h3, by rw [clashB_symm]; exact h5, h6⟩
theorem aheadB_irr (L : List AcT) (p : Nat) : aheadB L p p = false := by
  cases hb : aheadB L p p with
  | false => rfl
  | true =>
    obtain ⟨a, b, x, y, _, _, h3, h4, h5, h6, h7⟩ := (aheadB_iff L p p).1 hb
    unfold clashB at h5
    rw [h6, h7] at h5
    simp at h5
theorem befB_mem : ∀ {o : List Nat} {p j : Nat}, befB o p j = true → p ∈ o ∧ j ∈ o
  | [], p, j, h => by cases h
  | q :: t, p, j, h => by
    simp only [befB, Bool.or_eq_true, Bool.and_eq_true, decide_eq_true_eq] at h
    rcases h with ⟨rfl, h⟩ | h
    · exact ⟨List.mem_cons_self, List.mem_cons_of_mem _ h⟩
    · have := befB_mem h
      exact ⟨List.mem_cons_of_mem _ this.1, List.mem_cons_of_mem _ this.2⟩
theorem befB_anti : ∀ {o : List Nat}, o.Nodup → ∀ {p j : Nat}, befB o p j = true → befB o j p = false
  | [], _, p, j, h => by cases h
  | q :: t, hd, p, j, h => by
    rw [List.nodup_cons] at hd
    simp only [befB, Bool.or_eq_true, Bool.and_eq_true, decide_eq_true_eq, Bool.or_eq_false_iff, Bool.and_eq_false_iff, decide_eq_false_iff_not] at h ⊢
    rcases h with ⟨rfl, h⟩ | h
    · refine ⟨.inr hd.1, ?_⟩
      cases hb : befB t j q with
      | false => rfl
      | true => exact absurd (befB_mem hb).2 hd.1
    · refine ⟨.inl (fun e => by subst e; exact hd.1 (befB_mem h).2), befB_anti hd.2 h⟩
theorem befB_total : ∀ {o : List Nat} {p j : Nat}, p ∈ o → j ∈ o → p ≠ j → befB o p j = true ∨ befB o j p = true
  | [], p, j, h, _, _ => by cases h
  | q :: t, p, j, hp, hj, hne => by
    simp only [befB, Bool.or_eq_true, Bool.and_eq_true, decide_eq_true_eq]
    rcases List.mem_cons.1 hp with rfl | hp'
    · rcases List.mem_cons.1 hj with rfl | hj'
      · exact absurd rfl hne
      · exact .inl (.inl ⟨rfl, hj'⟩)
    · rcases List.mem_cons.1 hj with rfl | hj'
      · exact .inr (.inl ⟨rfl, hp'⟩)
      · rcases befB_total hp' hj' hne with h | h
        · exact .inl (.inr h)
        · exact .inr (.inr h)
theorem pairwise_bef {R : Nat → Nat → Bool} : ∀ {o : List Nat}, o.Pairwise (fun a b => R b a = false) ↔ ∀ p j, befB o p j = true → R j p = false
  | [] => by simp [befB]
  | q :: t => by
    rw [List.pairwise_cons, pairwise_bef (o := t)]
    simp only [befB, Bool.or_eq_true, Bool.and_eq_true, decide_eq_true_eq]
    constructor
    · rintro ⟨h1, h2⟩ p j (⟨rfl, h⟩ | h)
      · exact h1 j h
      · exact h2 p j h
    · intro h
      exact ⟨fun j hj => h q j (.inl ⟨rfl, hj⟩), fun p j hb => h p j (.inr hb)⟩
/-- the test of the program: acts one party after the other have the same ahead of others -/
def fitsA (L : List AcT) (o : List Nat) : Bool := decide (aheadL (inTurnL L o) = aheadL L)
theorem aheadL_eq (L M : List AcT) : aheadL L = aheadL M ↔ ∀ p j, p < 4 → j < 4 → aheadB L p j = aheadB M p j := by
  constructor
  · intro h p j hp hj
    rw [← aheadL_test L hp hj, ← aheadL_test M hp hj, h]
  · intro h
    refine list_extD (maskL_len _ _) (maskL_len _ _) (fun p hp => ?_)
    rw [aheadL, aheadL, maskL_get _ hp, maskL_get _ hp]
    refine Nat.eq_of_testBit_eq (fun j => ?_)
    rw [maskF_test, maskF_test]
    by_cases hj : j < 4
    · rw [h p j hp hj]
    · simp [hj]
theorem fitsA_fitsR (L : List AcT) (o : List Nat) (h : PreO 4 0 o) : fitsA L o = fitsR (aheadB L) o := by
  unfold fitsA fitsR
  refine decide_eq_decide.2 ?_
  rw [aheadL_eq, pairwise_bef]
  constructor
  · intro hf p j hb
    have hm := befB_mem hb
    cases hr : aheadB L j p with
    | false => rfl
    | true =>
      have := hf j p (h.2.2 _ hm.2) (h.2.2 _ hm.1)
      rw [inTurn_ahead, hr, befB_anti h.2.1 hb] at this
      simp at this
  · intro hf p j hp hj
    rw [inTurn_ahead]
    have hpm := h.full hp
    have hjm := h.full hj
    cases hr : aheadB L p j with
    | true =>
      have hne : p ≠ j := fun e => by subst e; rw [aheadB_irr] at hr; cases hr
      have hm := (metB_iff L p j).2 (.inl hr)
      rcases befB_total hpm hjm hne with hb | hb
      · rw [hb, hm]; rfl
      · have := hf j p hb
        rw [hr] at this; cases this
    | false =>
      rw [Bool.and_eq_false_iff]
      cases hb : befB o p j with
      | false => exact .inl rfl
      | true =>
        right
        cases hm : metB L p j with
        | false => rfl
        | true =>
          rcases (metB_iff L p j).1 hm with h1 | h1
          · rw [hr] at h1; cases h1
          · have := hf p j hb
            rw [h1] at this; cases this
/-- the order of parties -/
def ordR (L : List AcT) : Option (List Nat) := if actsB L then greedy (aheadB L) 4 4 (fun _ => true) else none
theorem preO_nil (n : Nat) : PreO n n [] := ⟨by simp, by simp, by simp⟩
theorem leftO_nil : leftO [] = fun _ => true := by funext x; simp [leftO]
theorem greedy_ext {R : Nat → Nat → Bool} {n d : Nat} {f g : Nat → Bool} (h : f = g) : greedy R n d f = greedy R n d g := by rw [h]
theorem firstO_ord (L : List AcT) : firstO 4 (fitsA L) 4 [] = greedy (aheadB L) 4 4 (fun _ => true) := by
  rw [firstO_cong (fun o h => fitsA_fitsR L o h) (preO_nil 4), firstO_greedy (fun x _ => aheadB_irr L x) (preO_nil 4) List.Pairwise.nil (fun x hx => by cases hx), leftO_nil]
  cases greedy (aheadB L) 4 4 (fun _ => true) <;> simp
/-! exchanges: parties pulled up to the beginning -/
/-- acts without those of a party that clash with none ahead of them; out: those passed so far -/
def pullL (tx : Nat) : List AcT → List AcT → Option (List AcT)
  | out, [] => some out
  | out, x :: t => if x.1 = (tx : Int) then (if out.any (fun y => clashB y x) then none else pullL tx out t) else pullL tx (out ++ [x]) t
theorem pullL_some {tx : Nat} : ∀ {l out r : List AcT}, pullL tx out l = some r → r = out ++ l.filter (fun a => !decide (a.1 = (tx : Int)))
  | [], out, r, h => by
    rw [pullL] at h; injection h with h; simp [h]
  | x :: t, out, r, h => by
    rw [pullL] at h
    by_cases e : x.1 = (tx : Int)
    · rw [if_pos e] at h
      split at h
      · cases h
      · have := pullL_some h
        rw [this]; simp [e]
    · rw [if_neg e] at h
      have := pullL_some h
      rw [this]; simp [e]
/-- it is done exactly if no act of another party ahead clashes -/
theorem pullL_none {tx : Nat} : ∀ {l out : List AcT}, pullL tx out l = none ↔ ∃ (a : Nat) (x : AcT), l[a]? = some x ∧ x.1 = (tx : Int) ∧ ∃ y : AcT, (y ∈ out ∨ ∃ b : Nat, b < a ∧ l[b]? = some y ∧ y.1 ≠ (tx : Int)) ∧ clashB y x = true
  | [], out => by simp [pullL]
  | x :: t, out => by
    rw [pullL]
    by_cases e : x.1 = (tx : Int)
    · rw [if_pos e]
      by_cases ha : out.any (fun y => clashB y x) = true
      · rw [if_pos ha]
        simp only [true_iff]
        rw [List.any_eq_true] at ha
        obtain ⟨y, hy, hc⟩ := ha
        exact ⟨0, x, rfl, e, y, .inl hy, hc⟩
      · rw [if_neg ha, pullL_none (l := t)]
        constructor
        · rintro ⟨a, z, h1, h2, y, h3, h4⟩
          refine ⟨a + 1, z, by simpa using h1, h2, y, ?_, h4⟩
          rcases h3 with h | ⟨b, hb, hy, hn⟩
          · exact .inl h
          · exact .inr ⟨b + 1, by omega, by simpa using hy, hn⟩
        · rintro ⟨a, z, h1, h2, y, h3, h4⟩
          cases a with
          | zero =>
            simp at h1; subst h1
            rcases h3 with h | ⟨b, hb, _⟩
            · exact absurd (List.any_eq_true.2 ⟨y, h, h4⟩) ha
            · omega
          | succ a =>
            refine ⟨a, z, by simpa using h1, h2, y, ?_, h4⟩
            rcases h3 with h | ⟨b, hb, hy, hn⟩
            · exact .inl h
            · cases b with
              | zero => simp at hy; subst hy; exact absurd e hn
              | succ b => exact .inr ⟨b, by omega, by simpa using hy, hn⟩
    · rw [if_neg e, pullL_none (l := t)]
      constructor
      · rintro ⟨a, z, h1, h2, y, h3, h4⟩
        refine ⟨a + 1, z, by simpa using h1, h2, y, ?_, h4⟩
        rcases h3 with h | ⟨b, hb, hy, hn⟩
        · rcases List.mem_append.1 h with h | h
          · exact .inl h
          · simp at h; subst h
            exact .inr ⟨0, by omega, rfl, e⟩
        · exact .inr ⟨b + 1, by omega, by simpa using hy, hn⟩
      · rintro ⟨a, z, h1, h2, y, h3, h4⟩
        cases a with
        | zero => simp at h1; subst h1; exact absurd h2 e
        | succ a =>
          refine ⟨a, z, by simpa using h1, h2, y, ?_, h4⟩
          rcases h3 with h | ⟨b, hb, hy, hn⟩
          · exact .inl (List.mem_append_left _ h)
          · cases b with
            | zero => simp at hy; subst hy; exact .inl (List.mem_append_right _ (by simp))
            | succ b => exact .inr ⟨b, by omega, by simpa using hy, hn⟩
theorem pull_none_iff {tx : Nat} {l : List AcT} (hok : ∀ x ∈ l, okAc x = true) : pullL tx [] l = none ↔ ∃ q, q < 4 ∧ aheadB l q tx = true := by
  rw [pullL_none]
  constructor
  · rintro ⟨a, x, h1, h2, y, h3, h4⟩
    rcases h3 with h | ⟨b, hb, hy, hn⟩
    · cases h
    · obtain ⟨q, hq, e⟩ := okAc_tx (hok y (List.mem_of_getElem? hy))
      exact ⟨q, hq, (aheadB_iff _ _ _).2 ⟨b, a, y, x, hb, trivial, hy, h1, h4, e, h2⟩⟩
  · rintro ⟨q, hq, h⟩
    obtain ⟨a, b, x, y, hab, _, ha, hb, hc, h1, h2⟩ := (aheadB_iff _ _ _).1 h
    refine ⟨b, y, hb, h2, x, .inr ⟨a, hab, ha, fun e => ?_⟩, hc⟩
    unfold clashB at hc
    rw [e, h2] at hc
    simp at hc
/-- the first party from k on, of m, that may be pulled and has acts: what is left -/
def pullF (now : List AcT) : Nat → Nat → List AcT
  | _, 0 => now
  | k, m + 1 => match pullL k [] now with
    | some r => if r.length < now.length then r else pullF now (k + 1) m
    | none => pullF now (k + 1) m
def swapL : Nat → List AcT → List AcT
  | 0, now => now
  | d + 1, now => if now = [] then [] else swapL d (pullF now 0 4)
def swapB (l : List AcT) : Bool := actsB l && decide (swapL 4 l = [])
def onlyL (l : List AcT) (left : Nat → Bool) : List AcT := l.filter (fun a => left a.1.toNat)
theorem pullF_spec (now : List AcT) : ∀ m k, pullF now k m = now ∧ (∀ x, k ≤ x → x < k + m → pullL x [] now = none ∨ pullL x [] now = some now) ∨
    ∃ x r, k ≤ x ∧ x < k + m ∧ pullL x [] now = some r ∧ r.length < now.length ∧ pullF now k m = r
  | 0, k => .inl ⟨rfl, fun x h1 h2 => by omega⟩
  | m + 1, k => by
    rw [pullF]
    have ih := pullF_spec now m (k + 1)
    cases hp : pullL k [] now with
    | none =>
      rcases ih with ⟨h1, h2⟩ | ⟨x, r, h1, h2, h3, h4, h5⟩
      · refine .inl ⟨h1, fun x a b => ?_⟩
        by_cases e : x = k
        · subst e; exact .inl hp
        · exact h2 x (by omega) (by omega)
      · exact .inr ⟨x, r, by omega, by omega, h3, h4, h5⟩
    | some r =>
      by_cases hl : r.length < now.length
      · simp only [hl, if_true]
        exact .inr ⟨k, r, Nat.le_refl _, by omega, hp, hl, rfl⟩
      · simp only [hl, if_false]
        have hr := pullL_some hp
        simp only [List.nil_append] at hr
        have hrn : r = now := by
          rw [hr] at hl ⊢
          exact List.filter_eq_self.2 (by
            have h1 : (now.filter (fun a => !decide (a.1 = (k : Int)))).length = now.length := Nat.le_antisymm (List.length_filter_le _ _) (by omega)
            exact List.length_filter_eq_length_iff.1 h1)
        subst hrn
        rcases ih with ⟨h1, h2⟩ | ⟨x, r', h1, h2, h3, h4, h5⟩
        · refine .inl ⟨h1, fun x a b => ?_⟩
          by_cases e : x = k
          · subst e; exact .inr hp
          · exact h2 x (by omega) (by omega)
        · exact .inr ⟨x, r', by omega, by omega, h3, h4, h5⟩
/-- how many parties have acts -/
def hasA (l : List AcT) (p : Nat) : Bool := l.any (fun a => decide (a.1 = (p : Int)))
theorem aheadB_sub {A B : List AcT} (h : A.Sublist B) {p j : Nat} : aheadB A p j = true → aheadB B p j = true := by
  induction h with
  | slnil => exact id
  | cons x _ ih =>
    intro h
    simp only [aheadB, Bool.or_eq_true]
    exact .inr (ih h)
  | cons_cons x hs ih =>
    intro h
    simp only [aheadB, Bool.or_eq_true, Bool.and_eq_true, List.any_eq_true] at h ⊢
    rcases h with ⟨h1, y, hy, h2⟩ | h
    · exact .inl ⟨h1, y, hs.subset hy, h2⟩
    · exact .inr (ih h)
theorem aheadB_keep {f : AcT → Bool} {p j : Nat} : ∀ {l : List AcT}, (∀ x : AcT, x.1 = (p : Int) ∨ x.1 = (j : Int) → f x = true) → aheadB l p j = true → aheadB (l.filter f) p j = true
  | [], _, h => by cases h
  | x :: t, hf, h => by
    simp only [aheadB, Bool.or_eq_true, Bool.and_eq_true, List.any_eq_true, decide_eq_true_eq] at h
    rcases h with ⟨h1, y, hy, h2, h3⟩ | h
    · rw [List.filter_cons, if_pos (hf x (.inl h1))]
      simp only [aheadB, Bool.or_eq_true, Bool.and_eq_true, List.any_eq_true, decide_eq_true_eq]
      exact .inl ⟨h1, y, List.mem_filter.2 ⟨hy, hf y (.inr h3)⟩, h2, h3⟩
    · have ih := aheadB_keep hf h
      rw [List.filter_cons]
      split
      · simp only [aheadB, Bool.or_eq_true]; exact .inr ih
      · exact ih
def StuckA (now : List AcT) : Prop := ∃ S : Nat → Bool, (∃ x, S x = true) ∧ ∀ x, S x = true → x < 4 ∧ ∃ y, y < 4 ∧ S y = true ∧ aheadB now y x = true
theorem stuckA_iff (l : List AcT) : Stuck (aheadB l) 4 (fun _ => true) ↔ StuckA l := by
  constructor
  · rintro ⟨S, ⟨x, _, hx⟩, h⟩
    exact ⟨S, ⟨x, hx⟩, fun x hx => ⟨(h x hx).1, (h x hx).2.2⟩⟩
  · rintro ⟨S, ⟨x, hx⟩, h⟩
    exact ⟨S, ⟨x, (h x hx).1, hx⟩, fun x hx => ⟨(h x hx).1, rfl, (h x hx).2⟩⟩
theorem filterT_ok {l : List AcT} (hok : ∀ x ∈ l, okAc x = true) (f : AcT → Bool) : ∀ x ∈ l.filter f, okAc x = true := fun x hx => hok x (List.mem_filter.1 hx).1
theorem pull_eq {tx : Nat} {l r : List AcT} (h : pullL tx [] l = some r) : r = l.filter (fun a => !decide (a.1 = (tx : Int))) := by
  have := pullL_some h
  simpa using this
theorem stuck_pull {tx : Nat} {l r : List AcT} (hok : ∀ x ∈ l, okAc x = true) (h : pullL tx [] l = some r) (hs : StuckA l) : StuckA r := by
  obtain ⟨S, h1, h2⟩ := hs
  have hno : ∀ y, y < 4 → aheadB l y tx = false := fun y hy => by
    cases hb : aheadB l y tx with
    | false => rfl
    | true => rw [(pull_none_iff hok).2 ⟨y, hy, hb⟩] at h; cases h
  have hts : S tx = false := by
    cases hb : S tx with
    | false => rfl
    | true =>
      obtain ⟨_, y, hy, _, ha⟩ := h2 tx hb
      rw [hno y hy] at ha; cases ha
  refine ⟨S, h1, fun x hx => ⟨(h2 x hx).1, ?_⟩⟩
  obtain ⟨_, y, hy, hsy, ha⟩ := h2 x hx
  refine ⟨y, hy, hsy, ?_⟩
  rw [pull_eq h]
  refine aheadB_keep (fun z hz => ?_) ha
  have hxt : x ≠ tx := fun e => by subst e; rw [hx] at hts; cases hts
  have hyt : y ≠ tx := fun e => by subst e; rw [hsy] at hts; cases hts
  simp only [Bool.not_eq_true', decide_eq_false_iff_not]
  rcases hz with hz | hz <;> omega
theorem stuck_swap : ∀ {d : Nat} {l : List AcT}, (∀ x ∈ l, okAc x = true) → StuckA l → swapL d l ≠ []
  | 0, l, hok, hs => by
    rw [swapL]
    rintro rfl
    obtain ⟨S, ⟨x, hx⟩, h⟩ := hs
    obtain ⟨_, y, _, _, ha⟩ := h x hx
    cases ha
  | d + 1, l, hok, hs => by
    rw [swapL]
    have hne : l ≠ [] := stuck_swap (d := 0) hok hs
    rw [if_neg hne]
    rcases pullF_spec l 4 0 with ⟨h1, _⟩ | ⟨x, r, _, _, h3, _, h5⟩
    · rw [h1]; exact stuck_swap hok hs
    · rw [h5]
      refine stuck_swap (fun x hx => ?_) (stuck_pull hok h3 hs)
      rw [pull_eq h3] at hx
      exact hok x (List.mem_filter.1 hx).1
theorem free_swap : ∀ {d : Nat} {l : List AcT}, (∀ x ∈ l, okAc x = true) → ¬ StuckA l → cntLeft (hasA l) 4 ≤ d → swapL d l = []
  | d, l, hok, hs, hc => by
    by_cases hne : l = []
    · subst hne
      cases d <;> simp [swapL]
    · have hex : ∃ x, x < 4 ∧ hasA l x = true ∧ ∀ y, y < 4 → aheadB l y x = false := by
        apply Classical.byContradiction
        intro hn
        apply hs
        refine ⟨fun x => decide (x < 4) && hasA l x, ?_, ?_⟩
        · obtain ⟨a, ha⟩ := List.exists_mem_of_ne_nil _ hne
          obtain ⟨p, hp, e⟩ := okAc_tx (hok a ha)
          refine ⟨p, ?_⟩
          simp only [Bool.and_eq_true, decide_eq_true_eq]
          exact ⟨hp, List.any_eq_true.2 ⟨a, ha, by simp [e]⟩⟩
        · intro x hx
          simp only [Bool.and_eq_true, decide_eq_true_eq] at hx
          refine ⟨hx.1, ?_⟩
          apply Classical.byContradiction
          intro hn2
          apply hn
          refine ⟨x, hx.1, hx.2, fun y hy => ?_⟩
          cases hb : aheadB l y x with
          | false => rfl
          | true =>
            exfalso
            apply hn2
            refine ⟨y, hy, ?_, hb⟩
            simp only [Bool.and_eq_true, decide_eq_true_eq]
            refine ⟨hy, ?_⟩
            obtain ⟨a, b, u, v, _, _, ha, _, _, h6, _⟩ := (aheadB_iff _ _ _).1 hb
            exact List.any_eq_true.2 ⟨u, List.mem_of_getElem? ha, by simp [h6]⟩
      obtain ⟨x, hx, hh, hfree⟩ := hex
      cases d with
      | zero =>
        exfalso
        have := cntLeft_without (n := 4) hx hh
        omega
      | succ d =>
        rw [swapL, if_neg hne]
        have hlt : ∀ {t : Nat}, hasA l t = true → (l.filter (fun a => !decide (a.1 = (t : Int)))).length < l.length := fun {t} ht => by
          obtain ⟨a, ha, hat⟩ := List.any_eq_true.1 ht
          rcases Nat.lt_or_ge (l.filter (fun a => !decide (a.1 = (t : Int)))).length l.length with h | h
          · exact h
          · have h1 := List.length_filter_eq_length_iff.1 (Nat.le_antisymm (List.length_filter_le _ _) h) a ha
            rw [hat] at h1; cases h1
        rcases pullF_spec l 4 0 with ⟨h1, h2⟩ | ⟨y, r, _, hy4, h3, h4, h5⟩
        · exfalso
          rcases h2 x (Nat.zero_le _) (by omega) with h | h
          · obtain ⟨q, hq, ha⟩ := (pull_none_iff hok).1 h
            rw [hfree q hq] at ha; cases ha
          · have h6 := pull_eq h
            have h7 := hlt hh
            rw [← h6] at h7; omega
        · rw [h5]
          have hr := pull_eq h3
          have hyh : hasA l y = true := by
            cases hb : hasA l y with
            | true => rfl
            | false =>
              exfalso
              have : l.filter (fun a => !decide (a.1 = (y : Int))) = l := List.filter_eq_self.2 (fun a ha => by
                unfold hasA at hb
                rw [List.any_eq_false] at hb
                have := hb a ha
                simpa using this)
              rw [hr, this] at h4; omega
          refine free_swap (by rw [hr]; exact filterT_ok hok _) (fun hst => hs ?_) ?_
          · obtain ⟨S, q1, q2⟩ := hst
            refine ⟨S, q1, fun x hx => ⟨(q2 x hx).1, ?_⟩⟩
            obtain ⟨_, z, hz, hsz, ha⟩ := q2 x hx
            exact ⟨z, hz, hsz, aheadB_sub (by rw [hr]; exact List.filter_sublist) ha⟩
          · have h6 : cntLeft (without (hasA l) y) 4 + 1 = cntLeft (hasA l) 4 := cntLeft_without (by omega) hyh
            have h7 : cntLeft (hasA r) 4 ≤ cntLeft (without (hasA l) y) 4 := by
              unfold cntLeft
              refine (List.Sublist.length_le ?_)
              have : (List.range 4).filter (hasA r) = ((List.range 4).filter (without (hasA l) y)).filter (hasA r) := by
                rw [List.filter_filter]
                apply List.filter_congr
                intro z _
                cases hz : hasA r z with
                | false => simp
                | true =>
                  obtain ⟨a, ha, hat⟩ := List.any_eq_true.1 hz
                  rw [hr, List.mem_filter] at ha
                  simp only [decide_eq_true_eq, Bool.not_eq_true', decide_eq_false_iff_not] at hat ha
                  unfold without
                  have h1 : hasA l z = true := List.any_eq_true.2 ⟨a, ha.1, by simp [hat]⟩
                  have h2 : z ≠ y := fun e => ha.2 (by rw [hat, e])
                  simp [h1, h2]
              rw [this]
              exact List.filter_sublist
            omega
/-- exchanges lead there exactly if there is an order -/
theorem swapB_ord (l : List AcT) : swapB l = (ordR l).isSome := by
  unfold swapB ordR
  cases ha : actsB l with
  | false => simp
  | true =>
    simp only [Bool.true_and, if_true]
    have hok : ∀ x ∈ l, okAc x = true := by
      unfold actsB at ha
      simp only [Bool.and_eq_true, List.all_eq_true] at ha
      exact ha.2
    have hg := greedy_none (R := aheadB l) (n := 4) (d := 4) (left := fun _ => true) (by rfl)
    rw [stuckA_iff] at hg
    by_cases hs : StuckA l
    · rw [hg.2 hs]
      simp [stuck_swap hok hs]
    · have h1 : cntLeft (hasA l) 4 ≤ 4 := by
        unfold cntLeft
        exact Nat.le_trans (List.length_filter_le _ _) (by simp)
      rw [free_swap hok hs h1]
      cases hgr : greedy (aheadB l) 4 4 (fun _ => true) with
      | none => exact absurd (hg.1 hgr) hs
      | some o => simp
/-! whose write is read -/
def readV (last : List Int) (a : AcT) : Int := if a.2.2 then -2 else last.getD a.2.1.toNat 0
def stepW (last : List Int) (a : AcT) : List Int := if a.2.2 then last.set a.2.1.toNat a.1 else last
def readsR : List Int → List AcT → List Int
  | _, [] => []
  | last, a :: t => readV last a :: readsR (stepW last a) t
def lastR (last : List Int) (l : List AcT) : List Int := l.foldl stepW last
def last0 : List Int := [-1, -1, -1]
def readsL (l : List AcT) : List Int := readsR last0 l ++ lastR last0 l
theorem stepW_len (last : List Int) (a : AcT) : (stepW last a).length = last.length := by unfold stepW; split <;> simp
theorem lastR_len : ∀ (l : List AcT) (last : List Int), (lastR last l).length = last.length
  | [], _ => rfl
  | a :: t, last => by
    show (lastR (stepW last a) t).length = _
    rw [lastR_len t, stepW_len]
theorem readsR_len : ∀ (l : List AcT) (last : List Int), (readsR last l).length = l.length
  | [], _ => rfl
  | a :: t, last => by simp [readsR, readsR_len t]
theorem readsR_snoc : ∀ (l : List AcT) (last : List Int) (a : AcT), readsR last (l ++ [a]) = readsR last l ++ [readV (lastR last l) a]
  | [], last, a => rfl
  | b :: t, last, a => by
    show readV last b :: readsR (stepW last b) (t ++ [a]) = _
    rw [readsR_snoc t]; rfl
theorem lastR_snoc (l : List AcT) (last : List Int) (a : AcT) : lastR last (l ++ [a]) = stepW (lastR last l) a := by simp [lastR]
/-- the acts at places -/
def actsAt (l : List AcT) (Q : List Nat) : List AcT := Q.map (fun q => l.getD q (0, 0, false))
/-- what each act reads, at its place, when they are done as Q tells -/
def viewV (l : List AcT) (V last : List Int) : List Nat → List Int
  | [] => V ++ last
  | q :: Q => viewV l (V.set q (readV last (l.getD q (0, 0, false)))) (stepW last (l.getD q (0, 0, false))) Q
def viewsF (l : List AcT) (Q : List Nat) : List Int := viewV l (List.replicate 10 0) last0 Q
/-- the row of views behind Q -/
def viewRow (l : List AcT) (V last : List Int) : List Nat → List Int
  | [] => V
  | q :: Q => viewRow l (V.set q (readV last (l.getD q (0, 0, false)))) (stepW last (l.getD q (0, 0, false))) Q
theorem viewV_eq (l : List AcT) : ∀ (Q : List Nat) (V last : List Int), viewV l V last Q = viewRow l V last Q ++ lastR last (actsAt l Q)
  | [], V, last => rfl
  | q :: Q, V, last => by rw [viewV, viewV_eq l Q, viewRow]; rfl
theorem viewRow_len (l : List AcT) : ∀ (Q : List Nat) (V last : List Int), (viewRow l V last Q).length = V.length
  | [], V, last => rfl
  | q :: Q, V, last => by rw [viewRow, viewRow_len l Q]; simp
theorem viewRow_other (l : List AcT) : ∀ (Q : List Nat) (V last : List Int) (i : Nat), i ∉ Q → (viewRow l V last Q)[i]? = V[i]?
  | [], V, last, i, h => rfl
  | q :: Q, V, last, i, h => by
    rw [List.mem_cons, not_or] at h
    rw [viewRow, viewRow_other l Q _ _ i h.2, List.getElem?_set_ne (fun e => h.1 e.symm)]
theorem viewRow_at (l : List AcT) : ∀ (Q : List Nat) (V last : List Int), Q.Nodup → (∀ q ∈ Q, q < V.length) → ∀ (k : Nat) (q : Nat), Q[k]? = some q → (viewRow l V last Q)[q]? = (readsR last (actsAt l Q))[k]?
  | [], V, last, _, _, k, q, h => by simp at h
  | x :: Q, V, last, hd, hV, k, q, h => by
    rw [List.nodup_cons] at hd
    rw [viewRow]
    cases k with
    | zero =>
      simp at h; subst h
      rw [viewRow_other l Q _ _ x hd.1]
      simp [actsAt, readsR, hV x List.mem_cons_self]
    | succ k =>
      simp at h
      rw [viewRow_at l Q _ _ hd.2 (fun q hq => by simpa using hV q (List.mem_cons_of_mem _ hq)) k q h]
      simp [actsAt, readsR]
/-- places of acts, one party after the other -/
def turnP (l : List AcT) (o : List Nat) : List Nat := o.flatMap (fun (p : Nat) => (List.range l.length).filter (fun i => decide ((l.getD i (0, 0, false)).1 = (p : Int))))
theorem actsAt_range (l : List AcT) : actsAt l (List.range l.length) = l := by
  refine List.ext_getElem (by simp [actsAt]) (fun i a b => ?_)
  simp [actsAt, List.getD_eq_getElem?_getD, b]
theorem filter_map_get (l : List AcT) (f : AcT → Bool) : ((List.range l.length).filter (fun i => f (l.getD i (0, 0, false)))).map (fun i => l.getD i (0, 0, false)) = l.filter f := by
  conv => rhs; rw [← actsAt_range l]
  rw [actsAt, List.filter_map]
  rfl
theorem actsAt_turn (l : List AcT) (o : List Nat) : actsAt l (turnP l o) = inTurnL l o := by
  unfold actsAt turnP inTurnL
  rw [List.map_flatMap]
  congr 1
  funext p
  exact filter_map_get l (fun a => decide (a.1 = (p : Int)))
theorem turnP_mem {l : List AcT} {o : List Nat} {q : Nat} (hok : ∀ x ∈ l, okAc x = true) (ho : PreO 4 0 o) : q ∈ turnP l o ↔ q < l.length := by
  unfold turnP
  simp only [List.mem_flatMap, List.mem_filter, List.mem_range, decide_eq_true_eq]
  constructor
  · rintro ⟨p, _, h, _⟩; exact h
  · intro h
    obtain ⟨p, hp, e⟩ := okAc_tx (hok l[q] (List.getElem_mem h))
    exact ⟨p, ho.full hp, h, by simpa [List.getD_eq_getElem?_getD, h] using e⟩
theorem turnP_lt {l : List AcT} {o : List Nat} {q : Nat} (h : q ∈ turnP l o) : q < l.length := by
  unfold turnP at h
  simp only [List.mem_flatMap, List.mem_filter, List.mem_range, decide_eq_true_eq] at h
  obtain ⟨p, _, h, _⟩ := h
  exact h
theorem turnP_nodup (l : List AcT) : ∀ {o : List Nat}, o.Nodup → (turnP l o).Nodup
  | [], _ => by simp [turnP]
  | p :: o, h => by
    rw [List.nodup_cons] at h
    have ih := turnP_nodup l h.2
    have e : turnP l (p :: o) = (List.range l.length).filter (fun i => decide ((l.getD i (0, 0, false)).1 = (p : Int))) ++ turnP l o := by simp [turnP]
    rw [e, List.nodup_append]
    refine ⟨List.nodup_range.filter _, ih, fun a ha b hb => ?_⟩
    intro e2
    subst e2
    rw [List.mem_filter] at ha
    unfold turnP at hb
    simp only [List.mem_flatMap, List.mem_filter, decide_eq_true_eq] at hb ha
    obtain ⟨r, hr, _, hq⟩ := hb
    have : r = p := by omega
    subst this
    exact h.1 hr
theorem nodup_sub_len : ∀ (a b : List Nat), a.Nodup → (∀ x ∈ a, x ∈ b) → a.length ≤ b.length
  | [], b, _, _ => by simp
  | x :: t, b, hd, h => by
    rw [List.nodup_cons] at hd
    have hx := h x List.mem_cons_self
    have ih := nodup_sub_len t (b.erase x) hd.2 (fun y hy => by
      have : y ≠ x := fun e => by subst e; exact hd.1 hy
      exact (List.mem_erase_of_ne this).2 (h y (List.mem_cons_of_mem _ hy)))
    rw [List.length_erase_of_mem hx] at ih
    have := List.length_pos_of_mem hx
    simp
    omega
theorem turnP_len {l : List AcT} {o : List Nat} (hok : ∀ x ∈ l, okAc x = true) (ho : PreO 4 0 o) : (turnP l o).length = l.length := by
  have h1 := nodup_len l.length (turnP l o) (turnP_nodup l ho.2.1) (fun x hx => turnP_lt hx)
  have h2 := nodup_sub_len (List.range l.length) (turnP l o) List.nodup_range (fun x hx => (turnP_mem hok ho).2 (List.mem_range.1 hx))
  simp at h2
  omega
/-- the test of the program, and that of the model -/
def fitsV (l : List AcT) (o : List Nat) : Bool := decide (viewsF l (turnP l o) = viewsF l (List.range l.length))
def sameV (l : List AcT) (o : List Nat) : Bool :=
  (List.range (turnP l o).length).all (fun i => decide ((readsL (inTurnL l o)).getD i 0 = (readsL l).getD ((turnP l o).getD i 0) 0)) &&
  (List.range 3).all (fun t => decide ((readsL (inTurnL l o)).getD (l.length + t) 0 = (readsL l).getD (l.length + t) 0))

theorem list_eq_iff {S T : List Int} (n : Nat) (h1 : S.length = n) (h2 : T.length = n) : S = T ↔ ∀ i, i < n → S[i]? = T[i]? := by
  constructor
  · intro h; subst h; intros; rfl
  · intro h
    refine List.ext_getElem? (fun i => ?_)
    by_cases hi : i < n
    · exact h i hi
    · rw [List.getElem?_eq_none (by omega), List.getElem?_eq_none (by omega)]
theorem app_iff {a b c d : List Int} (h : a.length = c.length) : a ++ b = c ++ d ↔ a = c ∧ b = d := ⟨fun e => List.append_inj e h, fun ⟨x, y⟩ => by rw [x, y]⟩
theorem fitsV_sameV {l : List AcT} {o : List Nat} (hv : actsB l = true) (ho : PreO 4 0 o) : fitsV l o = sameV l o := by
  have hv2 := hv
  unfold actsB at hv2
  simp only [Bool.and_eq_true, List.all_eq_true, decide_eq_true_eq] at hv2
  have hok := hv2.2
  have hl := hv2.1
  have hT := turnP_len hok ho
  have hnd := turnP_nodup l ho.2.1
  have e1 : viewsF l (turnP l o) = viewRow l (List.replicate 10 0) last0 (turnP l o) ++ lastR last0 (inTurnL l o) := by
    rw [viewsF, viewV_eq, actsAt_turn]
  have e2 : viewsF l (List.range l.length) = viewRow l (List.replicate 10 0) last0 (List.range l.length) ++ lastR last0 l := by
    rw [viewsF, viewV_eq, actsAt_range]
  have hin : (inTurnL l o).length = l.length := by rw [← actsAt_turn, actsAt, List.length_map, hT]
  have r1 : ∀ i, (readsL (inTurnL l o)).getD i 0 = if i < l.length then (readsR last0 (inTurnL l o)).getD i 0 else (lastR last0 (inTurnL l o)).getD (i - l.length) 0 := by
    intro i
    unfold readsL
    rw [List.getD_eq_getElem?_getD, List.getElem?_append, readsR_len, hin]
    split <;> simp [List.getD_eq_getElem?_getD]
  have r2 : ∀ i, (readsL l).getD i 0 = if i < l.length then (readsR last0 l).getD i 0 else (lastR last0 l).getD (i - l.length) 0 := by
    intro i
    unfold readsL
    rw [List.getD_eq_getElem?_getD, List.getElem?_append, readsR_len]
    split <;> simp [List.getD_eq_getElem?_getD]
  unfold fitsV sameV
  rw [e1, e2, Bool.eq_iff_iff]
  simp only [Bool.and_eq_true, List.all_eq_true, decide_eq_true_eq, List.mem_range]
  rw [app_iff (by rw [viewRow_len, viewRow_len]), list_eq_iff 10 (by rw [viewRow_len]; simp) (by rw [viewRow_len]; simp), list_eq_iff 3 (by rw [lastR_len]; rfl) (by rw [lastR_len]; rfl)]
  have hat : ∀ (i q : Nat), (turnP l o)[i]? = some q → (viewRow l (List.replicate 10 0) last0 (turnP l o))[q]? = (readsR last0 (inTurnL l o))[i]? := by
    intro i q hq
    rw [viewRow_at l (turnP l o) _ _ hnd (fun q hq => by have := turnP_lt hq; simp; omega) i q hq, actsAt_turn]
  have hat2 : ∀ q, q < l.length → (viewRow l (List.replicate 10 0) last0 (List.range l.length))[q]? = (readsR last0 l)[q]? := by
    intro q hq
    rw [viewRow_at l (List.range l.length) _ _ List.nodup_range (fun q hq => by have := List.mem_range.1 hq; simp; omega) q q (by simp [hq]), actsAt_range]
  refine and_congr ?_ ?_
  · constructor
    · intro h i hi
      have hil : i < l.length := by omega
      obtain ⟨q, hq⟩ : ∃ q, (turnP l o)[i]? = some q := ⟨_, List.getElem?_eq_getElem hi⟩
      have hqm := turnP_lt (List.mem_of_getElem? hq)
      have h1 := h q (by omega)
      rw [hat i q hq, hat2 q hqm] at h1
      rw [r1, r2, if_pos hil, show (turnP l o).getD i 0 = q by rw [List.getD_eq_getElem?_getD, hq]; rfl, if_pos hqm, List.getD_eq_getElem?_getD, List.getD_eq_getElem?_getD, h1]
    · intro h q hq10
      by_cases hq : q < l.length
      · obtain ⟨i, hi⟩ := List.getElem?_of_mem ((turnP_mem hok ho).2 hq)
        have hil := (List.getElem?_eq_some_iff.1 hi).1
        have h1 := h i hil
        rw [r1, r2, if_pos (by omega), show (turnP l o).getD i 0 = q by rw [List.getD_eq_getElem?_getD, hi]; rfl, if_pos hq] at h1
        rw [hat i q hi, hat2 q hq]
        have a1 : i < (readsR last0 (inTurnL l o)).length := by rw [readsR_len]; omega
        have a2 : q < (readsR last0 l).length := by rw [readsR_len]; omega
        simp only [List.getD_eq_getElem?_getD, List.getElem?_eq_getElem a1, List.getElem?_eq_getElem a2, Option.getD_some] at h1
        rw [List.getElem?_eq_getElem a1, List.getElem?_eq_getElem a2, h1]
      · rw [viewRow_other _ _ _ _ _ (fun hm => hq ((turnP_mem hok ho).1 hm)), viewRow_other _ _ _ _ _ (fun hm => hq (List.mem_range.1 hm))]
  · refine forall_congr' (fun t => ?_)
    refine imp_congr_right (fun ht => ?_)
    rw [r1, r2, if_neg (by omega), if_neg (by omega), show l.length + t - l.length = t by omega]
    have a1 : t < (lastR last0 (inTurnL l o)).length := by rw [lastR_len]; exact ht
    have a2 : t < (lastR last0 l).length := by rw [lastR_len]; exact ht
    simp only [List.getD_eq_getElem?_getD, List.getElem?_eq_getElem a1, List.getElem?_eq_getElem a2, Option.getD_some, Option.some.injEq]
/-- the order of parties that reads the same -/
def viewR (l : List AcT) : Option (List Nat) := if actsB l then firstO 4 (fitsV l) 4 [] else none
theorem viewR_eq {l : List AcT} (hv : actsB l = true) : firstO 4 (sameV l) 4 [] = firstO 4 (fitsV l) 4 [] :=
  firstO_cong (fun o ho => (fitsV_sameV hv ho).symm) (preO_nil 4)
/-! jobs: Start, End, Reads, Writes -/
def okJb (j : JbT) : Bool := decide (0 ≤ j.1) && decide (j.1 < j.2.1) && decide (j.2.1 ≤ 20) && decide (0 ≤ j.2.2.1) && decide (j.2.2.1 ≤ 7) && decide (0 ≤ j.2.2.2) && decide (j.2.2.2 ≤ 7)
def goodJ (l : List JbT) (i : Nat) : Bool := okJb (l.getD i (0, 0, 0, 0)) && !(l.take i).any (fun o => decide (o.2.1 = (l.getD i (0, 0, 0, 0)).2.1))
def jobsB (l : List JbT) : Bool := decide (l.length ≤ 6) && (List.range l.length).all (goodJ l)
theorem jobsB_iff {l : List JbT} : jobsB l = true ↔ l.length ≤ 6 ∧ (∀ i (h : i < l.length), okJb l[i] = true) ∧ ∀ i k (hi : i < l.length) (hk : k < i), (l[k]'(by omega)).2.1 ≠ l[i].2.1 := by
  unfold jobsB goodJ
  simp only [Bool.and_eq_true, List.all_eq_true, List.mem_range, decide_eq_true_eq, Bool.not_eq_true', List.any_eq_false]
  constructor
  · rintro ⟨h1, h2⟩
    refine ⟨h1, fun i hi => ?_, fun i k hi hk e => ?_⟩
    · have := (h2 i hi).1
      simpa [List.getD_eq_getElem?_getD, hi] using this
    · refine (h2 i hi).2 (l[k]'(by omega)) (List.mem_take_iff_getElem.2 ⟨k, by omega, rfl⟩) ?_
      simpa [List.getD_eq_getElem?_getD, hi] using e
  · rintro ⟨h1, h2, h3⟩
    refine ⟨h1, fun i hi => ⟨?_, fun x hx => ?_⟩⟩
    · have := h2 i hi
      simpa [List.getD_eq_getElem?_getD, hi] using this
    · obtain ⟨k, hk, rfl⟩ := List.mem_take_iff_getElem.1 hx
      have := h3 i k hi (by omega)
      simpa [List.getD_eq_getElem?_getD, hi] using this
def jAt (l : List JbT) (i : Nat) : JbT := l.getD i (0, 0, 0, 0)
theorem jAt_get {l : List JbT} {i : Nat} (h : i < l.length) : jAt l i = l[i] := by simp [jAt, List.getD_eq_getElem?_getD, h]
/-- two sets have a thing in common -/
def meetB (x y : Int) : Bool := !decide (x.toNat &&& y.toNat = 0)
def mineJ (rd : Bool) (j : JbT) : Int := if rd then j.2.2.1 else j.2.2.2
/-- no kept one stands in the way of job i -/
def okK (l : List JbT) (rd : Bool) (K : Nat → Bool) (i : Nat) : Bool := !(List.range l.length).any (fun k => K k && decide ((jAt l i).1 < (jAt l k).2.1) && meetB (jAt l k).2.2.2 (mineJ rd (jAt l i)))
/-- whether job i is kept, when the ends ahead of t are done -/
def keptT (l : List JbT) (rd : Bool) : Nat → Nat → Bool
  | 0, _ => false
  | t + 1, i => if (jAt l i).2.1 = (t : Int) then okK l rd (keptT l rd t) i else keptT l rd t i
theorem keptT_lt {l : List JbT} {rd : Bool} : ∀ {t i : Nat}, keptT l rd t i = true → (jAt l i).2.1 < (t : Int)
  | 0, i, h => by cases h
  | t + 1, i, h => by
    rw [keptT] at h
    split at h
    · omega
    · have := keptT_lt h; omega
theorem keptT_stay {l : List JbT} {rd : Bool} {i : Nat} : ∀ {t : Nat}, (jAt l i).2.1 < (t : Int) → keptT l rd (t + 1) i = keptT l rd t i := by
  intro t h
  rw [keptT, if_neg (by omega)]
theorem keptT_final {l : List JbT} {rd : Bool} {i : Nat} {u : Nat} : ∀ {t : Nat}, u ≤ t → (jAt l i).2.1 < (u : Int) → keptT l rd t i = keptT l rd u i := by
  intro t
  induction t with
  | zero => intro h1 h2; have : u = 0 := by omega
            subst this; rfl
  | succ t ih =>
    intro h1 h2
    by_cases e : u = t + 1
    · subst e; rfl
    · rw [keptT_stay (by omega), ih (by omega) h2]
def keptF (l : List JbT) (rd : Bool) (i : Nat) : Bool := keptT l rd 21 i
/-- what is kept, told without times -/
theorem keptF_iff {l : List JbT} {rd : Bool} {i : Nat} (h0 : 0 ≤ (jAt l i).2.1) (h1 : (jAt l i).2.1 ≤ 20) :
    keptF l rd i = true ↔ ∀ k, k < l.length → keptF l rd k = true → (jAt l k).2.1 < (jAt l i).2.1 → (jAt l i).1 < (jAt l k).2.1 → meetB (jAt l k).2.2.2 (mineJ rd (jAt l i)) = false := by
  obtain ⟨t, ht⟩ := Int.eq_ofNat_of_zero_le h0
  have hstep : keptF l rd i = okK l rd (keptT l rd t) i := by
    unfold keptF
    rw [keptT_final (u := t + 1) (by omega) (by omega), keptT, if_pos ht]
  rw [hstep]
  unfold okK
  simp only [Bool.not_eq_true', List.any_eq_false, List.mem_range, Bool.and_eq_true, decide_eq_true_eq, not_and, Bool.not_eq_true]
  constructor
  · intro h k hk hkp hlt hst
    refine h k hk ⟨?_, hst⟩
    unfold keptF at hkp
    rw [keptT_final (u := t) (by omega) (by omega)] at hkp
    exact hkp
  · rintro h k hk ⟨hkp, hst⟩
    have := keptT_lt hkp
    refine h k hk ?_ (by omega) hst
    unfold keptF
    rw [keptT_final (u := t) (by omega) (by omega)]
    exact hkp
/-- the row of what is kept -/
def keptL (l : List JbT) (rd : Bool) (t : Nat) : List Bool := (List.range l.length).map (keptT l rd t)
/-! the order of jobs -/
def aheadJ (j o : JbT) : Bool := (decide (j.2.1 < o.2.1) && meetB j.2.2.2 o.2.2.2) || (decide (j.2.1 ≤ o.1) && meetB j.2.2.2 o.2.2.1) || (decide (j.1 < o.2.1) && meetB j.2.2.1 o.2.2.2)
def needJ (l : List JbT) (K : Nat → Bool) (i k : Nat) : Bool := !decide (i = k) && K i && K k && aheadJ (jAt l i) (jAt l k)
theorem needJ_irr (l : List JbT) (K : Nat → Bool) (i : Nat) : needJ l K i i = false := by simp [needJ]
/-- the test of the program -/
def fitsJ (l : List JbT) (K : Nat → Bool) (o : List Nat) : Bool :=
  (List.range o.length).all (fun i => (o.take i).all (fun e => !(K e && K (o.getD i 0) && aheadJ (jAt l (o.getD i 0)) (jAt l e))))
theorem fitsJ_fitsR {l : List JbT} {K : Nat → Bool} {o : List Nat} (hd : o.Nodup) : fitsJ l K o = fitsR (needJ l K) o := by
  unfold fitsJ fitsR
  rw [Bool.eq_iff_iff]
  simp only [List.all_eq_true, List.mem_range, decide_eq_true_eq, Bool.not_eq_true']
  rw [List.pairwise_iff_getElem]
  constructor
  · intro h a b ha hb hab
    have h1 := h b hb o[a] (List.mem_take_iff_getElem.2 ⟨a, by omega, rfl⟩)
    simp only [List.getD_eq_getElem?_getD, List.getElem?_eq_getElem hb, Option.getD_some] at h1
    unfold needJ
    cases ha' : K o[a] <;> cases hb' : K o[b] <;> simp_all
  · intro h b hb e he
    obtain ⟨a, ha, rfl⟩ := List.mem_take_iff_getElem.1 he
    have h1 := h a b (by omega) hb (by omega)
    have hne : o[b] ≠ o[a] := fun e => by
      have := (List.getElem_inj hd).1 e; omega
    unfold needJ at h1
    simp only [List.getD_eq_getElem?_getD, List.getElem?_eq_getElem hb, Option.getD_some]
    simp only [hne, decide_false, Bool.not_false, Bool.true_and] at h1
    rw [← h1]
    cases K o[a] <;> cases K o[b] <;> simp
/-- JobOrder -/
def jobR (l : List JbT) (rd : Bool) : Option (List Nat) := greedy (needJ l (keptF l rd)) l.length l.length (fun _ => true)
theorem firstO_job (l : List JbT) (rd : Bool) : firstO l.length (fitsJ l (keptF l rd)) l.length [] = jobR l rd := by
  unfold jobR
  rw [firstO_cong (fun o h => fitsJ_fitsR h.2.1) (preO_nil l.length), firstO_greedy (fun x _ => needJ_irr l _ x) (preO_nil l.length) List.Pairwise.nil (fun x hx => by cases hx), leftO_nil]
  cases greedy (needJ l (keptF l rd)) l.length l.length (fun _ => true) <;> simp
/-- by its reads: always -/
theorem jobR_reads {l : List JbT} (hv : jobsB l = true) : ∃ o, jobR l true = some o := by
  obtain ⟨_, hok, hdist⟩ := jobsB_iff.1 hv
  unfold jobR
  cases hg : greedy (needJ l (keptF l true)) l.length l.length (fun _ => true) with
  | some o => exact ⟨o, rfl⟩
  | none =>
    exfalso
    obtain ⟨S, ⟨x0, hx0, hs0⟩, h⟩ := (greedy_none (by unfold cntLeft; rw [List.filter_eq_self.2 (fun _ _ => rfl)]; simp)).1 hg
    -- one that is ahead ends earlier
    have key : ∀ y x, y < l.length → x < l.length → needJ l (keptF l true) y x = true → (jAt l y).2.1 < (jAt l x).2.1 := by
      intro y x hy hx hn
      unfold needJ at hn
      simp only [Bool.and_eq_true, Bool.not_eq_true', decide_eq_false_iff_not] at hn
      obtain ⟨⟨⟨hne, hky⟩, hkx⟩, ha⟩ := hn
      have oy := hok y hy
      have ox := hok x hx
      rw [← jAt_get hy] at oy
      rw [← jAt_get hx] at ox
      have hd : (jAt l y).2.1 ≠ (jAt l x).2.1 := by
        rw [jAt_get hy, jAt_get hx]
        rcases Nat.lt_or_gt_of_ne hne with h1 | h1
        · exact hdist x y hx h1
        · exact fun e => hdist y x hy h1 e.symm
      unfold okJb at oy ox
      simp only [Bool.and_eq_true, decide_eq_true_eq] at oy ox
      unfold aheadJ at ha
      simp only [Bool.or_eq_true, Bool.and_eq_true, decide_eq_true_eq] at ha
      rcases ha with (h1 | h1) | h1
      · exact h1.1
      · omega
      · rcases Int.lt_or_le (jAt l y).2.1 (jAt l x).2.1 with h2 | h2
        · exact h2
        · exfalso
          have h3 := (keptF_iff (rd := true) (l := l) (i := y) (by omega) (by omega)).1 hky x hx hkx (by omega) h1.1
          have hc : ∀ a b : Int, meetB a b = meetB b a := fun a b => by unfold meetB; rw [Nat.and_comm]
          unfold mineJ at h3
          rw [if_pos rfl, hc, h1.2] at h3
          cases h3
    -- the one of S that ends first
    have step : ∀ n : Nat, ∀ x, x < l.length → S x = true → (jAt l x).2.1 ≤ (n : Int) → False := by
      intro n
      induction n with
      | zero =>
        intro x hx hsx hle
        obtain ⟨_, _, y, hy, hsy, hR⟩ := h x hsx
        have h1 := key y x hy hx hR
        have oy := hok y hy
        rw [← jAt_get hy] at oy
        unfold okJb at oy
        simp only [Bool.and_eq_true, decide_eq_true_eq] at oy
        omega
      | succ n ih =>
        intro x hx hsx hle
        obtain ⟨_, _, y, hy, hsy, hR⟩ := h x hsx
        have h1 := key y x hy hx hR
        exact ih y hy hsy (by omega)
    have o0 := hok x0 hx0
    rw [← jAt_get hx0] at o0
    unfold okJb at o0
    simp only [Bool.and_eq_true, decide_eq_true_eq] at o0
    exact step 20 x0 hx0 hs0 (by omega)
/-- what an order has: all numbers below n, none twice, each ahead of those that it must be ahead of -/
theorem greedy_order {R : Nat → Nat → Bool} {n : Nat} (hirr : ∀ x, x < n → R x x = false) {o : List Nat} (h : greedy R n n (fun _ => true) = some o) : PreO n 0 o ∧ fitsR R o = true := by
  have h1 := firstO_greedy hirr (preO_nil n) List.Pairwise.nil (fun x hx => by cases hx)
  rw [leftO_nil, h] at h1
  simp at h1
  obtain ⟨h2, h3, _⟩ := firstO_get (preO_nil n) h1
  exact ⟨h3, h2⟩
end Go.Proofs.Ytdpehojcoohjcab
