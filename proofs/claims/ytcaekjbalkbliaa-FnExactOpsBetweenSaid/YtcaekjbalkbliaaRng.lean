/- A range over a function whose iterator keeps cells of its own: what both sides keep, over any program. The blocks of the body are told by a set. No condition. -/
import Derived.Test.YtcaekjbalkbliaaBase
import Derived.RangeFuncNested
import Derived.RangeFuncLeaves
set_option linter.unusedVariables false
set_option linter.unusedSimpArgs false
namespace Go.Proofs.Ytcaekjbalkbliaa
open Go.RowKit Go.ChangeShapes Go.WideShapes

/-- what lies in S lies as it lay -/
structure Leaves (S : Nat → Prop) (A B : World) : Prop where
  os : B.os = A.os
  tape : B.tape = A.tape
  output : B.output = A.output
  size : A.heap.size ≤ B.heap.size
  block : ∀ b, S b → B.heap[b]? = A.heap[b]?
/-- what lay below n lies as it lay but for S; S may have got new blocks -/
structure Moves (n : Nat) (S S' : Nat → Prop) (A B : World) : Prop where
  os : B.os = A.os
  tape : B.tape = A.tape
  output : B.output = A.output
  size : A.heap.size ≤ B.heap.size
  block : ∀ b, b < n → ¬ S b → B.heap[b]? = A.heap[b]?
  grow : ∀ b, S' b → (S b ∨ n ≤ b) ∧ b < B.heap.size
theorem Leaves.below {S : Nat → Prop} {A B : World} (h : Below A.heap.size A B) (hS : ∀ b, S b → b < A.heap.size) : Leaves S A B :=
  ⟨h.os, h.tape, h.output, h.size, fun b hb => h.block b (hS b hb)⟩
theorem Leaves.sub {S S' : Nat → Prop} {A B : World} (h : Leaves S A B) (hS : ∀ b, S' b → S b) : Leaves S' A B :=
  ⟨h.os, h.tape, h.output, h.size, fun b hb => h.block b (hS b hb)⟩
theorem Leaves.trans {S : Nat → Prop} {A B C : World} (h : Leaves S A B) (k : Leaves S B C) : Leaves S A C :=
  ⟨k.os.trans h.os, k.tape.trans h.tape, k.output.trans h.output, Nat.le_trans h.size k.size, fun b hb => (k.block b hb).trans (h.block b hb)⟩
theorem Moves.trans {n m : Nat} {S S' S'' : Nat → Prop} {A B C : World} (h : Moves n S S' A B) (k : Moves m S' S'' B C) (hn : n ≤ m) : Moves n S S'' A C :=
  ⟨k.os.trans h.os, k.tape.trans h.tape, k.output.trans h.output, Nat.le_trans h.size k.size, fun b hb hs => (k.block b (by omega) (fun hs' => by
    rcases (h.grow b hs').1 with h1 | h1
    · exact hs h1
    · omega)).trans (h.block b hb hs), fun b hb => ⟨by
    rcases (k.grow b hb).1 with h1 | h1
    · exact (h.grow b h1).1
    · exact .inr (by omega), (k.grow b hb).2⟩⟩
theorem Moves.below {n : Nat} {S : Nat → Prop} {A B : World} (h : Below n A B) (hS : ∀ b, S b → b < A.heap.size) : Moves n S S A B :=
  ⟨h.os, h.tape, h.output, h.size, fun b hb _ => h.block b hb, fun b hb => ⟨.inl hb, by have := hS b hb; have := h.size; omega⟩⟩

/-- an iterator hands over xs, one behind the other, reading the blocks R alone -/
def Gives {α : Type} (P : Program) (g : Nat) (lb : Array Value) (encs : α → Array Value) (xs : List α) (R : Nat → Prop) (w : World) : Prop :=
  ∀ (n l : Nat) (J Jx : List α → (Nat → Prop) → World → Prop) (W : World) (S0 : Nat → Prop),
    (∀ b, R b → W.heap[b]? = w.heap[b]?) → w.heap.size ≤ W.heap.size → (∀ b, S0 b → b < W.heap.size ∧ ¬ R b) →
    (∀ pre S A B, J pre S A → Leaves S A B → J pre S B) → (∀ pre S A B, Jx pre S A → Leaves S A B → Jx pre S B) →
    (∀ pre x S A, J pre S A → pre ++ [x] <+: xs → (∀ b, S b → b < A.heap.size) →
      YieldAt Fence.wide (n - 1) P l (encs x) A fun e B => ∃ S', Moves A.heap.size S S' A B ∧
        ((e = .returned (.bool true) ∧ J (pre ++ [x]) S' B) ∨ (e = .returned (.bool false) ∧ Jx (pre ++ [x]) S' B))) →
    J [] S0 W →
    CallsIn Fence.wide n P g (#[.func (.yield l) #[] #[]] ++ lb) W fun e B => (∃ v, e = .returned v) ∧ ∃ S', Moves W.heap.size S0 S' W B ∧ (J xs S' B ∨ ∃ pre, pre <+: xs ∧ Jx pre S' B)

/-- how the body of a round may be left -/
def BodyEnd {α : Type} (I : List α → (Nat → Prop) → World → Prop) (Ix : Code → List α → (Nat → Prop) → World → Prop) (xs : List α) (B : Nat) (S : Nat → Prop) (W : World) : Exit → Act → World → Prop
  | .normal, _, W' => ∃ S', Moves B S S' W W' ∧ I xs S' W'
  | .ret, _, W' => ∃ S', Moves B S S' W W' ∧ Ix .ret xs S' W'
  | .exit id, _, W' => ∃ S', Moves B S S' W W' ∧ Ix (.exit id) xs S' W'
  | .goto t, _, W' => ∃ S', Moves B S S' W W' ∧ Ix (.goto t) xs S' W'
  | .panic _, _, _ => False
  | .outgrown, _, _ => False

set_option maxHeartbeats 1000000 in
theorem wp_range {α : Type} {P : Program} {n : Nat} {g : Operand} {ps : Array Tmp} {assign body : Code} {Q : Exit → Act → World → Prop} {a : Act} {w : World} {gf : Nat} {lb : Array Value}
    (hg : a.eval g = .func (.func gf) #[] lb) (eg : ∀ args w, (callFunc gf args).run P w = .ok (.enter gf args) w)
    {encs : α → Array Value} {xs : List α} {R : Nat → Prop} {w0 : World} (hseq : Gives P gf lb encs xs R w0) (hR : ∀ b, R b → w.heap[b]? = w0.heap[b]?) (hsz : w0.heap.size ≤ w.heap.size) (hRb : ∀ b, R b → b < w0.heap.size)
    (hps : ∀ x, (encs x).size = ps.size)
    (I : List α → (Nat → Prop) → World → Prop) (Ix : Code → List α → (Nat → Prop) → World → Prop)
    (hI : ∀ pre S A B, I pre S A → Leaves S A B → I pre S B) (hIx : ∀ c pre S A B, Ix c pre S A → Leaves S A B → Ix c pre S B)
    (S0 : Nat → Prop) (hS0 : ∀ b, S0 b → b < w.heap.size ∧ ¬ R b) (h0 : I [] S0 w)
    (Ax : α → Nat → Act → World → Prop) (hAx : ∀ x B a₁ A A', Ax x B a₁ A → (∀ b, B ≤ b → A'.heap[b]? = A.heap[b]?) → A.heap.size ≤ A'.heap.size → Ax x B a₁ A')
    (hassign : ∀ (l : Nat) (x : α) (W : World) (K : Act → World → Prop), (∀ a₁ W1, Below W.heap.size W W1 → Ax x W.heap.size a₁ W1 → K a₁ W1) →
      assign.wpIn (Fence.wide.inRound l) (n - 1 - 1) P (Exit.then K (fun _ _ _ => False)) { tmps := (ps.zip (encs x)).foldl (fun t (p, v) => t.setIfInBounds p v) a.tmps, defers := [] } W)
    (hbody : ∀ (l : Nat) (pre : List α) (x : α) (S : Nat → Prop) (B : Nat) (a₁ : Act) (W : World), pre ++ [x] <+: xs → I pre S W → (∀ b, S b → b < B) → w.heap.size + 2 ≤ B → B ≤ W.heap.size →
      (∀ b, S b → S0 b ∨ w.heap.size + 2 ≤ b) → Ax x B a₁ W → body.wpIn (Fence.wide.inRound l) (n - 1 - 1) P (BodyEnd I Ix (pre ++ [x]) B S W) a₁ W)
    (hdone : ∀ (S' : Nat → Prop) (W : World), Moves w.heap.size S0 S' w W → I xs S' W → w.heap.size < W.heap.size → W.heap[w.heap.size]? = some (.deferred (some [])) → ¬ S' w.heap.size →
      Q .normal { a with defers := { target := .collected w.heap.size, args := #[] } :: a.defers } W)
    (hstop : ∀ (c : Code) (pre : List α) (S' : Nat → Prop) (W : World), Moves w.heap.size S0 S' w W → pre <+: xs → Ix c pre S' W → w.heap.size < W.heap.size → W.heap[w.heap.size]? = some (.deferred (some [])) → ¬ S' w.heap.size →
      c.wpIn Fence.wide n P Q { a with defers := { target := .collected w.heap.size, args := #[] } :: a.defers } W) :
    (Code.rangeFunc g ps assign body).wpIn Fence.wide n P Q a w := by
  refine wpIn_rangeFunc ?_
  intro fn hfn
  obtain ⟨rec, hrec⟩ : ∃ rec : LoopState → Option Code → Loop, rec = fun st pe => { state := st, pending := pe, fn, tmps := a.tmps, params := ps, assign, body, defers := w.heap.size } := ⟨_, rfl⟩
  obtain ⟨W1, hW1⟩ : ∃ W1, (w.alloc (.deferred (some []))).alloc (.loop (rec .ready none)) = W1 := ⟨_, rfl⟩
  have hL1 : W1.heap[w.heap.size + 1]? = some (.loop (rec .ready none)) := by
    rw [← hW1]; have := World.alloc_heap_new (w.alloc (.deferred (some []))) (.loop (rec .ready none)); rwa [World.size_alloc] at this
  have hK1 : W1.heap[w.heap.size]? = some (.deferred (some [])) := by
    rw [← hW1]; exact (Below.heap_alloc _ _ _ (by simp)).trans (World.alloc_heap_new w _)
  have hB1 : Below w.heap.size w W1 := by
    rw [← hW1]; exact ((Below.refl _ w).alloc (Nat.le_refl _) _).alloc (by simp) _
  have hs1 : W1.heap.size = w.heap.size + 2 := by rw [← hW1]; simp
  have hS0s : ∀ b, S0 b → b < w.heap.size := fun b hb => (hS0 b hb).1
  refine ⟨w.heap.size + 1, [{ target := .collected w.heap.size, args := #[] }], W1, { target := .fn (.func gf) lb, args := #[.func (.yield (w.heap.size + 1)) #[] #[]] }, W1, gf,
    #[.func (.yield (w.heap.size + 1)) #[] #[]] ++ lb, W1, ?_, ?_, fun _ _ => trivial, ?_, (fun h => by cases h), ?_⟩
  · rw [← hW1, hrec]; exact run_enterLoop_outer _ _ _ _ _
  · simp only [resolve, hg]
    simp [go_sem]
  · simp [invoke, go_sem, eg]
  · -- both blocks of the loop belong to its side
    refine (hseq (n - 1) (w.heap.size + 1)
      (fun pre S A => ∃ Su : Nat → Prop, (∀ b, S b ↔ (Su b ∨ b = w.heap.size ∨ b = w.heap.size + 1)) ∧ (∀ b, Su b → S0 b ∨ w.heap.size + 2 ≤ b) ∧ I pre Su A ∧ A.heap[w.heap.size + 1]? = some (.loop (rec .ready none)) ∧ A.heap[w.heap.size]? = some (.deferred (some [])))
      (fun pre S A => ∃ (c : Code) (Su : Nat → Prop), (∀ b, S b ↔ (Su b ∨ b = w.heap.size ∨ b = w.heap.size + 1)) ∧ (∀ b, Su b → S0 b ∨ w.heap.size + 2 ≤ b) ∧ Ix c pre Su A ∧ A.heap[w.heap.size + 1]? = some (.loop (rec .done (some c))) ∧ A.heap[w.heap.size]? = some (.deferred (some [])))
      W1 (fun b => S0 b ∨ b = w.heap.size ∨ b = w.heap.size + 1)
      (fun b hb => (hB1.block b (by have := hRb b hb; omega)).trans (hR b hb)) (by omega) ?_ ?_ ?_ ?_ ?_).mono ?_
    · rintro b (hb | rfl | rfl)
      · exact ⟨by have := (hS0 b hb).1; omega, (hS0 b hb).2⟩
      · exact ⟨by omega, fun h => by have := hRb _ h; omega⟩
      · exact ⟨by omega, fun h => by have := hRb _ h; omega⟩
    · rintro pre S A B ⟨Su, h1, h2, h3, h4, h5⟩ hl
      exact ⟨Su, h1, h2, hI _ _ _ _ h3 (hl.sub fun b hb => (h1 b).2 (.inl hb)), (hl.block _ ((h1 _).2 (.inr (.inr rfl)))).trans h4, (hl.block _ ((h1 _).2 (.inr (.inl rfl)))).trans h5⟩
    · rintro pre S A B ⟨c, Su, h1, h2, h3, h4, h5⟩ hl
      exact ⟨c, Su, h1, h2, hIx _ _ _ _ _ h3 (hl.sub fun b hb => (h1 b).2 (.inl hb)), (hl.block _ ((h1 _).2 (.inr (.inr rfl)))).trans h4, (hl.block _ ((h1 _).2 (.inr (.inl rfl)))).trans h5⟩
    · -- one round
      rintro pre x S A ⟨Su, h1, h2, h3, h4, h5⟩ hpre hSA
      have hlt : w.heap.size + 1 < A.heap.size := (Array.getElem?_eq_some_iff.1 h4).1
      have hy := run_yield (P := P) (args := encs x) h4 (by rw [hrec]; exact hps x)
      rw [hrec] at hy
      refine ⟨fn, _, assign, body, hy, roundIn_of_wpIn hfn (hassign _ x A _ fun a₁ Wa hba hax => ?_)⟩
      have hla : Wa.heap[w.heap.size + 1]? = some (.loop (rec .ready none)) := (hba.block _ hlt).trans h4
      have hka : Wa.heap[w.heap.size]? = some (.deferred (some [])) := (hba.block _ (by omega)).trans h5
      refine ⟨_, run_beginRound hla (by rw [hrec]), ?_⟩
      obtain ⟨W2, hW2⟩ : ∃ W2, Wa.putObj (w.heap.size + 1) (.loop { rec .ready none with state := .busy }) = W2 := ⟨_, rfl⟩
      rw [hW2]
      have hsa : w.heap.size + 1 < Wa.heap.size := by have := hba.size; omega
      have hl2 : W2.heap[w.heap.size + 1]? = some (.loop { rec .ready none with state := .busy }) := by rw [← hW2]; exact World.putObj_heap_same hsa
      have ho2 : ∀ b, b ≠ w.heap.size + 1 → W2.heap[b]? = Wa.heap[b]? := fun b hb => by rw [← hW2]; exact World.putObj_heap_other hb
      have hs2 : W2.heap.size = Wa.heap.size := by rw [← hW2]; simp
      have hos2 : W2.os = Wa.os ∧ W2.tape = Wa.tape ∧ W2.output = Wa.output := by rw [← hW2]; exact ⟨rfl, rfl, rfl⟩
      have hSuA : ∀ b, Su b → b < A.heap.size := fun b hb => hSA b ((h1 b).2 (.inl hb))
      have hSun : ∀ b, Su b → b ≠ w.heap.size ∧ b ≠ w.heap.size + 1 := fun b hb => by
        rcases h2 b hb with h | h
        · have := hS0s b h; omega
        · omega
      have hl02 : Leaves Su A W2 := ⟨hos2.1.trans hba.os, hos2.2.1.trans hba.tape, hos2.2.2.trans hba.output, by rw [hs2]; exact hba.size, fun b hb => (ho2 b (hSun b hb).2).trans (hba.block b (hSuA b hb))⟩
      have hsA2 : A.heap.size ≤ W2.heap.size := by rw [hs2]; exact hba.size
      refine wpIn_mono (hbody _ pre x Su A.heap.size a₁ W2 hpre (hI _ _ _ _ h3 hl02) hSuA (by omega) hsA2 h2 (hAx _ _ _ _ _ hax (fun b hb => ho2 b (by omega)) (by omega))) ?_
      have fin : ∀ (jump : Option Code) (W3 : World) (S' : Nat → Prop), Moves A.heap.size Su S' W2 W3 →
          (Instr.endRound (w.heap.size + 1) jump).run P W3 = .ok (.bool jump.isNone) (W3.putObj (w.heap.size + 1) (.loop (rec (if jump.isNone then .ready else .done) jump))) ∧
          (W3.putObj (w.heap.size + 1) (.loop (rec (if jump.isNone then .ready else .done) jump))).heap[w.heap.size + 1]? = some (.loop (rec (if jump.isNone then .ready else .done) jump)) ∧
          (W3.putObj (w.heap.size + 1) (.loop (rec (if jump.isNone then .ready else .done) jump))).heap[w.heap.size]? = some (.deferred (some [])) ∧
          Moves A.heap.size S (fun b => S' b ∨ b = w.heap.size ∨ b = w.heap.size + 1) A (W3.putObj (w.heap.size + 1) (.loop (rec (if jump.isNone then .ready else .done) jump))) ∧
          (∀ b, S' b → S0 b ∨ w.heap.size + 2 ≤ b) ∧ Leaves S' W3 (W3.putObj (w.heap.size + 1) (.loop (rec (if jump.isNone then .ready else .done) jump))) := fun jump W3 S' hm => by
        have hl3 : W3.heap[w.heap.size + 1]? = some (.loop { rec .ready none with state := .busy }) := (hm.block _ hlt (fun h => (hSun _ h).2 rfl)).trans hl2
        have hk3 : W3.heap[w.heap.size]? = some (.deferred (some [])) := ((hm.block _ (by omega) (fun h => (hSun _ h).1 rfl)).trans (ho2 _ (by omega))).trans hka
        have hS' : ∀ b, S' b → S0 b ∨ w.heap.size + 2 ≤ b := fun b hb => by
          rcases (hm.grow b hb).1 with h | h
          · exact h2 b h
          · exact .inr (by omega)
        have := run_endRound (P := P) jump hl3
        refine ⟨by rw [hrec] at this ⊢; exact this, World.putObj_heap_same (Array.getElem?_eq_some_iff.1 hl3).1, (World.putObj_heap_other (by omega)).trans hk3, ⟨hm.os.trans hl02.os, hm.tape.trans hl02.tape, hm.output.trans hl02.output, by have := hm.size; simp; omega, fun b hb hs => ?_, fun b hb => ?_⟩, hS', ⟨rfl, rfl, rfl, by simp, fun b hb => World.putObj_heap_other (by
            rcases hS' b hb with h | h
            · have := hS0s b h; omega
            · omega)⟩⟩
        · have hnb : b ≠ w.heap.size + 1 := fun e => hs ((h1 b).2 (.inr (.inr e)))
          have hnu : ¬ Su b := fun h => hs ((h1 b).2 (.inl h))
          exact (((World.putObj_heap_other hnb).trans (hm.block b hb hnu)).trans (ho2 b hnb)).trans (hba.block b hb)
        · have hz := hm.size
          rcases hb with hb | rfl | rfl
          · refine ⟨?_, by have := (hm.grow b hb).2; simpa using this⟩
            rcases (hm.grow b hb).1 with h | h
            · exact .inl ((h1 b).2 (.inl h))
            · exact .inr h
          · exact ⟨.inl ((h1 _).2 (.inr (.inl rfl))), by simp; omega⟩
          · exact ⟨.inl ((h1 _).2 (.inr (.inr rfl))), by simp; omega⟩
      rintro e a3 W3 hp
      cases e with
      | normal =>
        obtain ⟨S', hm, hi⟩ := hp
        obtain ⟨hr, hl4, hk4, hm4, hS4, hlv⟩ := fin none W3 S' hm
        exact ⟨_, _, hr, _, hm4, .inl ⟨rfl, S', fun _ => Iff.rfl, hS4, hI _ _ _ _ hi hlv, hl4, hk4⟩⟩
      | ret =>
        obtain ⟨S', hm, hi⟩ := hp
        obtain ⟨hr, hl4, hk4, hm4, hS4, hlv⟩ := fin (some .ret) W3 S' hm
        exact ⟨_, _, hr, _, hm4, .inr ⟨rfl, .ret, S', fun _ => Iff.rfl, hS4, hIx _ _ _ _ _ hi hlv, hl4, hk4⟩⟩
      | exit id =>
        obtain ⟨S', hm, hi⟩ := hp
        obtain ⟨hr, hl4, hk4, hm4, hS4, hlv⟩ := fin (some (.exit id)) W3 S' hm
        exact ⟨_, _, hr, _, hm4, .inr ⟨rfl, .exit id, S', fun _ => Iff.rfl, hS4, hIx _ _ _ _ _ hi hlv, hl4, hk4⟩⟩
      | goto t =>
        obtain ⟨S', hm, hi⟩ := hp
        obtain ⟨hr, hl4, hk4, hm4, hS4, hlv⟩ := fin (some (.goto t)) W3 S' hm
        exact ⟨_, _, hr, _, hm4, .inr ⟨rfl, .goto t, S', fun _ => Iff.rfl, hS4, hIx _ _ _ _ _ hi hlv, hl4, hk4⟩⟩
      | panic ch => exact hp.elim
      | outgrown => exact hp.elim
    · exact ⟨S0, fun _ => Iff.rfl, fun b hb => .inl hb, hI _ _ _ _ h0 (Leaves.below (hB1.mono (Nat.le_refl _)) hS0s), hL1, hK1⟩
    · -- behind the iterator
      have out : ∀ (W3 : World) (S' Su : Nat → Prop) (st : LoopState) (pe : Option Code), Moves W1.heap.size (fun b => S0 b ∨ b = w.heap.size ∨ b = w.heap.size + 1) S' W1 W3 →
          (∀ b, S' b ↔ (Su b ∨ b = w.heap.size ∨ b = w.heap.size + 1)) → (∀ b, Su b → S0 b ∨ w.heap.size + 2 ≤ b) → W3.heap[w.heap.size + 1]? = some (.loop (rec st pe)) → W3.heap[w.heap.size]? = some (.deferred (some [])) → st ≠ .busy →
          (Instr.endLoop (w.heap.size + 1)).run P W3 = .ok pe (W3.putObj (w.heap.size + 1) (.loop { rec st pe with state := .exhausted })) ∧
          Moves w.heap.size S0 Su w (W3.putObj (w.heap.size + 1) (.loop { rec st pe with state := .exhausted })) ∧ Leaves Su W3 (W3.putObj (w.heap.size + 1) (.loop { rec st pe with state := .exhausted })) ∧
          w.heap.size < (W3.putObj (w.heap.size + 1) (.loop { rec st pe with state := .exhausted })).heap.size ∧ (W3.putObj (w.heap.size + 1) (.loop { rec st pe with state := .exhausted })).heap[w.heap.size]? = some (.deferred (some [])) ∧ ¬ Su w.heap.size := fun W3 S' Su st pe hm h1 h2 hl hk hst => by
        have he := run_endLoop (P := P) hl (by rw [hrec]; exact hst)
        have hz := hm.size
        have hn : ∀ b, Su b → b ≠ w.heap.size ∧ b ≠ w.heap.size + 1 := fun b hb => by
          rcases h2 b hb with h | h
          · have := hS0s b h; omega
          · omega
        refine ⟨by rw [hrec] at he ⊢; exact he, ⟨hm.os.trans hB1.os, hm.tape.trans hB1.tape, hm.output.trans hB1.output, by simp; omega, fun b hb hs => ?_, fun b hb => ⟨?_, by have := (hm.grow b ((h1 b).2 (.inl hb))).2; simpa using this⟩⟩, ⟨rfl, rfl, rfl, by simp, fun b hb => World.putObj_heap_other (hn b hb).2⟩, by simp; omega, (World.putObj_heap_other (by omega)).trans hk, fun h => (hn _ h).1 rfl⟩
        · exact ((World.putObj_heap_other (by omega)).trans (hm.block b (by omega) (by rintro (h | h | h) <;> first | exact hs h | omega))).trans (hB1.block b hb)
        · rcases h2 b hb with h | h
          · exact .inl h
          · exact .inr (by omega)
      rintro e W3 ⟨⟨v, rfl⟩, S', hm, (⟨Su, h1, h2, h3, h4, h5⟩ | ⟨pre, hpre, c, Su, h1, h2, h3, h4, h5⟩)⟩
      · obtain ⟨q1, q2, q3, q4, q5, q6⟩ := out W3 S' Su .ready none hm h1 h2 h4 h5 (by simp)
        exact ⟨none, _, q1, hdone Su _ q2 (hI _ _ _ _ h3 q3) q4 q5 q6⟩
      · obtain ⟨q1, q2, q3, q4, q5, q6⟩ := out W3 S' Su .done (some c) hm h1 h2 h4 h5 (by simp)
        exact ⟨some c, _, q1, hstop c pre Su _ q2 hpre (hIx _ _ _ _ _ h3 q3) q4 q5 q6⟩
end Go.Proofs.Ytcaekjbalkbliaa
