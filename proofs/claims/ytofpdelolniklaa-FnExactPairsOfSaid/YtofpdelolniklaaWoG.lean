/- The iterator 'withoutGone' of the program (chapter 4): it hands over what is not gone of another iterator's. Conditions: those of the other iterator. -/
import Derived.Test.YtofpdelolniklaaMrgI
set_option linter.unusedVariables false
set_option linter.unusedSimpArgs false
namespace Go.Proofs.Ytofpdelolniklaa
open Go.RowKit Go.ChangeShapes Go.WideShapes
attribute [local go_sem] Oper.semAt_some

theorem yield_in {m m' l l' : Nat} {P : Program} {args : Array Value} {W : World} {R : Ending → World → Prop} (h : YieldAt Fence.wide m P l args W R) : YieldAt (Fence.wide.inRound l') m' P l args W R := by
  obtain ⟨fn, tmps, assign, body, hy, hR⟩ := h
  exact ⟨fn, tmps, assign, body, hy, hR.1, fun c cs _ => hR.2 c cs (room_wide _)⟩
/-- what is not gone -/
def heldL (l : List It) : List It := l.filter (fun p => !p.2.2)
theorem heldL_snoc (l : List It) (x : It) : heldL (l ++ [x]) = if x.2.2 = true then heldL l else heldL l ++ [x] := by
  unfold heldL
  rw [List.filter_append]
  cases hx : x.2.2 <;> simp [hx]
theorem heldL_prefix {a b : List It} (h : a <+: b) : heldL a <+: heldL b := by
  obtain ⟨t, rfl⟩ := h
  exact ⟨heldL t, by unfold heldL; rw [List.filter_append]⟩

theorem withoutGone_any (g0 : Nat) (lb0 : Array Value) (w : World) :
    Calls Try.prog 57 #[.func (.func g0) #[] lb0] w fun e w' =>
      e = .returned (.func (.func 101) #[] #[.pointer (some ⟨w.heap.size, 0, none⟩)]) ∧ w' = w.alloc (.cells #[.func (.func g0) #[] lb0] 82) := by
  go_enter Try.func57, Try.ntmps57
  go_wp2_with fail
  go_ret
  exact ⟨rfl, rfl⟩
theorem Moves.refl {n : Nat} {S : Nat → Prop} {W : World} (h : ∀ b, S b → b < W.heap.size) : Moves n S S W W := Moves.below (Below.refl _ _) h
theorem leaves_put {S : Nat → Prop} {W : World} {d : Nat} {o : Obj} (h : ¬ S d) : Leaves S W (W.putObj d o) :=
  ⟨rfl, rfl, rfl, by simp, fun b hb => World.putObj_heap_other (fun e => h (e ▸ hb))⟩

set_option maxRecDepth 100000 in
set_option maxHeartbeats 4000000 in
theorem withoutGone_gives (g0 : Nat) (lb0 : Array Value) (eg0 : ∀ args w, (callFunc g0 args).run Try.prog w = .ok (.enter g0 args) w) (xs : List It) (R : Nat → Prop) (B1 : Nat) (w0 w : World) (hin : Gives Try.prog g0 lb0 (fun x : It => #[itV x]) xs R w0)
    (hRw : ∀ b, R b → w.heap[b]? = w0.heap[b]?) (hRs : ∀ b, R b → b < w0.heap.size) (hsw : w0.heap.size ≤ w.heap.size) (hb1 : w.cell? ⟨B1, 0, none⟩ = some (.func (.func g0) #[] lb0)) :
    Gives Try.prog 101 #[.pointer (some ⟨B1, 0, none⟩)] (fun x : It => #[itV x]) (heldL xs) (fun b => R b ∨ b = B1) w := by
  intro n l J Jx W S0 hR hsz hS0 hJ hJx hY h0
  have hlt1 := World.block_lt_of_cell? w _ hb1
  simp only at hlt1
  have k1 : W.cell? ⟨B1, 0, none⟩ = some (.func (.func g0) #[] lb0) := (World.cell?_of_block (hR B1 (.inr rfl))).trans hb1
  have hne1 : B1 ≠ W.heap.size := by omega
  have hl1 : B1 < W.heap.size := by omega
  have HRW := Lib.hid (fun b (hb : R b) => (hR b (.inl hb)).trans (hRw b hb))
  have HS0 := Lib.hid hS0
  have HJJ := Lib.hid hJ
  have HXX := Lib.hid hJx
  have HYY := Lib.hid hY
  have HH0 := Lib.hid h0
  have HIN := Lib.hid hin
  clear hb1 hR hS0 hJ hJx hY h0 hin hRw
  show CallsIn Fence.wide n Try.prog 101 #[.func (.yield l) #[] #[], .pointer (some ⟨B1, 0, none⟩)] W _
  refine callsIn_of_wp_marks Try.func101 rfl trivial ?_ rfl
  simp only [Try.ntmps101, List.size_toArray, List.length_cons, List.length_nil, Nat.reduceAdd, Nat.reduceSub, Array.replicate_succ, Array.replicate_zero, List.push_toArray, List.append_toArray, List.nil_append, List.cons_append]
  gi_wp2
  have hBb : Below W.heap.size W (W.alloc (.cells #[.func (.yield l) #[] #[]] 123)) := (Below.refl _ W).alloc (Nat.le_refl _) _
  have hsb : (W.alloc (.cells #[.func (.yield l) #[] #[]] 123)).heap.size = W.heap.size + 1 := by simp
  have hcb : (W.alloc (.cells #[.func (.yield l) #[] #[]] 123)).cell? ⟨W.heap.size, 0, none⟩ = some (.func (.yield l) #[] #[]) := by simp
  generalize W.alloc (.cells #[.func (.yield l) #[] #[]] 123) = Wb at *
  have hS0s : ∀ b, S0 b → b < W.heap.size := fun b hb => (HS0.out b hb).1
  have out : ∀ (Wd : World) (S' S1 : Nat → Prop), Moves Wb.heap.size (fun b => S0 b ∨ b = W.heap.size) S' Wb Wd → (∀ b, S1 b → S' b) → ¬ S' Wb.heap.size → Moves W.heap.size S0 S1 W (Wd.putObj Wb.heap.size (.deferred none)) := fun Wd S' S1 hm h1 hn =>
    ⟨hm.os.trans hBb.os, hm.tape.trans hBb.tape, hm.output.trans hBb.output, by have := hm.size; simp; omega, fun b hb hs => ((World.putObj_heap_other (by omega)).trans (hm.block b (by omega) (by rintro (h | h) <;> first | exact hs h | omega))).trans (hBb.block b hb),
      fun b hb => ⟨by
        rcases (hm.grow b (h1 b hb)).1 with (h | h) | h
        · exact .inl h
        · exact .inr (by omega)
        · exact .inr (by omega), by have := (hm.grow b (h1 b hb)).2; simpa using this⟩⟩
  refine wp_range (xs := xs) (R := R) (w0 := w0) rfl eg0 HIN.out (fun b hb => (hBb.block b (by have := hRs b hb; omega)).trans (HRW.out b hb)) (by omega) hRs (fun _ => rfl)
    (fun pre S A => ∃ S1 : Nat → Prop, (∀ b, S b ↔ (S1 b ∨ b = W.heap.size)) ∧ (∀ b, S1 b → b ≠ W.heap.size) ∧ J (heldL pre) S1 A ∧ A.cell? ⟨W.heap.size, 0, none⟩ = some (.func (.yield l) #[] #[]))
    (fun c pre S A => c = .ret ∧ ∃ S1 : Nat → Prop, (∀ b, S b ↔ (S1 b ∨ b = W.heap.size)) ∧ Jx (heldL pre) S1 A)
    ?hI ?hIx (fun b => S0 b ∨ b = W.heap.size) ?hS0 ?h0
    (fun x B a₁ A => ∃ b3, B ≤ b3 ∧ A.cell? ⟨b3, 0, none⟩ = some (.string x.1) ∧ A.cell? ⟨b3, 1, none⟩ = some (.string x.2.1) ∧ A.cell? ⟨b3, 2, none⟩ = some (.bool x.2.2) ∧
      a₁ = { tmps := #[.func (.yield l) #[] #[], .pointer (some ⟨B1, 0, none⟩), .pointer (some ⟨W.heap.size, 0, none⟩), .pointer (some ⟨b3, 0, none⟩), .func (.func g0) #[] lb0, .agg #[.string x.1, .string x.2.1, .bool x.2.2], undef, undef, undef, undef, undef, undef, undef, undef, undef], defers := [] })
    ?hAx ?assign ?body ?done ?stop
  case hI =>
    rintro pre S A B ⟨S1, h1, h2, h3, h4⟩ hl
    exact ⟨S1, h1, h2, HJJ.out _ _ _ _ h3 (hl.sub fun b hb => (h1 b).2 (.inl hb)), (World.cell?_of_block (hl.block _ ((h1 _).2 (.inr rfl)))).trans h4⟩
  case hIx =>
    rintro c pre S A B ⟨rfl, S1, h1, h2⟩ hl
    exact ⟨rfl, S1, h1, HXX.out _ _ _ _ h2 (hl.sub fun b hb => (h1 b).2 (.inl hb))⟩
  case hS0 =>
    rintro b (hb | rfl)
    · exact ⟨by have := hS0s b hb; omega, fun h => (HS0.out b hb).2 (.inl h)⟩
    · exact ⟨by omega, fun h => by have := hRs _ h; omega⟩
  case h0 => exact ⟨S0, fun _ => Iff.rfl, fun b hb e => by have := hS0s b hb; omega, HJJ.out _ _ _ _ HH0.out (Leaves.below hBb hS0s), hcb⟩
  case hAx =>
    rintro x B a₁ A A' ⟨b3, h1, h2, h3, h4, rfl⟩ hb hz
    exact ⟨b3, h1, (World.cell?_of_block (hb b3 h1)).trans h2, (World.cell?_of_block (hb b3 h1)).trans h3, (World.cell?_of_block (hb b3 h1)).trans h4, rfl⟩
  case assign =>
    rintro l1 ⟨x0, x1, x2⟩ Wa K hK
    simp only [itV]
    gi_wp2
    exact hK _ _ ((Below.refl _ Wa).alloc (Nat.le_refl _) _) ⟨Wa.heap.size, Nat.le_refl _, by simp, by simp, by simp, rfl⟩
  case body =>
    rintro l1 pre ⟨x0, x1, x2⟩ S B a₁ Wr hpre ⟨S1, hS1, hS1n, hJ1, hcell⟩ hSB hB2 hBW hSx ⟨b3, hb3, d0, d1, d2, rfl⟩
    have hSr : ∀ b, S b → b < Wr.heap.size := fun b hb => Nat.lt_of_lt_of_le (hSB b hb) hBW
    have hltb : W.heap.size < Wr.heap.size := hSr _ ((hS1 _).2 (.inr rfl))
    simp only at d0 d1 d2
    have HS1 := Lib.hid hS1
    have HSN := Lib.hid hS1n
    have HPR := Lib.hid (heldL_prefix hpre)
    have HSB := Lib.hid hSB
    have HSR := Lib.hid hSr
    cases x2 with
    | true =>
      have HJ1 := Lib.hid hJ1
      have HE := Lib.hid (show heldL (pre ++ [(x0, x1, true)]) = heldL pre by rw [heldL_snoc]; rfl)
      clear hS1 hS1n hSB hSx hJ1 hpre hSr
      gi_wp2
      refine ⟨fun _ h => (by cases h), ?_⟩
      gi_wp2
      exact ⟨S, Moves.refl HSR.out, S1, HS1.out, HSN.out, by rw [HE.out]; exact HJ1.out, hcell⟩
    | false =>
      have HE := Lib.hid (show heldL (pre ++ [(x0, x1, false)]) = heldL pre ++ [(x0, x1, false)] by rw [heldL_snoc]; rfl)
      rw [HE.out] at HPR
      obtain ⟨fn', tmps', assign', body', hy, hR⟩ := yield_in (l' := l1) (m' := n - 1 - 1 - 1) (HYY.out (heldL pre) (x0, x1, false) S1 Wr hJ1 HPR.out (fun b hb => hSr b ((hS1 b).2 (.inl hb))))
      simp only [itV] at hy
      have HRR := Lib.hid hR
      clear hR hS1 hS1n hSB hSx hJ1 hpre hSr
      gi_wp2
      refine ⟨(fun h => by cases h), HRR.out.mono ?_⟩
      rintro e W3 ⟨S1', hm, hend⟩
      have HMV := Lib.hid (show Moves B S (fun b => S1' b ∨ b = W.heap.size) Wr W3 from ⟨hm.os, hm.tape, hm.output, hm.size, fun b hb hs => hm.block b (by omega) (fun h => hs ((HS1.out b).2 (.inl h))), fun b hb => by
        rcases hb with hb | rfl
        · refine ⟨?_, (hm.grow b hb).2⟩
          rcases (hm.grow b hb).1 with h | h
          · exact .inl ((HS1.out b).2 (.inl h))
          · exact .inr (by omega)
        · exact ⟨.inl ((HS1.out _).2 (.inr rfl)), Nat.lt_of_lt_of_le hltb hm.size⟩⟩)
      rcases hend with ⟨rfl, hJ3⟩ | ⟨rfl, hJx3⟩
      · have HN3 := Lib.hid (show ∀ b, S1' b → b ≠ W.heap.size from fun b hb e => by
          rcases (hm.grow b hb).1 with h | h
          · exact HSN.out b h e
          · omega)
        have HC3 := Lib.hid ((World.cell?_of_block (a := ⟨W.heap.size, 0, none⟩) (hm.block _ hltb (fun h => HSN.out _ h rfl))).trans hcell)
        have HJ3 := Lib.hid hJ3
        clear hm hJ3
        gi_wp2
        exact ⟨_, HMV.out, S1', fun _ => Iff.rfl, HN3.out, by rw [HE.out]; exact HJ3.out, HC3.out⟩
      · have HJ3 := Lib.hid hJx3
        clear hm hJx3
        gi_wp2
        exact ⟨_, HMV.out, rfl, S1', fun _ => Iff.rfl, by rw [HE.out]; exact HJ3.out⟩
  case done =>
    rintro S' Wd hm ⟨S1, h1, h2, h3, h4⟩ hlt hD hnD
    have HMV := Lib.hid hm
    have HJ3 := Lib.hid h3
    have HS1 := Lib.hid h1
    clear hm h3 h1
    gi_wp2
    refine ⟨by simp, .inl ⟨_, _, rfl, run_takeDeferred hD, ?_⟩⟩
    have hb := out Wd S' S1 HMV.out (fun b hb => (HS1.out b).2 (.inl hb)) hnD
    exact ⟨_, results_none rfl _ _ _, ⟨_, rfl⟩, S1, hb, .inl (HJJ.out _ _ _ _ HJ3.out (leaves_put (fun h => hnD ((HS1.out _).2 (.inl h)))))⟩
  case stop =>
    rintro c pre S' Wd hm hpre ⟨rfl, S1, h1, h2⟩ hlt hD hnD
    have HMV := Lib.hid hm
    have HJ3 := Lib.hid h2
    have HS1 := Lib.hid h1
    have HPP := Lib.hid (heldL_prefix hpre)
    clear hm h2 h1
    gi_wp2
    refine ⟨by simp, .inl ⟨_, _, rfl, run_takeDeferred hD, ?_⟩⟩
    have hb := out Wd S' S1 HMV.out (fun b hb => (HS1.out b).2 (.inl hb)) hnD
    exact ⟨_, results_none rfl _ _ _, ⟨_, rfl⟩, S1, hb, .inr ⟨_, HPP.out, HXX.out _ _ _ _ HJ3.out (leaves_put (fun h => hnD ((HS1.out _).2 (.inl h))))⟩⟩
end Go.Proofs.Ytofpdelolniklaa
