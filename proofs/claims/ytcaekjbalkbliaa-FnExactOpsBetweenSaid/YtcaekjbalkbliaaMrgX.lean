/- The iterator 'merged' of the program (chapter 4), the loop's body reading what it reads, but for one block of its own among the rows, which never holds a text. Conditions: the runs lie in rows; they are few. -/
import Derived.Test.YtcaekjbalkbliaaMrgI
import Derived.Test.YtcaekjbalkbliaaRngX
set_option linter.unusedVariables false
set_option linter.unusedSimpArgs false
namespace Go.Proofs.Ytcaekjbalkbliaa
open Go.RowKit Go.ChangeShapes Go.WideShapes
attribute [local go_sem] Oper.semAt_some

theorem own_sameX {w w' : World} {B n z : Nat} {e : TypeId} {v : Value} {xs : List Value} (h : w.ownsRow B e z v n xs) (hb : ∀ q, v.ownBlock = some q → w'.heap[q]? = w.heap[q]?) : w'.ownsRow B e z v n xs := by
  refine ⟨h.1, ?_⟩
  rcases h.2 with h1 | ⟨g, cap, cur, hv, hg, hh, s⟩
  · exact .inl h1
  · exact .inr ⟨g, cap, cur, hv, hg, (hb g (by rw [hv]; rfl)).trans hh, s⟩
theorem cell_new1X (w : World) (v : Value) (t : TypeId) : (w.alloc (.cells #[v] t)).cell? ⟨w.heap.size, 0, none⟩ = some v := by simp
theorem frozen_new1X (w : World) (v : Value) (t : TypeId) : (w.alloc (.cells #[v] t)).frozen? ⟨w.heap.size, 0, none⟩ = false := by simp
theorem frozen_sameX {w w' : World} {b o : Nat} (hb : w'.heap[b]? = w.heap[b]?) : w'.frozen? ⟨b, o, none⟩ = w.frozen? ⟨b, o, none⟩ := by unfold World.frozen?; rw [hb]
theorem cell_sameX {w w' : World} {b o : Nat} (hb : w'.heap[b]? = w.heap[b]?) : w'.cell? ⟨b, o, none⟩ = w.cell? ⟨b, o, none⟩ := World.cell?_of_block hb
theorem SlI.sameX {x : Nat} {w w' : World} {B n c : Nat} {A : Option Addr} {l : List It} (h : SlI w B A n c l) (hx : NoStr x w) (hb : ∀ b, b < B → b ≠ x → w'.heap[b]? = w.heap[b]?) : SlI w' B A n c l := by
  refine ⟨h.1, h.2.1, h.2.2.1, fun h0 => ?_⟩
  obtain ⟨b, off, e, hlt, hc⟩ := h.2.2.2 h0
  have hne : b ≠ x := by
    rintro rfl
    match l with
    | [] => exact h0 (by simp [itsC])
    | ⟨x0, x1, x2⟩ :: l => exact hx _ _ (hc 0 (.string x0) (by simp [itsC, itC]))
  exact ⟨b, off, e, hlt, fun i v hv => (World.cell?_of_block (hb b hlt hne)).trans (hc i v hv)⟩

set_option maxRecDepth 100000 in
set_option maxHeartbeats 4000000 in
theorem merged_givesX (x9 : Nat) (A1 A2 : Option Addr) (n1 n2 c1 c2 n0 B2 B3 : Nat) (f o : List It) (w : World) (h1 : SlI w n0 A1 n1 c1 f) (h2 : SlI w n0 A2 n2 c2 o) (hs1 : n1 ≤ 1048576) (hs2 : n2 ≤ 1048576)
    (hx2 : B2 ≠ x9) (hx3 : B3 ≠ x9) (hx0 : x9 < n0) (hX0 : NoStr x9 w) (hn : n0 ≤ w.heap.size) (hb2 : w.cell? ⟨B2, 0, none⟩ = some (.slice A1 n1 c1)) (hb3 : w.cell? ⟨B3, 0, none⟩ = some (.slice A2 n2 c2)) :
    GivesX x9 Try.prog 58 #[.pointer (some ⟨B2, 0, none⟩), .pointer (some ⟨B3, 0, none⟩)] (fun x : It => #[itV x]) (mergeL f o) (fun b => (b < n0 ∧ b ≠ x9) ∨ b = B2 ∨ b = B3) w := by
  intro n l J Jx W S0 hR hsz hS0 hJ hJx hJX hY h0
  have hlt2 := World.block_lt_of_cell? w _ hb2
  have hlt3 := World.block_lt_of_cell? w _ hb3
  simp only at hlt2 hlt3
  have k2 : W.cell? ⟨B2, 0, none⟩ = some (.slice A1 n1 c1) := (World.cell?_of_block (hR B2 (.inr (.inl rfl)))).trans hb2
  have k3 : W.cell? ⟨B3, 0, none⟩ = some (.slice A2 n2 c2) := (World.cell?_of_block (hR B3 (.inr (.inr rfl)))).trans hb3
  have g1 := h1.sameX (w' := W) hX0 (fun b hb hne => hR b (.inl ⟨hb, hne⟩))
  have g2 := h2.sameX (w' := W) hX0 (fun b hb hne => hR b (.inl ⟨hb, hne⟩))
  have hnW : n0 ≤ W.heap.size := by omega
  have HRW := Lib.hid (show ∀ b, ((b < n0 ∧ b ≠ x9) ∨ b = B2 ∨ b = B3) → b < W.heap.size from by rintro b (⟨h, _⟩ | rfl | rfl) <;> omega)
  have hne2 : B2 ≠ W.heap.size := by omega
  have hne3 : B3 ≠ W.heap.size := by omega
  have hl2 : B2 < W.heap.size := by omega
  have hl3 : B3 < W.heap.size := by omega
  have HJX := Lib.hid hJX
  clear hb2 hb3 h1 h2 hR hJX hX0
  show CallsIn Fence.wide n Try.prog 58 #[.func (.yield l) #[] #[], .pointer (some ⟨B2, 0, none⟩), .pointer (some ⟨B3, 0, none⟩)] W _
  refine callsIn_of_wp Try.func58 rfl trivial ?_ rfl
  simp only [Try.ntmps58, List.size_toArray, List.length_cons, List.length_nil, Nat.reduceAdd, Nat.reduceSub, Array.replicate_succ, Array.replicate_zero, List.push_toArray, List.append_toArray, List.nil_append, List.cons_append]
  gi_wp2
  gi_region
  have hB1 : Below W.heap.size W (W.alloc (.cells #[.string ⟨#[]⟩, .string ⟨#[]⟩, .bool false] 60)).drew := ((Below.refl _ W).alloc (Nat.le_refl _) _).trans (below_drewN _ 1)
  have HS0 := Lib.hid hS0
  have hS0s : ∀ b, S0 b → b < W.heap.size := fun b hb => (hS0 b hb).1
  have HI := Lib.hid (show ItemAt W.heap.size (W.alloc (.cells #[.string ⟨#[]⟩, .string ⟨#[]⟩, .bool false] 60)).drew from
    ⟨_, _, _, show (W.alloc _).cell? _ = some (.string ⟨#[]⟩) by simp, show (W.alloc _).cell? _ = some (.string ⟨#[]⟩) by simp, show (W.alloc _).cell? _ = some (.bool false) by simp, show (W.alloc _).frozen? _ = false by simp, show (W.alloc _).frozen? _ = false by simp, show (W.alloc _).frozen? _ = false by simp⟩)
  have HJ1 := Lib.hid (hJ _ _ _ _ h0 (Leaves.below hB1 (fun b hb => hb.elim (hS0s b) (HRW.out b))))
  have HM1 := Lib.hid (Moves.below (n := W.heap.size) hB1 hS0s)
  have HG1 := Lib.hid (g1.same (fun b hb => hB1.block b (by omega)))
  have HG2 := Lib.hid (g2.same (fun b hb => hB1.block b (by omega)))
  have hsz1 : W.heap.size < (W.alloc (.cells #[.string ⟨#[]⟩, .string ⟨#[]⟩, .bool false] 60)).drew.heap.size := by simp
  have HSN := Lib.hid hS0s
  have HJJ := Lib.hid hJ
  have HYY := Lib.hid hY
  clear hB1 h0 g1 g2 k2 k3 hS0 hS0s hY hJ hJx
  generalize (W.alloc (.cells #[.string ⟨#[]⟩, .string ⟨#[]⟩, .bool false] 60)).drew = W1 at *
  gi_wp2
  gi_loopw [5, 6] (fun p q wr => ∃ (pre f' o' : List It) (A1' : Option Addr) (n1' c1' : Nat) (A2' : Option Addr) (n2' c2' : Nat) (S : Nat → Prop), p = .slice A1' n1' c1' ∧ q = .slice A2' n2' c2' ∧ SlI wr n0 A1' n1' c1' f' ∧ SlI wr n0 A2' n2' c2' o' ∧
      n1' ≤ 1048576 ∧ n2' ≤ 1048576 ∧ pre ++ mergeL f' o' = mergeL f o ∧ J pre S wr ∧ Moves W.heap.size S0 S W wr ∧ ItemAt W.heap.size wr ∧ W.heap.size < wr.heap.size ∧ (∀ b, S b → b ≠ W.heap.size)) (fun p q _ => lenV p + lenV q)
  case atStart => exact ⟨[], f, o, A1, n1, c1, A2, n2, c2, S0, rfl, rfl, HG1.out, HG2.out, hs1, hs2, rfl, HJ1.out, HM1.out, HI.out, hsz1, fun b hb e => by have := HSN.out b hb; omega⟩
  case round =>
    obtain ⟨pre, f', o', A1', n1', c1', A2', n2', c2', S, rfl, rfl, g1, g2, hq1, hq2, hpre, hJs, hmv, hit, hszr, hSI⟩ := hrel
    clear HI HJ1 HM1 HG1 HG2 hsz1
    rename World => wr
    have h1l := g1.1
    have h2l := g2.1
    by_cases hz : 0 < f'.length + o'.length
    · obtain ⟨x, f2, o2, hx, hlen, hle, hxm, hsub1, hsub2, HT⟩ := take_any A1' A2' n1' n2' c1' c2' n0 f' o' hz hq1 hq2
      have HTK := Lib.hid (HT wr g1 g2 (by omega))
      have HX := Lib.hid hx
      have HPX := Lib.hid hpre
      have hpos : (0 : Int) < (n1' : Int) + (n2' : Int) := by omega
      have hlen2 : f2.length + o2.length < n1' + n2' := by omega
      have hfl : f2.length ≤ 1048576 ∧ o2.length ≤ 1048576 := by omega
      clear HT hx hpre g1 g2 h1l h2l hlen hz hle hxm hsub1 hsub2
      gi_wp2_with fail
      refine ⟨trivial, (fun h => by cases h), (callsIn_wide.2 HTK.out).mono ?_⟩
      rintro e w5 ⟨A3, n3, c3, A4, n4, c4, rfl, g3, g4, hb5⟩
      obtain ⟨x0, x1, x2⟩ := x
      have HSL := Lib.hid (show ∀ b, S b → b < wr.heap.size from fun b hb => (hmv.grow b hb).2)
      have hit5 := hit.same (hb5.block _ hszr)
      obtain ⟨u0, u1, u2, i0, i1, i2, j0, j1, j2⟩ := hit5
      have hsz5 : W.heap.size < w5.heap.size := by have := hb5.size; omega
      obtain ⟨q0, q1, q2⟩ := set3 (v0 := .string x0) (v1 := .string x1) (v2 := .bool x2) i0 i1 i2
      have HL5 := Lib.hid (show Leaves (fun b => S b ∨ ((b < n0 ∧ b ≠ x9) ∨ b = B2 ∨ b = B3)) wr (((w5.setCell ⟨W.heap.size, 0, none⟩ (.string x0)).setCell ⟨W.heap.size, 1, none⟩ (.string x1)).setCell ⟨W.heap.size, 2, none⟩ (.bool x2)) from
        ⟨hb5.os, hb5.tape, hb5.output, by simp; exact hb5.size, fun b hb => by
          have hne : b ≠ W.heap.size := hb.elim (fun hb => hSI b hb) (fun hb => by have := HRW.out b hb; omega)
          rw [Below.heap_setCell _ _ _ b hne, Below.heap_setCell _ _ _ b hne, Below.heap_setCell _ _ _ b hne]
          exact hb5.block b (hb.elim (fun hb => (hmv.grow b hb).2) (fun hb => by have := HRW.out b hb; omega))⟩)
      have HJ5 := Lib.hid (HJJ.out _ _ _ _ hJs HL5.out)
      have hout : ∀ b, b ≠ W.heap.size → (((w5.setCell ⟨W.heap.size, 0, none⟩ (.string x0)).setCell ⟨W.heap.size, 1, none⟩ (.string x1)).setCell ⟨W.heap.size, 2, none⟩ (.bool x2)).heap[b]? = w5.heap[b]? := fun b hne => by
        rw [Below.heap_setCell _ _ _ b hne, Below.heap_setCell _ _ _ b hne, Below.heap_setCell _ _ _ b hne]
      have HM5 := Lib.hid (show Moves W.heap.size S0 S W (((w5.setCell ⟨W.heap.size, 0, none⟩ (.string x0)).setCell ⟨W.heap.size, 1, none⟩ (.string x1)).setCell ⟨W.heap.size, 2, none⟩ (.bool x2)) from
        ⟨HL5.out.os.trans hmv.os, HL5.out.tape.trans hmv.tape, HL5.out.output.trans hmv.output, Nat.le_trans hmv.size HL5.out.size, fun b hb hs => ((hout b (by omega)).trans (hb5.block b (by omega))).trans (hmv.block b hb hs),
          fun b hb => ⟨(hmv.grow b hb).1, Nat.lt_of_lt_of_le (hmv.grow b hb).2 HL5.out.size⟩⟩)
      have HG3 := Lib.hid (g3.same (w' := (((w5.setCell ⟨W.heap.size, 0, none⟩ (.string x0)).setCell ⟨W.heap.size, 1, none⟩ (.string x1)).setCell ⟨W.heap.size, 2, none⟩ (.bool x2))) (fun b hb => hout b (by omega)))
      have HG4 := Lib.hid (g4.same (w' := (((w5.setCell ⟨W.heap.size, 0, none⟩ (.string x0)).setCell ⟨W.heap.size, 1, none⟩ (.string x1)).setCell ⟨W.heap.size, 2, none⟩ (.bool x2))) (fun b hb => hout b (by omega)))
      have hn3 := g3.1
      have hn4 := g4.1
      have hn34 : n3 + n4 < n1' + n2' ∧ n3 ≤ 1048576 ∧ n4 ≤ 1048576 := by omega
      clear hn3 hn4
      have HIT := Lib.hid (show ItemAt W.heap.size (((w5.setCell ⟨W.heap.size, 0, none⟩ (.string x0)).setCell ⟨W.heap.size, 1, none⟩ (.string x1)).setCell ⟨W.heap.size, 2, none⟩ (.bool x2)) from
        ⟨_, _, _, q0, q1, q2, by simp [j0], by simp [j1], by simp [j2]⟩)
      have hszy : W.heap.size < (((w5.setCell ⟨W.heap.size, 0, none⟩ (.string x0)).setCell ⟨W.heap.size, 1, none⟩ (.string x1)).setCell ⟨W.heap.size, 2, none⟩ (.bool x2)).heap.size := by simp; exact hsz5
      have HPR := Lib.hid (show mergeL f o = (pre ++ [(x0, x1, x2)]) ++ mergeL f2 o2 by rw [← HPX.out, HX.out, List.append_assoc]; rfl)
      obtain ⟨fn, tmps, assign, body, hy, hR⟩ := HYY.out pre (x0, x1, x2) S _ HJ5.out ⟨_, HPR.out.symm⟩ (fun b hb => Nat.lt_of_lt_of_le (HSL.out b hb) HL5.out.size)
      simp only [itV] at hy ⊢
      have HSI := Lib.hid hSI
      have HSN0 := Lib.hid (show ∀ b, b < n0 → b ≠ x9 → ¬ S b from fun b hb hne hs => by
        rcases (hmv.grow b hs).1 with h | h
        · exact (HS0.out b h).2 (.inl ⟨hb, hne⟩)
        · omega)
      have HRR := Lib.hid hR
      clear hR hSI hout hmv hb5 g3 g4 hJs hit
      gi_wp2
      refine ⟨(fun h => by cases h), HRR.out.mono ?_⟩
      rintro e W3 ⟨S', hm, (⟨rfl, hJ3⟩ | ⟨rfl, hJx3⟩)⟩
      · have HMV3 := Lib.hid (HM5.out.trans hm (Nat.le_of_lt hszy))
        have HIT3 := Lib.hid (HIT.out.same (hm.block _ hszy (fun h => HSI.out _ h rfl)))
        have HG33 := Lib.hid (HG3.out.sameX (w' := W3) (HJX.out _ _ _ HJ5.out) (fun b hb hne => hm.block b (by omega) (HSN0.out b hb hne)))
        have HG44 := Lib.hid (HG4.out.sameX (w' := W3) (HJX.out _ _ _ HJ5.out) (fun b hb hne => hm.block b (by omega) (HSN0.out b hb hne)))
        have HSI3 := Lib.hid (show ∀ b, S' b → b ≠ W.heap.size from fun b hb e => by
          rcases (hm.grow b hb).1 with h | h
          · exact HSI.out b h e
          · omega)
        have hsz3 : W.heap.size < W3.heap.size := Nat.lt_of_lt_of_le hszy hm.size
        have HJ3 := Lib.hid hJ3
        clear hm hJ3
        gi_wp2
        go_roundw
        case rel => exact ⟨pre ++ [(x0, x1, x2)], f2, o2, A3, n3, c3, A4, n4, c4, S', rfl, rfl, HG33.out, HG44.out, by omega, by omega, HPR.out.symm, HJ3.out, HMV3.out, HIT3.out, hsz3, HSI3.out⟩
        case measure => simp [lenV]; omega
      · have HMV3 := Lib.hid (HM5.out.trans hm (Nat.le_of_lt hszy))
        have HJ3 := Lib.hid hJx3
        clear hm hJx3
        gi_wp2
        refine bodyPost_ret (results_none rfl _ _ _) rfl ?_
        exact ⟨⟨_, rfl⟩, S', HMV3.out, .inr ⟨_, ⟨_, HPR.out.symm⟩, HJ3.out⟩⟩
    · obtain rfl : f' = [] := List.eq_nil_of_length_eq_zero (by omega)
      obtain rfl : o' = [] := List.eq_nil_of_length_eq_zero (by omega)
      obtain rfl : n1' = 0 := h1l
      obtain rfl : n2' = 0 := h2l
      rw [mergeL_nil_left, List.append_nil] at hpre
      have HPX := Lib.hid hpre
      clear hpre g1 g2
      gi_wp2
      go_end0
      exact ⟨⟨_, rfl⟩, S, hmv, .inl (by rw [← HPX.out]; exact hJs)⟩
end Go.Proofs.Ytcaekjbalkbliaa
