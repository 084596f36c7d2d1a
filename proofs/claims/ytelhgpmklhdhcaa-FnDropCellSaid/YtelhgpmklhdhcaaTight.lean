/- Contracts of copySlots, in the model and in the program (chapter 1); 'copy' of elements of more than one cell. Conditions: the slots lie in a row; no slice without address has room. -/
import Derived.Test.YtelhgpmklhdhcaaCells
import Derived.Laws.AppendOwnNone
import Derived.Laws.CopyOwn
set_option linter.unusedVariables false
set_option linter.unusedSimpArgs false
namespace Go.Proofs.Ytelhgpmklhdhcaa
open Go.RowKit Go.ChangeShapes Go.WideShapes

/-- slots of the call's own, in a row -/
def OwnSlots (B : Nat) (l : List Sl) (v : Value) (w : World) : Prop :=
  ∃ (A : Option Addr) (c : Nat), v = .slice A l.length c ∧ w.ownsRow B 81 2 (.slice A l.length c) l.length (slC l)
theorem _root_.Go.World.ownsRow.slots {w : World} {B n : Nat} {v : Value} {l : List Sl} (h : w.ownsRow B 81 2 v n (slC l)) (hn : n = l.length) : OwnSlots B l v w := by
  subst hn
  obtain ⟨A, c, rfl⟩ : ∃ (A : Option Addr) (c : Nat), v = .slice A l.length c := by
    rcases h.2 with ⟨h1, h2⟩ | ⟨g, N, cur, h1, _⟩
    · exact ⟨none, 0, h1.trans (by rw [h2])⟩
    · exact ⟨_, _, h1⟩
  exact ⟨A, c, rfl, h⟩
def SlotsPost (l : List Sl) (w : World) (e : Ending) (w' : World) : Prop := ∃ v, e = .returned v ∧ OwnSlots w.heap.size l v w' ∧ Below w.heap.size w w'

set_option maxRecDepth 100000 in
set_option maxHeartbeats 1000000 in
theorem sCopy_some (ad : Addr) (n c : Nat) (l : List Sl) (w : World) (hr : RowAt w w.heap.size (some ad) (slC l)) (hn : n = l.length) (hs : n ≤ 1048576) :
    Calls Try.prog 62 #[.slice (some ad) n c] w (SlotsPost l w) := by
  obtain ⟨i0, hi0, hz0, hz1, hz2⟩ := info_parts slotInfo
  have HI := Lib.hid (And.intro hi0 (And.intro hz0 (And.intro hz1 hz2))); clear hi0 hz0 hz1 hz2
  have HR := Lib.hid hr; clear hr
  have HN := Lib.hid hn; clear hn
  have HB0 := Lib.hid ((Below.refl w.heap.size w).alloc (Nat.le_refl _) (.cells #[] 81))
  have HO := Lib.hid (show (w.alloc (.cells #[] 81)).ownsRow w.heap.size 81 2 (.slice (some ⟨w.heap.size, 0, none⟩) 0 0) 0 [] from
    ⟨rfl, .inr ⟨w.heap.size, 0, #[], rfl, by omega, heap_alloc_new w _, by omega, by simp [maxLen], rfl, rfl⟩⟩)
  go_enter Try.func62, Try.ntmps62
  go_wp2_with (at_builtin; refine wpList_append_own _ rfl _ _ 23 rfl w.heap.size 81 i0 (.agg #[.int .i64 0, .int .i64 0]) 2 16 Try.underlying23 HI.out.1 HI.out.2.1 HI.out.2.2.1 HI.out.2.2.2 rfl (by decide) _ 0 [] rfl HO.out ad n c (slC l) rfl ?c0 ?c1 ?c2 ?c3 ?c4 ?c5 ?_)
  case c0 => rw [slC_len, HN.out]
  case c1 =>
    intro j u hj
    obtain ⟨b, off, e, hb, hc⟩ := (HR.out.below HB0.out) (by intro h0; rw [h0] at hj; simp at hj)
    cases e
    have hcj := hc j u hj
    unfold Addr.add
    by_cases hj0 : j = 0
    · subst hj0; simpa using hcj
    · simp [hj0]; exact hcj
  case c2 =>
    intro u hu
    obtain ⟨p, hp, hu⟩ := List.mem_flatMap.1 hu
    simp [slotC] at hu
    rcases hu with rfl | rfl <;> rfl
  case c3 => unfold maxLen; omega
  case c4 => omega
  case c5 => have := HB0.out.size; omega
  · intro v' w1 hown' hgrow _
    have hbb : Below w.heap.size w w1 := HB0.out.grown hgrow HB0.out.size (fun q hq => (HO.out.lt q hq).1)
    have HP := Lib.hid (And.intro hown' hbb); clear hown' hgrow hbb
    go_wp2_with fail
    go_ret
    exact ⟨_, rfl, HP.out.1.slots HN.out, HP.out.2⟩

theorem sCopy_none (w : World) : Calls Try.prog 62 #[.slice none 0 0] w (SlotsPost [] w) := by
  obtain ⟨i0, hi0, hz0, hz1, hz2⟩ := info_parts slotInfo
  have HI := Lib.hid hi0; clear hi0 hz0 hz1 hz2
  have HB0 := Lib.hid ((Below.refl w.heap.size w).alloc (Nat.le_refl _) (.cells #[] 81))
  have HO := Lib.hid (show (w.alloc (.cells #[] 81)).ownsRow w.heap.size 81 2 (.slice (some ⟨w.heap.size, 0, none⟩) 0 0) 0 [] from
    ⟨rfl, .inr ⟨w.heap.size, 0, #[], rfl, by omega, heap_alloc_new w _, by omega, by simp [maxLen], rfl, rfl⟩⟩)
  go_enter Try.func62, Try.ntmps62
  go_wp2_with (at_builtin; refine wpList_append_own_none rfl _ _ 23 rfl w.heap.size 81 i0 2 Try.underlying23 HI.out _ 0 [] rfl HO.out rfl ?_)
  go_ret
  exact ⟨_, rfl, HO.out.slots (l := []) rfl, HB0.out⟩

/-- spec.copySlots: the same slots in a row of the call's own -/
theorem sCopy_any (A : Option Addr) (n c : Nat) (l : List Sl) (w : World) (hr : RowAt w w.heap.size A (slC l)) (hn : n = l.length) (hs : n ≤ 1048576) (hA : A = none → c = 0) :
    Calls Try.prog 62 #[.slice A n c] w (SlotsPost l w) := by
  cases A with
  | some ad => exact sCopy_some ad n c l w hr hn hs
  | none =>
    obtain rfl := hA rfl
    have hl : l = [] := by
      cases l with
      | nil => rfl
      | cons p t => obtain ⟨b, off, e, _⟩ := hr (by simp [slC, slotC]); cases e
    subst hl
    subst hn
    exact sCopy_none w

/-- 'copy' of elements of any number of cells, over the head of a row -/
theorem run_copy_wide {P : Program} (w : World) (dT sT ty elem : TypeId) (g dLen dCap : Nat) (a : Addr) (sLen sCap z n : Nat) (cur : Array Value) (t : TypeId) (cs : List Value)
    (hu : P.underlying dT = some (.slice elem)) (hs : (P.info? elem).map (·.size) = some z)
    (hg : w.heap[g]? = some (.cells cur t (0, 0))) (hm : n = Nat.min sLen dLen) (hn : cs.length = n * z)
    (hsrc : ∀ j v, cs[j]? = some v → w.cell? (a.add j) = some v) (hfit : cs.length ≤ cur.size) (h1 : ∀ v ∈ cs, v.oneCell' = true) :
    (Builtin.copy_ #[dT, sT] ty #[.slice (some ⟨g, 0, none⟩) dLen dCap, .slice (some a) sLen sCap]).run P w =
      .ok (goInt n) (w.setRow g (cs ++ cur.toList.drop cs.length).toArray) := by
  have hl := run_loadCells_list (P := P) w a cs hsrc
  have hst := run_storeCells_at P g 0 t cs 0 cur w hg (by simpa using hfit) h1
  cases hq : P.info? elem with
  | none => simp [hq] at hs
  | some i =>
    have hi : i.size = z := by simpa [hq] using hs
    simp [Builtin.copy_, run_underlying hu, Builtin.lenOf, Builtin.firstCells, sizeOf, typeInfo, hq, hi, ← hm, ← hn, hl, hst]

theorem wpList_copy_wide {P : Program} {w : World} {ops : Array Oper} {rest : List Oper} {o : Oper} {a : Act} {Q : Exit → Act → World → Prop} (hgd : o.guard = none) (d s : Operand) (dT sT : TypeId)
    (ho : o.op = .call { callee := .builtin .copy, args := #[d, s], argTypes := #[dT, sT] }) (elem : TypeId) (z : Nat) (hu : P.underlying dT = some (.slice elem)) (hsz : (P.info? elem).map (·.size) = some z)
    (g dLen dCap : Nat) (ad : Addr) (sLen sCap n : Nat) (hd : a.eval d = .slice (some ⟨g, 0, none⟩) dLen dCap) (hs : a.eval s = .slice (some ad) sLen sCap)
    (cur : Array Value) (t : TypeId) (hg : w.heap[g]? = some (.cells cur t (0, 0))) (cs : List Value) (hm : n = Nat.min sLen dLen) (hn : cs.length = n * z)
    (hsrc : ∀ j v, cs[j]? = some v → w.cell? (ad.add j) = some v) (hfit : cs.length ≤ cur.size) (h1 : ∀ v ∈ cs, v.oneCell' = true)
    (h : ∀ w', w'.heap[g]? = some (.cells (cs ++ cur.toList.drop cs.length).toArray t (0, 0)) → w.grownBy w' (some g) → wpList P ops Q rest (a.put o.dst (goInt n)) w') : wpList P ops Q (o :: rest) a w := by
  refine wpList_plain hgd fun K hK => ?_
  have hrun := run_copy_wide (P := P) w dT sT o.type elem g dLen dCap ad sLen sCap z n cur t cs hu hsz hg hm hn hsrc hfit h1
  unfold Oper.wp
  simp [execOp, ho, resolve, invoke, builtin, hd, hs, hrun, Result.andThen]
  exact hK _ _ (by simpa using h _ (setRow_heap w g _ _ t _ hg) (setRow_grown w g _))

/-- the same, the source nil or not -/
theorem wpList_copy_any {P : Program} {w : World} {ops : Array Oper} {rest : List Oper} {o : Oper} {a : Act} {Q : Exit → Act → World → Prop} (hgd : o.guard = none) (d s : Operand) (dT sT : TypeId)
    (ho : o.op = .call { callee := .builtin .copy, args := #[d, s], argTypes := #[dT, sT] }) (elem : TypeId) (z : Nat) (hu : P.underlying dT = some (.slice elem)) (hsz : (P.info? elem).map (·.size) = some z)
    (g dLen dCap : Nat) (sp : Option Addr) (sLen sCap n : Nat) (hd : a.eval d = .slice (some ⟨g, 0, none⟩) dLen dCap) (hs : a.eval s = .slice sp sLen sCap)
    (cur : Array Value) (t : TypeId) (hg : w.heap[g]? = some (.cells cur t (0, 0))) (cs : List Value) (hm : n = Nat.min sLen dLen) (hn : cs.length = n * z)
    (hsrc : ∀ j v, cs[j]? = some v → ∃ ad, sp = some ad ∧ w.cell? (ad.add j) = some v) (hnil : sp = none → sLen = 0 ∧ sCap = 0) (hfit : cs.length ≤ cur.size) (h1 : ∀ v ∈ cs, v.oneCell' = true)
    (h : ∀ w', w'.heap[g]? = some (.cells (cs ++ cur.toList.drop cs.length).toArray t (0, 0)) → w.grownBy w' (some g) → wpList P ops Q rest (a.put o.dst (goInt n)) w') : wpList P ops Q (o :: rest) a w := by
  cases sp with
  | some ad =>
    refine wpList_copy_wide hgd d s dT sT ho elem z hu hsz g dLen dCap ad sLen sCap n hd hs cur t hg cs hm hn (fun j v hj => ?_) hfit h1 h
    obtain ⟨_, e, hc⟩ := hsrc j v hj
    cases e
    exact hc
  | none =>
    obtain ⟨rfl, rfl⟩ := hnil rfl
    have hn0 : n = 0 := by rw [hm]; exact Nat.zero_min _
    subst hn0
    have hc0 : cs = [] := List.eq_nil_of_length_eq_zero (by rw [hn]; exact Nat.zero_mul _)
    subst hc0
    refine wpList_plain hgd fun K hK => ?_
    have hrun := run_copy_nil (P := P) w dT sT o.type elem ⟨g, 0, none⟩ dLen dCap hu (by rw [hsz]; rfl)
    unfold Oper.wp
    simp [execOp, ho, resolve, invoke, builtin, hd, hs, hrun, Result.andThen]
    exact hK _ _ (h _ (by simpa using hg) (World.grownBy.refl _ _))

theorem row_cells {w : World} {B g n : Nat} {e : TypeId} {z : Nat} {xs : List Value} (h : w.ownsRow B e z (.slice (some ⟨g, 0, none⟩) n n) n xs) :
    ∃ cur : Array Value, w.heap[g]? = some (.cells cur e (0, 0)) ∧ cur.size = n * z ∧ B ≤ g ∧ n ≤ maxLen := by
  rcases h.2 with ⟨h1, _⟩ | ⟨g', N, cur, h1, hB, hh, _, hN, hc, _⟩
  · cases h1
  · injection h1 with hA _ hC
    injection hA with hA
    injection hA with hA
    subst hA hC
    exact ⟨cur, hh, hc, hB, hN⟩

theorem Filled.copied {w w1 w2 : World} {g m : Nat} {l L : List Sl} {cur : Array Value} (hL : L.length = m) (hl : L.take l.length = l) (hlm : l.length ≤ m) (hc : cur.size = m * 2) (hB : w.heap.size ≤ g) (hm : m ≤ maxLen)
    (hb : Below w.heap.size w w1) (hh : w2.heap[g]? = some (.cells (slC l ++ cur.toList.drop (slC l).length).toArray 81 (0, 0))) (hg : w1.grownBy w2 (some g)) : Filled w g m L l.length w2 := by
  have hcl : cur.toList.length = m * 2 := by simpa using hc
  refine ⟨hlm, hB, ⟨cur.toList.drop (slC l).length, by rw [List.length_drop, hcl, slC_len]; omega, ?_⟩, hb.grown hg hb.size (fun q hq => by cases hq; exact hB)⟩
  rw [hl]
  refine ⟨by rw [List.length_append, List.length_drop, hcl, slC_len]; omega, .inr ⟨g, m, _, rfl, hB, hh, Nat.le_refl _, hm, ?_, ?_⟩⟩
  · simp [hc, slC_len]; omega
  · rw [List.take_of_length_le]
    simp [hc, slC_len]; omega

set_option maxRecDepth 100000 in
set_option maxHeartbeats 1000000 in
theorem iCopy_any (A : Option Addr) (n c m : Nat) (l : List Sl) (w : World) (hr : RowAt w w.heap.size A (slC l)) (hn : n = l.length) (hnm : n ≤ m) (hs : m ≤ 1048577) (hA : A = none → c = 0) :
    Calls Try.prog 57 #[.slice A n c, .int .i64 m] w (SlotsPost (l ++ List.replicate (m - n) (-1, 0)) w) := by
  obtain ⟨i0, hi0, hz0, hz1, hz2⟩ := info_parts slotInfo
  have hb2 : i0.bytes * m ≤ 281474976710656 := by rw [hz2]; omega
  have HZ := Lib.hid (show (Try.prog.info? 81).map (·.size) = some 2 by rw [hi0]; simp [hz1])
  have HI := Lib.hid (And.intro hi0 (And.intro hz0 (And.intro hz1 hz2))); clear hi0 hz0 hz1 hz2
  have HR := Lib.hid hr; clear hr
  have HN := Lib.hid hn; clear hn
  have HA := Lib.hid hA; clear hA
  obtain ⟨L, hL⟩ : ∃ L, l ++ List.replicate (m - n) ((-1, 0) : Sl) = L := ⟨_, rfl⟩
  have HLL := Lib.hid (show L.length = m by rw [← hL, List.length_append, List.length_replicate, ← HN.out]; omega)
  have HLT := Lib.hid (show L.take l.length = l by rw [← hL, List.take_left])
  have HLA := Lib.hid (show ∀ k (h : k < L.length), n ≤ k → L[k] = (-1, 0) by
    intro k h hk
    have h2 := HN.out
    subst hL
    rw [List.getElem_append_right (by omega)]; simp)
  rw [hL]
  clear hL
  go_enter Try.func57, Try.ntmps57
  go_wp2_with (first
    | (refine wpList_copy_any rfl _ _ 23 23 rfl 81 2 Try.underlying23 HZ.out w.heap.size m m A n c n rfl rfl cur 81 HW.out.1 (slC l) ?c1 ?c2 ?c3 ?c4 ?c5 ?c6 ?_)
    | (refine wpList_make_full _ rfl _ _ 23 rfl w.heap.size 81 i0 (.agg #[.int .i64 0, .int .i64 0]) 2 Try.underlying23 HI.out.1 HI.out.2.1 HI.out.2.2.1 .i64 .i64 _ _ m rfl rfl rfl rfl hb2 (by unfold maxLen; omega) (Nat.le_refl _) ?_
       intro w1 hown hg1
       obtain ⟨cur, hcell, hcs, hBg, hml⟩ := row_cells hown
       have HW := Lib.hid (And.intro hcell (And.intro hcs ((Below.refl w.heap.size w).grown hg1 (Nat.le_refl _) (by simp))))
       clear hown hg1 hcell hcs))
  case c1 => exact (Nat.min_eq_left hnm).symm
  case c2 => rw [slC_len, HN.out]
  case c3 =>
    intro j v hj
    obtain ⟨b, off, e, hb, hc⟩ := (HR.out.below HW.out.2.2) (by intro h0; rw [h0] at hj; simp at hj)
    refine ⟨_, e, ?_⟩
    have hcj := hc j v hj
    unfold Addr.add
    by_cases hj0 : j = 0
    · subst hj0; simpa using hcj
    · simp [hj0]; exact hcj
  case c4 =>
    intro e
    refine ⟨?_, HA.out e⟩
    rw [HN.out]
    cases l with
    | nil => rfl
    | cons p t => obtain ⟨b, off, e2, _⟩ := HR.out (by simp [slC, slotC]); rw [e] at e2; cases e2
  case c5 => rw [slC_len, HW.out.2.1, ← HN.out]; omega
  case c6 =>
    intro u hu
    obtain ⟨p, hp, hu⟩ := List.mem_flatMap.1 hu
    simp [slotC] at hu
    rcases hu with rfl | rfl <;> rfl
  · intro w2 hh hg2
    have HF0 := Lib.hid (Filled.copied HLL.out HLT.out (by rw [← HN.out]; exact hnm) HW.out.2.1 hBg hml HW.out.2.2 hh hg2)
    clear hh hg2
    go_wp2_with fail
    go_loopw [6] (fun i wr => ∃ k : Nat, i = .int .i64 k ∧ n ≤ k ∧ Filled w w.heap.size m L k wr) (fun i _ => m - (intOf i).toNat)
    case atStart => exact ⟨n, rfl, Nat.le_refl _, by rw [HN.out]; exact HF0.out⟩
    case round =>
      clear HF0
      obtain ⟨k, rfl, hnk, hf⟩ := hrel
      have HF := Lib.hid hf; clear hf
      have hk := HF.out.1
      by_cases hlt : k < m
      · have hkl : k < L.length := by have := HLL.out; omega
        have HS := Lib.hid (HF.out.step (W := wr) HLL.out.symm hlt (Below.refl _ _))
        rw [HLA.out k hkl hnk] at HS
        obtain ⟨⟨u0, c0⟩, ⟨u1, c1⟩, f0, f1⟩ := HF.out.cells hlt (Below.refl _ _)
        go_wp2_with fail
        go_roundw
        case rel => exact ⟨k + 1, by go_num, by omega, HS.out⟩
        case measure => simp [intOf]; omega
      · obtain rfl : k = m := by omega
        go_wp2_with fail
        go_ret
        obtain ⟨R, hR, ho⟩ := HF.out.2.2.1
        have : R = [] := List.eq_nil_of_length_eq_zero (by omega)
        subst this
        rw [List.append_nil, List.take_of_length_le (by rw [HLL.out]; exact Nat.le_refl _)] at ho
        exact ⟨_, rfl, ho.slots HLL.out.symm, HF.out.2.2.2⟩
end Go.Proofs.Ytelhgpmklhdhcaa
