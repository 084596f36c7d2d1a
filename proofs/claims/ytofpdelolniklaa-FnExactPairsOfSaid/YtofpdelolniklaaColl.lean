/- The library's slices.Values, AppendSeq and Collect at items: whatever an iterator hands over, in a new row. Conditions: those of the iterator; few items. -/
import Derived.Test.YtofpdelolniklaaMrgR
set_option linter.unusedVariables false
set_option linter.unusedSimpArgs false
namespace Go.Proofs.Ytofpdelolniklaa
open Go.RowKit Go.ChangeShapes Go.WideShapes
attribute [local go_sem] Oper.semAt_some

theorem values_any (A : Option Addr) (n c : Nat) (w : World) :
    Calls Try.prog 62 #[.slice A n c] w fun e w' =>
      e = .returned (.func (.func 105) #[] #[.pointer (some ⟨w.heap.size, 0, none⟩)]) ∧ w' = w.alloc (.cells #[.slice A n c] 23) := by
  go_enter Try.func62, Try.ntmps62
  go_wp2_with fail
  go_ret
  exact ⟨rfl, rfl⟩

set_option maxRecDepth 100000 in
set_option maxHeartbeats 4000000 in
theorem values_gives (A : Option Addr) (m c n0 B1 : Nat) (xs : List It) (w : World) (h1 : RowAt w n0 A (itsC xs)) (hm : m = xs.length) (hs : m ≤ 1048576)
    (hn : n0 ≤ w.heap.size) (hb1 : w.cell? ⟨B1, 0, none⟩ = some (.slice A m c)) :
    Gives Try.prog 105 #[.pointer (some ⟨B1, 0, none⟩)] (fun x : It => #[itV x]) xs (fun b => b < n0 ∨ b = B1) w := by
  intro n l J Jx W S0 hR hsz hS0 hJ hJx hY h0
  have hlt1 := World.block_lt_of_cell? w _ hb1
  simp only at hlt1
  have k1 : W.cell? ⟨B1, 0, none⟩ = some (.slice A m c) := (World.cell?_of_block (hR B1 (.inr rfl))).trans hb1
  have g1 : RowAt W n0 A (itsC xs) := fun h0 => by
    obtain ⟨b, off, e, hlt, hc⟩ := h1 h0
    exact ⟨b, off, e, hlt, fun i v hv => (World.cell?_of_block (hR b (.inl hlt))).trans (hc i v hv)⟩
  have hl1 : B1 < W.heap.size := by omega
  have HS0 := Lib.hid hS0
  have HRW := Lib.hid g1
  have HM := Lib.hid hm
  have HJJ := Lib.hid hJ
  have HYY := Lib.hid hY
  have HN0 := Lib.hid (show n0 ≤ W.heap.size by omega)
  have HSZ := Lib.hid (fun b hb => (hS0 b hb).1)
  have HJ0 := Lib.hid h0
  clear hb1 hR hS0 hJ hJx hY h0 h1 g1 hm
  show CallsIn Fence.wide n Try.prog 105 #[.func (.yield l) #[] #[], .pointer (some ⟨B1, 0, none⟩)] W _
  refine callsIn_of_wp Try.func105 rfl trivial ?_ rfl
  simp only [Try.ntmps105, List.size_toArray, List.length_cons, List.length_nil, Nat.reduceAdd, Nat.reduceSub, Array.replicate_succ, Array.replicate_zero, List.push_toArray, List.append_toArray, List.nil_append, List.cons_append]
  gi_wp2
  gi_loopw [7] (fun q wr => ∃ (k : Nat) (S : Nat → Prop), q = .int .i64 k ∧ k ≤ m ∧ J (xs.take k) S wr ∧ Moves W.heap.size S0 S W wr ∧ (∀ b, S b → ¬ (b < n0 ∨ b = B1))) (fun q _ => m - (intOf q).toNat)
  case atStart => exact ⟨0, S0, rfl, by omega, by rw [List.take_zero]; exact HJ0.out, Moves.refl HSZ.out, fun b hb => (HS0.out b hb).2⟩
  case round =>
    obtain ⟨k, S, rfl, hk, hJs, hmv, hSn⟩ := hrel
    rename World => wr
    have HMV := Lib.hid hmv
    have HSN := Lib.hid hSn
    have HJS := Lib.hid hJs
    clear hmv hSn hJs HJ0
    by_cases hlt : k < m
    · have hkl : k < xs.length := by have := HM.out; omega
      have hrow : RowAt wr n0 A (itsC xs) := fun h0 => by
        obtain ⟨b, off, e, hlt, hc⟩ := HRW.out h0
        exact ⟨b, off, e, hlt, fun i v hv => (World.cell?_of_block (HMV.out.block b (Nat.lt_of_lt_of_le hlt HN0.out) (fun hs => (HS0.out b hs).2 (.inl hlt)))).trans (hc i v hv)⟩
      obtain ⟨bb, off, hA, hbw, e0, e1, e2⟩ := its_at hrow hkl
      clear hrow
      subst hA
      have hi1 : (k : Int) < (m : Int) := by omega
      have hbs : bb < wr.heap.size := by have := HN0.out; have := HMV.out.size; omega
      have HTK := Lib.hid (show xs.take (k + 1) = xs.take k ++ [(xs[k].1, xs[k].2.1, xs[k].2.2)] from List.take_succ_eq_append_getElem hkl)
      have HSL := Lib.hid (show ∀ b, S b → b < wr.heap.size from fun b hb => (HMV.out.grow b hb).2)
      generalize xs[k].1 = x0 at *
      generalize xs[k].2.1 = x1 at *
      generalize xs[k].2.2 = x2 at *
      have hb2 : Below wr.heap.size wr (wr.alloc (.cells #[.string x0, .string x1, .bool x2] 31)) := (Below.refl _ wr).alloc (Nat.le_refl _) _
      have HL2 := Lib.hid (Leaves.below hb2 HSL.out)
      have HB2 := Lib.hid hb2
      obtain ⟨fn, tmps, assign, body, hy, hR⟩ := HYY.out (xs.take k) (x0, x1, x2) S _ (HJJ.out _ _ _ _ HJS.out HL2.out) (by rw [← HTK.out]; exact List.take_prefix _ _) (fun b hb => Nat.lt_of_lt_of_le (HSL.out b hb) HL2.out.size)
      simp only [itV] at hy ⊢
      have HRR := Lib.hid hR
      clear hR hb2
      gi_wp2
      refine ⟨(fun h => by cases h), HRR.out.mono ?_⟩
      rintro e W3 ⟨S', hm3, (⟨rfl, hJ3⟩ | ⟨rfl, hJx3⟩)⟩
      · have HMV3 := Lib.hid (show Moves W.heap.size S0 S' W W3 from (HMV.out.trans (Moves.below (n := W.heap.size) (HB2.out.mono HMV.out.size) HSL.out) (Nat.le_refl _)).trans hm3 (by have := HMV.out.size; have := HB2.out.size; omega))
        have HSN3 := Lib.hid (show ∀ b, S' b → ¬ (b < n0 ∨ b = B1) from fun b hb e => by
          rcases (hm3.grow b hb).1 with h | h
          · exact HSN.out b h e
          · have h1 := HN0.out; have h2 := HMV.out.size; have h3 := HB2.out.size; omega)
        have HJ3 := Lib.hid hJ3
        clear hm3 hJ3
        gi_wp2
        go_roundw
        case rel => exact ⟨k + 1, S', by go_num, by omega, by rw [HTK.out]; exact HJ3.out, HMV3.out, HSN3.out⟩
        case measure => simp [intOf]; omega
      · have HMV3 := Lib.hid (show Moves W.heap.size S0 S' W W3 from (HMV.out.trans (Moves.below (n := W.heap.size) (HB2.out.mono HMV.out.size) HSL.out) (Nat.le_refl _)).trans hm3 (by have := HMV.out.size; have := HB2.out.size; omega))
        have HJ3 := Lib.hid hJx3
        clear hm3 hJx3
        gi_wp2
        refine bodyPost_ret (results_none rfl _ _ _) rfl ?_
        exact ⟨⟨_, rfl⟩, S', HMV3.out, .inr ⟨_, by rw [← HTK.out]; exact List.take_prefix _ _, HJ3.out⟩⟩
    · obtain rfl : k = m := by omega
      have HE := Lib.hid (show xs.take k = xs by rw [HM.out, List.take_length])
      gi_wp2
      go_end0
      exact ⟨⟨_, rfl⟩, S, HMV.out, .inl (by rw [← HE.out]; exact HJS.out)⟩

/-- what AppendSeq's loop holds between two rounds: the row's box and the row -/
def ColI (b9 : Nat) (pre : List It) (S : Nat → Prop) (A : World) : Prop :=
  ∃ (A' : Option Addr) (c' : Nat), (∀ b, S b ↔ (b = b9 ∨ blkOf A' = some b)) ∧ A.ownsRow (b9 + 1) 31 3 (.slice A' pre.length c') pre.length (itsC pre) ∧
    A.cell? ⟨b9, 0, none⟩ = some (.slice A' pre.length c') ∧ A.frozen? ⟨b9, 0, none⟩ = false
theorem ColI.leaves {b9 : Nat} {pre : List It} {S : Nat → Prop} {A B : World} (h : ColI b9 pre S A) (hl : Leaves S A B) : ColI b9 pre S B := by
  obtain ⟨A', c', h1, h2, h3, h4⟩ := h
  have e9 := hl.block b9 ((h1 _).2 (.inl rfl))
  exact ⟨A', c', h1, own_same h2 (fun q hq => hl.block q ((h1 _).2 (.inr (by rw [← blk_slice]; exact hq)))), (cell_same e9).trans h3, (frozen_same e9).trans h4⟩

set_option maxRecDepth 100000 in
set_option maxHeartbeats 8000000 in
theorem appendSeq_any (gf : Nat) (lb : Array Value) (eg : ∀ args w, (callFunc gf args).run Try.prog w = .ok (.enter gf args) w) (xs : List It) (R : Nat → Prop) (w : World) (hg : Gives Try.prog gf lb (fun x : It => #[itV x]) xs R w) (hRs : ∀ b, R b → b < w.heap.size) (hx : xs.length ≤ 1048576) :
    Calls Try.prog 104 #[.slice none 0 0, .func (.func gf) #[] lb] w fun e w' => ∃ v, e = .returned v ∧ OwnIt w.heap.size xs v w' ∧ Below w.heap.size w w' := by
  obtain ⟨i0, hi0, hz0, hz1, hz2⟩ := info_parts itInfo
  have HI := Lib.hid (And.intro hi0 (And.intro hz0 (And.intro hz1 hz2))); clear hi0 hz0 hz1 hz2
  have HG := Lib.hid hg
  have HRS := Lib.hid hRs
  have HX := Lib.hid hx
  clear hg hRs hx
  refine (callsIn_wide (n := 3)).1 ?_
  refine callsIn_of_wp_marks Try.func104 rfl trivial ?_ rfl
  simp only [Try.ntmps104, List.size_toArray, List.length_cons, List.length_nil, Nat.reduceAdd, Nat.reduceSub, Array.replicate_succ, Array.replicate_zero, List.push_toArray, List.append_toArray, List.nil_append, List.cons_append]
  gi_wp2_with fail
  have HL := Lib.hid ((Below.refl w.heap.size w).alloc (Nat.le_refl _) (.cells #[.slice none 0 0] 23))
  have c9 : (w.alloc (.cells #[.slice none 0 0] 23)).cell? ⟨w.heap.size, 0, none⟩ = some (.slice none 0 0) := cell_new1 w _ _
  have f9 : (w.alloc (.cells #[.slice none 0 0] 23)).frozen? ⟨w.heap.size, 0, none⟩ = false := frozen_new1 w _ _
  have hsl : (w.alloc (.cells #[.slice none 0 0] 23)).heap.size = w.heap.size + 1 := by simp
  have HRL := Lib.hid (fun b (hb : R b) => show (w.alloc (.cells #[.slice none 0 0] 23)).heap[b]? = w.heap[b]? from Below.heap_alloc _ _ b (HRS.out b hb))
  generalize (w.alloc (.cells #[.slice none 0 0] 23)) = Wl at *
  refine wp_range (xs := xs) (R := R) (w0 := w) rfl eg HG.out HRL.out (by omega) HRS.out (fun _ => rfl) (ColI w.heap.size) (fun _ _ _ _ => False)
    (fun pre S A B h hl => h.leaves hl) (fun c pre S A B h hl => h) (fun b => b = w.heap.size) ?hS0 ?h0
    (fun x B a₁ A => ∃ b3, B ≤ b3 ∧ A.cell? ⟨b3, 0, none⟩ = some (.string x.1) ∧ A.cell? ⟨b3, 1, none⟩ = some (.string x.2.1) ∧ A.cell? ⟨b3, 2, none⟩ = some (.bool x.2.2) ∧ a₁ = { tmps := #[.slice none 0 0, .func (.func gf) #[] lb, .pointer (some ⟨w.heap.size, 0, none⟩), undef, .slice none 0 0, .pointer (some ⟨b3, 0, none⟩), .func (.func gf) #[] lb, .agg #[.string x.1, .string x.2.1, .bool x.2.2], undef, undef, undef, undef, undef], defers := [] })
    ?hAx ?assign ?body ?done ?stop
  case hS0 =>
    rintro b rfl
    exact ⟨by omega, fun h => by have := HRS.out _ h; omega⟩
  case h0 => exact ⟨none, 0, fun b => by simp [blkOf], World.ownsRow_nil _ _ _ _, c9, f9⟩
  case hAx =>
    rintro x B a₁ A A' ⟨b3, h1, h2, h3, h4, rfl⟩ hb hz
    exact ⟨b3, h1, (cell_same (hb b3 h1)).trans h2, (cell_same (hb b3 h1)).trans h3, (cell_same (hb b3 h1)).trans h4, rfl⟩
  case assign =>
    rintro l1 ⟨x0, x1, x2⟩ Wa K hK
    simp only [itV]
    gi_wp2
    exact hK _ _ ((Below.refl _ Wa).alloc (Nat.le_refl _) _) ⟨Wa.heap.size, Nat.le_refl _, by simp, by simp, by simp, rfl⟩
  case body =>
    rintro l1 pre ⟨x0, x1, x2⟩ S B a₁ Wr hpre ⟨A', c', hS, hrow, h9, g9⟩ hSB hB2 hBW hSx ⟨b3, hb3, d0, d1, d2, rfl⟩
    simp only at d0 d1 d2
    have hlt3 := World.block_lt_of_cell? Wr _ d0
    simp only at hlt3
    have HSS := Lib.hid hS
    have HROW := Lib.hid hrow
    have HSB := Lib.hid hSB
    have hl1 := Lib.hid (show (pre ++ [(x0, x1, x2)]).length = pre.length + 1 by simp)
    have hle40 : pre.length + 1 ≤ 1048576 := by have h1 := hpre.length_le; have h2 := HX.out; rw [hl1.out] at h1; omega
    clear hS hSB hpre hSx hrow
    have HRA := Lib.hid (fun o => (show (Wr.alloc o).ownsRow (w.heap.size + 1) 31 3 (.slice A' pre.length c') pre.length (itsC pre) from HROW.out.alloc o))
    have hwr : w.heap.size + 1 ≤ Wr.heap.size := by omega
    obtain ⟨m, hm⟩ : ∃ m, pre.length = m := ⟨_, rfl⟩
    have HMM := Lib.hid hm
    rw [hm] at HRA h9 hle40 hl1
    clear hm
    gi_wp2_with (gi_at_builtin; refine wpListIn_append_own_at _ rfl _ _ 23 rfl (w.heap.size + 1) 31 i0 (.agg #[.string ⟨#[]⟩, .string ⟨#[]⟩, .bool false]) 3 40 Try.underlying23 HI.out.1 HI.out.2.1 HI.out.2.2.1 HI.out.2.2.2 rfl (by decide) (.slice A' m c') m (itsC pre) rfl (HRA.out _) ⟨Wr.heap.size, 0, none⟩ 1 1 [.string x0, .string x1, .bool x2] rfl rfl ?c1 ?c2 ?c3 ?c4 ?c5 ?_)
    try (case c1 => exact fun j u hj => cells_at0 _ _ _ j u hj)
    try (case c2 => first | exact ⟨rfl, rfl, rfl⟩ | (intro u hu; simp at hu; rcases hu with rfl | rfl | rfl <;> rfl))
    try (case c3 => first | omega | (unfold maxLen; omega))
    try (case c4 => omega)
    try (case c5 => first | omega | (simp; omega))
    intro v' w1 hown' hgrow _ hwh
    obtain ⟨A4, c4, rfl⟩ := own_shape hown'
    have hgb : ∀ b, b < Wr.heap.size → blkOf A' ≠ some b → w1.heap[b]? = Wr.heap[b]? := fun b hb hn => (hgrow.block b (by simp; omega) (by rw [blk_slice]; exact fun e => hn e.symm)).trans (Below.heap_alloc _ _ b hb)
    have hbl : ∀ q, blkOf A' = some q → w.heap.size + 1 ≤ q := fun q hq => (HROW.out.lt q (by rw [blk_slice]; exact hq)).1
    have hbl4 : ∀ q, blkOf A4 = some q → w.heap.size + 1 ≤ q ∧ q < w1.heap.size := fun q hq => hown'.lt q (by rw [blk_slice]; exact hq)
    have k9 : w1.heap[w.heap.size]? = Wr.heap[w.heap.size]? := hgb _ (by omega) (fun e => by have := hbl _ e; omega)
    have n9 : w1.cell? ⟨w.heap.size, 0, none⟩ = some (.slice A' m c') := (cell_same k9).trans h9
    have nf9 : w1.frozen? ⟨w.heap.size, 0, none⟩ = false := (frozen_same k9).trans g9
    have hsz1 : Wr.heap.size + 1 ≤ w1.heap.size := by have := hgrow.size; simpa using this
    have ho9 : ∀ q, q ≠ w.heap.size → (w1.setCell ⟨w.heap.size, 0, none⟩ (.slice A4 (m + 1) c4)).heap[q]? = w1.heap[q]? := fun q hq => Below.heap_setCell w1 _ _ q hq
    have HEND := Lib.hid (show BodyEnd (ColI w.heap.size) (fun _ _ _ _ => False) (pre ++ [(x0, x1, x2)]) B S Wr .normal { tmps := #[], defers := [] } (w1.setCell ⟨w.heap.size, 0, none⟩ (.slice A4 (m + 1) c4)) from
      ⟨fun b => b = w.heap.size ∨ blkOf A4 = some b,
        ⟨hgrow.os, hgrow.tape, hgrow.output, by simp; omega, fun b hb hs => (ho9 b (fun e => hs ((HSS.out b).2 (.inl e)))).trans (hgb b (by omega) (fun e => hs ((HSS.out b).2 (.inr e)))),
          fun b hb => by
            rcases hb with rfl | hb
            · exact ⟨.inl ((HSS.out _).2 (.inl rfl)), by simp; omega⟩
            · refine ⟨?_, by have := (hbl4 b hb).2; simpa using this⟩
              rw [blk_slice, blk_slice] at hwh
              rcases hwh with h | h
              · exact .inl ((HSS.out _).2 (.inr (h ▸ hb)))
              · right
                rw [hb] at h
                injection h with h
                first | omega | (simp at h; omega)⟩,
        A4, c4, fun b => Iff.rfl, by
          rw [hl1.out, itsC_snoc]
          exact own_same hown' (fun q hq => ho9 q (fun e => by have := (hbl4 q (by rw [← blk_slice]; exact hq)).1; omega)),
        by rw [hl1.out]; exact World.cell?_setCell_same _ _ _ n9, by rw [World.frozen?_setCell]; exact nf9⟩)
    clear hown' hgrow hwh hgb hbl hbl4 k9 ho9
    gi_wp2
    exact HEND.out
  case done =>
    rintro S' Wd hm ⟨A', c', hS, hrow, h9, g9⟩ hlt hD hnD
    have HOW := Lib.hid (show OwnIt w.heap.size xs (.slice A' xs.length c') (Wd.putObj Wl.heap.size (.deferred none)) from
      ⟨A', c', rfl, own_mono (own_same hrow (fun q hq => World.putObj_heap_other (fun e => hnD (e ▸ (hS q).2 (.inr (by rw [← blk_slice]; exact hq)))))) (by omega)⟩)
    have HBL := Lib.hid (show Below w.heap.size w (Wd.putObj Wl.heap.size (.deferred none)) from
      ⟨hm.os.trans HL.out.os, hm.tape.trans HL.out.tape, hm.output.trans HL.out.output, by have := hm.size; have := HL.out.size; simp; omega,
        fun b hb => ((World.putObj_heap_other (by omega)).trans (hm.block b (by omega) (by intro h; omega))).trans (HL.out.block b hb)⟩)
    clear hm hS hrow
    obtain ⟨N, hN⟩ : ∃ N, xs.length = N := ⟨_, rfl⟩
    rw [hN] at h9 HOW
    clear hN hsl
    gi_wp2
    refine ⟨by simp, .inl ⟨_, _, rfl, run_takeDeferred hD, ?_⟩⟩
    refine ⟨.slice A' N c', by simp [results, Try.results104, go_sem], ?_⟩
    exact ⟨_, rfl, HOW.out, HBL.out⟩
  case stop =>
    rintro c pre S' Wd hm hpre h
    exact h.elim

theorem collect_any (gf : Nat) (lb : Array Value) (eg : ∀ args w, (callFunc gf args).run Try.prog w = .ok (.enter gf args) w) (xs : List It) (R : Nat → Prop) (w : World) (hg : Gives Try.prog gf lb (fun x : It => #[itV x]) xs R w) (hRs : ∀ b, R b → b < w.heap.size) (hx : xs.length ≤ 1048576) :
    Calls Try.prog 61 #[.func (.func gf) #[] lb] w fun e w' => ∃ v, e = .returned v ∧ OwnIt w.heap.size xs v w' ∧ Below w.heap.size w w' := by
  have HA := Lib.hid (appendSeq_any gf lb eg xs R w hg hRs hx)
  clear hg hRs hx
  go_enter Try.func61, Try.ntmps61
  go_wp2_with fail
  refine (HA.out).mono ?_
  rintro e w2 ⟨v, rfl, ho, hb⟩
  have HO := Lib.hid ho
  have HB := Lib.hid hb
  clear ho hb
  go_wp2_with fail
  refine bodyPost_ret (v := v) (by simp [results, Try.results61, go_sem]) rfl ?_
  exact ⟨_, rfl, HO.out, HB.out⟩
end Go.Proofs.Ytofpdelolniklaa
