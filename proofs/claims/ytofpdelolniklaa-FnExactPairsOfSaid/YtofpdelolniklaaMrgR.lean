/- The contract of MergeRuns of the program (chapter 4). Conditions: the runs lie in rows; they are few. -/
import Derived.Test.YtofpdelolniklaaMrgE
import Derived.Maps.OwnIn
set_option linter.unusedVariables false
set_option linter.unusedSimpArgs false
namespace Go.Proofs.Ytofpdelolniklaa
open Go.RowKit Go.ChangeShapes Go.WideShapes
attribute [local go_sem] Oper.semAt_some

theorem own_same {w w' : World} {B n z : Nat} {e : TypeId} {v : Value} {xs : List Value} (h : w.ownsRow B e z v n xs) (hb : ∀ q, v.ownBlock = some q → w'.heap[q]? = w.heap[q]?) : w'.ownsRow B e z v n xs := by
  refine ⟨h.1, ?_⟩
  rcases h.2 with h1 | ⟨g, cap, cur, hv, hg, hh, s⟩
  · exact .inl h1
  · exact .inr ⟨g, cap, cur, hv, hg, (hb g (by rw [hv]; rfl)).trans hh, s⟩
theorem cell_new1 (w : World) (v : Value) (t : TypeId) : (w.alloc (.cells #[v] t)).cell? ⟨w.heap.size, 0, none⟩ = some v := by simp
theorem frozen_new1 (w : World) (v : Value) (t : TypeId) : (w.alloc (.cells #[v] t)).frozen? ⟨w.heap.size, 0, none⟩ = false := by simp
theorem frozen_same {w w' : World} {b o : Nat} (hb : w'.heap[b]? = w.heap[b]?) : w'.frozen? ⟨b, o, none⟩ = w.frozen? ⟨b, o, none⟩ := by unfold World.frozen?; rw [hb]
theorem cell_same {w w' : World} {b o : Nat} (hb : w'.heap[b]? = w.heap[b]?) : w'.cell? ⟨b, o, none⟩ = w.cell? ⟨b, o, none⟩ := World.cell?_of_block hb
/-- what the loop holds between two rounds: the results' boxes, the run's box and its row -/
def MrgI (b6 b9 : Nat) (pre : List It) (S : Nat → Prop) (A : World) : Prop :=
  ∃ (A' : Option Addr) (c' : Nat), (∀ b, S b ↔ (b = b6 ∨ b = b6 + 1 ∨ b = b9 ∨ blkOf A' = some b)) ∧ A.ownsRow (b9 + 1) 31 3 (.slice A' pre.length c') pre.length (itsC pre) ∧
    A.cell? ⟨b9, 0, none⟩ = some (.slice A' pre.length c') ∧ A.frozen? ⟨b9, 0, none⟩ = false ∧ (∃ u, A.cell? ⟨b6, 0, none⟩ = some u) ∧ A.frozen? ⟨b6, 0, none⟩ = false ∧
    (∃ u, A.cell? ⟨b6 + 1, 0, none⟩ = some u) ∧ A.frozen? ⟨b6 + 1, 0, none⟩ = false ∧ pre.length ≤ 40
def MrgX (b6 : Nat) (c : Code) (pre : List It) (S : Nat → Prop) (A : World) : Prop :=
  c = .ret ∧ S b6 ∧ S (b6 + 1) ∧ A.cell? ⟨b6, 0, none⟩ = some (.slice none 0 0) ∧ A.cell? ⟨b6 + 1, 0, none⟩ = some (.bool false) ∧ 40 < pre.length
theorem MrgI.leaves {b6 b9 : Nat} {pre : List It} {S : Nat → Prop} {A B : World} (h : MrgI b6 b9 pre S A) (hl : Leaves S A B) : MrgI b6 b9 pre S B := by
  obtain ⟨A', c', h1, h2, h3, h4, ⟨u, h5⟩, h6, ⟨u7, h7⟩, h8, h9⟩ := h
  have e6 := hl.block b6 ((h1 _).2 (.inl rfl))
  have e7 := hl.block (b6 + 1) ((h1 _).2 (.inr (.inl rfl)))
  have e9 := hl.block b9 ((h1 _).2 (.inr (.inr (.inl rfl))))
  exact ⟨A', c', h1, own_same h2 (fun q hq => hl.block q ((h1 _).2 (.inr (.inr (.inr (by rw [← blk_slice]; exact hq)))))), (cell_same e9).trans h3, (frozen_same e9).trans h4, ⟨u, (cell_same e6).trans h5⟩, (frozen_same e6).trans h6, ⟨u7, (cell_same e7).trans h7⟩, (frozen_same e7).trans h8, h9⟩
theorem MrgX.leaves {b6 : Nat} {c : Code} {pre : List It} {S : Nat → Prop} {A B : World} (h : MrgX b6 c pre S A) (hl : Leaves S A B) : MrgX b6 c pre S B := by
  obtain ⟨h0, h1, h2, h3, h4, h5⟩ := h
  exact ⟨h0, h1, h2, (cell_same (hl.block _ h1)).trans h3, (cell_same (hl.block _ h2)).trans h4, h5⟩

set_option maxRecDepth 100000 in
set_option maxHeartbeats 8000000 in
theorem iMrgF_any (A1 : Option Addr) (n1 c1 : Nat) (l1 : List It) (A2 : Option Addr) (n2 c2 : Nat) (l2 : List It) (w : World) (hr1 : RowAt w w.heap.size A1 (itsC l1)) (hn1 : n1 = l1.length) (hs1 : n1 ≤ 1048576) (hw1 : WfIt l1) (hc1 : n1 ≤ c1) (hm1 : c1 ≤ maxLen) (hr2 : RowAt w w.heap.size A2 (itsC l2)) (hn2 : n2 = l2.length) (hs2 : n2 ≤ 1048576) (hw2 : WfIt l2) (hc2 : n2 ≤ c2) (hm2 : c2 ≤ maxLen) (q1 : runB l1 = true) (q2 : runB l2 = true) :
    Calls Try.prog 12 #[.slice A1 n1 c1, .slice A2 n2 c2, .bool false] w (MrgPost (mergeR l1 l2 false) w) := by
  obtain ⟨i0, hi0, hz0, hz1, hz2⟩ := info_parts itInfo
  have HI := Lib.hid (And.intro hi0 (And.intro hz0 (And.intro hz1 hz2))); clear hi0 hz0 hz1 hz2
  have H1 := Lib.hid (fun W (hb : Below w.heap.size w W) => iRun_any A1 n1 c1 l1 W ((hr1.below hb).mono hb.size) hn1 hs1 hw1)
  have H2 := Lib.hid (fun W (hb : Below w.heap.size w W) => iRun_any A2 n2 c2 l2 W ((hr2.below hb).mono hb.size) hn2 hs2 hw2)
  rw [q1] at H1
  rw [q2] at H2
  have HS1 := Lib.hid (fun W (hb : Below w.heap.size w W) => (show SlI W w.heap.size A1 n1 c1 l1 from ⟨hn1, hc1, hm1, hr1.below hb⟩))
  have HS2 := Lib.hid (fun W (hb : Below w.heap.size w W) => (show SlI W w.heap.size A2 n2 c2 l2 from ⟨hn2, hc2, hm2, hr2.below hb⟩))
  have HXS := Lib.hid (show mrgS l1 l2 false = mergeL l1 l2 by rw [mrgS_one q1]; rfl)
  have HYES := Lib.hid (fun h => mergeR_yes (last := false) q1 q2 h)
  have HNO := Lib.hid (fun h => mergeR_many (f := l1) (o := l2) (last := false) h)
  rw [HXS.out] at HYES HNO
  clear hr1 hr2 hn1 hn2 hw1 hw2 hc1 hc2 hm1 hm2 q1 q2 HXS
  refine (callsIn_wide (n := 3)).1 ?_
  refine callsIn_of_wp_marks Try.func12 rfl trivial ?_ rfl
  simp only [Try.ntmps12, List.size_toArray, List.length_cons, List.length_nil, Nat.reduceAdd, Nat.reduceSub, Array.replicate_succ, Array.replicate_zero, List.push_toArray, List.append_toArray, List.nil_append, List.cons_append]
  gi_wp2_with fail
  refine ⟨trivial, (callsIn_wide.2 (H1.out _ (((Below.refl _ _).alloc (Nat.le_refl _) _).alloc (by simp) _))).mono ?_⟩
  rintro e w2 ⟨rfl, hb2⟩
  have HB2 := Lib.hid ((((Below.refl w.heap.size w).alloc (Nat.le_refl _) (.cells #[.slice none 0 0] 23)).alloc (by simp) (.cells #[.bool false] 4)).trans (hb2.mono (by simp; omega)))
  gi_wp2_with fail
  refine ⟨trivial, (callsIn_wide.2 (H2.out _ HB2.out)).mono ?_⟩
  rintro e w3 ⟨rfl, hb3⟩
  have HB23 := Lib.hid (hb2.trans (hb3.mono hb2.size))
  have hsz3 : w.heap.size + 2 ≤ w3.heap.size := by have := HB23.out.size; simp at this; omega
  have HB3 := Lib.hid (HB2.out.trans (hb3.mono HB2.out.size))
  have k6 : w3.cell? ⟨w.heap.size, 0, none⟩ = some (.slice none 0 0) := (HB23.out.cell (p := ⟨w.heap.size, 0, none⟩) (by simp; omega)).trans (by simp)
  have k7 : w3.cell? ⟨w.heap.size + 1, 0, none⟩ = some (.bool false) := (HB23.out.cell (p := ⟨w.heap.size + 1, 0, none⟩) (by simp)).trans (by simp)
  have m6 : w3.frozen? ⟨w.heap.size, 0, none⟩ = false := (frozen_same (HB23.out.block w.heap.size (by simp; omega))).trans (by simp)
  have m7 : w3.frozen? ⟨w.heap.size + 1, 0, none⟩ = false := (frozen_same (HB23.out.block (w.heap.size + 1) (by simp))).trans (by simp)
  clear hb2 hb3 H1 H2
  gi_wp2_with fail
  refine ⟨trivial, (callsIn_wide.2 (merged_any _ _ _ _ _ _ _)).mono ?_⟩
  rintro e w4 ⟨rfl, rfl⟩
  gi_wp2_with fail

  have hB4 : Below w.heap.size w ((w3.alloc (.cells #[.slice A1 n1 c1] 23)).alloc (.cells #[.slice A2 n2 c2] 23)) := HB3.out.trans ((((Below.refl w3.heap.size w3).alloc (Nat.le_refl _) _).alloc (by simp) _).mono HB3.out.size)
  have HG4 := Lib.hid (merged_gives A1 A2 n1 n2 c1 c2 w.heap.size w3.heap.size (w3.heap.size + 1) l1 l2 ((w3.alloc (.cells #[.slice A1 n1 c1] 23)).alloc (.cells #[.slice A2 n2 c2] 23)) (HS1.out _ hB4) (HS2.out _ hB4) hs1 hs2 (by simp; omega) (by simp) (by simp))
  have HG := Lib.hid HG4.out
  have hBl : Below w3.heap.size w3 (((w3.alloc (.cells #[.slice A1 n1 c1] 23)).alloc (.cells #[.slice A2 n2 c2] 23)).alloc (.cells #[.slice none 0 0] 23)) := (((Below.refl w3.heap.size w3).alloc (Nat.le_refl _) _).alloc (by simp) _).alloc (by simp; omega) _
  have HL := Lib.hid (HB3.out.trans (hBl.mono HB3.out.size))
  have c6 := (hBl.cell (p := ⟨w.heap.size, 0, none⟩) (by simp; omega)).trans k6
  have c7 := (hBl.cell (p := ⟨w.heap.size + 1, 0, none⟩) (by simp; omega)).trans k7
  have f6 := (frozen_same (o := 0) (hBl.block w.heap.size (by omega))).trans m6
  have f7 := (frozen_same (o := 0) (hBl.block (w.heap.size + 1) (by omega))).trans m7
  have hs0 : ((w3.alloc (.cells #[.slice A1 n1 c1] 23)).alloc (.cells #[.slice A2 n2 c2] 23)).heap.size = w3.heap.size + 1 + 1 := by simp
  have c9 : (((w3.alloc (.cells #[.slice A1 n1 c1] 23)).alloc (.cells #[.slice A2 n2 c2] 23)).alloc (.cells #[.slice none 0 0] 23)).cell? ⟨w3.heap.size + 1 + 1, 0, none⟩ = some (.slice none 0 0) := by
    have h := cell_new1 ((w3.alloc (.cells #[.slice A1 n1 c1] 23)).alloc (.cells #[.slice A2 n2 c2] 23)) (.slice none 0 0) 23
    rw [hs0] at h; exact h
  have f9 : (((w3.alloc (.cells #[.slice A1 n1 c1] 23)).alloc (.cells #[.slice A2 n2 c2] 23)).alloc (.cells #[.slice none 0 0] 23)).frozen? ⟨w3.heap.size + 1 + 1, 0, none⟩ = false := by
    have h := frozen_new1 ((w3.alloc (.cells #[.slice A1 n1 c1] 23)).alloc (.cells #[.slice A2 n2 c2] 23)) (.slice none 0 0) 23
    rw [hs0] at h; exact h
  have hsl : (((w3.alloc (.cells #[.slice A1 n1 c1] 23)).alloc (.cells #[.slice A2 n2 c2] 23)).alloc (.cells #[.slice none 0 0] 23)).heap.size = w3.heap.size + 1 + 1 + 1 := by simp
  have hRl : ∀ b, (fun b => b < w.heap.size ∨ b = w3.heap.size ∨ b = w3.heap.size + 1) b → (((w3.alloc (.cells #[.slice A1 n1 c1] 23)).alloc (.cells #[.slice A2 n2 c2] 23)).alloc (.cells #[.slice none 0 0] 23)).heap[b]? = ((w3.alloc (.cells #[.slice A1 n1 c1] 23)).alloc (.cells #[.slice A2 n2 c2] 23)).heap[b]? := fun b hb => Below.heap_alloc _ _ b (by have hb2 : b < w.heap.size ∨ b = w3.heap.size ∨ b = w3.heap.size + 1 := hb; simp; omega)
  have hRs : ∀ b, (fun b => b < w.heap.size ∨ b = w3.heap.size ∨ b = w3.heap.size + 1) b → b < ((w3.alloc (.cells #[.slice A1 n1 c1] 23)).alloc (.cells #[.slice A2 n2 c2] 23)).heap.size := fun b hb => by have hb2 : b < w.heap.size ∨ b = w3.heap.size ∨ b = w3.heap.size + 1 := hb; rw [hs0]; omega
  have HB39 := Lib.hid (show w.heap.size + 2 ≤ w3.heap.size from hsz3)
  clear hB4 HG4 hBl k6 k7 m6 m7 HB2 HB3 HB23 HS1 HS2
  generalize (((w3.alloc (.cells #[.slice A1 n1 c1] 23)).alloc (.cells #[.slice A2 n2 c2] 23)).alloc (.cells #[.slice none 0 0] 23)) = Wl at *
  generalize ((w3.alloc (.cells #[.slice A1 n1 c1] 23)).alloc (.cells #[.slice A2 n2 c2] 23)) = W0 at *
  refine wp_range (xs := mergeL l1 l2) (R := (fun b => b < w.heap.size ∨ b = w3.heap.size ∨ b = w3.heap.size + 1)) (w0 := W0) rfl (enters_of Try.func99 (by kernel_rfl) rfl) HG.out hRl (by omega) hRs (fun _ => rfl) (MrgI w.heap.size (w3.heap.size + 1 + 1)) (MrgX w.heap.size)
    (fun pre S A B h hl => h.leaves hl) (fun c pre S A B h hl => h.leaves hl) (fun b => b = w.heap.size ∨ b = w.heap.size + 1 ∨ b = w3.heap.size + 1 + 1) ?hS0 ?h0
    (fun x B a₁ A => ∃ b3, B ≤ b3 ∧ A.cell? ⟨b3, 0, none⟩ = some (.string x.1) ∧ A.cell? ⟨b3, 1, none⟩ = some (.string x.2.1) ∧ A.cell? ⟨b3, 2, none⟩ = some (.bool x.2.2) ∧ a₁ = { tmps := #[.slice A1 n1 c1, .slice A2 n2 c2, .bool false, undef, undef, undef, .pointer (some ⟨w.heap.size, 0, none⟩), .pointer (some ⟨w.heap.size + 1, 0, none⟩), .func (.func 99) #[] #[.pointer (some ⟨w3.heap.size, 0, none⟩), .pointer (some ⟨w3.heap.size + 1, 0, none⟩)], .pointer (some ⟨w3.heap.size + 1 + 1, 0, none⟩), .pointer (some ⟨b3, 0, none⟩), .slice A1 n1 c1, .bool true, .bool false, .bool false, .slice A2 n2 c2, .bool true, .bool false, .bool false, .slice A1 n1 c1, .slice A2 n2 c2, .func (.func 99) #[] #[.pointer (some ⟨w3.heap.size, 0, none⟩), .pointer (some ⟨w3.heap.size + 1, 0, none⟩)], .bool false, undef, undef, .func (.func 99) #[] #[.pointer (some ⟨w3.heap.size, 0, none⟩), .pointer (some ⟨w3.heap.size + 1, 0, none⟩)], .agg #[.string x.1, .string x.2.1, .bool x.2.2], undef, undef, undef, undef, undef, undef, undef, undef], defers := [] })
    ?hAx ?assign ?body ?done ?stop
  case hS0 =>
    rintro b (rfl | rfl | rfl)
    · exact ⟨by omega, fun h => by simp at h; omega⟩
    · exact ⟨by omega, fun h => by simp at h; omega⟩
    · exact ⟨by omega, fun h => by simp at h; omega⟩
  case h0 => exact ⟨none, 0, fun b => by simp [blkOf], World.ownsRow_nil _ _ _ _, c9, f9, ⟨_, c6⟩, f6, ⟨_, c7⟩, f7, by simp⟩
  case hAx =>
    rintro x B a₁ A A' ⟨b3, h1, h2, h3, h4, rfl⟩ hb hz
    exact ⟨b3, h1, (cell_same (hb b3 h1)).trans h2, (cell_same (hb b3 h1)).trans h3, (cell_same (hb b3 h1)).trans h4, rfl⟩
  case assign =>
    rintro l1 ⟨x0, x1, x2⟩ Wa K hK
    simp only [itV]
    gi_wp2
    exact hK _ _ ((Below.refl _ Wa).alloc (Nat.le_refl _) _) ⟨Wa.heap.size, Nat.le_refl _, by simp, by simp, by simp, rfl⟩
  case body =>
    rintro l1 pre ⟨x0, x1, x2⟩ S B a₁ Wr hpre ⟨A', c', hS, hrow, h9, g9, ⟨u6, h6⟩, g6, ⟨u7, h7⟩, g7, hlen⟩ hSB hB2 hBW hSx ⟨b3, hb3, d0, d1, d2, rfl⟩
    simp only at d0 d1 d2
    have hlt3 := World.block_lt_of_cell? Wr _ d0
    simp only at hlt3
    have HSS := Lib.hid hS
    have HROW := Lib.hid hrow
    have HSB := Lib.hid hSB
    clear hS hSB hpre hSx hrow
    by_cases hfull : pre.length = 40
    · have HF := Lib.hid hfull
      have q40 : ((pre.length : Int) == 40) = true := by simp; omega
      have HXE := Lib.hid (show BodyEnd (MrgI w.heap.size (w3.heap.size + 1 + 1)) (MrgX w.heap.size) (pre ++ [(x0, x1, x2)]) B S Wr .ret { tmps := #[], defers := [] } ((Wr.setCell ⟨w.heap.size, 0, none⟩ (.slice none 0 0)).setCell ⟨w.heap.size + 1, 0, none⟩ (.bool false)) from
        ⟨S, ⟨rfl, rfl, rfl, by simp, fun b hb hs => by
            have n6 : b ≠ w.heap.size := fun e => hs ((HSS.out b).2 (.inl e))
            have n7 : b ≠ w.heap.size + 1 := fun e => hs ((HSS.out b).2 (.inr (.inl e)))
            rw [Below.heap_setCell _ _ _ b n7, Below.heap_setCell _ _ _ b n6], fun b hb => ⟨.inl hb, by have := HSB.out b hb; simp; omega⟩⟩,
          rfl, (HSS.out _).2 (.inl rfl), (HSS.out _).2 (.inr (.inl rfl)), (World.cell?_setCell_other _ _ _ _ (by simp)).trans (World.cell?_setCell_same _ _ _ h6), World.cell?_setCell_same _ _ _ ((World.cell?_setCell_other _ _ _ _ (by simp)).trans h7), by simp; omega⟩)
      clear hfull
      gi_wp2
      exact HXE.out
    · have q40 : ((pre.length : Int) == 40) = false := by simp; omega
      have hle40 : pre.length + 1 ≤ 40 := by omega
      have HRA := Lib.hid (fun o => (show (Wr.alloc o).ownsRow (w3.heap.size + 1 + 1 + 1) 31 3 (.slice A' pre.length c') pre.length (itsC pre) from HROW.out.alloc o))
      have hwr : w3.heap.size + 1 + 1 + 1 ≤ Wr.heap.size := by omega
      have hl1 := Lib.hid (show (pre ++ [(x0, x1, x2)]).length = pre.length + 1 by simp)
      clear hfull
      obtain ⟨m, hm⟩ : ∃ m, pre.length = m := ⟨_, rfl⟩
      have HMM := Lib.hid hm
      rw [hm] at HRA h9 q40 hle40 hl1
      clear hm
      gi_wp2_with (gi_at_builtin; refine wpListIn_append_own_at _ rfl _ _ 23 rfl (w3.heap.size + 1 + 1 + 1) 31 i0 (.agg #[.string ⟨#[]⟩, .string ⟨#[]⟩, .bool false]) 3 40 Try.underlying23 HI.out.1 HI.out.2.1 HI.out.2.2.1 HI.out.2.2.2 rfl (by decide) (.slice A' m c') m (itsC pre) rfl (HRA.out _) ⟨Wr.heap.size, 0, none⟩ 1 1 [.string x0, .string x1, .bool x2] rfl rfl ?c1 ?c2 ?c3 ?c4 ?c5 ?_)
      try (case c1 => exact fun j u hj => cells_at0 _ _ _ j u hj)
      try (case c2 => first | exact ⟨rfl, rfl, rfl⟩ | (intro u hu; simp at hu; rcases hu with rfl | rfl | rfl <;> rfl))
      try (case c3 => first | omega | (unfold maxLen; omega))
      try (case c4 => omega)
      try (case c5 => first | omega | (simp; omega))
      intro v' w1 hown' hgrow _ hwh
      obtain ⟨A4, c4, rfl⟩ := own_shape hown'
      have hgb : ∀ b, b < Wr.heap.size → blkOf A' ≠ some b → w1.heap[b]? = Wr.heap[b]? := fun b hb hn => (hgrow.block b (by simp; omega) (by rw [blk_slice]; exact fun e => hn e.symm)).trans (Below.heap_alloc _ _ b hb)
      have hbl : ∀ q, blkOf A' = some q → w3.heap.size + 1 + 1 + 1 ≤ q := fun q hq => (HROW.out.lt q (by rw [blk_slice]; exact hq)).1
      have hbl4 : ∀ q, blkOf A4 = some q → w3.heap.size + 1 + 1 + 1 ≤ q ∧ q < w1.heap.size := fun q hq => hown'.lt q (by rw [blk_slice]; exact hq)
      have k9 : w1.heap[w3.heap.size + 1 + 1]? = Wr.heap[w3.heap.size + 1 + 1]? := hgb _ (by omega) (fun e => by have := hbl _ e; omega)
      have k6 : w1.heap[w.heap.size]? = Wr.heap[w.heap.size]? := hgb _ (by omega) (fun e => by have := hbl _ e; omega)
      have k7 : w1.heap[w.heap.size + 1]? = Wr.heap[w.heap.size + 1]? := hgb _ (by omega) (fun e => by have := hbl _ e; omega)
      have n9 : w1.cell? ⟨w3.heap.size + 1 + 1, 0, none⟩ = some (.slice A' m c') := (cell_same k9).trans h9
      have nf9 : w1.frozen? ⟨w3.heap.size + 1 + 1, 0, none⟩ = false := (frozen_same k9).trans g9
      have hsz1 : Wr.heap.size + 1 ≤ w1.heap.size := by have := hgrow.size; simpa using this
      have ho9 : ∀ q, q ≠ w3.heap.size + 1 + 1 → (w1.setCell ⟨w3.heap.size + 1 + 1, 0, none⟩ (.slice A4 (m + 1) c4)).heap[q]? = w1.heap[q]? := fun q hq => Below.heap_setCell w1 _ _ q hq
      have HEND := Lib.hid (show BodyEnd (MrgI w.heap.size (w3.heap.size + 1 + 1)) (MrgX w.heap.size) (pre ++ [(x0, x1, x2)]) B S Wr .normal { tmps := #[], defers := [] } (w1.setCell ⟨w3.heap.size + 1 + 1, 0, none⟩ (.slice A4 (m + 1) c4)) from
        ⟨fun b => b = w.heap.size ∨ b = w.heap.size + 1 ∨ b = w3.heap.size + 1 + 1 ∨ blkOf A4 = some b,
          ⟨hgrow.os, hgrow.tape, hgrow.output, by simp; omega, fun b hb hs => (ho9 b (fun e => hs ((HSS.out b).2 (.inr (.inr (.inl e)))))).trans (hgb b (by omega) (fun e => hs ((HSS.out b).2 (.inr (.inr (.inr e)))))),
            fun b hb => by
              rcases hb with rfl | rfl | rfl | hb
              · exact ⟨.inl ((HSS.out _).2 (.inl rfl)), by simp; omega⟩
              · exact ⟨.inl ((HSS.out _).2 (.inr (.inl rfl))), by simp; omega⟩
              · exact ⟨.inl ((HSS.out _).2 (.inr (.inr (.inl rfl)))), by simp; omega⟩
              · refine ⟨?_, by have := (hbl4 b hb).2; simpa using this⟩
                rw [blk_slice, blk_slice] at hwh
                rcases hwh with h | h
                · exact .inl ((HSS.out _).2 (.inr (.inr (.inr (h ▸ hb)))))
                · right
                  rw [hb] at h
                  injection h with h
                  first | omega | (simp at h; omega)⟩,
          A4, c4, fun b => Iff.rfl, by
            rw [hl1.out, itsC_snoc]
            exact own_same hown' (fun q hq => ho9 q (fun e => by have := (hbl4 q (by rw [← blk_slice]; exact hq)).1; omega)),
          by rw [hl1.out]; exact World.cell?_setCell_same _ _ _ n9, by rw [World.frozen?_setCell]; exact nf9,
          ⟨u6, (World.cell?_setCell_other _ _ _ _ (by simp <;> omega)).trans ((cell_same k6).trans h6)⟩, by rw [World.frozen?_setCell]; exact (frozen_same k6).trans g6,
          ⟨u7, (World.cell?_setCell_other _ _ _ _ (by simp <;> omega)).trans ((cell_same k7).trans h7)⟩, by rw [World.frozen?_setCell]; exact (frozen_same k7).trans g7, by rw [hl1.out]; exact hle40⟩)
      clear hown' hgrow hwh hgb hbl hbl4 k9 k6 k7 ho9
      gi_wp2
      exact HEND.out
  case done =>
    rintro S' Wd hm ⟨A', c', hS, hrow, h9, g9, ⟨u6, h6⟩, g6, ⟨u7, h7⟩, g7, hlen⟩ hlt hD hnD
    have HLE := Lib.hid (HYES.out hlen)
    have hnb : ∀ b, (b = w.heap.size ∨ b = w.heap.size + 1 ∨ b = w3.heap.size + 1 + 1) → b ≠ Wl.heap.size := fun b hb => by omega
    have ho : ∀ b, b ≠ w.heap.size → b ≠ w.heap.size + 1 → ((Wd.setCell ⟨w.heap.size, 0, none⟩ (.slice A' (mergeL l1 l2).length c')).setCell ⟨w.heap.size + 1, 0, none⟩ (.bool true)).heap[b]? = Wd.heap[b]? := fun b n6 n7 => by
      rw [Below.heap_setCell _ _ _ b n7, Below.heap_setCell _ _ _ b n6]
    have hDW : ((Wd.setCell ⟨w.heap.size, 0, none⟩ (.slice A' (mergeL l1 l2).length c')).setCell ⟨w.heap.size + 1, 0, none⟩ (.bool true)).heap[Wl.heap.size]? = some (.deferred (some [])) := (ho _ (by omega) (by omega)).trans hD
    have r6 : (((Wd.setCell ⟨w.heap.size, 0, none⟩ (.slice A' (mergeL l1 l2).length c')).setCell ⟨w.heap.size + 1, 0, none⟩ (.bool true)).putObj Wl.heap.size (.deferred none)).cell? ⟨w.heap.size, 0, none⟩ = some (.slice A' (mergeL l1 l2).length c') :=
      (cell_same (World.putObj_heap_other (by omega))).trans ((World.cell?_setCell_other _ _ _ _ (by simp)).trans (World.cell?_setCell_same _ _ _ h6))
    have r7 : (((Wd.setCell ⟨w.heap.size, 0, none⟩ (.slice A' (mergeL l1 l2).length c')).setCell ⟨w.heap.size + 1, 0, none⟩ (.bool true)).putObj Wl.heap.size (.deferred none)).cell? ⟨w.heap.size + 1, 0, none⟩ = some (.bool true) :=
      (cell_same (World.putObj_heap_other (by omega))).trans (World.cell?_setCell_same _ _ _ ((World.cell?_setCell_other _ _ _ _ (by simp)).trans h7))
    have hbq : ∀ q, blkOf A' = some q → w3.heap.size + 1 + 1 + 1 ≤ q ∧ q < Wd.heap.size := fun q hq => hrow.lt q (by rw [blk_slice]; exact hq)
    have HOW := Lib.hid (show OwnIt w.heap.size (mergeL l1 l2) (.slice A' (mergeL l1 l2).length c') (((Wd.setCell ⟨w.heap.size, 0, none⟩ (.slice A' (mergeL l1 l2).length c')).setCell ⟨w.heap.size + 1, 0, none⟩ (.bool true)).putObj Wl.heap.size (.deferred none)) from
      ⟨A', c', rfl, own_mono (own_same hrow (fun q hq => by
        have h1 := hbq q (by rw [← blk_slice]; exact hq)
        have h2 : q ≠ Wl.heap.size := fun e => hnD (e ▸ (hS q).2 (.inr (.inr (.inr (by rw [← blk_slice]; exact hq)))))
        exact (World.putObj_heap_other h2).trans (ho q (by omega) (by omega)))) (by omega)⟩)
    have HBL := Lib.hid (show Below w.heap.size w (((Wd.setCell ⟨w.heap.size, 0, none⟩ (.slice A' (mergeL l1 l2).length c')).setCell ⟨w.heap.size + 1, 0, none⟩ (.bool true)).putObj Wl.heap.size (.deferred none)) from
      ⟨hm.os.trans HL.out.os, hm.tape.trans HL.out.tape, hm.output.trans HL.out.output, by have := hm.size; have := HL.out.size; simp; omega,
        fun b hb => (((World.putObj_heap_other (by omega)).trans (ho b (by omega) (by omega))).trans (hm.block b (by omega) (by rintro (h | h | h) <;> omega))).trans (HL.out.block b hb)⟩)
    clear hm hS hrow hnb ho hbq
    obtain ⟨N, hN⟩ : ∃ N, (mergeL l1 l2).length = N := ⟨_, rfl⟩
    rw [hN] at h9 HOW HBL r6 r7 hDW
    clear hN hsl
    gi_wp2
    refine ⟨by simp, .inl ⟨_, _, rfl, run_takeDeferred hDW, ?_⟩⟩
    refine ⟨.tuple #[.slice A' N c', .bool true], by simp [results, Try.results12, go_sem, r6, r7], ?_⟩
    show MrgPost (mergeR l1 l2 false) w _ _
    rw [HLE.out]
    exact ⟨_, rfl, HOW.out, HBL.out⟩
  case stop =>
    rintro c pre S' Wd hm hpre ⟨rfl, hs6, hs7, h6, h7, hlen⟩ hlt hD hnD
    have HLE := Lib.hid (HNO.out (Nat.lt_of_lt_of_le hlen hpre.length_le))
    have r6 : (Wd.putObj Wl.heap.size (.deferred none)).cell? ⟨w.heap.size, 0, none⟩ = some (.slice none 0 0) := (cell_same (World.putObj_heap_other (by omega))).trans h6
    have r7 : (Wd.putObj Wl.heap.size (.deferred none)).cell? ⟨w.heap.size + 1, 0, none⟩ = some (.bool false) := (cell_same (World.putObj_heap_other (by omega))).trans h7
    have HBL := Lib.hid (show Below w.heap.size w (Wd.putObj Wl.heap.size (.deferred none)) from
      ⟨hm.os.trans HL.out.os, hm.tape.trans HL.out.tape, hm.output.trans HL.out.output, by have := hm.size; have := HL.out.size; simp; omega,
        fun b hb => ((World.putObj_heap_other (by omega)).trans (hm.block b (by omega) (by rintro (h | h | h) <;> omega))).trans (HL.out.block b hb)⟩)
    clear hm hpre hsl
    gi_wp2
    refine ⟨by simp, .inl ⟨_, _, rfl, run_takeDeferred hD, ?_⟩⟩
    refine ⟨.tuple #[.slice none 0 0, .bool false], by simp [results, Try.results12, go_sem, r6, r7], ?_⟩
    show MrgPost (mergeR l1 l2 false) w _ _
    rw [HLE.out]
    exact ⟨_, rfl, ⟨none, 0, rfl, World.ownsRow_nil _ _ _ _⟩, HBL.out⟩

set_option maxRecDepth 100000 in
set_option maxHeartbeats 8000000 in
theorem iMrgT_any (A1 : Option Addr) (n1 c1 : Nat) (l1 : List It) (A2 : Option Addr) (n2 c2 : Nat) (l2 : List It) (w : World) (hr1 : RowAt w w.heap.size A1 (itsC l1)) (hn1 : n1 = l1.length) (hs1 : n1 ≤ 1048576) (hw1 : WfIt l1) (hc1 : n1 ≤ c1) (hm1 : c1 ≤ maxLen) (hr2 : RowAt w w.heap.size A2 (itsC l2)) (hn2 : n2 = l2.length) (hs2 : n2 ≤ 1048576) (hw2 : WfIt l2) (hc2 : n2 ≤ c2) (hm2 : c2 ≤ maxLen) (q1 : runB l1 = true) (q2 : runB l2 = true) :
    Calls Try.prog 12 #[.slice A1 n1 c1, .slice A2 n2 c2, .bool true] w (MrgPost (mergeR l1 l2 true) w) := by
  obtain ⟨i0, hi0, hz0, hz1, hz2⟩ := info_parts itInfo
  have HI := Lib.hid (And.intro hi0 (And.intro hz0 (And.intro hz1 hz2))); clear hi0 hz0 hz1 hz2
  have H1 := Lib.hid (fun W (hb : Below w.heap.size w W) => iRun_any A1 n1 c1 l1 W ((hr1.below hb).mono hb.size) hn1 hs1 hw1)
  have H2 := Lib.hid (fun W (hb : Below w.heap.size w W) => iRun_any A2 n2 c2 l2 W ((hr2.below hb).mono hb.size) hn2 hs2 hw2)
  rw [q1] at H1
  rw [q2] at H2
  have HS1 := Lib.hid (fun W (hb : Below w.heap.size w W) => (show SlI W w.heap.size A1 n1 c1 l1 from ⟨hn1, hc1, hm1, hr1.below hb⟩))
  have HS2 := Lib.hid (fun W (hb : Below w.heap.size w W) => (show SlI W w.heap.size A2 n2 c2 l2 from ⟨hn2, hc2, hm2, hr2.below hb⟩))
  have HXS := Lib.hid (show mrgS l1 l2 true = heldL (mergeL l1 l2) by rw [mrgS_one q1]; rfl)
  have HYES := Lib.hid (fun h => mergeR_yes (last := true) q1 q2 h)
  have HNO := Lib.hid (fun h => mergeR_many (f := l1) (o := l2) (last := true) h)
  rw [HXS.out] at HYES HNO
  clear hr1 hr2 hn1 hn2 hw1 hw2 hc1 hc2 hm1 hm2 q1 q2 HXS
  refine (callsIn_wide (n := 3)).1 ?_
  refine callsIn_of_wp_marks Try.func12 rfl trivial ?_ rfl
  simp only [Try.ntmps12, List.size_toArray, List.length_cons, List.length_nil, Nat.reduceAdd, Nat.reduceSub, Array.replicate_succ, Array.replicate_zero, List.push_toArray, List.append_toArray, List.nil_append, List.cons_append]
  gi_wp2_with fail
  refine ⟨trivial, (callsIn_wide.2 (H1.out _ (((Below.refl _ _).alloc (Nat.le_refl _) _).alloc (by simp) _))).mono ?_⟩
  rintro e w2 ⟨rfl, hb2⟩
  have HB2 := Lib.hid ((((Below.refl w.heap.size w).alloc (Nat.le_refl _) (.cells #[.slice none 0 0] 23)).alloc (by simp) (.cells #[.bool false] 4)).trans (hb2.mono (by simp; omega)))
  gi_wp2_with fail
  refine ⟨trivial, (callsIn_wide.2 (H2.out _ HB2.out)).mono ?_⟩
  rintro e w3 ⟨rfl, hb3⟩
  have HB23 := Lib.hid (hb2.trans (hb3.mono hb2.size))
  have hsz3 : w.heap.size + 2 ≤ w3.heap.size := by have := HB23.out.size; simp at this; omega
  have HB3 := Lib.hid (HB2.out.trans (hb3.mono HB2.out.size))
  have k6 : w3.cell? ⟨w.heap.size, 0, none⟩ = some (.slice none 0 0) := (HB23.out.cell (p := ⟨w.heap.size, 0, none⟩) (by simp; omega)).trans (by simp)
  have k7 : w3.cell? ⟨w.heap.size + 1, 0, none⟩ = some (.bool false) := (HB23.out.cell (p := ⟨w.heap.size + 1, 0, none⟩) (by simp)).trans (by simp)
  have m6 : w3.frozen? ⟨w.heap.size, 0, none⟩ = false := (frozen_same (HB23.out.block w.heap.size (by simp; omega))).trans (by simp)
  have m7 : w3.frozen? ⟨w.heap.size + 1, 0, none⟩ = false := (frozen_same (HB23.out.block (w.heap.size + 1) (by simp))).trans (by simp)
  clear hb2 hb3 H1 H2
  gi_wp2_with fail
  refine ⟨trivial, (callsIn_wide.2 (merged_any _ _ _ _ _ _ _)).mono ?_⟩
  rintro e w4 ⟨rfl, rfl⟩
  gi_wp2_with fail

  refine ⟨trivial, (callsIn_wide.2 (withoutGone_any _ _ _)).mono ?_⟩
  rintro e w5 ⟨rfl, rfl⟩
  gi_wp2_with fail

  have hB4 : Below w.heap.size w ((w3.alloc (.cells #[.slice A1 n1 c1] 23)).alloc (.cells #[.slice A2 n2 c2] 23)) := HB3.out.trans ((((Below.refl w3.heap.size w3).alloc (Nat.le_refl _) _).alloc (by simp) _).mono HB3.out.size)
  have HG4 := Lib.hid (merged_gives A1 A2 n1 n2 c1 c2 w.heap.size w3.heap.size (w3.heap.size + 1) l1 l2 ((w3.alloc (.cells #[.slice A1 n1 c1] 23)).alloc (.cells #[.slice A2 n2 c2] 23)) (HS1.out _ hB4) (HS2.out _ hB4) hs1 hs2 (by simp; omega) (by simp) (by simp))
  have HG := Lib.hid (withoutGone_gives 99 #[.pointer (some ⟨w3.heap.size, 0, none⟩), .pointer (some ⟨w3.heap.size + 1, 0, none⟩)] (enters_of Try.func99 (by kernel_rfl) rfl) (mergeL l1 l2) (fun b => b < w.heap.size ∨ b = w3.heap.size ∨ b = w3.heap.size + 1) (w3.heap.size + 1 + 1) ((w3.alloc (.cells #[.slice A1 n1 c1] 23)).alloc (.cells #[.slice A2 n2 c2] 23)) (((w3.alloc (.cells #[.slice A1 n1 c1] 23)).alloc (.cells #[.slice A2 n2 c2] 23)).alloc (.cells #[.func (.func 99) #[] #[.pointer (some ⟨w3.heap.size, 0, none⟩), .pointer (some ⟨w3.heap.size + 1, 0, none⟩)]] 82)) HG4.out
    (fun b hb => Below.heap_alloc _ _ b (by have hb2 : b < w.heap.size ∨ b = w3.heap.size ∨ b = w3.heap.size + 1 := hb; simp; omega)) (fun b hb => by have hb2 : b < w.heap.size ∨ b = w3.heap.size ∨ b = w3.heap.size + 1 := hb; simp; omega) (by simp) (by
    have e : ((w3.alloc (.cells #[.slice A1 n1 c1] 23)).alloc (.cells #[.slice A2 n2 c2] 23)).heap.size = w3.heap.size + 1 + 1 := by simp
    have h := cell_new1 ((w3.alloc (.cells #[.slice A1 n1 c1] 23)).alloc (.cells #[.slice A2 n2 c2] 23)) (.func (.func 99) #[] #[.pointer (some ⟨w3.heap.size, 0, none⟩), .pointer (some ⟨w3.heap.size + 1, 0, none⟩)]) 82
    rw [e] at h; exact h))
  have hBl : Below w3.heap.size w3 ((((w3.alloc (.cells #[.slice A1 n1 c1] 23)).alloc (.cells #[.slice A2 n2 c2] 23)).alloc (.cells #[.func (.func 99) #[] #[.pointer (some ⟨w3.heap.size, 0, none⟩), .pointer (some ⟨w3.heap.size + 1, 0, none⟩)]] 82)).alloc (.cells #[.slice none 0 0] 23)) := ((((Below.refl w3.heap.size w3).alloc (Nat.le_refl _) _).alloc (by simp) _).alloc (by simp; omega) _).alloc (by simp; omega) _
  have HL := Lib.hid (HB3.out.trans (hBl.mono HB3.out.size))
  have c6 := (hBl.cell (p := ⟨w.heap.size, 0, none⟩) (by simp; omega)).trans k6
  have c7 := (hBl.cell (p := ⟨w.heap.size + 1, 0, none⟩) (by simp; omega)).trans k7
  have f6 := (frozen_same (o := 0) (hBl.block w.heap.size (by omega))).trans m6
  have f7 := (frozen_same (o := 0) (hBl.block (w.heap.size + 1) (by omega))).trans m7
  have hs0 : (((w3.alloc (.cells #[.slice A1 n1 c1] 23)).alloc (.cells #[.slice A2 n2 c2] 23)).alloc (.cells #[.func (.func 99) #[] #[.pointer (some ⟨w3.heap.size, 0, none⟩), .pointer (some ⟨w3.heap.size + 1, 0, none⟩)]] 82)).heap.size = w3.heap.size + 1 + 1 + 1 := by simp
  have c9 : ((((w3.alloc (.cells #[.slice A1 n1 c1] 23)).alloc (.cells #[.slice A2 n2 c2] 23)).alloc (.cells #[.func (.func 99) #[] #[.pointer (some ⟨w3.heap.size, 0, none⟩), .pointer (some ⟨w3.heap.size + 1, 0, none⟩)]] 82)).alloc (.cells #[.slice none 0 0] 23)).cell? ⟨w3.heap.size + 1 + 1 + 1, 0, none⟩ = some (.slice none 0 0) := by
    have h := cell_new1 (((w3.alloc (.cells #[.slice A1 n1 c1] 23)).alloc (.cells #[.slice A2 n2 c2] 23)).alloc (.cells #[.func (.func 99) #[] #[.pointer (some ⟨w3.heap.size, 0, none⟩), .pointer (some ⟨w3.heap.size + 1, 0, none⟩)]] 82)) (.slice none 0 0) 23
    rw [hs0] at h; exact h
  have f9 : ((((w3.alloc (.cells #[.slice A1 n1 c1] 23)).alloc (.cells #[.slice A2 n2 c2] 23)).alloc (.cells #[.func (.func 99) #[] #[.pointer (some ⟨w3.heap.size, 0, none⟩), .pointer (some ⟨w3.heap.size + 1, 0, none⟩)]] 82)).alloc (.cells #[.slice none 0 0] 23)).frozen? ⟨w3.heap.size + 1 + 1 + 1, 0, none⟩ = false := by
    have h := frozen_new1 (((w3.alloc (.cells #[.slice A1 n1 c1] 23)).alloc (.cells #[.slice A2 n2 c2] 23)).alloc (.cells #[.func (.func 99) #[] #[.pointer (some ⟨w3.heap.size, 0, none⟩), .pointer (some ⟨w3.heap.size + 1, 0, none⟩)]] 82)) (.slice none 0 0) 23
    rw [hs0] at h; exact h
  have hsl : ((((w3.alloc (.cells #[.slice A1 n1 c1] 23)).alloc (.cells #[.slice A2 n2 c2] 23)).alloc (.cells #[.func (.func 99) #[] #[.pointer (some ⟨w3.heap.size, 0, none⟩), .pointer (some ⟨w3.heap.size + 1, 0, none⟩)]] 82)).alloc (.cells #[.slice none 0 0] 23)).heap.size = w3.heap.size + 1 + 1 + 1 + 1 := by simp
  have hRl : ∀ b, (fun b => (b < w.heap.size ∨ b = w3.heap.size ∨ b = w3.heap.size + 1) ∨ b = w3.heap.size + 1 + 1) b → ((((w3.alloc (.cells #[.slice A1 n1 c1] 23)).alloc (.cells #[.slice A2 n2 c2] 23)).alloc (.cells #[.func (.func 99) #[] #[.pointer (some ⟨w3.heap.size, 0, none⟩), .pointer (some ⟨w3.heap.size + 1, 0, none⟩)]] 82)).alloc (.cells #[.slice none 0 0] 23)).heap[b]? = (((w3.alloc (.cells #[.slice A1 n1 c1] 23)).alloc (.cells #[.slice A2 n2 c2] 23)).alloc (.cells #[.func (.func 99) #[] #[.pointer (some ⟨w3.heap.size, 0, none⟩), .pointer (some ⟨w3.heap.size + 1, 0, none⟩)]] 82)).heap[b]? := fun b hb => Below.heap_alloc _ _ b (by have hb2 : (b < w.heap.size ∨ b = w3.heap.size ∨ b = w3.heap.size + 1) ∨ b = w3.heap.size + 1 + 1 := hb; simp; omega)
  have hRs : ∀ b, (fun b => (b < w.heap.size ∨ b = w3.heap.size ∨ b = w3.heap.size + 1) ∨ b = w3.heap.size + 1 + 1) b → b < (((w3.alloc (.cells #[.slice A1 n1 c1] 23)).alloc (.cells #[.slice A2 n2 c2] 23)).alloc (.cells #[.func (.func 99) #[] #[.pointer (some ⟨w3.heap.size, 0, none⟩), .pointer (some ⟨w3.heap.size + 1, 0, none⟩)]] 82)).heap.size := fun b hb => by have hb2 : (b < w.heap.size ∨ b = w3.heap.size ∨ b = w3.heap.size + 1) ∨ b = w3.heap.size + 1 + 1 := hb; rw [hs0]; omega
  have HB39 := Lib.hid (show w.heap.size + 2 ≤ w3.heap.size from hsz3)
  clear hB4 HG4 hBl k6 k7 m6 m7 HB2 HB3 HB23 HS1 HS2
  generalize ((((w3.alloc (.cells #[.slice A1 n1 c1] 23)).alloc (.cells #[.slice A2 n2 c2] 23)).alloc (.cells #[.func (.func 99) #[] #[.pointer (some ⟨w3.heap.size, 0, none⟩), .pointer (some ⟨w3.heap.size + 1, 0, none⟩)]] 82)).alloc (.cells #[.slice none 0 0] 23)) = Wl at *
  generalize (((w3.alloc (.cells #[.slice A1 n1 c1] 23)).alloc (.cells #[.slice A2 n2 c2] 23)).alloc (.cells #[.func (.func 99) #[] #[.pointer (some ⟨w3.heap.size, 0, none⟩), .pointer (some ⟨w3.heap.size + 1, 0, none⟩)]] 82)) = W0 at *
  refine wp_range (xs := heldL (mergeL l1 l2)) (R := (fun b => (b < w.heap.size ∨ b = w3.heap.size ∨ b = w3.heap.size + 1) ∨ b = w3.heap.size + 1 + 1)) (w0 := W0) rfl (enters_of Try.func101 (by kernel_rfl) rfl) HG.out hRl (by omega) hRs (fun _ => rfl) (MrgI w.heap.size (w3.heap.size + 1 + 1 + 1)) (MrgX w.heap.size)
    (fun pre S A B h hl => h.leaves hl) (fun c pre S A B h hl => h.leaves hl) (fun b => b = w.heap.size ∨ b = w.heap.size + 1 ∨ b = w3.heap.size + 1 + 1 + 1) ?hS0 ?h0
    (fun x B a₁ A => ∃ b3, B ≤ b3 ∧ A.cell? ⟨b3, 0, none⟩ = some (.string x.1) ∧ A.cell? ⟨b3, 1, none⟩ = some (.string x.2.1) ∧ A.cell? ⟨b3, 2, none⟩ = some (.bool x.2.2) ∧ a₁ = { tmps := #[.slice A1 n1 c1, .slice A2 n2 c2, .bool true, undef, undef, undef, .pointer (some ⟨w.heap.size, 0, none⟩), .pointer (some ⟨w.heap.size + 1, 0, none⟩), .func (.func 101) #[] #[.pointer (some ⟨w3.heap.size + 1 + 1, 0, none⟩)], .pointer (some ⟨w3.heap.size + 1 + 1 + 1, 0, none⟩), .pointer (some ⟨b3, 0, none⟩), .slice A1 n1 c1, .bool true, .bool false, .bool false, .slice A2 n2 c2, .bool true, .bool false, .bool false, .slice A1 n1 c1, .slice A2 n2 c2, .func (.func 99) #[] #[.pointer (some ⟨w3.heap.size, 0, none⟩), .pointer (some ⟨w3.heap.size + 1, 0, none⟩)], .bool true, .func (.func 99) #[] #[.pointer (some ⟨w3.heap.size, 0, none⟩), .pointer (some ⟨w3.heap.size + 1, 0, none⟩)], .func (.func 101) #[] #[.pointer (some ⟨w3.heap.size + 1 + 1, 0, none⟩)], .func (.func 101) #[] #[.pointer (some ⟨w3.heap.size + 1 + 1, 0, none⟩)], .agg #[.string x.1, .string x.2.1, .bool x.2.2], undef, undef, undef, undef, undef, undef, undef, undef], defers := [] })
    ?hAx ?assign ?body ?done ?stop
  case hS0 =>
    rintro b (rfl | rfl | rfl)
    · exact ⟨by omega, fun h => by simp at h; omega⟩
    · exact ⟨by omega, fun h => by simp at h; omega⟩
    · exact ⟨by omega, fun h => by simp at h; omega⟩
  case h0 => exact ⟨none, 0, fun b => by simp [blkOf], World.ownsRow_nil _ _ _ _, c9, f9, ⟨_, c6⟩, f6, ⟨_, c7⟩, f7, by simp⟩
  case hAx =>
    rintro x B a₁ A A' ⟨b3, h1, h2, h3, h4, rfl⟩ hb hz
    exact ⟨b3, h1, (cell_same (hb b3 h1)).trans h2, (cell_same (hb b3 h1)).trans h3, (cell_same (hb b3 h1)).trans h4, rfl⟩
  case assign =>
    rintro l1 ⟨x0, x1, x2⟩ Wa K hK
    simp only [itV]
    gi_wp2
    exact hK _ _ ((Below.refl _ Wa).alloc (Nat.le_refl _) _) ⟨Wa.heap.size, Nat.le_refl _, by simp, by simp, by simp, rfl⟩
  case body =>
    rintro l1 pre ⟨x0, x1, x2⟩ S B a₁ Wr hpre ⟨A', c', hS, hrow, h9, g9, ⟨u6, h6⟩, g6, ⟨u7, h7⟩, g7, hlen⟩ hSB hB2 hBW hSx ⟨b3, hb3, d0, d1, d2, rfl⟩
    simp only at d0 d1 d2
    have hlt3 := World.block_lt_of_cell? Wr _ d0
    simp only at hlt3
    have HSS := Lib.hid hS
    have HROW := Lib.hid hrow
    have HSB := Lib.hid hSB
    clear hS hSB hpre hSx hrow
    by_cases hfull : pre.length = 40
    · have HF := Lib.hid hfull
      have q40 : ((pre.length : Int) == 40) = true := by simp; omega
      have HXE := Lib.hid (show BodyEnd (MrgI w.heap.size (w3.heap.size + 1 + 1 + 1)) (MrgX w.heap.size) (pre ++ [(x0, x1, x2)]) B S Wr .ret { tmps := #[], defers := [] } ((Wr.setCell ⟨w.heap.size, 0, none⟩ (.slice none 0 0)).setCell ⟨w.heap.size + 1, 0, none⟩ (.bool false)) from
        ⟨S, ⟨rfl, rfl, rfl, by simp, fun b hb hs => by
            have n6 : b ≠ w.heap.size := fun e => hs ((HSS.out b).2 (.inl e))
            have n7 : b ≠ w.heap.size + 1 := fun e => hs ((HSS.out b).2 (.inr (.inl e)))
            rw [Below.heap_setCell _ _ _ b n7, Below.heap_setCell _ _ _ b n6], fun b hb => ⟨.inl hb, by have := HSB.out b hb; simp; omega⟩⟩,
          rfl, (HSS.out _).2 (.inl rfl), (HSS.out _).2 (.inr (.inl rfl)), (World.cell?_setCell_other _ _ _ _ (by simp)).trans (World.cell?_setCell_same _ _ _ h6), World.cell?_setCell_same _ _ _ ((World.cell?_setCell_other _ _ _ _ (by simp)).trans h7), by simp; omega⟩)
      clear hfull
      gi_wp2
      exact HXE.out
    · have q40 : ((pre.length : Int) == 40) = false := by simp; omega
      have hle40 : pre.length + 1 ≤ 40 := by omega
      have HRA := Lib.hid (fun o => (show (Wr.alloc o).ownsRow (w3.heap.size + 1 + 1 + 1 + 1) 31 3 (.slice A' pre.length c') pre.length (itsC pre) from HROW.out.alloc o))
      have hwr : w3.heap.size + 1 + 1 + 1 + 1 ≤ Wr.heap.size := by omega
      have hl1 := Lib.hid (show (pre ++ [(x0, x1, x2)]).length = pre.length + 1 by simp)
      clear hfull
      obtain ⟨m, hm⟩ : ∃ m, pre.length = m := ⟨_, rfl⟩
      have HMM := Lib.hid hm
      rw [hm] at HRA h9 q40 hle40 hl1
      clear hm
      gi_wp2_with (gi_at_builtin; refine wpListIn_append_own_at _ rfl _ _ 23 rfl (w3.heap.size + 1 + 1 + 1 + 1) 31 i0 (.agg #[.string ⟨#[]⟩, .string ⟨#[]⟩, .bool false]) 3 40 Try.underlying23 HI.out.1 HI.out.2.1 HI.out.2.2.1 HI.out.2.2.2 rfl (by decide) (.slice A' m c') m (itsC pre) rfl (HRA.out _) ⟨Wr.heap.size, 0, none⟩ 1 1 [.string x0, .string x1, .bool x2] rfl rfl ?c1 ?c2 ?c3 ?c4 ?c5 ?_)
      try (case c1 => exact fun j u hj => cells_at0 _ _ _ j u hj)
      try (case c2 => first | exact ⟨rfl, rfl, rfl⟩ | (intro u hu; simp at hu; rcases hu with rfl | rfl | rfl <;> rfl))
      try (case c3 => first | omega | (unfold maxLen; omega))
      try (case c4 => omega)
      try (case c5 => first | omega | (simp; omega))
      intro v' w1 hown' hgrow _ hwh
      obtain ⟨A4, c4, rfl⟩ := own_shape hown'
      have hgb : ∀ b, b < Wr.heap.size → blkOf A' ≠ some b → w1.heap[b]? = Wr.heap[b]? := fun b hb hn => (hgrow.block b (by simp; omega) (by rw [blk_slice]; exact fun e => hn e.symm)).trans (Below.heap_alloc _ _ b hb)
      have hbl : ∀ q, blkOf A' = some q → w3.heap.size + 1 + 1 + 1 + 1 ≤ q := fun q hq => (HROW.out.lt q (by rw [blk_slice]; exact hq)).1
      have hbl4 : ∀ q, blkOf A4 = some q → w3.heap.size + 1 + 1 + 1 + 1 ≤ q ∧ q < w1.heap.size := fun q hq => hown'.lt q (by rw [blk_slice]; exact hq)
      have k9 : w1.heap[w3.heap.size + 1 + 1 + 1]? = Wr.heap[w3.heap.size + 1 + 1 + 1]? := hgb _ (by omega) (fun e => by have := hbl _ e; omega)
      have k6 : w1.heap[w.heap.size]? = Wr.heap[w.heap.size]? := hgb _ (by omega) (fun e => by have := hbl _ e; omega)
      have k7 : w1.heap[w.heap.size + 1]? = Wr.heap[w.heap.size + 1]? := hgb _ (by omega) (fun e => by have := hbl _ e; omega)
      have n9 : w1.cell? ⟨w3.heap.size + 1 + 1 + 1, 0, none⟩ = some (.slice A' m c') := (cell_same k9).trans h9
      have nf9 : w1.frozen? ⟨w3.heap.size + 1 + 1 + 1, 0, none⟩ = false := (frozen_same k9).trans g9
      have hsz1 : Wr.heap.size + 1 ≤ w1.heap.size := by have := hgrow.size; simpa using this
      have ho9 : ∀ q, q ≠ w3.heap.size + 1 + 1 + 1 → (w1.setCell ⟨w3.heap.size + 1 + 1 + 1, 0, none⟩ (.slice A4 (m + 1) c4)).heap[q]? = w1.heap[q]? := fun q hq => Below.heap_setCell w1 _ _ q hq
      have HEND := Lib.hid (show BodyEnd (MrgI w.heap.size (w3.heap.size + 1 + 1 + 1)) (MrgX w.heap.size) (pre ++ [(x0, x1, x2)]) B S Wr .normal { tmps := #[], defers := [] } (w1.setCell ⟨w3.heap.size + 1 + 1 + 1, 0, none⟩ (.slice A4 (m + 1) c4)) from
        ⟨fun b => b = w.heap.size ∨ b = w.heap.size + 1 ∨ b = w3.heap.size + 1 + 1 + 1 ∨ blkOf A4 = some b,
          ⟨hgrow.os, hgrow.tape, hgrow.output, by simp; omega, fun b hb hs => (ho9 b (fun e => hs ((HSS.out b).2 (.inr (.inr (.inl e)))))).trans (hgb b (by omega) (fun e => hs ((HSS.out b).2 (.inr (.inr (.inr e)))))),
            fun b hb => by
              rcases hb with rfl | rfl | rfl | hb
              · exact ⟨.inl ((HSS.out _).2 (.inl rfl)), by simp; omega⟩
              · exact ⟨.inl ((HSS.out _).2 (.inr (.inl rfl))), by simp; omega⟩
              · exact ⟨.inl ((HSS.out _).2 (.inr (.inr (.inl rfl)))), by simp; omega⟩
              · refine ⟨?_, by have := (hbl4 b hb).2; simpa using this⟩
                rw [blk_slice, blk_slice] at hwh
                rcases hwh with h | h
                · exact .inl ((HSS.out _).2 (.inr (.inr (.inr (h ▸ hb)))))
                · right
                  rw [hb] at h
                  injection h with h
                  first | omega | (simp at h; omega)⟩,
          A4, c4, fun b => Iff.rfl, by
            rw [hl1.out, itsC_snoc]
            exact own_same hown' (fun q hq => ho9 q (fun e => by have := (hbl4 q (by rw [← blk_slice]; exact hq)).1; omega)),
          by rw [hl1.out]; exact World.cell?_setCell_same _ _ _ n9, by rw [World.frozen?_setCell]; exact nf9,
          ⟨u6, (World.cell?_setCell_other _ _ _ _ (by simp <;> omega)).trans ((cell_same k6).trans h6)⟩, by rw [World.frozen?_setCell]; exact (frozen_same k6).trans g6,
          ⟨u7, (World.cell?_setCell_other _ _ _ _ (by simp <;> omega)).trans ((cell_same k7).trans h7)⟩, by rw [World.frozen?_setCell]; exact (frozen_same k7).trans g7, by rw [hl1.out]; exact hle40⟩)
      clear hown' hgrow hwh hgb hbl hbl4 k9 k6 k7 ho9
      gi_wp2
      exact HEND.out
  case done =>
    rintro S' Wd hm ⟨A', c', hS, hrow, h9, g9, ⟨u6, h6⟩, g6, ⟨u7, h7⟩, g7, hlen⟩ hlt hD hnD
    have HLE := Lib.hid (HYES.out hlen)
    have hnb : ∀ b, (b = w.heap.size ∨ b = w.heap.size + 1 ∨ b = w3.heap.size + 1 + 1 + 1) → b ≠ Wl.heap.size := fun b hb => by omega
    have ho : ∀ b, b ≠ w.heap.size → b ≠ w.heap.size + 1 → ((Wd.setCell ⟨w.heap.size, 0, none⟩ (.slice A' (heldL (mergeL l1 l2)).length c')).setCell ⟨w.heap.size + 1, 0, none⟩ (.bool true)).heap[b]? = Wd.heap[b]? := fun b n6 n7 => by
      rw [Below.heap_setCell _ _ _ b n7, Below.heap_setCell _ _ _ b n6]
    have hDW : ((Wd.setCell ⟨w.heap.size, 0, none⟩ (.slice A' (heldL (mergeL l1 l2)).length c')).setCell ⟨w.heap.size + 1, 0, none⟩ (.bool true)).heap[Wl.heap.size]? = some (.deferred (some [])) := (ho _ (by omega) (by omega)).trans hD
    have r6 : (((Wd.setCell ⟨w.heap.size, 0, none⟩ (.slice A' (heldL (mergeL l1 l2)).length c')).setCell ⟨w.heap.size + 1, 0, none⟩ (.bool true)).putObj Wl.heap.size (.deferred none)).cell? ⟨w.heap.size, 0, none⟩ = some (.slice A' (heldL (mergeL l1 l2)).length c') :=
      (cell_same (World.putObj_heap_other (by omega))).trans ((World.cell?_setCell_other _ _ _ _ (by simp)).trans (World.cell?_setCell_same _ _ _ h6))
    have r7 : (((Wd.setCell ⟨w.heap.size, 0, none⟩ (.slice A' (heldL (mergeL l1 l2)).length c')).setCell ⟨w.heap.size + 1, 0, none⟩ (.bool true)).putObj Wl.heap.size (.deferred none)).cell? ⟨w.heap.size + 1, 0, none⟩ = some (.bool true) :=
      (cell_same (World.putObj_heap_other (by omega))).trans (World.cell?_setCell_same _ _ _ ((World.cell?_setCell_other _ _ _ _ (by simp)).trans h7))
    have hbq : ∀ q, blkOf A' = some q → w3.heap.size + 1 + 1 + 1 + 1 ≤ q ∧ q < Wd.heap.size := fun q hq => hrow.lt q (by rw [blk_slice]; exact hq)
    have HOW := Lib.hid (show OwnIt w.heap.size (heldL (mergeL l1 l2)) (.slice A' (heldL (mergeL l1 l2)).length c') (((Wd.setCell ⟨w.heap.size, 0, none⟩ (.slice A' (heldL (mergeL l1 l2)).length c')).setCell ⟨w.heap.size + 1, 0, none⟩ (.bool true)).putObj Wl.heap.size (.deferred none)) from
      ⟨A', c', rfl, own_mono (own_same hrow (fun q hq => by
        have h1 := hbq q (by rw [← blk_slice]; exact hq)
        have h2 : q ≠ Wl.heap.size := fun e => hnD (e ▸ (hS q).2 (.inr (.inr (.inr (by rw [← blk_slice]; exact hq)))))
        exact (World.putObj_heap_other h2).trans (ho q (by omega) (by omega)))) (by omega)⟩)
    have HBL := Lib.hid (show Below w.heap.size w (((Wd.setCell ⟨w.heap.size, 0, none⟩ (.slice A' (heldL (mergeL l1 l2)).length c')).setCell ⟨w.heap.size + 1, 0, none⟩ (.bool true)).putObj Wl.heap.size (.deferred none)) from
      ⟨hm.os.trans HL.out.os, hm.tape.trans HL.out.tape, hm.output.trans HL.out.output, by have := hm.size; have := HL.out.size; simp; omega,
        fun b hb => (((World.putObj_heap_other (by omega)).trans (ho b (by omega) (by omega))).trans (hm.block b (by omega) (by rintro (h | h | h) <;> omega))).trans (HL.out.block b hb)⟩)
    clear hm hS hrow hnb ho hbq
    obtain ⟨N, hN⟩ : ∃ N, (heldL (mergeL l1 l2)).length = N := ⟨_, rfl⟩
    rw [hN] at h9 HOW HBL r6 r7 hDW
    clear hN hsl
    gi_wp2
    refine ⟨by simp, .inl ⟨_, _, rfl, run_takeDeferred hDW, ?_⟩⟩
    refine ⟨.tuple #[.slice A' N c', .bool true], by simp [results, Try.results12, go_sem, r6, r7], ?_⟩
    show MrgPost (mergeR l1 l2 true) w _ _
    rw [HLE.out]
    exact ⟨_, rfl, HOW.out, HBL.out⟩
  case stop =>
    rintro c pre S' Wd hm hpre ⟨rfl, hs6, hs7, h6, h7, hlen⟩ hlt hD hnD
    have HLE := Lib.hid (HNO.out (Nat.lt_of_lt_of_le hlen hpre.length_le))
    have r6 : (Wd.putObj Wl.heap.size (.deferred none)).cell? ⟨w.heap.size, 0, none⟩ = some (.slice none 0 0) := (cell_same (World.putObj_heap_other (by omega))).trans h6
    have r7 : (Wd.putObj Wl.heap.size (.deferred none)).cell? ⟨w.heap.size + 1, 0, none⟩ = some (.bool false) := (cell_same (World.putObj_heap_other (by omega))).trans h7
    have HBL := Lib.hid (show Below w.heap.size w (Wd.putObj Wl.heap.size (.deferred none)) from
      ⟨hm.os.trans HL.out.os, hm.tape.trans HL.out.tape, hm.output.trans HL.out.output, by have := hm.size; have := HL.out.size; simp; omega,
        fun b hb => ((World.putObj_heap_other (by omega)).trans (hm.block b (by omega) (by rintro (h | h | h) <;> omega))).trans (HL.out.block b hb)⟩)
    clear hm hpre hsl
    gi_wp2
    refine ⟨by simp, .inl ⟨_, _, rfl, run_takeDeferred hD, ?_⟩⟩
    refine ⟨.tuple #[.slice none 0 0, .bool false], by simp [results, Try.results12, go_sem, r6, r7], ?_⟩
    show MrgPost (mergeR l1 l2 true) w _ _
    rw [HLE.out]
    exact ⟨_, rfl, ⟨none, 0, rfl, World.ownsRow_nil _ _ _ _⟩, HBL.out⟩

end Go.Proofs.Ytofpdelolniklaa
