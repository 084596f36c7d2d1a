/- Contract of OpsFor of the program (chapter 5): a range over what is merged. Conditions: the pairs lie in rows; they are few; their texts are no longer than memory. -/
import Derived.Test.YtcaekjbalkbliaaOpfV
import Derived.Test.YtcaekjbalkbliaaItsO
import Derived.Test.YtcaekjbalkbliaaMrgX
import Derived.Test.YtcaekjbalkbliaaJoinM
import Derived.Maps.OwnIn
import Derived.Deep.AppendLies
import Derived.BigRegionIn
import Derived.Stop.RegionWithIn
set_option linter.unusedVariables false
set_option linter.unusedSimpArgs false
namespace Go.Proofs.Ytcaekjbalkbliaa
open Go.RowKit Go.ChangeShapes Go.WideShapes
attribute [local go_sem] Oper.semAt_some

def OnlyN (R : Act → World → Prop) : Exit → Act → World → Prop
  | .normal, a, w => R a w
  | _, _, _ => False
theorem wpIn_onlyN {F : Fence} {n : Nat} {P : Program} {c : Code} {Q : Exit → Act → World → Prop} {a : Act} {w : World} (R : Act → World → Prop) (hR : R = Q .normal) (h : c.wpIn F n P (OnlyN R) a w) : c.wpIn F n P Q a w := by
  refine wpIn_mono h ?_
  intro e a w hp
  subst hR
  cases e <;> first | exact hp | exact hp.elim
theorem own_shapeX {w : World} {B n z : Nat} {e : TypeId} {v : Value} {xs : List Value} (h : w.ownsRow B e z v n xs) : ∃ (A : Option Addr) (c : Nat), v = .slice A n c := by
  rcases h.2 with ⟨h1, h2⟩ | ⟨g, N, cur, h1, _⟩
  · exact ⟨none, 0, h1.trans (by rw [h2])⟩
  · exact ⟨_, _, h1⟩
theorem slI_mono2 {w : World} {B B' n c : Nat} {A : Option Addr} {l : List It} (h : SlI w B A n c l) (hB : B ≤ B') : SlI w B' A n c l := ⟨h.1, h.2.1, h.2.2.1, h.2.2.2.mono hB⟩
theorem slI_own2 {w : World} {B n c : Nat} {A : Option Addr} {l : List It} (h : w.ownsRow B 60 3 (.slice A n c) n (itsC l)) (hn : n = l.length) : SlI w w.heap.size A n c l :=
  ⟨hn, (own_caps h).1, (own_caps h).2, RowAt.of_own h⟩
theorem NoStr.same {x : Nat} {w w' : World} (h : NoStr x w) (hb : w'.heap[x]? = w.heap[x]?) : NoStr x w' := fun o s => by
  rw [World.cell?_of_block (w := w) (w' := w') (a := ⟨x, o, none⟩) hb]; exact h o s
theorem NoStr.new (w : World) (A : Option Addr) (n c : Nat) (t : TypeId) : NoStr w.heap.size (w.alloc (.cells #[.slice A n c] t)) := fun o s h => by
  rw [World.cell?_alloc_at _ _ _ _ rfl] at h
  match o with
  | 0 => simp at h
  | o + 1 => simp at h
theorem NoStr.set {x : Nat} {w : World} (h : NoStr x w) (A : Option Addr) (n c : Nat) {v : Value} (hv : w.cell? ⟨x, 0, none⟩ = some v) : NoStr x (w.setCell ⟨x, 0, none⟩ (.slice A n c)) := fun o s e => by
  by_cases h0 : o = 0
  · subst h0
    rw [World.cell?_setCell_same _ _ _ hv] at e
    cases e
  · rw [World.cell?_setCell_other (h := show (⟨x, 0, none⟩ : Addr) ≠ ⟨x, o, none⟩ from fun h1 => by injection h1 with _ h2; exact h0 h2.symm)] at e
    exact h o s e
theorem ascF_of {l : List Pr} (h : pairsB l = true) : AscF l := by
  exact List.pairwise_iff_getElem.2 (fun i j hi hj hij => pairs_lt h hj hij)
theorem opfR_filter {f t : List Pr} (h1 : pairsB f = true) (h2 : pairsB t = true) : opfR f t = (mergeL (itO false t) (itO true f)).filter (keepO f) := by
  rw [opfR_yes h1 h2, itO_gone, itO_here, opsF_all (ascF_of h1) (ascF_of h2)]
theorem itO_len (g : Bool) (l : List Pr) : (itO g l).length = l.length := by unfold itO; rw [List.length_map]
/-- what the loop holds between two rounds: the box of the changes, their row, and all that lies below but that box -/
def OpsI (F : List Pr) (b9 n0 : Nat) (Wl : World) (pre : List It) (S : Nat → Prop) (A : World) : Prop :=
  ∃ (L : List It) (m : Nat) (A' : Option Addr) (c' : Nat), L = pre.filter (keepO F) ∧ m = L.length ∧ (∀ b, S b ↔ (b = b9 ∨ blkOf A' = some b)) ∧ A.ownsRow (n0 + 2) 62 3 (.slice A' m c') m (cgsC L) ∧
    A.cell? ⟨b9, 0, none⟩ = some (.slice A' m c') ∧ A.frozen? ⟨b9, 0, none⟩ = false ∧ NoStr b9 A ∧ (∀ b, b < n0 → b ≠ b9 → A.heap[b]? = Wl.heap[b]?)
theorem OpsI.leaves {F : List Pr} {b9 n0 : Nat} {Wl : World} {pre : List It} {S : Nat → Prop} {A B : World} (h : OpsI F b9 n0 Wl pre S A) (hl : Leaves (fun b => S b ∨ ((b < n0 ∧ b ≠ b9) ∨ b = n0 ∨ b = n0 + 1)) A B) : OpsI F b9 n0 Wl pre S B := by
  obtain ⟨L, m, A', c', h0, hm, h1, h2, h3, h4, h6, h5⟩ := h
  have e9 := hl.block b9 (.inl ((h1 _).2 (.inl rfl)))
  exact ⟨L, m, A', c', h0, hm, h1, own_sameX h2 (fun q hq => hl.block q (.inl ((h1 _).2 (.inr (by rw [← blk_slice]; exact hq))))), (cell_sameX e9).trans h3, (frozen_sameX e9).trans h4, h6.same e9, fun b hb hn => (hl.block b (.inr (.inl ⟨hb, hn⟩))).trans (h5 b hb hn)⟩
theorem wpIn_via {F : Fence} {n : Nat} {P : Program} {c : Code} {Q : Exit → Act → World → Prop} {a : Act} {w : World} (R : Act → World → Prop) (h : c.wpIn F n P (OnlyN R) a w) (hR : ∀ a w, R a w → Q .normal a w) : c.wpIn F n P Q a w := by
  refine wpIn_mono h ?_
  intro e a w hp
  cases e <;> first | exact hR _ _ hp | exact hp.elim
set_option maxRecDepth 100000 in
set_option maxHeartbeats 8000000 in
theorem iOpf_any (A1 : Option Addr) (n1 c1 : Nat) (l1 : List Pr) (A2 : Option Addr) (n2 c2 : Nat) (l2 : List Pr) (w : World) (hr1 : RowAt w w.heap.size A1 (prsC l1)) (hn1 : n1 = l1.length) (hs1 : n1 ≤ 1048576) (hw1 : WfPr l1) (hr2 : RowAt w w.heap.size A2 (prsC l2)) (hn2 : n2 = l2.length) (hs2 : n2 ≤ 1048576) (hw2 : WfPr l2) (q1 : pairsB l1 = true) (q2 : pairsB l2 = true) :
    Calls Try.prog 10 #[.slice A1 n1 c1, .slice A2 n2 c2] w (OpfPost (opfR l1 l2) w) := by
  obtain ⟨i0, hi0, hz0, hz1, hz2⟩ := info_parts cgInfo
  have HFL := Lib.hid (opfR_filter q1 q2)
  have HI := Lib.hid (And.intro hi0 (And.intro hz0 (And.intro hz1 hz2))); clear hi0 hz0 hz1 hz2
  have H1 := Lib.hid (fun W (hb : Below w.heap.size w W) => iPairs_any A1 n1 c1 l1 W ((hr1.below hb).mono hb.size) hn1 hs1 hw1)
  have H2 := Lib.hid (fun W (hb : Below w.heap.size w W) => iPairs_any A2 n2 c2 l2 W ((hr2.below hb).mono hb.size) hn2 hs2 hw2)
  rw [q1] at H1
  rw [q2] at H2
  have HF := Lib.hid (fun W (hb : Below w.heap.size w W) => itemsOf_any A1 n1 c1 l1 true W ((hr1.below hb).mono hb.size) hn1 hs1)
  have HT := Lib.hid (fun W (hb : Below w.heap.size w W) => itemsOf_any A2 n2 c2 l2 false W ((hr2.below hb).mono hb.size) hn2 hs2)
  have HB0 := Lib.hid ((Below.refl w.heap.size w).alloc (Nat.le_refl _) (.cells #[.slice A1 n1 c1] 26))
  have HN1 := Lib.hid hn1
  have HN2 := Lib.hid hn2
  have HR1 := Lib.hid hr1
  clear hr1 hr2 hn1 hn2 hw1 hw2 q1 q2
  refine (callsIn_wide (n := 3)).1 ?_
  refine callsIn_of_wp_marks Try.func10 rfl trivial ?_ rfl
  simp only [Try.ntmps10, List.size_toArray, List.length_cons, List.length_nil, Nat.reduceAdd, Nat.reduceSub, Array.replicate_succ, Array.replicate_zero, List.push_toArray, List.append_toArray, List.nil_append, List.cons_append]
  gi_wp2_with fail
  refine ⟨trivial, (callsIn_wide.2 (H1.out _ HB0.out)).mono ?_⟩
  rintro e w2 ⟨rfl, hb2⟩
  have HB2 := Lib.hid (HB0.out.trans (hb2.mono HB0.out.size))
  have hsz2 : w.heap.size + 1 ≤ w2.heap.size := by have := hb2.size; simpa using this
  have k2 : w2.cell? ⟨w.heap.size, 0, none⟩ = some (.slice A1 n1 c1) := (hb2.cell (p := ⟨w.heap.size, 0, none⟩) (by simp)).trans (by simp)
  clear H1
  gi_wp2_with fail
  refine ⟨trivial, (callsIn_wide.2 (H2.out _ HB2.out)).mono ?_⟩
  rintro e w3 ⟨rfl, hb3⟩
  have HB3 := Lib.hid (HB2.out.trans (hb3.mono HB2.out.size))
  have hsz3 : w.heap.size + 1 ≤ w3.heap.size := by have := hb3.size; omega
  have k3 : w3.cell? ⟨w.heap.size, 0, none⟩ = some (.slice A1 n1 c1) := (hb3.cell (p := ⟨w.heap.size, 0, none⟩) (by simp; omega)).trans k2
  clear hb2 hb3 H2 k2 hsz2
  gi_wp2_with fail
  have HB4 := Lib.hid (HB3.out.alloc HB3.out.size (.cells #[.slice none 0 0] 24))
  have k4 : (w3.alloc (.cells #[.slice none 0 0] 24)).cell? ⟨w.heap.size, 0, none⟩ = some (.slice A1 n1 c1) := (cell_sameX (Below.heap_alloc _ _ w.heap.size (by omega))).trans k3
  have hs4 : w.heap.size + 1 < (w3.alloc (.cells #[.slice none 0 0] 24)).heap.size := by simp; omega
  have c4 : (w3.alloc (.cells #[.slice none 0 0] 24)).cell? ⟨w3.heap.size, 0, none⟩ = some (.slice none 0 0) := cell_new1X w3 _ _
  have HC4 := Lib.hid (And.intro c4 (And.intro (frozen_new1X w3 (.slice none 0 0) 24) (And.intro (NoStr.new w3 none 0 0 24) (show w3.heap.size < (w3.alloc (.cells #[.slice none 0 0] 24)).heap.size by simp))))
  clear c4
  generalize w3.alloc (.cells #[.slice none 0 0] 24) = w4 at *
  refine wpIn_via (fun a W => ∃ (A5 : Option Addr) (c5 : Nat) (w5 : World) (A6 : Option Addr) (c6 : Nat) (w6 : World), OutR 60 3 w4.drew (itsC (itO false l2)) n2 A5 c5 w5 ∧ OutR 60 3 w5 (itsC (itO true l1)) n1 A6 c6 w6 ∧
      a = { tmps := #[.slice A1 n1 c1, .slice A2 n2 c2, .pointer (some ⟨w.heap.size, 0, none⟩), undef, .slice none 0 0, .pointer (some ⟨w3.heap.size, 0, none⟩), undef, .slice A1 n1 c1, .bool true, .bool false, .bool false, .slice A2 n2 c2, .bool true, .bool false, .bool false, .slice A2 n2 c2, .slice A5 n2 c5, .slice A1 n1 c1, .slice A6 n1 c6,
        .func (.func 58) #[] #[.pointer (some ⟨w6.heap.size, 0, none⟩), .pointer (some ⟨w6.heap.size + 1, 0, none⟩)], undef, undef, undef, undef, undef, undef, undef, undef, undef, undef, undef, undef, undef, undef, undef, undef, undef, undef], defers := [] } ∧
      W = (w6.alloc (.cells #[.slice A5 n2 c5] 57)).alloc (.cells #[.slice A6 n1 c6] 57)) ?_ ?_
  rotate_left
  · rintro a Wl ⟨A5, c5, w5, A6, c6, w6, ho5, ho6, rfl, hWl⟩
    have hz6 : w4.heap.size ≤ w6.heap.size := by have h1 := ho5.2.size; have h2 := ho6.2.size; simp at h1; omega
    have HB6 := Lib.hid (show Below w4.heap.size w4 w6 from ((Below.drew (Below.refl _ _)).trans (ho5.2.mono (by simp))).trans (ho6.2.mono (by have h1 := ho5.2.size; simpa using h1)))
    have HBl := Lib.hid (show Below w6.heap.size w6 Wl by rw [hWl]; exact ((Below.refl _ _).alloc (Nat.le_refl _) _).alloc (by simp) _)
    have hzl : Wl.heap.size = w6.heap.size + 2 := by rw [hWl]; simp
    have HS5 := Lib.hid (show SlI Wl w6.heap.size A5 n2 c5 (itO false l2) from (slI_own2 (ho5.keep ho6.2).1 (by rw [itO_len]; exact HN2.out)).below HBl.out)
    have HS6 := Lib.hid (show SlI Wl w6.heap.size A6 n1 c6 (itO true l1) from (slI_own2 ho6.1 (by rw [itO_len]; exact HN1.out)).below HBl.out)
    have hx9 : w3.heap.size < w4.heap.size := HC4.out.2.2.2
    have e9 : Wl.heap[w3.heap.size]? = w4.heap[w3.heap.size]? := (HBl.out.block _ (by omega)).trans (HB6.out.block _ hx9)
    have HNO := Lib.hid (HC4.out.2.2.1.same e9)
    have c9 : Wl.cell? ⟨w3.heap.size, 0, none⟩ = some (.slice none 0 0) := (cell_sameX e9).trans HC4.out.1
    have f9 : Wl.frozen? ⟨w3.heap.size, 0, none⟩ = false := (frozen_sameX e9).trans HC4.out.2.1
    have HFR := Lib.hid (show Wl.cell? ⟨w.heap.size, 0, none⟩ = some (.slice A1 n1 c1) from ((cell_sameX (HBl.out.block w.heap.size (by omega))).trans (cell_sameX (HB6.out.block w.heap.size (by omega)))).trans k4)
    have HBW := Lib.hid (show Below w.heap.size w Wl from HB4.out.trans ((HB6.out.trans (HBl.out.mono hz6)).mono (by omega)))
    have HRF := Lib.hid (HR1.out.below HBW.out)
    obtain ⟨n0, hn0⟩ : ∃ n0, w6.heap.size = n0 := ⟨_, rfl⟩
    have b2 : Wl.cell? ⟨n0, 0, none⟩ = some (.slice A5 n2 c5) := by
      rw [hWl, ← hn0]; exact (cell_sameX (Below.heap_alloc _ _ w6.heap.size (by simp))).trans (cell_new1X w6 _ _)
    have b3 : Wl.cell? ⟨n0 + 1, 0, none⟩ = some (.slice A6 n1 c6) := by
      have h := cell_new1X (w6.alloc (.cells #[.slice A5 n2 c5] 57)) (.slice A6 n1 c6) 57
      rw [World.size_alloc, hn0] at h; rw [hWl]; exact h
    rw [hn0] at HS5 HS6 hzl hz6
    have HG := Lib.hid (merged_givesX w3.heap.size A5 A6 n2 n1 c5 c6 n0 n0 (n0 + 1) (itO false l2) (itO true l1) Wl HS5.out HS6.out hs2 hs1 (by omega) (by omega) (by omega) HNO.out (by omega) b2 b3)
    have hRs : ∀ b, (fun b => (b < n0 ∧ b ≠ w3.heap.size) ∨ b = n0 ∨ b = n0 + 1) b → b < Wl.heap.size := fun b hb => by have hb2 : (b < n0 ∧ b ≠ w3.heap.size) ∨ b = n0 ∨ b = n0 + 1 := hb; omega
    have hw3 : w.heap.size < w3.heap.size := by omega
    have hx0 : w3.heap.size < n0 := by omega
    have HLEN := Lib.hid (show (mergeL (itO false l2) (itO true l1)).length ≤ 2097152 by
      have h := mergeL_len _ (itO false l2) (itO true l1) (Nat.le_refl _)
      rw [itO_len, itO_len, ← HN1.out, ← HN2.out] at h; omega)
    rw [hn0]
    clear hWl HS5 HS6 b2 b3 ho5 ho6 e9 k4 k3 HC4 HB4 HB3 HB2 HF HT hs4 hn0 HB6 HBl
    generalize hX9 : w3.heap.size = x9 at *
    gi_wp2
    refine wp_rangeX (x0 := x9) (xs := mergeL (itO false l2) (itO true l1)) (R := (fun b => (b < n0 ∧ b ≠ x9) ∨ b = n0 ∨ b = n0 + 1)) (w0 := Wl) rfl (enters_of Try.func58 (by kernel_rfl) rfl) HG.out (fun b _ => rfl) (Nat.le_refl _) hRs (fun _ => rfl) (OpsI l1 x9 n0 Wl) (fun _ _ _ _ => False)
      (fun pre S A B h hl => h.leaves hl) (fun c pre S A B h hl => h) (fun pre S A h => by obtain ⟨_, _, _, _, _, _, _, _, _, _, h6, _⟩ := h; exact h6) (fun b => b = x9) ?hS0 ?h0
      (fun x B a₁ Wx => ∃ b3, B ≤ b3 ∧ Wx.cell? ⟨b3, 0, none⟩ = some (.string x.1) ∧ Wx.cell? ⟨b3, 1, none⟩ = some (.string x.2.1) ∧ Wx.cell? ⟨b3, 2, none⟩ = some (.bool x.2.2) ∧ a₁ = { tmps := #[.slice A1 n1 c1, .slice A2 n2 c2, .pointer (some ⟨w.heap.size, 0, none⟩), undef, .slice none 0 0, .pointer (some ⟨x9, 0, none⟩), .pointer (some ⟨b3, 0, none⟩), .slice A1 n1 c1, .bool true, .bool false, .bool false, .slice A2 n2 c2, .bool true, .bool false, .bool false, .slice A2 n2 c2, .slice A5 n2 c5, .slice A1 n1 c1, .slice A6 n1 c6,
          .func (.func 58) #[] #[.pointer (some ⟨n0, 0, none⟩), .pointer (some ⟨n0 + 1, 0, none⟩)], .agg #[.string x.1, .string x.2.1, .bool x.2.2], undef, undef, undef, undef, undef, undef, undef, undef, undef, undef, undef, undef, undef, undef, undef, undef, undef], defers := [] })
      ?hAx ?assign ?body ?done ?stop
    case hS0 =>
      rintro b rfl
      exact ⟨by omega, fun h => by have h2 : (b < n0 ∧ b ≠ b) ∨ b = n0 ∨ b = n0 + 1 := h; omega⟩
    case h0 => exact ⟨[], 0, none, 0, rfl, rfl, fun b => by simp [blkOf], World.ownsRow_nil _ _ _ _, c9, f9, HNO.out, fun _ _ _ => rfl⟩
    case hAx =>
      rintro x B a₁ A A' ⟨b3, h1, h2, h3, h4, rfl⟩ hb hz
      exact ⟨b3, h1, (cell_sameX (hb b3 h1)).trans h2, (cell_sameX (hb b3 h1)).trans h3, (cell_sameX (hb b3 h1)).trans h4, rfl⟩
    case assign =>
      rintro l9 ⟨x0, x1, x2⟩ Wa K hK
      simp only [itV]
      gi_wp2
      exact hK _ _ ((Below.refl _ Wa).alloc (Nat.le_refl _) _) ⟨Wa.heap.size, Nat.le_refl _, by simp, by simp, by simp, rfl⟩
    case body =>
      rintro l9 pre ⟨x0, x1, x2⟩ S B a₁ Wr hpre ⟨L, m, A', c', hL, hm, hS, hrow, h9, g9, hno, hlow⟩ hSB hB2 hBW hSx ⟨b3, hb3, d0, d1, d2, rfl⟩
      simp only at d0 d1 d2
      have hlt3 := World.block_lt_of_cell? Wr _ d0
      simp only at hlt3
      have hm21 : m ≤ 2097152 := by
        have h1 := hpre.length_le
        rw [List.length_append] at h1
        have h2 : L.length ≤ pre.length := by rw [hL]; exact List.length_filter_le _ _
        have h3 := HLEN.out
        omega
      have hn0r : n0 + 2 ≤ Wr.heap.size := by omega
      have hfr : Wr.cell? ⟨w.heap.size, 0, none⟩ = some (.slice A1 n1 c1) := (cell_sameX (hlow _ (by omega) (by omega))).trans HFR.out
      have HRR := Lib.hid (show RowAt Wr w.heap.size A1 (prsC l1) from fun h0 => by
        obtain ⟨b, off, e, hb, hc⟩ := HRF.out h0
        exact ⟨b, off, e, hb, fun i v hv => (World.cell?_of_block (hlow b (by omega) (by omega))).trans (hc i v hv)⟩)
      have hbl : ∀ q, blkOf A' = some q → n0 + 2 ≤ q ∧ q < Wr.heap.size := fun q hq => hrow.lt q (by rw [blk_slice]; exact hq)
      have HROWW := Lib.hid (fun W (hb : Below Wr.heap.size Wr W) => (show W.ownsRow (n0 + 2) 62 3 (.slice A' m c') m (cgsC L) from own_sameX hrow (fun q hq => hb.block q (hbl q (by rw [← blk_slice]; exact hq)).2)))
      -- what an append leaves
      have HFIN := Lib.hid (fun (W5 : World) (hb5 : Below Wr.heap.size Wr W5) (A4 : Option Addr) (c4 : Nat) (w1 : World) (y2 : Bool) (hown' : w1.ownsRow (n0 + 2) 62 3 (.slice A4 (m + 1) c4) (m + 1) (cgsC L ++ [.string x0, .string x1, .bool y2]))
          (hgrow : (W5.alloc (.cells #[.string x0, .string x1, .bool y2] 62)).grownBy w1 (Value.slice A' m c').ownBlock)
          (hwh : (Value.slice A4 (m + 1) c4).ownBlock = (Value.slice A' m c').ownBlock ∨ (Value.slice A4 (m + 1) c4).ownBlock = some (W5.heap.size + 1))
          (hk : (x2 = y2 ∧ keepO l1 (x0, x1, x2) = true)) => (show BodyEnd (OpsI l1 x9 n0 Wl) (fun _ _ _ _ => False) (pre ++ [(x0, x1, x2)]) B S Wr .normal { tmps := #[], defers := [] } (w1.setCell ⟨x9, 0, none⟩ (.slice A4 (m + 1) c4)) ∧ w1.cell? ⟨x9, 0, none⟩ = some (.slice A' m c') ∧ w1.frozen? ⟨x9, 0, none⟩ = false from by
        obtain ⟨rfl, hk⟩ := hk
        have hz5 := hb5.size
        have hgb : ∀ b, b < Wr.heap.size → blkOf A' ≠ some b → w1.heap[b]? = Wr.heap[b]? := fun b hb hn => ((hgrow.block b (by simp; omega) (by rw [blk_slice]; exact fun e => hn e.symm)).trans (Below.heap_alloc _ _ b (by omega))).trans (hb5.block b hb)
        have hbl4 : ∀ q, blkOf A4 = some q → n0 + 2 ≤ q ∧ q < w1.heap.size := fun q hq => hown'.lt q (by rw [blk_slice]; exact hq)
        have k9 : w1.heap[x9]? = Wr.heap[x9]? := hgb _ (by omega) (fun e => by have := hbl _ e; omega)
        have n9 : w1.cell? ⟨x9, 0, none⟩ = some (.slice A' m c') := (cell_sameX k9).trans h9
        have nf9 : w1.frozen? ⟨x9, 0, none⟩ = false := (frozen_sameX k9).trans g9
        have hsz1 : W5.heap.size + 1 ≤ w1.heap.size := by have := hgrow.size; simpa using this
        have ho9 : ∀ q, q ≠ x9 → (w1.setCell ⟨x9, 0, none⟩ (.slice A4 (m + 1) c4)).heap[q]? = w1.heap[q]? := fun q hq => Below.heap_setCell w1 _ _ q hq
        refine ⟨⟨fun b => b = x9 ∨ blkOf A4 = some b, ⟨hgrow.os.trans hb5.os, hgrow.tape.trans hb5.tape, hgrow.output.trans hb5.output, by simp; omega, fun b hb hs => (ho9 b (fun e => hs ((hS b).2 (.inl e)))).trans (hgb b (by omega) (fun e => hs ((hS b).2 (.inr e)))), ?_⟩,
          L ++ [(x0, x1, x2)], m + 1, A4, c4, ?_, ?_, fun b => Iff.rfl, ?_, World.cell?_setCell_same _ _ _ n9, by rw [World.frozen?_setCell]; exact nf9, NoStr.set (hno.same k9) _ _ _ n9, fun b hb hn => ?_⟩, n9, nf9⟩
        · rintro b (rfl | hb)
          · exact ⟨.inl ((hS _).2 (.inl rfl)), by simp; omega⟩
          · refine ⟨?_, by have := (hbl4 b hb).2; simpa using this⟩
            rw [blk_slice, blk_slice] at hwh
            rcases hwh with h | h
            · exact .inl ((hS _).2 (.inr (h ▸ hb)))
            · right
              rw [hb] at h
              injection h with h
              first | omega | (simp at h; omega)
        · rw [List.filter_append, ← hL, List.filter_cons_of_pos hk]; rfl
        · rw [List.length_append, ← hm]; rfl
        · rw [cgsC_snoc]
          exact own_sameX hown' (fun q hq => ho9 q (fun e => by have := (hbl4 q (by rw [← blk_slice]; exact hq)).1; omega))
        · exact ((ho9 b hn).trans (hgb b (by omega) (fun e => by have := hbl _ e; omega))).trans (hlow b hb hn)))
      have HSK := Lib.hid (fun (W5 : World) (hb5 : Below Wr.heap.size Wr W5) (hk : keepO l1 (x0, x1, x2) = false) => (show BodyEnd (OpsI l1 x9 n0 Wl) (fun _ _ _ _ => False) (pre ++ [(x0, x1, x2)]) B S Wr .normal { tmps := #[], defers := [] } W5 from
        ⟨S, ⟨hb5.os, hb5.tape, hb5.output, hb5.size, fun b hb _ => hb5.block b (by omega), fun b hb => ⟨.inl hb, by have := hSB b hb; have := hb5.size; omega⟩⟩,
          L, m, A', c', by rw [List.filter_append, ← hL, List.filter_cons_of_neg (by rw [hk]; simp)]; simp, hm, hS, HROWW.out W5 hb5, (cell_sameX (hb5.block _ (by omega))).trans h9, (frozen_sameX (hb5.block _ (by omega))).trans g9, hno.same (hb5.block _ (by omega)),
          fun b hb hn => (hb5.block b (by omega)).trans (hlow b hb hn)⟩))
      have HCT := Lib.hid (fun W (hb : Below Wr.heap.size Wr W) => contains_any A1 n1 c1 l1 x0 x1 W ((HRR.out.below (hb.mono (by omega))).mono (by have := hb.size; omega)) HN1.out hs1)
      clear hL hm hS hrow hno hlow hSB hB2 hBW hSx hpre hbl
      cases x2
      · -- a change that is written
        gi_wp2_with fail
        refine ⟨trivial, (CallsIn.inRound l9 (callsIn_wide.2 (HCT.out _ (Below.refl _ _)))).mono ?_⟩
        rintro e W5 ⟨rfl, hb5⟩
        have HB7 := Lib.hid hb5
        have hz5 : Wr.heap.size ≤ W5.heap.size := hb5.size
        have d0' : W5.cell? ⟨b3, 0, none⟩ = some (.string x0) := (cell_sameX (hb5.block b3 hlt3)).trans d0
        have d1' : W5.cell? ⟨b3, 1, none⟩ = some (.string x1) := (cell_sameX (hb5.block b3 hlt3)).trans d1
        have d2' : W5.cell? ⟨b3, 2, none⟩ = some (.bool false) := (cell_sameX (hb5.block b3 hlt3)).trans d2
        have h9' : W5.cell? ⟨x9, 0, none⟩ = some (.slice A' m c') := (cell_sameX (hb5.block x9 (by omega))).trans h9
        have HRA := Lib.hid (fun o => (show (W5.alloc o).ownsRow (n0 + 2) 62 3 (.slice A' m c') m (cgsC L) from (HROWW.out W5 hb5).alloc o))
        clear hb5 d0 d1 d2 h9 hfr g9
        cases hq : hasP l1 x0 x1
        · have HKK := Lib.hid (show false = false ∧ keepO l1 (x0, x1, false) = true from ⟨rfl, by unfold keepO; simp [hq]⟩)
          clear hq
          gi_wp2_with (gi_at_builtin; refine wpListIn_append_own_at _ rfl _ _ 24 rfl (n0 + 2) 62 i0 (.agg #[.string ⟨#[]⟩, .string ⟨#[]⟩, .bool false]) 3 40 Try.underlying24 HI.out.1 HI.out.2.1 HI.out.2.2.1 HI.out.2.2.2 rfl (by decide) (.slice A' m c') m (cgsC L) rfl (HRA.out _) ⟨W5.heap.size, 0, none⟩ 1 1 [.string x0, .string x1, .bool false] rfl rfl ?c1 ?c2 ?c3 ?c4 ?c5 ?_)
          try (case c1 => exact fun j u hj => cells_at0 _ _ _ j u hj)
          try (case c2 => first | exact ⟨rfl, rfl, rfl⟩ | (intro u hu; simp at hu; rcases hu with rfl | rfl | rfl <;> rfl))
          try (case c3 => first | omega | (unfold maxLen; omega))
          try (case c4 => omega)
          try (case c5 => first | omega | (simp; omega))
          intro v' w1 hown' hgrow _ hwh
          obtain ⟨A4, c4, rfl⟩ := own_shapeX hown'
          have HEND := Lib.hid (HFIN.out W5 HB7.out A4 c4 w1 false hown' hgrow hwh ⟨rfl, HKK.out.2⟩)
          obtain ⟨n9, nf9⟩ := HEND.out.2
          clear hown' hgrow hwh
          gi_wp2
          exact HEND.out.1
        · have HEND := Lib.hid (HSK.out W5 HB7.out (by unfold keepO; simp [hq]))
          clear hq
          gi_wp2
          exact HEND.out
      · have HKK := Lib.hid (show true = true ∧ keepO l1 (x0, x1, true) = true from ⟨rfl, rfl⟩)
        have HB7 := Lib.hid (Below.refl Wr.heap.size Wr)
        have HRA := Lib.hid (fun o => (show (Wr.alloc o).ownsRow (n0 + 2) 62 3 (.slice A' m c') m (cgsC L) from (HROWW.out Wr HB7.out).alloc o))
        clear hfr g9
        gi_wp2_with fail
        refine ⟨trivial, ?_⟩
        gi_wp2_with (gi_at_builtin; refine wpListIn_append_own_at _ rfl _ _ 24 rfl (n0 + 2) 62 i0 (.agg #[.string ⟨#[]⟩, .string ⟨#[]⟩, .bool false]) 3 40 Try.underlying24 HI.out.1 HI.out.2.1 HI.out.2.2.1 HI.out.2.2.2 rfl (by decide) (.slice A' m c') m (cgsC L) rfl (HRA.out _) ⟨Wr.heap.size, 0, none⟩ 1 1 [.string x0, .string x1, .bool true] rfl rfl ?c1 ?c2 ?c3 ?c4 ?c5 ?_)
        try (case c1 => exact fun j u hj => cells_at0 _ _ _ j u hj)
        try (case c2 => first | exact ⟨rfl, rfl, rfl⟩ | (intro u hu; simp at hu; rcases hu with rfl | rfl | rfl <;> rfl))
        try (case c3 => first | omega | (unfold maxLen; omega))
        try (case c4 => omega)
        try (case c5 => first | omega | (simp; omega))
        intro v' w1 hown' hgrow _ hwh
        obtain ⟨A4, c4, rfl⟩ := own_shapeX hown'
        have HEND := Lib.hid (HFIN.out Wr HB7.out A4 c4 w1 true hown' hgrow hwh ⟨rfl, HKK.out.2⟩)
        obtain ⟨n9, nf9⟩ := HEND.out.2
        clear hown' hgrow hwh
        gi_wp2
        exact HEND.out.1
    case done =>
      rintro S' Wd hm ⟨L, m, A', c', hL, hml, hS, hrow, h9, g9, hno, hlow⟩ hlt hD hnD
      have HOW := Lib.hid (show OwnCg w.heap.size (opfR l1 l2) (.slice A' m c') (Wd.putObj Wl.heap.size (.deferred none)) from
        ⟨A', c', by rw [HFL.out, ← hL, ← hml], by
          rw [HFL.out, ← hL, ← hml]
          exact own_leF (own_sameX hrow (fun q hq => World.putObj_heap_other (fun e => hnD (e ▸ (hS q).2 (.inr (by rw [← blk_slice]; exact hq)))))) (by omega)⟩)
      have HBL := Lib.hid (show Below w.heap.size w (Wd.putObj Wl.heap.size (.deferred none)) from
        ⟨hm.os.trans HBW.out.os, hm.tape.trans HBW.out.tape, hm.output.trans HBW.out.output, by have := hm.size; have := HBW.out.size; simp; omega,
          fun b hb => ((World.putObj_heap_other (by omega)).trans (hm.block b (by omega) (by intro h; omega))).trans (HBW.out.block b hb)⟩)
      clear hm hS hrow hL hml hno hlow
      gi_wp2
      refine ⟨by simp, .inl ⟨_, _, rfl, run_takeDeferred hD, ?_⟩⟩
      refine ⟨.slice A' m c', by simp [results, Try.results10, go_sem], ?_⟩
      exact ⟨_, rfl, HOW.out, HBL.out⟩
    case stop =>
      rintro c pre S' Wd hm hpre h
      exact h.elim
  gi_region_with (first
    | (refine ⟨trivial, ?_⟩; gi_at_call 35; refine (callsIn_wide.2 (HT.out _ (Below.drew HB4.out))).mono ?_; clear HT; rintro e w5 ⟨A5, c5, rfl, ho5⟩; have HO5 := Lib.hid ho5; have HB5 := Lib.hid ((Below.drew HB4.out).trans (ho5.2.mono (show w.heap.size ≤ w4.heap.size from by omega))); have k5 : w5.cell? ⟨w.heap.size, 0, none⟩ = some (.slice A1 n1 c1) := (ho5.2.cell (p := ⟨w.heap.size, 0, none⟩) (Nat.lt_of_succ_lt hs4)).trans k4; clear ho5)
    | (refine ⟨trivial, ?_⟩; gi_at_call 35; refine (callsIn_wide.2 (HF.out _ HB5.out)).mono ?_; clear HF; rintro e w6 ⟨A6, c6, rfl, ho6⟩; have HO6 := Lib.hid ho6; clear ho6)
    | (refine ⟨trivial, ?_⟩; gi_at_call 34; refine (callsIn_wide.2 (merged_any _ _ _ _ _ _ _)).mono ?_; rintro e w7 ⟨rfl, rfl⟩))
  all_goals exact ⟨_, _, _, _, _, _, HO5.out, HO6.out, rfl, rfl⟩
end Go.Proofs.Ytcaekjbalkbliaa
