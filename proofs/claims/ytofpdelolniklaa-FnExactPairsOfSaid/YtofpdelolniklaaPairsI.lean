/- The contract of PairsOf of the program (chapter 4), at valid levels. Conditions: the levels lie in rows. -/
import Derived.Test.YtofpdelolniklaaColl
import Derived.Test.YtofpdelolniklaaExPair
import Derived.Test.YtofpdelolniklaaMrgP
import Derived.Test.YtofpdelolniklaaGetLvI
set_option linter.unusedVariables false
set_option linter.unusedSimpArgs false
namespace Go.Proofs.Ytofpdelolniklaa
open Go.RowKit Go.ChangeShapes Go.WideShapes
attribute [local go_sem] Oper.semAt_some

theorem SlI.mono {w : World} {B B' n c : Nat} {A : Option Addr} {l : List It} (h : SlI w B A n c l) (hB : B ≤ B') : SlI w B' A n c l := ⟨h.1, h.2.1, h.2.2.1, h.2.2.2.mono hB⟩
/-- levels in rows, with what their headers hold -/
def LvC (w : World) (B : Nat) (A : Option Addr) (L : List (List It)) : Prop :=
  ∃ hs : List Hd, hs.length = L.length ∧ RowAt w B A (hdsC hs) ∧ ∀ (i : Nat) (h1 : i < hs.length) (h2 : i < L.length), (hs[i].1 = none → hs[i].2.2 = 0) ∧ SlI w B hs[i].1 hs[i].2.1 hs[i].2.2 L[i]
section
variable {w w' : World} {B B' : Nat} {A : Option Addr} {L : List (List It)} {k : Nat}
theorem LvC.lv (h : LvC w B A L) : LvAt w B A L := by
  obtain ⟨hs, h1, h2, h3⟩ := h
  exact ⟨hs, h1, h2, fun i a b => ⟨(h3 i a b).2.1, (h3 i a b).1, (h3 i a b).2.2.2.2⟩⟩
theorem LvC.below (h : LvC w B A L) (hb : Below B w w') : LvC w' B A L := by
  obtain ⟨hs, h1, h2, h3⟩ := h
  exact ⟨hs, h1, h2.below hb, fun i a b => ⟨(h3 i a b).1, (h3 i a b).2.below hb⟩⟩
theorem LvC.mono (h : LvC w B A L) (hB : B ≤ B') : LvC w B' A L := by
  obtain ⟨hs, h1, h2, h3⟩ := h
  exact ⟨hs, h1, h2.mono hB, fun i a b => ⟨(h3 i a b).1, (h3 i a b).2.mono hB⟩⟩
theorem LvC.at_ (h : LvC w B A L) (hk : k < L.length) : ∃ b off A' c', A = some ⟨b, off, none⟩ ∧ b < B ∧ w.cell? ⟨b, off + k, none⟩ = some (.slice A' L[k].length c') ∧ SlI w B A' L[k].length c' L[k] := by
  obtain ⟨hs, h1, h2, h3⟩ := h
  have hkh : k < hs.length := by omega
  obtain ⟨b, off, rfl, hb, hc⟩ := h2 (by intro h0; have := hdsC_len hs; rw [h0] at this; simp at this; omega)
  have h4 := hc k _ (hdsC_at hkh)
  obtain ⟨h5, h6⟩ := h3 k hkh hk
  have h7 := h6.1
  rw [h7] at h4 h6
  exact ⟨b, off, hs[k].1, hs[k].2.2, rfl, hb, h4, h6⟩
end
theorem slI_own {w : World} {B n c : Nat} {A : Option Addr} {l : List It} (h : w.ownsRow B 31 3 (.slice A n c) n (itsC l)) (hn : n = l.length) : SlI w w.heap.size A n c l :=
  ⟨hn, (own_caps h).1, (own_caps h).2, RowAt.of_own h⟩
def prL (l : List It) : List Pr := l.map (fun p => (p.1, p.2.1))
theorem prL_snoc (l : List It) (x : It) : prsC (prL (l ++ [x])) = prsC (prL l) ++ [.string x.1, .string x.2.1] := by
  unfold prL; rw [List.map_append, List.map_cons, List.map_nil, prsC_snoc]; rfl
theorem flat_take {L : List (List It)} {k : Nat} (h : k < L.length) : flatL (L.take (k + 1)) = mergeL (flatL (L.take k)) L[k] := by
  unfold flatL; rw [List.take_succ_eq_append_getElem h, List.foldl_append]; rfl
theorem flat_few {L : List (List It)} (h1 : L.length ≤ 6) (h2 : ∀ r ∈ L, r.length ≤ 40) : ∀ k, k ≤ L.length → (flatL (L.take k)).length ≤ 40 * k
  | 0, _ => by simp [flatL]
  | k + 1, h => by
    have h3 := flat_few h1 h2 k (by omega)
    have h4 := mergeL_len _ (flatL (L.take k)) L[k] (Nat.le_refl _)
    have h5 := h2 _ (List.getElem_mem (show k < L.length by omega))
    rw [flat_take (by omega)]; omega
theorem run_len40 {r : List It} (h : runB r = true) : r.length ≤ 40 := by
  unfold runB at h
  rw [Bool.and_eq_true] at h
  exact of_decide_eq_true h.1
/-- what the loop holds between two rounds: the pairs' box and its row -/
def PairsI (b9 : Nat) (pre : List It) (S : Nat → Prop) (A : World) : Prop :=
  ∃ (A' : Option Addr) (c' : Nat), (∀ b, S b ↔ (b = b9 ∨ blkOf A' = some b)) ∧ A.ownsRow (b9 + 1) 88 2 (.slice A' pre.length c') pre.length (prsC (prL pre)) ∧
    A.cell? ⟨b9, 0, none⟩ = some (.slice A' pre.length c') ∧ A.frozen? ⟨b9, 0, none⟩ = false
theorem PairsI.leaves {b9 : Nat} {pre : List It} {S : Nat → Prop} {A B : World} (h : PairsI b9 pre S A) (hl : Leaves S A B) : PairsI b9 pre S B := by
  obtain ⟨A', c', h1, h2, h3, h4⟩ := h
  have e9 := hl.block b9 ((h1 _).2 (.inl rfl))
  exact ⟨A', c', h1, own_same h2 (fun q hq => hl.block q ((h1 _).2 (.inr (by rw [← blk_slice]; exact hq)))), (cell_same e9).trans h3, (frozen_same e9).trans h4⟩

set_option maxRecDepth 100000 in
set_option maxHeartbeats 16000000 in
theorem iPairs_any (A : Option Addr) (n c : Nat) (L : List (List It)) (w : World) (hr : LvC w w.heap.size A L) (hn : n = L.length) (hs : n ≤ 1048576) (hw : ∀ r ∈ L, r.length ≤ 1048576 ∧ WfIt r) (hv : levB L = true) :
    Calls Try.prog 17 #[.slice A n c] w (PrsPost (pairL (flatL L)) w) := by
  obtain ⟨i0, hi0, hz0, hz1, hz2⟩ := info_parts prInfo
  have HI := Lib.hid (And.intro hi0 (And.intro hz0 (And.intro hz1 hz2))); clear hi0 hz0 hz1 hz2
  have HV := Lib.hid (iLev_any A n c L w hr.lv hn hs hw)
  obtain ⟨hl6, hrun⟩ := levB_run hv
  have hn6 : n ≤ 6 := by omega
  have HRUN := Lib.hid (fun r hr => run_len40 (hrun r hr))
  have HL6 := Lib.hid hl6
  have HR := Lib.hid hr
  have HN := Lib.hid hn
  rw [hv] at HV
  clear hr hn hw hv hl6 hrun
  refine (callsIn_wide (n := 3)).1 ?_
  refine callsIn_of_wp_marks Try.func17 rfl trivial ?_ rfl
  simp only [Try.ntmps17, List.size_toArray, List.length_cons, List.length_nil, Nat.reduceAdd, Nat.reduceSub, Array.replicate_succ, Array.replicate_zero, List.push_toArray, List.append_toArray, List.nil_append, List.cons_append]
  gi_wp2_with fail
  refine ⟨trivial, (callsIn_wide.2 HV.out).mono ?_⟩
  rintro e w2 ⟨rfl, hb2⟩
  have HB0 := Lib.hid hb2; clear hb2
  gi_wp2_with fail
  gi_loopw [3, 13] (fun q i wr => ∃ (k m : Nat) (f : List It) (A' : Option Addr) (c' : Nat), q = .slice A' m c' ∧ i = .int .i64 k ∧ k ≤ n ∧ m = f.length ∧ flatL (L.take k) = f ∧ wr.ownsRow w.heap.size 31 3 (.slice A' m c') m (itsC f) ∧ Below w.heap.size w wr) (fun _ i _ => n - (intOf i).toNat)
  case atStart => exact ⟨0, 0, [], none, 0, rfl, rfl, by omega, rfl, by simp [flatL], World.ownsRow_nil _ _ _ _, HB0.out⟩
  case round =>
    obtain ⟨k, m, f, A', c', rfl, rfl, hk, hm, hf, ho, hb⟩ := hrel
    rename World => wr
    clear HB0
    have HM := Lib.hid hm
    have HF := Lib.hid hf
    have HO := Lib.hid ho
    have HB := Lib.hid hb
    have hm40 : m ≤ 240 := by have h1 := flat_few HL6.out HRUN.out k (by have := HN.out; omega); rw [hf] at h1; omega
    clear hm hf ho hb
    by_cases hlt : k < n
    · have hkl : k < L.length := by have := HN.out; omega
      obtain ⟨b, off, A2, c2, hA, hbw, e0, hrow⟩ := (HR.out.below HB.out).at_ hkl
      subst hA
      have hr40 := HRUN.out L[k] (List.getElem_mem hkl)
      have hbs : b < wr.heap.size := Nat.lt_of_lt_of_le hbw HB.out.size
      have hi1 : (k : Int) < (n : Int) := by omega
      have HS2 := Lib.hid (hrow.mono HB.out.size)
      have HS1 := Lib.hid (slI_own HO.out HM.out)
      have HFT := Lib.hid (show flatL (L.take (k + 1)) = mergeL f L[k] by rw [flat_take hkl, HF.out])
      clear hrow
      generalize hr0 : L[k] = r0 at *
      clear hr0
      obtain ⟨m2, hm2⟩ : ∃ m2, r0.length = m2 := ⟨_, rfl⟩
      rw [hm2] at HS2 hr40 e0
      clear hm2
      gi_wp2_with fail
      refine ⟨trivial, (callsIn_wide.2 (merged_any _ _ _ _ _ _ _)).mono ?_⟩
      rintro e w4 ⟨rfl, rfl⟩
      have hB4 : Below wr.heap.size wr ((wr.alloc (.cells #[.slice A' m c'] 23)).alloc (.cells #[.slice A2 m2 c2] 23)) := ((Below.refl wr.heap.size wr).alloc (Nat.le_refl _) _).alloc (by simp) _
      have HG4 := Lib.hid (merged_gives A' A2 m m2 c' c2 wr.heap.size wr.heap.size (wr.heap.size + 1) f r0 ((wr.alloc (.cells #[.slice A' m c'] 23)).alloc (.cells #[.slice A2 m2 c2] 23)) (HS1.out.below hB4) (HS2.out.below hB4) (by omega) (by omega) (by simp; omega) (by simp) (by simp))
      have HLN := Lib.hid (show (mergeL f r0).length ≤ 1048576 by have h1 := mergeL_len _ f r0 (Nat.le_refl _); have h2 := HM.out; have h3 := HS2.out.1; omega)
      have HC4 := Lib.hid (collect_any 99 #[.pointer (some ⟨wr.heap.size, 0, none⟩), .pointer (some ⟨wr.heap.size + 1, 0, none⟩)] (enters_of Try.func99 (by kernel_rfl) rfl) _ _ _ HG4.out (fun b hb => by have hb2 : b < wr.heap.size ∨ b = wr.heap.size ∨ b = wr.heap.size + 1 := hb; simp; omega) HLN.out)
      have HB4 := Lib.hid hB4
      clear hB4 HG4 HS1 HS2
      gi_wp2_with fail
      refine ⟨trivial, (callsIn_wide.2 HC4.out).mono ?_⟩
      rintro e w5 ⟨v, rfl, ⟨A5, c5, rfl, ho5⟩, hb5⟩
      have HO5 := Lib.hid (own_leL ho5 (Nat.le_trans HB.out.size HB4.out.size))
      have HB5 := Lib.hid (HB.out.trans ((HB4.out.trans (hb5.mono HB4.out.size)).mono HB.out.size))
      clear hb5 ho5 HC4
      gi_wp2_with fail
      go_roundw
      case rel => exact ⟨k + 1, _, mergeL f r0, A5, c5, rfl, by go_num, by omega, rfl, HFT.out, HO5.out, HB5.out⟩
      case measure => simp [intOf]; omega
    · obtain rfl : k = n := by omega
      have HFL := Lib.hid (show flatL L = f by rw [← HF.out, HN.out, List.take_length])
      have HRW := Lib.hid (RowAt.of_own HO.out)
      have HFM := Lib.hid (show f.length ≤ 240 by have := HM.out; omega)
      have HSZ := Lib.hid HB.out.size
      have hm0 : m ≤ 1048576 := by omega
      clear HF hk hlt
      generalize A' = A3 at *
      generalize c' = c3 at *
      gi_wp2_with fail
      refine ⟨trivial, (callsIn_wide.2 (values_any _ _ _ _)).mono ?_⟩
      rintro e w4 ⟨rfl, rfl⟩
      gi_wp2_with fail
      refine ⟨trivial, (callsIn_wide.2 (withoutGone_any _ _ _)).mono ?_⟩
      rintro e w5 ⟨rfl, rfl⟩
      gi_wp2_with fail
      have hz1 : (wr.alloc (.cells #[.slice none 0 0] 34)).heap.size = wr.heap.size + 1 := by simp
      have hz2 : ((wr.alloc (.cells #[.slice none 0 0] 34)).alloc (.cells #[.slice A3 m c3] 23)).heap.size = wr.heap.size + 1 + 1 := by simp
      have hz3 : (((wr.alloc (.cells #[.slice none 0 0] 34)).alloc (.cells #[.slice A3 m c3] 23)).alloc (.cells #[.func (.func 105) #[] #[.pointer (some ⟨wr.heap.size + 1, 0, none⟩)]] 82)).heap.size = wr.heap.size + 1 + 1 + 1 := by simp
      have hB1 : Below wr.heap.size wr (wr.alloc (.cells #[.slice none 0 0] 34)) := (Below.refl _ _).alloc (Nat.le_refl _) _
      have hB2 : Below wr.heap.size wr ((wr.alloc (.cells #[.slice none 0 0] 34)).alloc (.cells #[.slice A3 m c3] 23)) := hB1.alloc (by omega) _
      have hB3 : Below wr.heap.size wr (((wr.alloc (.cells #[.slice none 0 0] 34)).alloc (.cells #[.slice A3 m c3] 23)).alloc (.cells #[.func (.func 105) #[] #[.pointer (some ⟨wr.heap.size + 1, 0, none⟩)]] 82)) := hB2.alloc (by omega) _
      have HG2 := Lib.hid (values_gives A3 m c3 wr.heap.size (wr.heap.size + 1) f ((wr.alloc (.cells #[.slice none 0 0] 34)).alloc (.cells #[.slice A3 m c3] 23)) (HRW.out.below hB2) HM.out hm0 hB2.size (by
        have h := cell_new1 (wr.alloc (.cells #[.slice none 0 0] 34)) (.slice A3 m c3) 23
        rw [hz1] at h; exact h))
      have HG := Lib.hid (withoutGone_gives 105 #[.pointer (some ⟨wr.heap.size + 1, 0, none⟩)] (enters_of Try.func105 (by kernel_rfl) rfl) f (fun b => b < wr.heap.size ∨ b = wr.heap.size + 1) (wr.heap.size + 1 + 1) ((wr.alloc (.cells #[.slice none 0 0] 34)).alloc (.cells #[.slice A3 m c3] 23)) (((wr.alloc (.cells #[.slice none 0 0] 34)).alloc (.cells #[.slice A3 m c3] 23)).alloc (.cells #[.func (.func 105) #[] #[.pointer (some ⟨wr.heap.size + 1, 0, none⟩)]] 82)) HG2.out
        (fun b hb => Below.heap_alloc _ _ b (by have hb2 : b < wr.heap.size ∨ b = wr.heap.size + 1 := hb; omega)) (fun b hb => by have hb2 : b < wr.heap.size ∨ b = wr.heap.size + 1 := hb; omega) (by omega) (by
        have h := cell_new1 ((wr.alloc (.cells #[.slice none 0 0] 34)).alloc (.cells #[.slice A3 m c3] 23)) (.func (.func 105) #[] #[.pointer (some ⟨wr.heap.size + 1, 0, none⟩)]) 82
        rw [hz2] at h; exact h))
      have c9 : (((wr.alloc (.cells #[.slice none 0 0] 34)).alloc (.cells #[.slice A3 m c3] 23)).alloc (.cells #[.func (.func 105) #[] #[.pointer (some ⟨wr.heap.size + 1, 0, none⟩)]] 82)).cell? ⟨wr.heap.size, 0, none⟩ = some (.slice none 0 0) := by
        have h := cell_new1 wr (.slice none 0 0) 34
        exact ((cell_same (Below.heap_alloc _ _ wr.heap.size (by omega))).trans (cell_same (Below.heap_alloc _ _ wr.heap.size (by omega)))).trans h
      have f9 : (((wr.alloc (.cells #[.slice none 0 0] 34)).alloc (.cells #[.slice A3 m c3] 23)).alloc (.cells #[.func (.func 105) #[] #[.pointer (some ⟨wr.heap.size + 1, 0, none⟩)]] 82)).frozen? ⟨wr.heap.size, 0, none⟩ = false := by
        have h := frozen_new1 wr (.slice none 0 0) 34
        exact ((frozen_same (Below.heap_alloc _ _ wr.heap.size (by omega))).trans (frozen_same (Below.heap_alloc _ _ wr.heap.size (by omega)))).trans h
      have HL := Lib.hid (HB.out.trans (hB3.mono HB.out.size))
      have hRs : ∀ b, (fun b => (b < wr.heap.size ∨ b = wr.heap.size + 1) ∨ b = wr.heap.size + 1 + 1) b → b < (((wr.alloc (.cells #[.slice none 0 0] 34)).alloc (.cells #[.slice A3 m c3] 23)).alloc (.cells #[.func (.func 105) #[] #[.pointer (some ⟨wr.heap.size + 1, 0, none⟩)]] 82)).heap.size := fun b hb => by have hb2 : (b < wr.heap.size ∨ b = wr.heap.size + 1) ∨ b = wr.heap.size + 1 + 1 := hb; omega
      clear hB1 hB2 hB3 HG2 hz1 hz2 HB HR HRUN HRW HO HM
      have hwz := HSZ.out
      generalize (((wr.alloc (.cells #[.slice none 0 0] 34)).alloc (.cells #[.slice A3 m c3] 23)).alloc (.cells #[.func (.func 105) #[] #[.pointer (some ⟨wr.heap.size + 1, 0, none⟩)]] 82)) = Wl at *
      refine wp_range (xs := heldL f) (R := (fun b => (b < wr.heap.size ∨ b = wr.heap.size + 1) ∨ b = wr.heap.size + 1 + 1)) (w0 := Wl) rfl (enters_of Try.func101 (by kernel_rfl) rfl) HG.out (fun b _ => rfl) (by omega) hRs (fun _ => rfl) (PairsI wr.heap.size) (fun _ _ _ _ => False)
        (fun pre S A B h hl => h.leaves hl) (fun c pre S A B h hl => h) (fun b => b = wr.heap.size) ?hS0 ?h0
        (fun x B a₁ Wx => ∃ b3, B ≤ b3 ∧ Wx.cell? ⟨b3, 0, none⟩ = some (.string x.1) ∧ Wx.cell? ⟨b3, 1, none⟩ = some (.string x.2.1) ∧ Wx.cell? ⟨b3, 2, none⟩ = some (.bool x.2.2) ∧ a₁ = { tmps := #[.slice A k c, undef, .slice none 0 0, .slice A3 m c3, undef, u5, .pointer (some ⟨wr.heap.size, 0, none⟩), .pointer (some ⟨b3, 0, none⟩), .slice A k c, .bool true, .bool false, .slice A k c, .int .i64 k, .int .i64 k, .bool false, u15, u16, u17, u18, u19, u20, u21, .slice A3 m c3, .func (.func 105) #[] #[.pointer (some ⟨wr.heap.size + 1, 0, none⟩)], .func (.func 101) #[] #[.pointer (some ⟨wr.heap.size + 1 + 1, 0, none⟩)], .agg #[.string x.1, .string x.2.1, .bool x.2.2], undef, undef, undef, undef, undef, undef, undef, undef, undef], defers := [] })
        ?hAx ?assign ?body ?done ?stop
      case hS0 =>
        rintro b rfl
        exact ⟨by omega, fun h => by have h2 : (wr.heap.size < wr.heap.size ∨ wr.heap.size = wr.heap.size + 1) ∨ wr.heap.size = wr.heap.size + 1 + 1 := h; omega⟩
      case h0 => exact ⟨none, 0, fun b => by simp [blkOf], World.ownsRow_nil _ _ _ _, c9, f9⟩
      case hAx =>
        rintro x B a₁ A A' ⟨b3, h1, h2, h3, h4, rfl⟩ hb hz
        exact ⟨b3, h1, (cell_same (hb b3 h1)).trans h2, (cell_same (hb b3 h1)).trans h3, (cell_same (hb b3 h1)).trans h4, rfl⟩
      case assign =>
        rintro l1 ⟨x0, x1, x2⟩ Wa K hK
        simp only [itV]
        gi_wp2
        exact hK _ _ ((Below.refl _ Wa).alloc (Nat.le_refl _) _) ⟨Wa.heap.size, Nat.le_refl _, by simp, by simp, by simp, rfl⟩
      case body =>
        rintro l1 pre ⟨x0, x1, x2⟩ S B a₁ Wr hpre ⟨A', c', hS, hrow, h9, g9⟩ hSB hB2 hBW hSx ⟨b3, hb3, d0, d1, d2, rfl⟩
        simp only at d0 d1 d2
        have hlt3 := World.block_lt_of_cell? Wr _ d0
        simp only at hlt3
        have HSS := Lib.hid hS
        have HROW := Lib.hid hrow
        have HSB := Lib.hid hSB
        have hl1 := Lib.hid (show (pre ++ [(x0, x1, x2)]).length = pre.length + 1 by simp)
        have hle40 : pre.length + 1 ≤ 1048576 := by
          have h1 := hpre.length_le
          have h2 : (heldL f).length ≤ f.length := List.length_filter_le _ _
          rw [hl1.out] at h1
          have h3 := HFM.out
          omega
        clear hS hSB hpre hSx hrow
        have HRA := Lib.hid (fun o => (show (Wr.alloc o).ownsRow (wr.heap.size + 1) 88 2 (.slice A' pre.length c') pre.length (prsC (prL pre)) from HROW.out.alloc o))
        have hwr : wr.heap.size + 1 ≤ Wr.heap.size := by omega
        obtain ⟨m1, hm⟩ : ∃ m1, pre.length = m1 := ⟨_, rfl⟩
        have HMM := Lib.hid hm
        rw [hm] at HRA h9 hle40 hl1
        clear hm
        gi_wp2_with (gi_at_builtin; refine wpListIn_append_own_at _ rfl _ _ 34 rfl (wr.heap.size + 1) 88 i0 (.agg #[.string ⟨#[]⟩, .string ⟨#[]⟩]) 2 32 Try.underlying34 HI.out.1 HI.out.2.1 HI.out.2.2.1 HI.out.2.2.2 rfl (by decide) (.slice A' m1 c') m1 (prsC (prL pre)) rfl (HRA.out _) ⟨Wr.heap.size, 0, none⟩ 1 1 [.string x0, .string x1] rfl rfl ?c1 ?c2 ?c3 ?c4 ?c5 ?_)
        try (case c1 => exact fun j u hj => cells_at0 _ _ _ j u hj)
        try (case c2 => first | exact ⟨rfl, rfl⟩ | (intro u hu; simp at hu; rcases hu with rfl | rfl <;> rfl))
        try (case c3 => first | omega | (unfold maxLen; omega))
        try (case c4 => omega)
        try (case c5 => first | omega | (simp; omega))
        intro v' w1 hown' hgrow _ hwh
        obtain ⟨A4, c4, rfl⟩ := own_shape hown'
        have hgb : ∀ b, b < Wr.heap.size → blkOf A' ≠ some b → w1.heap[b]? = Wr.heap[b]? := fun b hb hn => (hgrow.block b (by simp; omega) (by rw [blk_slice]; exact fun e => hn e.symm)).trans (Below.heap_alloc _ _ b hb)
        have hbl : ∀ q, blkOf A' = some q → wr.heap.size + 1 ≤ q := fun q hq => (HROW.out.lt q (by rw [blk_slice]; exact hq)).1
        have hbl4 : ∀ q, blkOf A4 = some q → wr.heap.size + 1 ≤ q ∧ q < w1.heap.size := fun q hq => hown'.lt q (by rw [blk_slice]; exact hq)
        have k9 : w1.heap[wr.heap.size]? = Wr.heap[wr.heap.size]? := hgb _ (by omega) (fun e => by have := hbl _ e; omega)
        have n9 : w1.cell? ⟨wr.heap.size, 0, none⟩ = some (.slice A' m1 c') := (cell_same k9).trans h9
        have nf9 : w1.frozen? ⟨wr.heap.size, 0, none⟩ = false := (frozen_same k9).trans g9
        have hsz1 : Wr.heap.size + 1 ≤ w1.heap.size := by have := hgrow.size; simpa using this
        have ho9 : ∀ q, q ≠ wr.heap.size → (w1.setCell ⟨wr.heap.size, 0, none⟩ (.slice A4 (m1 + 1) c4)).heap[q]? = w1.heap[q]? := fun q hq => Below.heap_setCell w1 _ _ q hq
        have HEND := Lib.hid (show BodyEnd (PairsI wr.heap.size) (fun _ _ _ _ => False) (pre ++ [(x0, x1, x2)]) B S Wr .normal { tmps := #[], defers := [] } (w1.setCell ⟨wr.heap.size, 0, none⟩ (.slice A4 (m1 + 1) c4)) from
          ⟨fun b => b = wr.heap.size ∨ blkOf A4 = some b,
            ⟨hgrow.os, hgrow.tape, hgrow.output, by simp; omega, fun b hb hs => (ho9 b (fun e => hs ((HSS.out b).2 (.inl e)))).trans (hgb b (by omega) (fun e => hs ((HSS.out b).2 (.inr e)))),
              fun b hb => by
                rcases hb with rfl | hb
                · exact ⟨.inl ((HSS.out _).2 (.inl rfl)), by simp; omega⟩
                · refine ⟨?_, by have := (hbl4 b hb).2; simpa using this⟩
                  rw [blk_slice, blk_slice] at hwh
                  rcases hwh with h | h
                  · exact .inl ((HSS.out _).2 (.inr (h ▸ hb)))
                  · right
                    rw [hb] at h
                    injection h with h
                    first | omega | (simp at h; omega)⟩,
            A4, c4, fun b => Iff.rfl, by
              rw [hl1.out, prL_snoc]
              exact own_same hown' (fun q hq => ho9 q (fun e => by have := (hbl4 q (by rw [← blk_slice]; exact hq)).1; omega)),
            by rw [hl1.out]; exact World.cell?_setCell_same _ _ _ n9, by rw [World.frozen?_setCell]; exact nf9⟩)
        clear hown' hgrow hwh hgb hbl hbl4 k9 ho9
        gi_wp2
        exact HEND.out
      case done =>
        rintro S' Wd hm ⟨A', c', hS, hrow, h9, g9⟩ hlt hD hnD
        have HLP := Lib.hid (show (heldL f).length = (pairL (flatL L)).length by rw [HFL.out]; unfold pairL; rw [List.length_map])
        have HEP := Lib.hid (show prL (heldL f) = pairL (flatL L) by rw [HFL.out]; rfl)
        have HOW := Lib.hid (show OwnPr w.heap.size (pairL (flatL L)) (.slice A' (heldL f).length c') (Wd.putObj Wl.heap.size (.deferred none)) from
          ⟨A', c', by rw [HLP.out], by
            rw [← HEP.out, show (prL (heldL f)).length = (heldL f).length by unfold prL; rw [List.length_map]]
            exact own_mono (own_same hrow (fun q hq => World.putObj_heap_other (fun e => hnD (e ▸ (hS q).2 (.inr (by rw [← blk_slice]; exact hq)))))) (by omega)⟩)
        have HBL := Lib.hid (show Below w.heap.size w (Wd.putObj Wl.heap.size (.deferred none)) from
          ⟨hm.os.trans HL.out.os, hm.tape.trans HL.out.tape, hm.output.trans HL.out.output, by have := hm.size; have := HL.out.size; simp; omega,
            fun b hb => ((World.putObj_heap_other (by omega)).trans (hm.block b (by omega) (by intro h; omega))).trans (HL.out.block b hb)⟩)
        clear hm hS hrow
        obtain ⟨N, hN⟩ : ∃ N, (heldL f).length = N := ⟨_, rfl⟩
        rw [hN] at h9 HOW
        clear hN HLP hz3
        gi_wp2
        refine ⟨by simp, .inl ⟨_, _, rfl, run_takeDeferred hD, ?_⟩⟩
        refine ⟨.slice A' N c', by simp [results, Try.results17, go_sem], ?_⟩
        exact ⟨_, rfl, HOW.out, HBL.out⟩
      case stop =>
        rintro c pre S' Wd hm hpre h
        exact h.elim
end Go.Proofs.Ytofpdelolniklaa
