/- The walk of the law FnCellsOf. Condition: the code lies in a row. -/
import Derived.Test.YtjnaeefgbekmdaaFnCellP
set_option linter.unusedVariables false
set_option linter.unusedSimpArgs false
namespace Go.Proofs.Ytjnaeefgbekmdaa
open Go.RowKit Go.ChangeShapes Go.WideShapes

def sizesT : List ByteArray → Nat
  | [] => 0
  | t :: ts => t.size + sizesT ts
theorem sizesT_app (a b : List ByteArray) : sizesT (a ++ b) = sizesT a + sizesT b := by
  induction a with
  | nil => simp [sizesT]
  | cons x xs ih => simp only [List.cons_append, sizesT, ih]; omega
theorem sizesT_step {T : List ByteArray} {k : Nat} (h : k < T.length) : sizesT (T.take (k + 1)) = sizesT (T.take k) + T[k].size := by
  rw [List.take_succ_eq_append_getElem h, sizesT_app]; simp [sizesT]
theorem sizes_cells {s : ByteArray} {n : Nat} (hs : s.size = 48) : ∀ (l : List Sl), (∀ p ∈ l, GoodP s n p) → sizesT (cellsP s l) = sumZ l
  | [], _ => rfl
  | p :: ps, h => by
    have ih := sizes_cells hs ps (fun q hq => h q (List.mem_cons_of_mem _ hq))
    have hp := h p List.mem_cons_self
    unfold cellsP at *
    simp only [List.map_cons, sizesT, sumZ, ih]
    rw [cellP_celO, ofL_size]
    unfold celO
    split
    · rename_i h0
      rw [celL_len hs hp h0]
    · simp
theorem sizes_le {T : List ByteArray} {k : Nat} : sizesT (T.take k) ≤ sizesT T := by
  have h := sizesT_app (T.take k) (T.drop k)
  rw [List.take_append_drop] at h
  omega
theorem cells_fill {s : ByteArray} {l : List Sl} (hv : iValid s l = true) : ((sizesT (cellsR s l) : Nat) : Int) + 2 * ((cellsR s l).length : Int) + spaceB s l = 48 ∧ sizesT (cellsR s l) ≤ 48 := by
  have hp := (valid_iff s l).1 hv
  have h1 := sizes_cells hp.size l hp.good
  have h2 := hp.sum (48 - 2 * (l.length : Int))
  have h3 := hp.sumLe
  unfold cellsR spaceB
  rw [if_pos hv, if_pos hv, h1]
  unfold spareP
  rw [h2]
  have : (cellsP s l).length = l.length := by simp [cellsP]
  rw [this]
  omega

set_option maxRecDepth 100000 in
set_option maxHeartbeats 4000000 in
theorem walk_FnCellsOf (A : Option Addr) (n c : Nat) (w : World) (h : BytesIn w A n c) :
    Calls Try.prog 7 #[.slice A n c] w fun e w' => e = .returned (.bool true) ∧ Below w.heap.size w w' := by
  have HD := Lib.hid (drawCellsOf_any A n c w h)
  obtain ⟨hc, hm, _⟩ := h
  unfold maxLen at hm
  by_cases hb : n ≤ 1048576
  · go_enter Try.func7, Try.ntmps7
    go_wp2_with fail
    refine (HD.out).mono ?_
    rintro e w1 ⟨v, rfl, s, l, m, A1, c1, rfl, hml, hm24, hs, hwf, ho, hb1⟩
    have HB1 := Lib.hid hb1
    have HX := Lib.hid (PBox.new w1 s A1 m c1)
    have hp : PageAt w1 s A1 m l := ⟨hml, RowAt.of_own ho, hwf, by omega, by omega⟩
    have hA1 := own_none ho
    have HA := Lib.hid ((Below.refl w1.heap.size w1).alloc (Nat.le_refl _) (.cells #[.string s, .slice A1 m c1] 25))
    have HI := Lib.hid (fun W (hb : Below w1.heap.size w1 W) => iCells_any s A1 m c1 l W (hp.below hb))
    have HS := Lib.hid (fun W (hb : Below w1.heap.size w1 W) => sCells_any s A1 m c1 l W (hp.below hb))
    have HV := Lib.hid (fun W (hb : Below w1.heap.size w1 W) => iValid_any s A1 m c1 l W (hp.below hb))
    have HSP := Lib.hid (fun W (hb : Below w1.heap.size w1 W) => iSpace_any s A1 m c1 l W (hp.below hb))
    have HF := Lib.hid (@cells_fill s l)
    have hT : (cellsR s l).length ≤ 24 := Nat.le_trans (cellsR_len s l) (by omega)
    generalize cellsR s l = T at *
    generalize spaceA s l = x at *
    generalize spaceB s l = y at *
    obtain ⟨kT, hkT⟩ : ∃ kT, T.length = kT := ⟨_, rfl⟩
    have HKT := Lib.hid hkT.symm
    rw [hkT] at hT HF
    generalize iValid s l = B at *
    clear hml hwf ho hb1 hp hA1 hkT
    go_wp2_with fail
    refine (HI.out _ HA.out).mono ?_
    rintro e w2 ⟨v2, rfl, ⟨A2, c2, rfl, ho2⟩, hb2⟩
    rw [← HKT.out] at ho2 ⊢
    have HO2 := Lib.hid ho2
    have HX2 := Lib.hid (HX.out.next hb2)
    have HA2 := Lib.hid (HA.out.trans (hb2.mono HA.out.size)); clear hb2 ho2
    have a0 := HX2.out.f0; have a1 := HX2.out.f1; have hla := HX2.out.lt
    go_wp2_with fail
    refine (HS.out _ HA2.out).mono ?_
    rintro e w3 ⟨v3, rfl, ⟨A3, c3, rfl, ho3⟩, hb3⟩
    rw [← HKT.out] at ho3 ⊢
    have HO3 := Lib.hid (ownsRow.next HO2.out hb3)
    have HE3 := Lib.hid (equalTexts_same A2 A3 kT c2 c3 T w3 (RowAt.of_own HO3.out) (RowAt.of_own ho3) HKT.out (by omega))
    have HX3 := Lib.hid (HX2.out.next hb3)
    have HA3 := Lib.hid (HA2.out.trans (hb3.mono HA2.out.size)); clear hb3 ho3 a0 a1 hla
    go_wp2_with fail
    refine (HE3.out).mono ?_
    rintro e w4 ⟨rfl, hb4⟩
    have HO4 := Lib.hid (ownsRow.next HO3.out hb4)
    have HX4 := Lib.hid (HX3.out.next hb4)
    have HA4 := Lib.hid (HA3.out.trans (hb4.mono HA3.out.size)); clear hb4
    have a0 := HX4.out.f0; have a1 := HX4.out.f1; have hla := HX4.out.lt
    go_wp2_with fail
    refine (HV.out _ HA4.out).mono ?_
    rintro e w5 ⟨rfl, hb5⟩
    have HO5 := Lib.hid (ownsRow.next HO4.out hb5)
    have HX5 := Lib.hid (HX4.out.next hb5)
    have HA5 := Lib.hid (HA4.out.trans (hb5.mono HA4.out.size)); clear hb5 a0 a1 hla
    have a0 := HX5.out.f0; have a1 := HX5.out.f1; have hla := HX5.out.lt
    cases B
    · go_wp2_with fail
      refine (HS.out _ HA5.out).mono ?_
      rintro e w6 ⟨v6, rfl, ⟨A6, c6, rfl, ho6⟩, hb6⟩
      rw [← HKT.out] at ho6 ⊢
      have HO6 := Lib.hid (ownsRow.next HO5.out hb6)
      have HE6 := Lib.hid (equalTexts_same A2 A6 kT c2 c6 T w6 (RowAt.of_own HO6.out) (RowAt.of_own ho6) HKT.out (by omega))
      have HA6 := Lib.hid (HA5.out.trans (hb6.mono HA5.out.size)); clear hb6 ho6
      go_wp2_with fail
      refine (HE6.out).mono ?_
      rintro e w7 ⟨rfl, hb7⟩
      have HA7 := Lib.hid (HA6.out.trans (hb7.mono HA6.out.size)); clear hb7
      go_wp2_with fail
      go_ret
      exact ⟨rfl, HB1.out.trans (HA7.out.mono HB1.out.size)⟩
    · obtain ⟨hf1, hf2⟩ := HF.out rfl
      clear HF
      go_wp2_with fail
      go_loop [5, 6] (fun nn i => ∃ k : Nat, k ≤ kT ∧ i = .int .i64 k ∧ nn = .int .i64 (((sizesT (T.take k) : Nat) : Int) + 2 * (k : Int))) (fun nn i => kT - (intOf i).toNat)
      case atStart => exact ⟨0, Nat.zero_le _, rfl, by simp [sizesT]⟩
      case round =>
        obtain ⟨k, hk, rfl, rfl⟩ := hrel
        by_cases hlt : k < kT
        · have hk1 : k < T.length := by have := HKT.out; omega
          obtain ⟨b, off, rfl, hbw, e0⟩ := textsP_at (RowAt.of_own HO5.out) hk1
          have HST := Lib.hid (sizesT_step hk1)
          have h48 : sizesT (T.take (k + 1)) ≤ 48 := Nat.le_trans sizes_le hf2
          rw [HST.out] at h48
          generalize T[k] = t at *
          generalize sizesT (T.take k) = z at *
          go_wp2_with fail
          go_round
          case rel => exact ⟨k + 1, by omega, by go_num, by rw [HST.out]; go_num⟩
          case measure => simp [intOf]; omega
        · obtain rfl : k = kT := by omega
          have HE := Lib.hid (show T.take k = T from List.take_of_length_le (by have := HKT.out; omega))
          rw [HE.out]
          have hf3 : (((sizesT T : Nat) : Int) + 2 * (k : Int)) + y = 48 := hf1
          generalize sizesT T = z at *
          go_wp2_with fail
          refine (HSP.out _ HA5.out).mono ?_
          rintro e w6 ⟨rfl, hb6⟩
          have HA6 := Lib.hid (HA5.out.trans (hb6.mono HA5.out.size)); clear hb6
          go_wp2_with fail
          go_ret
          exact ⟨ret_bool (by first | (simp; done) | (simp; omega)), HB1.out.trans (HA6.out.mono HB1.out.size)⟩
  · go_enter Try.func7, Try.ntmps7
    go_wp2
    go_ret
    exact ⟨rfl, Below.refl _ _⟩
end Go.Proofs.Ytjnaeefgbekmdaa
