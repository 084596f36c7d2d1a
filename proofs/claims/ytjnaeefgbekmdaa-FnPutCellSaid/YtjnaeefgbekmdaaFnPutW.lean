/- The walk of the law FnPutCell. Condition: the code lies in a row. -/
import Derived.Test.YtjnaeefgbekmdaaPutF
import Derived.Test.YtjnaeefgbekmdaaEqPg
import Derived.Test.YtjnaeefgbekmdaaFnPgD
import Derived.Test.YtjnaeefgbekmdaaPutS
set_option linter.unusedVariables false
set_option linter.unusedSimpArgs false
namespace Go.Proofs.Ytjnaeefgbekmdaa
open Go.RowKit Go.ChangeShapes Go.WideShapes

theorem Pg3Post.got {r : ((ByteArray × List Sl) × Int) × Bool} {w w' : World} {e : Ending} {S : ByteArray} {L : List Sl} {av : Int} {ok : Bool} (ho : r = (((S, L), av), ok)) (hp : Pg3Post r w e w') :
    ∃ A c, e = .returned (.tuple #[.agg #[.string S, .slice A L.length c], .int .i64 av, .bool ok]) ∧ w'.ownsRow w.heap.size 73 2 (.slice A L.length c) L.length (slC L) ∧ Below w.heap.size w w' := by
  subst ho
  obtain ⟨v, rfl, ⟨A, c, rfl, h⟩, hb⟩ := hp
  exact ⟨A, c, rfl, h, hb⟩
theorem putR_few {s S : ByteArray} {l L : List Sl} {c : ByteArray} {av : Int} {ok : Bool} (h : putR s l c = (((S, L), av), ok)) : L.length ≤ 24 := by
  have h1 : (putR s l c).1.1.2.length ≤ 24 := by
    unfold putR putOne
    split
    · split
      · rename_i h2
        obtain ⟨a, ha⟩ := putOk h2
        have := ha.n
        have := ha.end_
        simp only [putL_len]; omega
      · split
        · rename_i h2
          obtain ⟨a, ha⟩ := putOk h2
          have := ha.n
          have := ha.end_
          simp only [putL_len]; omega
        · simp
    · simp
  rw [h] at h1
  exact h1
theorem PBox.keep {b B : Nat} {s : ByteArray} {A : Option Addr} {m c : Nat} {W W' : World} (h : PBox b s A m c W) (hb : Below B W W') (hB : b < B) : PBox b s A m c W' :=
  ⟨(hb.cell (p := ⟨b, 0, none⟩) hB).trans h.f0, (hb.cell (p := ⟨b, 1, none⟩) hB).trans h.f1, Nat.lt_of_lt_of_le h.lt hb.size⟩
theorem below_grown {B : Nat} {W W' : World} {g : Nat} (hg : W.grownBy W' (some g)) (hB : B ≤ g) (hs : B ≤ W.heap.size) : Below B W W' := below_of_grown hg hB hs
theorem own_below {W W' : World} {B B' n c : Nat} {A : Option Addr} {e : TypeId} {z : Nat} {xs : List Value} (h : W.ownsRow B' e z (.slice A n c) n xs) (hb : Below B W W') (hq : ∀ q, (Value.slice A n c).ownBlock = some q → q < B) : W'.ownsRow B' e z (.slice A n c) n xs := by
  refine ⟨h.1, ?_⟩
  rcases h.2 with h1 | ⟨g, cap, cur, hv, hg, hh, r⟩
  · exact .inl h1
  · exact .inr ⟨g, cap, cur, hv, hg, (hb.block g (hq g (by rw [hv]; rfl))).trans hh, r⟩
theorem noT_yes {t : ByteArray} (h : t.toList = []) : noT t = true := by unfold noT; rw [size_of_nil h]; rfl
theorem noT_no {t : ByteArray} (h : ¬ t.toList = []) : noT t = false := by have := size_pos h; exact decide_eq_false (by omega)
theorem own_text {W : World} {B n : Nat} {v : Value} {T : List ByteArray} (h : W.ownsRow B 9 1 v n (strC T)) (hn : 0 < n) : ∃ g c, v = .slice (some ⟨g, 0, none⟩) n c ∧ B ≤ g ∧ g < W.heap.size := by
  rcases h.2 with ⟨_, h2⟩ | ⟨g, cap, cur, hv, hg, hh, _⟩
  · omega
  · exact ⟨g, cap, hv, hg, (Array.getElem?_eq_some_iff.1 hh).1⟩
theorem strC_set (T : List ByteArray) (f : Nat) (t : ByteArray) : (strC T).set f (.string t) = strC (T.set f t) := by unfold strC; rw [List.map_set]
theorem spaceB_bd (s : ByteArray) (l : List Sl) : -1 ≤ spaceB s l ∧ spaceB s l ≤ 48 := by
  unfold spaceB
  cases hv : iValid s l
  · simp
  · have := ((valid_iff s l).1 hv).room_bd
    simp only [if_true]; omega

set_option maxRecDepth 100000 in
set_option maxHeartbeats 1000000 in
theorem drawPutCell_any (A : Option Addr) (n c : Nat) (w : World) (h : BytesIn w A n c) :
    Calls Try.prog 25 #[.slice A n c] w fun e w' => ∃ v cell, e = .returned (.tuple #[v, .string cell]) ∧ cell.size ≤ 64 ∧ PageGot w v w' := by
  have HB0 := Lib.hid ((Below.refl w.heap.size w).alloc (Nat.le_refl _) (.cells #[.string ⟨#[]⟩, .slice none 0 0] 25))
  have h2 : BytesIn (w.alloc (.cells #[.string ⟨#[]⟩, .slice none 0 0] 25)) A n c := ⟨h.1, h.2.1, by
    have h3 := h.2.2.keep (w' := w.alloc (.cells #[.string ⟨#[]⟩, .slice none 0 0] 25)) (fun k hk => heap_alloc_old w _ hk)
    intro h0
    obtain ⟨b, off, e, hb, hc⟩ := h3 h0
    exact ⟨b, off, e, by simp; omega, hc⟩⟩
  have HP := Lib.hid (newReader_any A n c _ h2); clear h h2
  go_enter Try.func25, Try.ntmps25
  go_wp2_with fail
  refine (HP.out).mono ?_
  rintro e w1 ⟨rfl, hr1, hb1⟩
  have z0 : w1.cell? ⟨w.heap.size, 0, none⟩ = some (.string ⟨#[]⟩) := (hb1.cell (p := ⟨w.heap.size, 0, none⟩) (by simp)).trans (by simp)
  have z1 : w1.cell? ⟨w.heap.size, 1, none⟩ = some (.slice none 0 0) := (hb1.cell (p := ⟨w.heap.size, 1, none⟩) (by simp)).trans (by simp)
  have y0 : w1.frozen? ⟨w.heap.size, 0, none⟩ = false := (hb1.frozen (p := ⟨w.heap.size, 0, none⟩) (by simp)).trans (by simp [go_sem])
  have y1 : w1.frozen? ⟨w.heap.size, 1, none⟩ = false := (hb1.frozen (p := ⟨w.heap.size, 1, none⟩) (by simp)).trans (by simp [go_sem])
  simp only [World.size_alloc] at hr1
  have hs1 : w.heap.size + 1 ≤ w1.heap.size := by have := hb1.size; simpa using this
  have hr1lt := hr1.lt
  have HB1 := Lib.hid (HB0.out.trans (hb1.mono HB0.out.size)); clear hb1
  have HS := Lib.hid (somePage_any (w.heap.size + 1) 0 w1 hr1 (by omega)); clear hr1
  go_wp2_with fail
  refine (HS.out).mono ?_
  rintro e w2 ⟨s, l, m, A2, c2, rfl, hm, hm24, hsz, hwf, ho, hr, hg⟩
  have HM := Lib.hid hm
  have HWF := Lib.hid hwf
  have HC := Lib.hid (someCell_any (w.heap.size + 1) (0 + 100) w2 hr (by omega))
  have HG2 := Lib.hid hg
  have HO2 := Lib.hid ho
  clear hm ho hr hg hwf
  go_wp2_with fail
  refine (HC.out).mono ?_
  rintro e w3 ⟨cell, rfl, hcl, hr3, hg3⟩
  have HG := Lib.hid (HG2.out.trans' hg3)
  have HO := Lib.hid (HO2.out.kept hg3 (by
    rw [block_sliceD]
    cases hq : blockOfP A2 with
    | none => exact .inl rfl
    | some q => exact .inr (fun e => by injection e with e; have := (HO2.out.lt q (by rw [block_sliceD]; exact hq)).1; omega)))
  have x0 : w3.cell? ⟨w.heap.size, 0, none⟩ = some (.string ⟨#[]⟩) := HG.out.cell z0 (fun e => by injection e with e; simp at e)
  have x1 : w3.cell? ⟨w.heap.size, 1, none⟩ = some (.slice none 0 0) := HG.out.cell z1 (fun e => by injection e with e; simp at e)
  have q0 : w3.frozen? ⟨w.heap.size, 0, none⟩ = false := (World.frozen?_of_block (HG.out.block w.heap.size (by omega) (fun e => by injection e with e; simp at e))).trans y0
  have q1 : w3.frozen? ⟨w.heap.size, 1, none⟩ = false := (World.frozen?_of_block (HG.out.block w.heap.size (by omega) (fun e => by injection e with e; simp at e))).trans y1
  clear hr3 hg3 z0 z1 y0 y1
  go_wp2_with fail
  refine bodyPost_ret (v := .tuple #[.agg #[.string s, .slice A2 m c2], .string cell]) (by simp [results, Try.results25, go_sem, x0, x1]) rfl ?_
  refine ⟨_, cell, rfl, hcl, s, l, m, A2, c2, rfl, HM.out, hm24, hsz, HWF.out, own_mono (ownsRow_setCell_below (a := ⟨w.heap.size, 1, none⟩) (ownsRow_setCell_below (a := ⟨w.heap.size, 0, none⟩) HO.out (by show w.heap.size < w1.heap.size; omega) _) (by show w.heap.size < w1.heap.size; omega) _) (by omega), ?_⟩
  exact ((below_of_grown2 HB1.out HG.out (by omega)).setCell (by simp) _).setCell (by simp) _

set_option maxRecDepth 100000 in
set_option maxHeartbeats 8000000 in
theorem walk_FnPutCell (A : Option Addr) (n c : Nat) (w : World) (h : BytesIn w A n c) :
    Calls Try.prog 5 #[.slice A n c] w fun e w' => e = .returned (.bool true) ∧ Below w.heap.size w w' := by
  have HD := Lib.hid (drawPutCell_any A n c w h)
  obtain ⟨hc, hm, _⟩ := h
  unfold maxLen at hm
  by_cases hb : n ≤ 1048576
  · go_enter Try.func5, Try.ntmps5
    go_wp2_with fail
    refine (HD.out).mono ?_
    rintro e w1 ⟨v, cell, rfl, hcl, s, l, m, A1, c1, rfl, hml, hm24, hs, hwf, ho, hb1⟩
    have HB1 := Lib.hid hb1
    have HX := Lib.hid (PBox.new w1 s A1 m c1)
    have hp : PageAt w1 s A1 m l := ⟨hml, RowAt.of_own ho, hwf, by omega, by omega⟩
    have hA1 := own_none ho
    have HA := Lib.hid ((Below.refl w1.heap.size w1).alloc (Nat.le_refl _) (.cells #[.string s, .slice A1 m c1] 25))
    have hcm : cell.size ≤ maxLen := by unfold maxLen; omega
    have HI := Lib.hid (fun W (hb : Below w1.heap.size w1 W) => iPut_any s A1 m c1 l cell W (hp.below hb) hA1 hcm)
    have HS := Lib.hid (fun W (hb : Below w1.heap.size w1 W) => sPut_any s A1 m c1 l cell W (hp.below hb) hA1 hcm)
    have HV := Lib.hid (fun W (hb : Below w1.heap.size w1 W) => iValid_any s A1 m c1 l W (hp.below hb))
    have HCP := Lib.hid (fun W (hb : Below w1.heap.size w1 W) => iCells_any s A1 m c1 l W (hp.below hb))
    have HSP := Lib.hid (fun W (hb : Below w1.heap.size w1 W) => iSpace_any s A1 m c1 l W (hp.below hb))
    obtain ⟨S, L, av, ok, hr⟩ : ∃ S L av ok, putR s l cell = (((S, L), av), ok) := ⟨_, _, _, _, rfl⟩
    have HR := Lib.hid hr
    have hL := putR_few hr
    obtain ⟨mL, hmL⟩ : ∃ mL, L.length = mL := ⟨_, rfl⟩
    have HML := Lib.hid hmL.symm
    rw [hmL] at hL
    clear hml hwf ho hb1 hp hr hmL hA1
    have qi : (av == av) = true := by simp
    have qj : (av != av) = false := by simp
    have qo : (ok == ok) = true := by simp
    have qp : (ok != ok) = false := by simp
    go_wp2_with fail
    refine (HI.out _ HA.out).mono ?_
    intro e w2 hp2
    obtain ⟨A2, c2, rfl, ho2, hb2⟩ := Pg3Post.got HR.out hp2
    rw [← HML.out] at ho2 ⊢
    have HX2 := Lib.hid (HX.out.next hb2)
    have HO2 := Lib.hid ho2
    have HA2 := Lib.hid (HA.out.trans (hb2.mono HA.out.size))
    have HB2 := Lib.hid (HA2.out.alloc HA2.out.size (.cells #[.string S, .slice A2 mL c2] 25))
    clear hb2 ho2 hp2
    have a0 := HX2.out.f0; have a1 := HX2.out.f1; have hla := HX2.out.lt
    go_wp2_with fail
    refine (HS.out _ HB2.out).mono ?_
    intro e w3 hp3
    obtain ⟨A3, c3, rfl, ho3, hb3⟩ := Pg3Post.got HR.out hp3
    rw [← HML.out] at ho3 ⊢
    have HX3 := Lib.hid ((HX2.out.alloc (.cells #[.string S, .slice A2 mL c2] 25)).next hb3)
    have HY3 := Lib.hid ((PBox.new w2 S A2 mL c2).next hb3)
    have HO3 := Lib.hid (ownsRow.next (HO2.out.alloc (.cells #[.string S, .slice A2 mL c2] 25)) hb3)
    have HW3 := Lib.hid ho3
    have HA3 := Lib.hid (HB2.out.trans (hb3.mono HB2.out.size))
    have HB3 := Lib.hid (HA3.out.alloc HA3.out.size (.cells #[.string S, .slice A3 mL c3] 25))
    have HE3 := Lib.hid (equalPage_same S A2 A3 mL c2 c3 L (w3.alloc (.cells #[.string S, .slice A3 mL c3] 25)) (RowAt.of_own (HO3.out.alloc _)) (RowAt.of_own (HW3.out.alloc _)) HML.out (by omega))
    clear hb3 ho3 hp3 a0 a1 hla
    have a0 := HX3.out.f0; have a1 := HX3.out.f1; have hla := HX3.out.lt
    have b0 := HY3.out.f0; have b1 := HY3.out.f1; have hlb := HY3.out.lt
    go_wp2_with fail
    refine (HE3.out).mono ?_
    rintro e w4 ⟨rfl, hb4⟩
    have HX4 := Lib.hid ((HX3.out.alloc (.cells #[.string S, .slice A3 mL c3] 25)).next hb4)
    have HY4 := Lib.hid ((HY3.out.alloc (.cells #[.string S, .slice A3 mL c3] 25)).next hb4)
    have HZ4 := Lib.hid ((PBox.new w3 S A3 mL c3).next hb4)
    have HO4 := Lib.hid (ownsRow.next (HO3.out.alloc (.cells #[.string S, .slice A3 mL c3] 25)) hb4)
    have HW4 := Lib.hid (ownsRow.next (HW3.out.alloc (.cells #[.string S, .slice A3 mL c3] 25)) hb4)
    have HA4 := Lib.hid (HB3.out.trans (hb4.mono HB3.out.size))
    clear hb4 a0 a1 hla b0 b1 hlb
    have a0 := HX4.out.f0; have a1 := HX4.out.f1; have hla := HX4.out.lt
    have b0 := HY4.out.f0; have b1 := HY4.out.f1; have hlb := HY4.out.lt
    have c0 := HZ4.out.f0; have c1' := HZ4.out.f1; have hlc := HZ4.out.lt
    go_wp2_with fail
    refine (HV.out _ HA4.out).mono ?_
    rintro e w5 ⟨rfl, hb5⟩
    have HX5 := Lib.hid (HX4.out.next hb5)
    have HY5 := Lib.hid (HY4.out.next hb5)
    have HZ5 := Lib.hid (HZ4.out.next hb5)
    have HO5 := Lib.hid (ownsRow.next HO4.out hb5)
    have HW5 := Lib.hid (ownsRow.next HW4.out hb5)
    have HA5 := Lib.hid (HA4.out.trans (hb5.mono HA4.out.size))
    clear hb5 a0 a1 hla b0 b1 hlb c0 c1' hlc
    cases hv : iValid s l
    · have HE5 := Lib.hid (equalPage_same S A2 A3 mL c2 c3 L w5 (RowAt.of_own HO5.out) (RowAt.of_own HW5.out) HML.out (by omega))
      clear hv
      have a0 := HX5.out.f0; have a1 := HX5.out.f1; have hla := HX5.out.lt
      have b0 := HY5.out.f0; have b1 := HY5.out.f1; have hlb := HY5.out.lt
      have c0 := HZ5.out.f0; have c1' := HZ5.out.f1; have hlc := HZ5.out.lt
      go_wp2_with fail
      refine (HE5.out).mono ?_
      rintro e w6 ⟨rfl, hb6⟩
      have HA6 := Lib.hid (HA5.out.trans (hb6.mono HA5.out.size)); clear hb6
      go_wp2_with fail
      go_ret
      exact ⟨rfl, HB1.out.trans (HA6.out.mono HB1.out.size)⟩
    · have HC1 := Lib.hid (fun e : ok = true => (put_facts hv (by rw [← e]; exact HR.out)).cells)
      have HC2 := Lib.hid (fun e : ok = true => (put_facts hv (by rw [← e]; exact HR.out)).spare)
      have HC3 := Lib.hid (fun e : ok = true => And.intro (put_facts hv (by rw [← e]; exact HR.out)).av (And.intro (put_facts hv (by rw [← e]; exact HR.out)).ok (put_facts hv (by rw [← e]; exact HR.out)).pg))
      have HNW := Lib.hid (fun (e : ok = false) S0 L0 a0 fine h0 => put_new (S := S) (L := L) (av := av) (S0 := S0) (L0 := L0) (a0 := a0) (fine := fine) hv (by rw [← e]; exact HR.out) h0)
      obtain ⟨hfi, hfl⟩ := cells_find hv
      have hkl : (cellsR s l).length ≤ 24 := Nat.le_trans (cellsR_len s l) (by have := cellsR_len s l; have := ((valid_iff s l).1 hv).few; omega)
      have hfk : freeIx l ≤ (cellsR s l).length := by rw [hfl]; exact freeIx_le l
      have hybd := spaceB_bd s l
      have hnp : needP l cell = (cell.size : Int) + if freeIx l < (cellsR s l).length then 0 else 2 := by rw [hfl]; rfl
      rw [← hfl] at HC1
      clear hv hfl
      generalize needP l cell = np at *
      generalize cellsR s l = T at *
      generalize spaceA s l = x at *
      generalize spaceB s l = y at *
      generalize freeIx l = f at *
      obtain ⟨kT, hkT⟩ : ∃ kT, T.length = kT := ⟨_, rfl⟩
      have HKT := Lib.hid hkT.symm
      rw [hkT] at hkl hfk hnp HC1
      have HFI := Lib.hid hfi
      have HNP := Lib.hid hnp
      clear hfi hkT hnp
      have a0 := HX5.out.f0; have a1 := HX5.out.f1; have hla := HX5.out.lt
      have b0 := HY5.out.f0; have b1 := HY5.out.f1; have hlb := HY5.out.lt
      have c0 := HZ5.out.f0; have c1' := HZ5.out.f1; have hlc := HZ5.out.lt
      go_wp2_with fail
      refine (HCP.out _ HA5.out).mono ?_
      rintro e w6 ⟨v6, rfl, ⟨A6, c6, rfl, ho6⟩, hb6⟩
      rw [← HKT.out] at ho6 ⊢
      have HO6 := Lib.hid ho6
      have HX6 := Lib.hid (HX5.out.next hb6)
      have HY6 := Lib.hid (HY5.out.next hb6)
      have HQ6 := Lib.hid (ownsRow.next HO5.out hb6)
      have HA6 := Lib.hid (HA5.out.trans (hb6.mono HA5.out.size))
      have hs6 := hb6.size
      have hla5 := HX5.out.lt
      have hlb5 := HY5.out.lt
      have hs5 := HA5.out.size
      clear hb6 ho6 a0 a1 hla b0 b1 hlb c0 c1' hlc HW5 HZ5
      go_wp2_with fail
      go_loop [13, 14] (fun sv i => ∃ k : Nat, k ≤ kT ∧ i = .int .i64 ((k : Int) - 1) ∧ sv = .int .i64 ((k + (T.drop k).findIdx noT : Nat) : Int)) (fun sv i => (intOf i + 1).toNat)
      case atStart => exact ⟨kT, Nat.le_refl _, rfl, by rw [HKT.out, List.drop_length]; rfl⟩
      case round =>
        obtain ⟨k, hk, hi, rfl⟩ := hrel
        cases k with
        | succ j =>
          rw [show ((j + 1 : Nat) : Int) - 1 = (j : Int) by omega] at hi
          subst hi
          have hj1 : j < T.length := by have := HKT.out; omega
          have hjT : j < kT := by omega
          obtain ⟨b, off, rfl, hbw, e0⟩ := textsP_at (RowAt.of_own HO6.out) hj1
          have HFD := Lib.hid (find_drop hj1)
          generalize T[j] = t at *
          have hz : (T.drop (j + 1)).findIdx noT ≤ kT := Nat.le_trans List.findIdx_le_length (by rw [List.length_drop, ← HKT.out]; omega)
          generalize (T.drop (j + 1)).findIdx noT = z at *
          by_cases ht : t.toList = []
          · have HE := Lib.hid (show (T.drop j).findIdx noT = 0 by rw [HFD.out, if_pos (noT_yes ht)])
            go_wp2_with fail
            go_round
            case rel => exact ⟨j, by omega, by go_num, by rw [HE.out]; go_num⟩
            case measure => simp [intOf] <;> omega
          · have HE := Lib.hid (show (T.drop j).findIdx noT = z + 1 by rw [HFD.out, if_neg (by rw [noT_no ht]; simp)])
            have q8 := emp_false ht
            have q9 : (t.toList == []) = false := by simpa using ht
            go_wp2_with fail
            go_round
            case rel => exact ⟨j, by omega, by go_num, by rw [HE.out, show j + (z + 1) = j + 1 + z by omega]⟩
            case measure => simp [intOf] <;> omega
        | zero =>
          rw [show ((0 : Nat) : Int) - 1 = -1 from rfl] at hi
          subst hi
          have HF0 := Lib.hid (show 0 + (T.drop 0).findIdx noT = f by rw [List.drop_zero, Nat.zero_add]; exact HFI.out)
          rw [HF0.out]
          clear hk HF0 HFI
          have HBX6 := Lib.hid (And.intro hla5 hlb5)
          clear hla5 hlb5
          by_cases hlt : f < kT
          case' pos =>
            obtain ⟨g6, rfl, hg6, hg6l⟩ := own_some HO6.out (by omega)
            have hnp : np = (cell.size : Int) := by rw [HNP.out, if_pos hlt, Int.add_zero]
            have HT7 := Lib.hid (fun e : ok = true => (show T.set f cell = cellsR S L by rw [HC1.out e, if_pos hlt]))
            clear HC1 HNP
            have hf7 : f < kT := hlt
            clear hlt
            have HKT7 := HKT; clear HKT
            have a0 := HX6.out.f0
            have a1 := HX6.out.f1
            go_wp2_with fail
            obtain ⟨g7, hg7⟩ : ∃ g7, g7 = g6 := ⟨_, rfl⟩; subst g6
            obtain ⟨c7, hc7⟩ : ∃ c7, c7 = c6 := ⟨_, rfl⟩; subst c6
            generalize kT = n7 at *
            obtain ⟨T7, hTT⟩ : ∃ T7, T7 = T := ⟨_, rfl⟩; subst T
            obtain ⟨w7, hw7⟩ : ∃ w7, w7 = w6 := ⟨_, rfl⟩; subst w6
            have HO7 := HO6; have HX7 := HX6; have HY7 := HY6; have HQ7 := HQ6; have HA7 := HA6
            have hnd : np = (cell.size : Int) := hnp
            obtain ⟨nd, hndv⟩ : ∃ nd, nd = (cell.size : Int) := ⟨_, rfl⟩
            have hndb : 0 ≤ nd ∧ nd ≤ 66 := by omega
            rw [← hndv] at hnd ⊢
            clear hndv
            have hn7b : n7 ≤ 30 := by omega
            have hs7 : w5.heap.size ≤ w7.heap.size := hs6
            clear HO6 HX6 HY6 HQ6 HA6 hnp hs6
          case' neg =>
            obtain rfl : f = kT := by omega
            have hnp : np = (cell.size : Int) + 2 := by rw [HNP.out, if_neg hlt]
            have HT7 := Lib.hid (fun e : ok = true => (show (T ++ [noText]).set f cell = cellsR S L by rw [HC1.out e, if_neg hlt, HKT.out, List.set_append_right _ _ (Nat.le_refl _), Nat.sub_self]; rfl))
            have HKN := Lib.hid (show f + 1 = (T ++ [noText]).length by rw [List.length_append, HKT.out]; rfl)
            clear HC1 HNP hlt
            obtain ⟨i0, hi0, hz0, hz1, hz2⟩ := info_parts strInfo
            have HI5 := Lib.hid (And.intro hi0 (And.intro hz0 (And.intro hz1 hz2))); clear hi0 hz0 hz1 hz2
            have HOC := Lib.hid (fun o1 => HO6.out.alloc o1)
            go_wp2_with (at_builtin; refine wpList_append_own _ rfl _ _ 31 rfl w5.heap.size 9 i0 (.string noText) 1 16 Try.underlying31 HI5.out.1 HI5.out.2.1 HI5.out.2.2.1 HI5.out.2.2.2 rfl (by decide) (.slice A6 f c6) f (strC T) rfl (HOC.out _) ⟨w6.heap.size, 0, none⟩ 1 1 [.string noText] rfl rfl ?c1 ?c2 ?c3 ?c4 ?c5 ?_)
            case c1 =>
              intro j u hj
              match j, hj with
              | 0, hj => simp at hj; subst hj; simp [Addr.add]; rfl
            case c2 => first | rfl | (intro u hu; simp at hu; subst hu; rfl)
            case c3 => unfold maxLen; omega
            case c4 => omega
            case c5 => first | omega | (simp; omega)
            intro v' w7 hown' hgrow _
            have hbg : Below w5.heap.size w6 w7 := ((Below.refl _ _).alloc hs6 _).grown hgrow (by simp; omega) (fun q hq => (HO6.out.lt q hq).1)
            have hs7 : w5.heap.size ≤ w7.heap.size := Nat.le_trans hs6 hbg.size
            rw [show strC T ++ [.string noText] = strC (T ++ [noText]) by rw [strC_app]; rfl] at hown'
            obtain ⟨g7, c7, rfl, hg7, hg7l⟩ := own_text hown' (by omega)
            have HO7 := Lib.hid hown'
            have HX7 := Lib.hid (HX6.out.keep hbg HBX6.out.1)
            have HY7 := Lib.hid (HY6.out.keep hbg HBX6.out.2)
            have hqb : ∀ q, (Value.slice A2 mL c2).ownBlock = some q → q < w5.heap.size := fun q hq => (HO5.out.lt q hq).2
            have HQ7 := Lib.hid (show w7.ownsRow _ 73 2 (.slice A2 mL c2) mL (slC L) from own_below (HQ6.out) hbg hqb)
            have HA7 := Lib.hid (HA6.out.trans (hbg.mono hs5))
            have HKT7 := HKN
            have hf7 : f < f + 1 := Nat.lt_succ_self f
            generalize T ++ [noText] = T7 at *
            have hnd : np = (cell.size : Int) + 2 := hnp
            have a0 := HX7.out.f0
            have a1 := HX7.out.f1
            go_wp2_with fail
            obtain ⟨nd, hndv⟩ : ∃ nd, nd = (cell.size : Int) + 2 := ⟨_, rfl⟩
            have hndb : 0 ≤ nd ∧ nd ≤ 66 := by omega
            rw [← hndv] at hnd ⊢
            clear hndv
            obtain ⟨n7, hn7⟩ : ∃ n7, n7 = f + 1 := ⟨_, rfl⟩
            rw [← hn7] at HO7 HKT7 hf7 ⊢
            have hn7b : n7 ≤ 30 := by omega
            clear hn7
            clear HO6 HX6 HY6 HQ6 HA6 HKT HKN hnp hs6 hbg hown' hgrow hqb HOC HI5
          all_goals
            refine (HSP.out _ HA7.out).mono ?_
            rintro e w8 ⟨rfl, hb8⟩
            have HO8 := Lib.hid (ownsRow.next HO7.out hb8)
            have HY8 := Lib.hid (HY7.out.next hb8)
            have HQ8 := Lib.hid (ownsRow.next HQ7.out hb8)
            have HA8 := Lib.hid (HA7.out.trans (hb8.mono HA7.out.size))
            have hs8 : w5.heap.size ≤ w8.heap.size := Nat.le_trans hs7 hb8.size
            clear hb8 a0 a1
            cases ok
            · go_wp2_with fail
              refine (iNewPage_any w8).mono ?_
              rintro e w9 ⟨v9, rfl, ho9, hb9⟩
              obtain ⟨A9, c9, rfl, ho9⟩ := ho9
              obtain ⟨S0, L0, a9, fine, hr0⟩ : ∃ S0 L0 a9 fine, putR (ptsOf 48) [] cell = (((S0, L0), a9), fine) := ⟨_, _, _, _, rfl⟩
              have HR0 := Lib.hid hr0
              have HN9 := Lib.hid (HNW.out (by first | rfl | trivial) S0 L0 a9 fine hr0)
              have HP9 := Lib.hid (iPut_any (ptsOf 48) A9 0 c9 [] cell w9 ⟨rfl, RowAt.nil _ _ _, fun p hp => by simp at hp, by rw [ptsOf_size]; omega, by omega⟩ (own_none ho9) hcm)
              have HA9 := Lib.hid (HA8.out.trans (hb9.mono HA8.out.size))
              clear ho9 hb9 hr0
              go_wp2_with fail
              refine (HP9.out).mono ?_
              intro e w10 hp10
              obtain ⟨A10, c10, rfl, ho10, hb10⟩ := Pg3Post.got HR0.out hp10
              have HA10 := Lib.hid (HA9.out.trans (hb10.mono HA9.out.size))
              have HB10 := Lib.hid (HA10.out.alloc HA10.out.size (.cells #[.string S0, .slice A10 L0.length c10] 25))
              clear ho10 hb10 hp10
              rcases HN9.out with rfl | ⟨rfl, h1, h2⟩
              · go_wp2_with fail
                go_ret
                exact ⟨rfl, HB1.out.trans (HB10.out.mono HB1.out.size)⟩
              · rw [hnd] at h2
                rw [h1] at HB10 ⊢
                go_wp2_with fail
                go_ret
                exact ⟨ret_bool (by first | rfl | (simp; omega)), HB1.out.trans (HB10.out.mono HB1.out.size)⟩
            · obtain ⟨hav, hvq, hpq⟩ := HC3.out (by first | rfl | trivial)
              subst hav
              have HTE := Lib.hid (HT7.out (by first | rfl | trivial))
              have HYQ := Lib.hid (HC2.out (by first | rfl | trivial))
              have HPQ := Lib.hid hpq
              clear hvq hpq HC3 HT7 HC2 HNW
              have hq8 : ∀ q, (Value.slice A2 mL c2).ownBlock = some q → q < w5.heap.size := fun q hq => (HO5.out.lt q hq).2
              have k9 := HO8.out.cellAt f (by omega)
              obtain ⟨u0, k0⟩ : ∃ u, w8.cell? ⟨g7, f, none⟩ = some u := ⟨_, k9.trans (List.getElem?_eq_getElem (by rw [strC_len, ← HKT7.out]; exact hf7))⟩
              clear k9
              have k1 := HO8.out.frozenAt f
              have hst := (HO8.out.stored f (.string cell)).1
              rw [strC_set, HTE.out] at hst
              have hB9 : Below w5.heap.size w8 (w8.setCell ⟨g7, f, none⟩ (.string cell)) := (Below.refl _ _).setCell (HO8.out.lt g7 rfl).1 _
              have HO9 := Lib.hid hst
              have HY9 := Lib.hid (HY8.out.keep hB9 HBX6.out.2)
              have HQ9 := Lib.hid (own_below HQ8.out hB9 hq8)
              have HA9 := Lib.hid (HA8.out.trans (hB9.mono hs5))
              have hfn : (f : Int) < (n7 : Int) := by omega
              have hs9 : w5.heap.size ≤ (w8.setCell ⟨g7, f, none⟩ (.string cell)).heap.size := Nat.le_trans hs8 hB9.size
              clear hst hB9
              have hg72 : w2.heap.size < g7 := Nat.lt_of_lt_of_le HBX6.out.2 (HO8.out.lt g7 rfl).1
              have HLQ := Lib.hid (show (cellsR S L).length = n7 by rw [← HTE.out, List.length_set]; exact HKT7.out.symm)
              have hpa : ∀ (W : World), Below (w8.setCell ⟨g7, f, none⟩ (.string cell)).heap.size (w8.setCell ⟨g7, f, none⟩ (.string cell)) W → PageAt W S A2 mL L := fun W hb => ⟨HML.out, RowAt.of_own (ownsRow.next HQ9.out hb), HPQ.out.wf, by have := HPQ.out.size; omega, by omega⟩
              have HSQ := Lib.hid (iSpace_any S A2 mL c2 L (w8.setCell ⟨g7, f, none⟩ (.string cell)) (hpa _ (Below.refl _ _)))
              have HCQ := Lib.hid (fun W hb => iCells_any S A2 mL c2 L W (hpa W hb))
              have HVQ := Lib.hid (fun W hb => iValid_any S A2 mL c2 L W (hpa W hb))
              rw [(valid_iff S L).2 HPQ.out] at HVQ
              rw [HYQ.out, hnd] at HSQ
              clear hpa hnd HYQ
              generalize spaceA S L = xq at *
              have hz1 : -9223372036854775808 ≤ y - nd := by omega
              have hz2 : y - nd ≤ 9223372036854775807 := by omega
              have qz : ((y - nd) == (y - nd)) = true := by simp
              have qf : ((f : Int) == (f : Int)) = true := by simp
              have b0 := HY8.out.f0
              have b1 := HY8.out.f1
              go_wp2_with fail
              refine (HSQ.out).mono ?_
              rintro e w10 ⟨rfl, hb10⟩
              have HC10 := Lib.hid hb10
              have HO10 := Lib.hid (ownsRow.next HO9.out hb10)
              have HY10 := Lib.hid (HY9.out.next hb10)
              have HA10 := Lib.hid (HA9.out.trans (hb10.mono HA9.out.size))
              clear hb10 b0 b1 k0 k1
              have b0 := HY10.out.f0
              have b1 := HY10.out.f1
              go_wp2_with fail
              refine (HCQ.out _ HC10.out).mono ?_
              rintro e w11 ⟨v11, rfl, ⟨A11, c11, rfl, ho11⟩, hb11⟩
              rw [HLQ.out] at ho11 ⊢
              have HC11 := Lib.hid (HC10.out.trans (hb11.mono HC10.out.size))
              have HY11 := Lib.hid (HY10.out.next hb11)
              have HE11 := Lib.hid (equalTexts_same A11 (some ⟨g7, 0, none⟩) n7 c11 c7 (cellsR S L) w11 (RowAt.of_own ho11) (RowAt.of_own (ownsRow.next HO10.out hb11)) HLQ.out.symm (by omega))
              have HA11 := Lib.hid (HA10.out.trans (hb11.mono HA10.out.size))
              clear hb11 ho11 b0 b1
              go_wp2_with fail
              refine (HE11.out).mono ?_
              rintro e w12 ⟨rfl, hb12⟩
              have HC12 := Lib.hid (HC11.out.trans (hb12.mono HC11.out.size))
              have HY12 := Lib.hid (HY11.out.next hb12)
              have HA12 := Lib.hid (HA11.out.trans (hb12.mono HA11.out.size))
              clear hb12
              have b0 := HY12.out.f0
              have b1 := HY12.out.f1
              go_wp2_with fail
              refine (HVQ.out _ HC12.out).mono ?_
              rintro e w13 ⟨rfl, hb13⟩
              have HA13 := Lib.hid (HA12.out.trans (hb13.mono HA12.out.size)); clear hb13
              go_wp2_with fail
              go_ret
              exact ⟨ret_bool (by first | rfl | (simp; done) | (simp; omega)), HB1.out.trans (HA13.out.mono HB1.out.size)⟩
  · go_enter Try.func5, Try.ntmps5
    go_wp2
    go_ret
    exact ⟨rfl, Below.refl _ _⟩
end Go.Proofs.Ytjnaeefgbekmdaa
