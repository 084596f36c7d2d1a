/- Contracts of the model's fetch and FetchPage (chapter 2). Conditions: the frames lie in a row; they are few. -/
import Derived.Test.YtompbkphdjjpdaaPoolH
import Derived.Test.YtompbkphdjjpdaaPoolLS
set_option linter.unusedVariables false
set_option linter.unusedSimpArgs false
namespace Go.Proofs.Ytompbkphdjjpdaa
open Go.RowKit Go.ChangeShapes Go.WideShapes

def FetchW (n : Nat) (l : List Fr) (hd : Nat) (p : Int) (w : World) (e : Ending) (w' : World) : Prop :=
  match fetchL p l hd with
  | some (L, h', k) => ∃ g c, e = .returned (.tuple #[.agg #[.slice (some ⟨g, 0, none⟩) n c, .int .i64 (h' : Int)], .int .i64 k, .bool true]) ∧ RowF w' w.heap.size g n c L ∧ Below w.heap.size w w'
  | none => e = .returned (.tuple #[.agg #[.slice none 0 0, .int .i64 0], .int .i64 (-1), .bool false]) ∧ Below w.heap.size w w'
theorem FetchW.no {n : Nat} {l : List Fr} {hd : Nat} {p : Int} {w w' : World} (hn : fetchL p l hd = none) (hb : Below w.heap.size w w') : FetchW n l hd p w (.returned (.tuple #[.agg #[.slice none 0 0, .int .i64 0], .int .i64 (-1), .bool false])) w' := by
  unfold FetchW; rw [hn]; exact ⟨rfl, hb⟩
theorem FetchW.yes {n : Nat} {l L : List Fr} {hd h' g c : Nat} {p k : Int} {w w' : World} (hn : fetchL p l hd = some (L, h', k)) (ho : RowF w' w.heap.size g n c L) (hb : Below w.heap.size w w') :
    FetchW n l hd p w (.returned (.tuple #[.agg #[.slice (some ⟨g, 0, none⟩) n c, .int .i64 (h' : Int)], .int .i64 k, .bool true])) w' := by
  unfold FetchW; rw [hn]; exact ⟨g, c, rfl, ho, hb⟩
theorem clockL_step {p : Int} {k : Nat} {l : List Fr} {h n : Nat} (hh : h < l.length) (hn : n = l.length) :
    clockL p (k + 1) l h = if l[h].2.1 = 0 then (if l[h].2.2 = false then some (l.set h (p, 1, true), (h + 1) % n, if l[h].1 < 0 then 1 else 2) else clockL p k (l.set h (l[h].1, 0, false)) ((h + 1) % n)) else clockL p k l ((h + 1) % n) := by
  rw [clockL, getD_lt hh, ← hn]
/-- while the hand goes round -/
def ClkRel (w : World) (B g n c : Nat) (l : List Fr) (hd : Nat) (p : Int) (t : Nat) (l' : List Fr) (h' : Nat) (wr : World) : Prop :=
  t ≤ 2 * n + 1 ∧ h' < n ∧ clockL p (2 * n + 1 - t) l' h' = clockL p (2 * n + 1) l hd ∧ RowF wr B g n c l' ∧ Below B w wr

set_option maxRecDepth 100000 in
set_option maxHeartbeats 4000000 in
theorem sFetchW_any (ad : Addr) (n c hd : Nat) (l : List Fr) (p : Int) (w : World) (hr : RowAt w w.heap.size (some ad) (frsC l)) (hn : n = l.length) (hs : n ≤ 1048576) (hdn : hd < n) (hgd : ∀ f ∈ l, goodF f = true) :
    Calls Try.prog 79 #[.agg #[.slice (some ad) n c, .int .i64 (hd : Int)], .int .i64 p] w (FetchW n l hd p w) := by
  obtain ⟨i0, hi0, hz0, hz1, hz2⟩ := info_parts frameInfo
  have HI := Lib.hid (And.intro hi0 (And.intro hz0 (And.intro hz1 hz2))); clear hi0 hz0 hz1 hz2
  have h0 : 0 < n := by omega
  have HFO := Lib.hid (fun W (hb : Below w.heap.size w W) => sFrameOf_any (some ad) n c l (hd : Int) p W ((hr.below hb).mono hb.size) hn hs)
  have HR := Lib.hid hr; clear hr
  have HN := Lib.hid hn; clear hn
  have HGD := Lib.hid hgd; clear hgd
  have HB0 := Lib.hid ((((Below.refl w.heap.size w).alloc (Nat.le_refl _) (.cells #[.slice (some ad) n c, .int .i64 (hd : Int)] 28)).alloc (by simp) (.cells #[.slice none 0 0, .int .i64 0] 28)).alloc (by simp; omega) (.cells #[] 49))
  have HO := Lib.hid (show (((w.alloc (.cells #[.slice (some ad) n c, .int .i64 (hd : Int)] 28)).alloc (.cells #[.slice none 0 0, .int .i64 0] 28)).alloc (.cells #[] 49)).ownsRow (w.heap.size + 2) 49 3 (.slice (some ⟨w.heap.size + 2, 0, none⟩) 0 0) 0 [] from
    ⟨rfl, .inr ⟨w.heap.size + 2, 0, #[], rfl, by omega, by
      have := heap_alloc_new ((w.alloc (.cells #[.slice (some ad) n c, .int .i64 (hd : Int)] 28)).alloc (.cells #[.slice none 0 0, .int .i64 0] 28)) (.cells #[] 49)
      simpa using this, by omega, by simp [maxLen], rfl, rfl⟩⟩)
  go_enter Try.func79, Try.ntmps79
  go_wp2_with (at_builtin; refine wpList_append_own _ rfl _ _ 26 rfl (w.heap.size + 2) 49 i0 (.agg #[.int .i64 0, .int .i64 0, .bool false]) 3 24 Try.underlying26 HI.out.1 HI.out.2.1 HI.out.2.2.1 HI.out.2.2.2 rfl (by decide) _ 0 [] rfl HO.out ad n c (frsC l) rfl ?c0 ?c1 ?c2 ?c3 ?c4 ?c5 ?_)
  case c0 => rw [frsC_len, HN.out]
  case c1 =>
    intro j u hj
    obtain ⟨b, off, e, hb, hc⟩ := (HR.out.below HB0.out) (by intro h0; rw [h0] at hj; simp at hj)
    cases e
    have hcj := hc j u hj
    unfold Addr.add
    by_cases hj0 : j = 0
    · subst hj0; simpa using hcj
    · simp [hj0]; exact hcj
  case c2 =>
    intro u hu
    obtain ⟨p, hp, hu⟩ := List.mem_flatMap.1 hu
    simp [frC] at hu
    rcases hu with rfl | rfl | rfl <;> rfl
  case c3 => unfold maxLen; omega
  case c4 => omega
  case c5 => simp
  · intro v' w1 hown' hgrow _
    obtain ⟨g, c', rfl, hrow⟩ := own_row hown' HN.out h0
    have hB02 : Below (w.heap.size + 2) _ w1 := Below.grown (Below.refl (w.heap.size + 2) _) hgrow (by simp) (fun q hq => (HO.out.lt q hq).1)
    have hs1 := hB02.size
    have b0 : w1.cell? ⟨w.heap.size, 0, none⟩ = some (.slice (some ad) n c) := (hB02.cell (p := ⟨w.heap.size, 0, none⟩) (by simp)).trans (by simp [go_sem])
    have b1 : w1.cell? ⟨w.heap.size, 1, none⟩ = some (.int .i64 (hd : Int)) := (hB02.cell (p := ⟨w.heap.size, 1, none⟩) (by simp)).trans (by simp [go_sem])
    have HRS := Lib.hid (fun W (hb : Below (w.heap.size + 2) w1 W) =>
      (show W.cell? ⟨w.heap.size, 0, none⟩ = some (.slice (some ad) n c) ∧ W.cell? ⟨w.heap.size, 1, none⟩ = some (.int .i64 (hd : Int)) ∧ W.cell? ⟨w.heap.size + 1, 0, none⟩ = some (.slice none 0 0) ∧ W.cell? ⟨w.heap.size + 1, 1, none⟩ = some (.int .i64 0) ∧ W.frozen? ⟨w.heap.size + 1, 0, none⟩ = false ∧ W.frozen? ⟨w.heap.size + 1, 1, none⟩ = false from
        have hb' := hB02.trans hb
        ⟨(hb'.cell (p := ⟨w.heap.size, 0, none⟩) (by simp)).trans (by simp [go_sem]), (hb'.cell (p := ⟨w.heap.size, 1, none⟩) (by simp)).trans (by simp [go_sem]),
         (hb'.cell (p := ⟨w.heap.size + 1, 0, none⟩) (by simp)).trans (by simp [go_sem]), (hb'.cell (p := ⟨w.heap.size + 1, 1, none⟩) (by simp)).trans (by simp [go_sem]),
         (hb'.frozen (p := ⟨w.heap.size + 1, 0, none⟩) (by simp)).trans (by simp [go_sem]), (hb'.frozen (p := ⟨w.heap.size + 1, 1, none⟩) (by simp)).trans (by simp [go_sem])⟩))
    have hs2 : w.heap.size + 3 ≤ w1.heap.size := by simpa using hs1
    have HBW := Lib.hid (HB0.out.trans (hB02.mono (by omega)))
    have HROW := Lib.hid hrow
    clear hown' hgrow hB02 hrow hs1
    go_wp2_with fail
    refine (HFO.out _ HBW.out).mono ?_
    rintro e w2 ⟨rfl, hb2⟩
    have HB12 := Lib.hid (hb2.mono (B' := w.heap.size + 2) (by omega))
    have HROW2 := Lib.hid (HROW.out.keep hb2)
    have HB2 := Lib.hid (HBW.out.trans (hb2.mono HBW.out.size))
    have hgg := HROW.out.ge
    have hs3 := hb2.size
    have hgl := HROW2.out.lt
    clear hb2 b0 b1
    obtain ⟨a0, a1, r0, r1, k0, k1⟩ := HRS.out _ HB12.out
    by_cases hix : frameIx l p < l.length
    · have hIn : frameIx l p < n := by have := HN.out; omega
      have HIX := Lib.hid (show ixI l p = (frameIx l p : Int) by unfold ixI; rw [if_pos hix])
      rw [HIX.out]
      have HFL := Lib.hid (show fetchL p l hd = if l[frameIx l p].2.1 = 3 then none else some (l.set (frameIx l p) (l[frameIx l p].1, l[frameIx l p].2.1 + 1, true), hd, 0) by
        unfold fetchL; rw [if_pos hix, getD_lt hix, frameIx_is hix])
      have hpb : -1 ≤ l[frameIx l p].2.1 ∧ l[frameIx l p].2.1 ≤ 3 := by
        have := goodF_cases (HGD.out _ (List.getElem_mem hix))
        rcases this with h1 | h1 <;> omega
      have HS2 := Lib.hid (show RowF ((w2.setCell ⟨g, frameIx l p * 3 + 1, none⟩ (.int .i64 (l[frameIx l p].2.1 + 1))).setCell ⟨g, frameIx l p * 3 + 2, none⟩ (.bool true)) (w.heap.size + 2) g n c' (l.set (frameIx l p) (l[frameIx l p].1, l[frameIx l p].2.1 + 1, true)) from by
          have := (HROW2.out.set1 hix (l[frameIx l p].2.1 + 1)).set2 (i := frameIx l p) (by rw [List.length_set]; exact hix) true
          simpa using this)
      obtain ⟨m0, m1, m2, q0, q1, q2⟩ := HROW2.out.cells hix
      obtain ⟨L, hL⟩ : ∃ L, l.set (frameIx l p) (l[frameIx l p].1, l[frameIx l p].2.1 + 1, true) = L := ⟨_, rfl⟩
      rw [hL] at HFL HS2
      clear hL
      generalize hpp : l[frameIx l p].2.1 = pin at *
      clear hpp
      generalize hI : frameIx l p = I at *
      by_cases h3 : pin = 3
      · have HN3 := Lib.hid (show fetchL p l hd = none by rw [HFL.out, if_pos h3])
        have q : (pin == 3) = true := by simpa using h3
        clear h3
        go_wp2_with fail
        refine bodyPost_ret (v := .tuple #[.agg #[.slice none 0 0, .int .i64 0], .int .i64 (-1), .bool false]) (by simp [results, Try.results79, go_sem, r0, r1]) rfl ?_
        refine FetchW.no HN3.out ((HB2.out.setCell ?_ _).setCell ?_ _) <;> simp
      · have HN3 := Lib.hid (show fetchL p l hd = some (L, hd, 0) by rw [HFL.out, if_neg h3])
        have q : (pin == 3) = false := by simpa using h3
        clear h3
        go_wp2_with fail
        refine bodyPost_ret (v := .tuple #[.agg #[.slice (some ⟨g, 0, none⟩) n c', .int .i64 (hd : Int)], .int .i64 0, .bool true]) (by simp [results, Try.results79, go_sem, r0, r1]) rfl ?_
        refine FetchW.yes HN3.out (RowF.mono (RowF.low (RowF.low HS2.out ?_ _) ?_ _) ?_) ((((HB2.out.setCell ?_ _).setCell ?_ _).setCell ?_ _).setCell ?_ _) <;> simp <;> omega
    · have HIX := Lib.hid (show ixI l p = -1 by unfold ixI; rw [if_neg hix])
      rw [HIX.out]
      have HFL := Lib.hid (show fetchL p l hd = clockL p (2 * n + 1) l hd by
        unfold fetchL; rw [if_neg hix, HN.out, clockL_two p l hd (by rw [← HN.out]; exact hdn)])
      clear hix a0 a1 r0 r1 k0 k1
      have a1 := (HRS.out _ HB12.out).2.1
      go_wp2_with fail
      clear a1
      go_loopw [9, 10] (fun q i wr => ∃ (t : Nat) (l' : List Fr) (h' : Nat), i = .int .i64 t ∧ q = .int .i64 h' ∧ ClkRel w2 (w.heap.size + 2) g n c' l hd p t l' h' wr) (fun _ i _ => 2 * n + 1 - (intOf i).toNat)
      case atStart => exact ⟨0, l, hd, rfl, rfl, by omega, hdn, rfl, HROW2.out, Below.refl _ _⟩
      case round =>
        obtain ⟨t, l', h', rfl, rfl, hc⟩ := hrel
        have HC := Lib.hid hc; clear hc
        have ht := HC.out.1
        have hh' := HC.out.2.1
        have HRW := Lib.hid HC.out.2.2.2.1
        have HBR := Lib.hid HC.out.2.2.2.2
        by_cases hlt : t < 2 * n + 1
        · have hhl : h' < l'.length := by have := HRW.out.1; omega
          have hm : (h' + 1) % n < n := Nat.mod_lt _ (by omega)
          have HST := Lib.hid (show clockL p (2 * n + 1) l hd = if l'[h'].2.1 = 0 then (if l'[h'].2.2 = false then some (l'.set h' (p, 1, true), (h' + 1) % n, if l'[h'].1 < 0 then 1 else 2) else clockL p (2 * n + 1 - (t + 1)) (l'.set h' (l'[h'].1, 0, false)) ((h' + 1) % n)) else clockL p (2 * n + 1 - (t + 1)) l' ((h' + 1) % n) by
            rw [← HC.out.2.2.1, show 2 * n + 1 - t = (2 * n + 1 - (t + 1)) + 1 by omega, clockL_step hhl HRW.out.1])
          have HEM := Lib.hid (show ((h' : Int) + 1) % (n : Int) = (((h' + 1) % n : Nat) : Int) by simp)
          obtain ⟨m0, m1, m2, k0, k1, k2⟩ := HRW.out.cells hhl
          have hgl' := HRW.out.lt
          have HSA := Lib.hid (fun W (hb : Below wr.heap.size wr W) => (show RowF (((W.setCell ⟨g, h' * 3, none⟩ (.int .i64 p)).setCell ⟨g, h' * 3 + 1, none⟩ (.int .i64 1)).setCell ⟨g, h' * 3 + 2, none⟩ (.bool true)) (w.heap.size + 2) g n c' (l'.set h' (p, 1, true)) from by
            have := (((HRW.out.keep hb).set0 hhl p).set1 (i := h') (by rw [List.length_set]; exact hhl) 1).set2 (i := h') (by rw [List.length_set, List.length_set]; exact hhl) true
            simpa using this))
          have HSB := Lib.hid (fun W (hb : Below wr.heap.size wr W) => (HRW.out.keep hb).set2 hhl false)
          have HCK := Lib.hid (fun W (hb : Below wr.heap.size wr W) => (HRW.out.keep hb).cells hhl)
          have HRSW := Lib.hid (fun W (hb : Below wr.heap.size wr W) => HRS.out W ((HB12.out.trans HBR.out).trans (hb.mono (by have := HBR.out.size; omega))))
          generalize hx1 : l'[h'].1 = x1 at *
          generalize hx2 : l'[h'].2.1 = x2 at *
          generalize hx3 : l'[h'].2.2 = x3 at *
          clear hx1 hx2 hx3
          obtain ⟨o, ho⟩ : ∃ o, o = Obj.cells #[.int .i64 x1, .int .i64 x2, .bool x3] 49 := ⟨_, rfl⟩
          have HA := Lib.hid ((Below.refl wr.heap.size wr).alloc (Nat.le_refl _) o)
          have HSA2 := Lib.hid (HSA.out _ HA.out)
          have HSB2 := Lib.hid (HSB.out _ HA.out)
          have HBR2 := Lib.hid (HBR.out.trans (HA.out.mono (by have := HBR.out.size; omega)))
          obtain ⟨_, _, r0, r1, j0, j1⟩ := HRSW.out _ (Below.refl _ _)
          have hw3 : w.heap.size + 1 < wr.heap.size := by have := HBR.out.size; omega
          subst ho
          by_cases h0 : x2 = 0
          · have q0 : (x2 == 0) = true := by simpa using h0
            cases x3 with
            | false =>
              have HX := Lib.hid (show fetchL p l hd = some (l'.set h' (p, 1, true), (h' + 1) % n, if x1 < 0 then 1 else 2) by rw [HFL.out, HST.out, if_pos h0, if_pos rfl])
              clear h0
              by_cases hneg : x1 < 0
              · rw [if_pos hneg] at HX
                go_wp2_with fail
                refine bodyPost_ret (v := .tuple #[.agg #[.slice (some ⟨g, 0, none⟩) n c', .int .i64 (((h' + 1) % n : Nat) : Int)], .int .i64 1, .bool true]) (by rw [← HEM.out]; simp [results, Try.results79, go_sem, r0, r1, hw3]) rfl ?_
                refine FetchW.yes HX.out (RowF.mono (RowF.alloc (RowF.low (RowF.low (HSA.out _ (Below.refl _ _)) ?_ _) ?_ _) _) ?_) (Below.alloc (((((HB2.out.trans (HBR.out.mono (by omega))).setCell ?_ _).setCell ?_ _).setCell ?_ _).setCell ?_ _ |>.setCell ?_ _) ?_ _) <;> simp <;> omega
              · rw [if_neg hneg] at HX
                go_wp2_with fail
                refine bodyPost_ret (v := .tuple #[.agg #[.slice (some ⟨g, 0, none⟩) n c', .int .i64 (((h' + 1) % n : Nat) : Int)], .int .i64 2, .bool true]) (by rw [← HEM.out]; simp [results, Try.results79, go_sem, r0, r1, hw3]) rfl ?_
                refine FetchW.yes HX.out (RowF.mono (RowF.alloc (RowF.low (RowF.low (HSA.out _ (Below.refl _ _)) ?_ _) ?_ _) _) ?_) (Below.alloc (((((HB2.out.trans (HBR.out.mono (by omega))).setCell ?_ _).setCell ?_ _).setCell ?_ _).setCell ?_ _ |>.setCell ?_ _) ?_ _) <;> simp <;> omega
            | true =>
              have HX := Lib.hid (show clockL p (2 * n + 1 - (t + 1)) (l'.set h' (x1, x2, false)) ((h' + 1) % n) = clockL p (2 * n + 1) l hd by rw [HST.out, if_pos h0, if_neg (by simp), h0])
              clear h0
              go_wp2_with fail
              go_roundw
              case rel => exact ⟨t + 1, _, (h' + 1) % n, by go_num, by rw [← HEM.out], by omega, hm, HX.out, (HSB.out _ (Below.refl _ _)).alloc _, Below.alloc (HBR.out.setCell (by simpa using hgg) _) (by have := HBR.out.size; simp; omega) _⟩
              case measure => simp [intOf]; omega
          · have q0 : (x2 == 0) = false := by simpa using h0
            have HX := Lib.hid (show clockL p (2 * n + 1 - (t + 1)) l' ((h' + 1) % n) = clockL p (2 * n + 1) l hd by rw [HST.out, if_neg h0])
            clear h0
            go_wp2_with fail
            go_roundw
            case rel => exact ⟨t + 1, l', (h' + 1) % n, by go_num, by rw [← HEM.out], by omega, hm, HX.out, HRW.out.keep HA.out, HBR2.out⟩
            case measure => simp [intOf]; omega
        · have HX := Lib.hid (show fetchL p l hd = none by rw [HFL.out, ← HC.out.2.2.1, show 2 * n + 1 - t = 0 by omega]; rfl)
          obtain ⟨_, _, r0, r1, j0, j1⟩ := HRS.out _ (HB12.out.trans HBR.out)
          go_wp2_with fail
          refine bodyPost_ret (v := .tuple #[.agg #[.slice none 0 0, .int .i64 0], .int .i64 (-1), .bool false]) (by simp [results, Try.results79, go_sem, r0, r1]) rfl ?_
          refine FetchW.no HX.out (((HB2.out.trans (HBR.out.mono (by omega))).setCell ?_ _).setCell ?_ _) <;> simp
end Go.Proofs.Ytompbkphdjjpdaa
