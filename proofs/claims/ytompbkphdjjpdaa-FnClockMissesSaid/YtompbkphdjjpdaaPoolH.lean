/- The contract of FetchPage of the program (chapter 2). Conditions: the frames lie in a row; they are few. -/
import Derived.Test.YtompbkphdjjpdaaPoolG
set_option linter.unusedVariables false
set_option linter.unusedSimpArgs false
namespace Go.Proofs.Ytompbkphdjjpdaa
open Go.RowKit Go.ChangeShapes Go.WideShapes

theorem fetch_for {l : List Fr} {h : Nat} {p : Int} (hh : h < l.length) (hg : ∀ f ∈ l, goodF f = true) :
    (forL l h p = none ∧ fetchL p l h = none) ∨ ∃ L i h' k, forL l h p = some (L, i, h', k) ∧ ∃ (hi : i < L.length), L.length = l.length ∧ h' < l.length ∧ (-1 ≤ L[i].2.1 ∧ L[i].2.1 ≤ 3) ∧
      fetchL p l h = if L[i].2.1 = 3 then none else some (L.set i (L[i].1, L[i].2.1 + 1, true), h', k) := by
  unfold forL fetchL
  by_cases hix : frameIx l p < l.length
  · refine .inr ⟨l, frameIx l p, h, 0, by rw [if_pos hix], hix, rfl, hh, ?_, ?_⟩
    · have := goodF_cases (hg _ (List.getElem_mem hix))
      rcases this with h1 | h1 <;> omega
    · rw [if_pos hix, getD_lt hix, frameIx_is hix]
  · rw [if_neg hix, if_neg hix, clockL_room]
    cases hq : roomL (2 * l.length) l h with
    | none => exact .inl ⟨rfl, rfl⟩
    | some x =>
      obtain ⟨l', i, h'⟩ := x
      obtain ⟨hl', hi, hh', hp0, hw0, hg'⟩ := roomL_some _ l l' h i h' hh hg hq
      have hil : i < l'.length := by omega
      refine .inr ⟨_, i, h', _, rfl, by rw [List.length_set]; exact hil, by rw [List.length_set]; exact hl', hh', ?_, ?_⟩
      · simp
      · simp

def fetchR (l : List Fr) (h p : Int) : Option (List Fr × Nat × Int) := if poolB l h = true then (if pageI p = true then fetchL p l h.toNat else none) else none
def FetchPost (l : List Fr) (h p : Int) (w : World) (e : Ending) (w' : World) : Prop :=
  match fetchR l h p with
  | some (L, h', k) => ∃ v, e = .returned (.tuple #[v, .int .i64 k, .bool true]) ∧ OwnPool w.heap.size L (h' : Int) v w' ∧ Below w.heap.size w w'
  | none => e = .returned (.tuple #[.agg #[.slice none 0 0, .int .i64 0], .int .i64 (-1), .bool false]) ∧ Below w.heap.size w w'
theorem FetchPost.no {l : List Fr} {h p : Int} {w w' : World} (hn : fetchR l h p = none) (hb : Below w.heap.size w w') : FetchPost l h p w (.returned (.tuple #[.agg #[.slice none 0 0, .int .i64 0], .int .i64 (-1), .bool false])) w' := by
  unfold FetchPost; rw [hn]; exact ⟨rfl, hb⟩
theorem FetchPost.yes {l L : List Fr} {h p k : Int} {h' : Nat} {w w' : World} {v : Value} (hn : fetchR l h p = some (L, h', k)) (ho : OwnPool w.heap.size L (h' : Int) v w') (hb : Below w.heap.size w w') : FetchPost l h p w (.returned (.tuple #[v, .int .i64 k, .bool true])) w' := by
  unfold FetchPost; rw [hn]; exact ⟨v, rfl, ho, hb⟩

set_option maxRecDepth 100000 in
set_option maxHeartbeats 4000000 in
theorem iFetch_any (A : Option Addr) (n c : Nat) (l : List Fr) (h p : Int) (w : World) (hr : RowAt w w.heap.size A (frsC l)) (hn : n = l.length) (hs : n ≤ 1048576) :
    Calls Try.prog 32 #[.agg #[.slice A n c, .int .i64 h], .int .i64 p] w (FetchPost l h p w) := by
  have HB0 := Lib.hid (((Below.refl w.heap.size w).alloc (Nat.le_refl _) (.cells #[.slice A n c, .int .i64 h] 28)).alloc (by simp) (.cells #[.slice none 0 0, .int .i64 0] 28))
  have HV := Lib.hid (fun W (hb : Below w.heap.size w W) => iPool_any A n c l h W ((hr.below hb).mono hb.size) hn hs)
  have HPG := Lib.hid (fun W => isPage_any p W)
  have HRES := Lib.hid (fun W (hb1 : Below ((w.alloc (.cells #[.slice A n c, .int .i64 h] 28)).alloc (.cells #[.slice none 0 0, .int .i64 0] 28)).heap.size ((w.alloc (.cells #[.slice A n c, .int .i64 h] 28)).alloc (.cells #[.slice none 0 0, .int .i64 0] 28)) W) =>
    (show W.cell? ⟨w.heap.size, 0, none⟩ = some (.slice A n c) ∧ W.cell? ⟨w.heap.size, 1, none⟩ = some (.int .i64 h) ∧ W.cell? ⟨w.heap.size + 1, 0, none⟩ = some (.slice none 0 0) ∧ W.cell? ⟨w.heap.size + 1, 1, none⟩ = some (.int .i64 0) ∧
        W.frozen? ⟨w.heap.size + 1, 0, none⟩ = false ∧ W.frozen? ⟨w.heap.size + 1, 1, none⟩ = false ∧ w.heap.size + 2 ≤ W.heap.size from
      ⟨(hb1.cell (p := ⟨w.heap.size, 0, none⟩) (by simp; omega)).trans (by simp [go_sem]), (hb1.cell (p := ⟨w.heap.size, 1, none⟩) (by simp; omega)).trans (by simp [go_sem]),
       (hb1.cell (p := ⟨w.heap.size + 1, 0, none⟩) (by simp)).trans (by simp [go_sem]), (hb1.cell (p := ⟨w.heap.size + 1, 1, none⟩) (by simp)).trans (by simp [go_sem]),
       (hb1.frozen (p := ⟨w.heap.size + 1, 0, none⟩) (by simp)).trans (by simp [go_sem]), (hb1.frozen (p := ⟨w.heap.size + 1, 1, none⟩) (by simp)).trans (by simp [go_sem]),
       by have := hb1.size; simpa using this⟩))
  cases hv : poolB l h
  · rw [hv] at HV
    have HF := Lib.hid (show fetchR l h p = none by unfold fetchR; rw [hv]; rfl)
    clear hr hn hv
    go_enter Try.func32, Try.ntmps32
    go_wp2_with fail
    refine (HV.out _ HB0.out).mono ?_
    rintro e w1 ⟨rfl, hb1⟩
    obtain ⟨a0, a1, b0, b1, f0, f1, hs1⟩ := HRES.out _ hb1
    have HB1 := Lib.hid (HB0.out.trans (hb1.mono HB0.out.size)); clear hb1
    go_wp2_with fail
    refine bodyPost_ret (v := .tuple #[.agg #[.slice none 0 0, .int .i64 0], .int .i64 (-1), .bool false]) (by simp [results, Try.results32, go_sem, b0, b1]) rfl ?_
    refine FetchPost.no HF.out ((HB1.out.setCell ?_ _).setCell ?_ _) <;> simp
  · rw [hv] at HV
    obtain ⟨hl1, hl5, hh0, hhl, hok⟩ := poolB_iff.1 hv
    have hgood := okL_good hok
    have hn0 : 0 < n := by omega
    obtain ⟨ad, rfl⟩ : ∃ ad, A = some ad := by
      obtain ⟨b, off, e, _⟩ := hr (by intro h0; have := frsC_len l; rw [h0] at this; simp at this; omega)
      exact ⟨_, e⟩
    cases hp : pageI p
    · rw [hp] at HPG
      have HF := Lib.hid (show fetchR l h p = none by unfold fetchR; rw [hv, hp]; rfl)
      clear hr hn hv hp hok hgood
      go_enter Try.func32, Try.ntmps32
      go_wp2_with fail
      refine (HV.out _ HB0.out).mono ?_
      rintro e w1 ⟨rfl, hb1⟩
      obtain ⟨a0, a1, b0, b1, f0, f1, hs1⟩ := HRES.out _ hb1
      have HB1 := Lib.hid (HB0.out.trans (hb1.mono HB0.out.size)); clear hb1
      go_wp2_with fail
      refine (HPG.out _).mono ?_
      rintro e w2 ⟨rfl, hw2⟩
      obtain rfl := hw2.symm
      go_wp2_with fail
      refine bodyPost_ret (v := .tuple #[.agg #[.slice none 0 0, .int .i64 0], .int .i64 (-1), .bool false]) (by simp [results, Try.results32, go_sem, b0, b1]) rfl ?_
      refine FetchPost.no HF.out ((HB1.out.setCell ?_ _).setCell ?_ _) <;> simp
    · rw [hp] at HPG
      obtain ⟨hd, rfl⟩ := Int.eq_ofNat_of_zero_le hh0
      have hdl : hd < l.length := by omega
      have hdn : hd < n := by omega
      have HF := Lib.hid (show fetchR l (hd : Int) p = fetchL p l hd by unfold fetchR; rw [hv, hp]; rfl)
      have HCP := Lib.hid (fun W (hb : Below w.heap.size w W) => copyPool_any ad n c l (hd : Int) W ((hr.below hb).mono hb.size) hn hn0 hs)
      have HN := Lib.hid hn
      have HGOOD := Lib.hid hgood
      have HFF := Lib.hid (fetch_for (p := p) hdl hgood)
      clear hr hn hv hp hok hgood
      go_enter Try.func32, Try.ntmps32
      go_wp2_with fail
      refine (HV.out _ HB0.out).mono ?_
      rintro e w1 ⟨rfl, hb1⟩
      obtain ⟨a0, a1, b0, b1, f0, f1, hs1⟩ := HRES.out _ hb1
      have HB1 := Lib.hid (HB0.out.trans (hb1.mono HB0.out.size)); clear hb1
      have HB01 := Lib.hid b0
      have HB11 := Lib.hid b1
      have HF01 := Lib.hid f0
      have HF11 := Lib.hid f1
      go_wp2_with fail
      refine (HPG.out _).mono ?_
      rintro e w2 ⟨rfl, hw2⟩
      obtain rfl := hw2.symm
      go_wp2_with fail
      refine (HCP.out _ HB1.out).mono ?_
      rintro e w3 ⟨g, c', rfl, hrow, hb3⟩
      have hs3 := hb3.size
      have hg := hrow.ge
      have hgl := hrow.lt
      have HPO := Lib.hid (heap_alloc_new w3 (.cells #[.slice (some ⟨g, 0, none⟩) n c', .int .i64 (hd : Int)] 28))
      have HROWA := Lib.hid ((hrow.mono (B' := w.heap.size + 2) (by omega)).alloc (.cells #[.slice (some ⟨g, 0, none⟩) n c', .int .i64 (hd : Int)] 28))
      have HBA := Lib.hid (Below.alloc (HB1.out.trans (hb3.mono HB1.out.size)) (by have := HB1.out.size; omega) (.cells #[.slice (some ⟨g, 0, none⟩) n c', .int .i64 (hd : Int)] 28))
      have HRS := Lib.hid (fun W (hb : Below (w.heap.size + 2) (w3.alloc (.cells #[.slice (some ⟨g, 0, none⟩) n c', .int .i64 (hd : Int)] 28)) W) =>
        (show W.cell? ⟨w.heap.size + 1, 0, none⟩ = some (.slice none 0 0) ∧ W.cell? ⟨w.heap.size + 1, 1, none⟩ = some (.int .i64 0) ∧ W.frozen? ⟨w.heap.size + 1, 0, none⟩ = false ∧ W.frozen? ⟨w.heap.size + 1, 1, none⟩ = false from
          have hb' := ((hb3.mono (B' := w.heap.size + 2) (by omega)).alloc (by omega) (.cells #[.slice (some ⟨g, 0, none⟩) n c', .int .i64 (hd : Int)] 28)).trans hb
          ⟨(hb'.cell (p := ⟨w.heap.size + 1, 0, none⟩) (by show w.heap.size + 1 < _; omega)).trans HB01.out, (hb'.cell (p := ⟨w.heap.size + 1, 1, none⟩) (by show w.heap.size + 1 < _; omega)).trans HB11.out,
           (hb'.frozen (p := ⟨w.heap.size + 1, 0, none⟩) (by show w.heap.size + 1 < _; omega)).trans HF01.out, (hb'.frozen (p := ⟨w.heap.size + 1, 1, none⟩) (by show w.heap.size + 1 < _; omega)).trans HF11.out⟩))
      have HFR := Lib.hid (for_any (w.heap.size + 2) w3.heap.size g n c' hd l p _ HROWA.out HPO.out (by omega) (by omega) hdn hs HGOOD.out)
      clear hrow hb3 a0 a1 b0 b1 f0 f1
      rcases HFF.out with ⟨h1, h2⟩ | ⟨L, i, h', k, h1, hi, hLl, hh', hpb, h2⟩
      · have HN2 := Lib.hid (HF.out.trans h2)
        unfold ForPost at HFR
        rw [h1] at HFR
        clear h1 h2
        go_wp2_with fail
        refine (HFR.out).mono ?_
        rintro e w4 ⟨rfl, hb4⟩
        obtain ⟨r0, r1, k0, k1⟩ := HRS.out _ hb4
        have HB4 := Lib.hid (HBA.out.trans (hb4.mono (by omega))); clear hb4
        go_wp2_with fail
        refine bodyPost_ret (v := .tuple #[.agg #[.slice none 0 0, .int .i64 0], .int .i64 (-1), .bool false]) (by simp [results, Try.results32, go_sem, r0, r1]) rfl ?_
        refine FetchPost.no HN2.out ((HB4.out.setCell ?_ _).setCell ?_ _) <;> simp
      · unfold ForPost at HFR
        rw [h1] at HFR
        have HN2 := Lib.hid (HF.out.trans h2)
        clear h1 h2
        go_wp2_with fail
        refine (HFR.out).mono ?_
        rintro e w4 ⟨rfl, hr4, hh4, hb4⟩
        obtain ⟨r0, r1, k0, k1⟩ := HRS.out _ hb4
        obtain ⟨m0, m1, m2, q0, q1, q2⟩ := hr4.cells hi
        obtain ⟨g0, g1, _, _⟩ := hh4.cells
        have HB4 := Lib.hid (HBA.out.trans (hb4.mono (by omega)))
        have HS1 := Lib.hid (hr4.set1 hi (L[i].2.1 + 1))
        have HS2 := Lib.hid (show RowF ((w4.setCell ⟨g, i * 3 + 1, none⟩ (.int .i64 (L[i].2.1 + 1))).setCell ⟨g, i * 3 + 2, none⟩ (.bool true)) (w.heap.size + 2) g n c' (L.set i (L[i].1, L[i].2.1 + 1, true)) from by
          have := HS1.out.set2 (i := i) (by rw [List.length_set]; exact hi) true
          simpa using this)
        have hs4 := hb4.size
        have hgw := hr4.ge
        have hgl4 := hr4.lt
        have hne : ¬ (w3.heap.size = g) := by omega
        have hne2 : ¬ (w.heap.size + 1 = g) := by omega
        have hne3 : ¬ (g = w.heap.size + 1) := by omega
        have hne4 : ¬ (w3.heap.size = w.heap.size + 1) := by omega
        clear hr4 hh4 hb4 HFF
        generalize hpp : L[i].2.1 = pin at *
        by_cases h3 : pin = 3
        · have HN3 := Lib.hid (show fetchR l (hd : Int) p = none by rw [HN2.out, if_pos h3])
          have q : (pin == 3) = true := by simpa using h3
          clear h3
          go_wp2_with fail
          refine bodyPost_ret (v := .tuple #[.agg #[.slice none 0 0, .int .i64 0], .int .i64 (-1), .bool false]) (by simp [results, Try.results32, go_sem, r0, r1]) rfl ?_
          refine FetchPost.no HN3.out ((HB4.out.setCell ?_ _).setCell ?_ _) <;> simp
        · have HN3 := Lib.hid (show fetchR l (hd : Int) p = some (L.set i (L[i].1, pin + 1, true), h', k) by rw [HN2.out, if_neg h3])
          have q : (pin == 3) = false := by simpa using h3
          clear h3
          go_wp2_with fail
          refine bodyPost_ret (v := .tuple #[.agg #[.slice (some ⟨g, 0, none⟩) n c', .int .i64 (h' : Int)], .int .i64 k, .bool true]) ?_ rfl ?_
          · simp [results, Try.results32, go_sem, r0, r1]
          · refine FetchPost.yes HN3.out (RowF.pool (RowF.low (RowF.low HS2.out ?_ _) ?_ _) _ ?_) ((((HB4.out.setCell ?_ _).setCell ?_ _).setCell ?_ _).setCell ?_ _) <;> simp <;> omega
end Go.Proofs.Ytompbkphdjjpdaa
