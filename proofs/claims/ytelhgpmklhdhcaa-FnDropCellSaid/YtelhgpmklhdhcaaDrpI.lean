/- Contracts of usedSlots and DropCell of the program (chapter 1). Conditions: the slots lie in a row. -/
import Derived.Test.YtelhgpmklhdhcaaTgU
import Derived.Test.YtelhgpmklhdhcaaShelf
set_option linter.unusedVariables false
set_option linter.unusedSimpArgs false
namespace Go.Proofs.Ytelhgpmklhdhcaa
open Go.RowKit Go.ChangeShapes Go.WideShapes

set_option maxRecDepth 100000 in
set_option maxHeartbeats 1000000 in
theorem usedSlots_any (A : Option Addr) (n c : Nat) (l : List Sl) (w : World) (hr : RowAt w w.heap.size A (slC l)) (hn : n = l.length) (hs : n ≤ 1048576) (hg : ∀ p ∈ l, freeB p.1 p.2 = !decide (0 ≤ p.1)) :
    Calls Try.prog 59 #[.slice A n c] w fun e w' => e = .returned (.int .i64 (usedN l)) ∧ Below w.heap.size w w' := by
  have HR := Lib.hid hr; clear hr
  have HN := Lib.hid hn; clear hn
  have HG := Lib.hid hg; clear hg
  go_enter Try.func59, Try.ntmps59
  go_wp2_with fail
  go_loopw [3] (fun i wr => ∃ k : Nat, i = .int .i64 k ∧ k ≤ n ∧ (∀ j (hj : j < l.length), k ≤ j → ¬ 0 ≤ l[j].1) ∧ Below w.heap.size w wr) (fun i _ => (intOf i).toNat)
  case atStart => exact ⟨n, rfl, Nat.le_refl _, fun j hj hk => by have := HN.out; omega, Below.refl _ _⟩
  case round =>
    obtain ⟨k, rfl, hk, hf, hb⟩ := hrel
    have HF := Lib.hid hf; clear hf
    have HB := Lib.hid hb; clear hb
    cases k with
    | zero =>
      have HE := Lib.hid (usedN_at (sl := l) (Nat.zero_le _) HF.out (fun h => by omega))
      go_wp2_with fail
      go_ret
      exact ⟨by rw [HE.out]; rfl, HB.out⟩
    | succ k =>
      have hkl : k < l.length := by have := HN.out; omega
      obtain ⟨b, off, rfl, hbw, e0, e1⟩ := slots_at (HR.out.below HB.out) hkl
      have HC := Lib.hid (fun w => isFree_any l[k].1 l[k].2 w)
      rw [HG.out l[k] (List.getElem_mem hkl)] at HC
      have i0 : (0 : Int) < ((k + 1 : Nat) : Int) := by omega
      have i1 : ((k + 1 : Nat) : Int) - 1 = (k : Int) := by omega
      by_cases hx : 0 ≤ l[k].1
      · have HE := Lib.hid (usedN_at (sl := l) (m := k + 1) (by omega) HF.out (fun _ => by simpa using hx))
        rw [show (!decide (0 ≤ l[k].1)) = false by simp [hx]] at HC
        generalize l[k].1 = x1 at *
        generalize l[k].2 = x2 at *
        go_wp2_with fail
        refine (HC.out _).mono ?_
        rintro e w3 ⟨rfl, hb3⟩
        have HB3 := Lib.hid (HB.out.trans (hb3.mono HB.out.size)); clear hb3
        go_wp2_with fail
        go_ret
        exact ⟨by rw [HE.out]; rfl, HB3.out⟩
      · have HF2 := Lib.hid (show ∀ j (hj : j < l.length), k ≤ j → ¬ 0 ≤ l[j].1 from fun j hj hkj => by
          rcases Nat.lt_or_ge k j with h | h
          · exact HF.out j hj h
          · obtain rfl : j = k := by omega
            exact hx)
        rw [show (!decide (0 ≤ l[k].1)) = true by simp [hx]] at HC
        generalize l[k].1 = x1 at *
        generalize l[k].2 = x2 at *
        clear hx
        go_wp2_with fail
        refine (HC.out _).mono ?_
        rintro e w3 ⟨rfl, hb3⟩
        have HB3 := Lib.hid (HB.out.trans (hb3.mono HB.out.size)); clear hb3
        go_wp2_with fail
        go_roundw
        case rel => exact ⟨k, by first | rfl | go_num, by omega, (fun j hj h => by have := HF2.out j hj h; omega), HB3.out⟩
        case measure => simp [intOf] <;> omega

theorem cut_own {w : World} {B g n c : Nat} {l : List Sl} {m : Nat} (h : w.ownsRow B 81 2 (.slice (some ⟨g, 0, none⟩) n c) n (slC l)) (hn : n = l.length) (hm : m ≤ n) :
    w.ownsRow B 81 2 (.slice (some ⟨g, 0, none⟩) m c) (l.take m).length (slC (l.take m)) := by
  have hl : (l.take m).length = m := by rw [List.length_take]; omega
  rw [hl]
  rcases h.2 with ⟨h1, _⟩ | ⟨g', N, cur, h1, hB, hh, hN, hM, hc, ht⟩
  · cases h1
  · injection h1 with hA _ hC
    injection hA with hA
    injection hA with hA
    subst hA hC
    refine ⟨by rw [slC_len, hl], .inr ⟨g, c, cur, rfl, hB, hh, by omega, hM, hc, ?_⟩⟩
    have e : slC l = slC (l.take m) ++ slC (l.drop m) := by unfold slC; rw [← List.flatMap_append, List.take_append_drop]
    have h2 : (cur.toList.take (n * 2)).take (m * 2) = slC (l.take m) := by rw [ht, e]; exact List.take_left' (by rw [slC_len, hl])
    rw [List.take_take, Nat.min_eq_left (by omega)] at h2
    exact h2
theorem cutS_head (g n c k : Nat) (W : World) (h : k ≤ c) :
    (Instr.sliceAt 23 (.slice (some ⟨g, 0, none⟩) n c) none (some (.int .i64 (k : Int))) none).run Try.prog W = .ok (.slice (some ⟨g, 0, none⟩) k c) W := by
  have hu : Try.prog.underlying 23 = some (.slice (Try.prog.elem 23)) := by kernel_rfl
  have hs : (sizeOf (Try.prog.elem 23)).run Try.prog W = .ok 2 W := by kernel_rfl
  rw [run_sliceAt_slice (h := hu), run_slice_h (ht := hu) (h0 := by omega) (h2 := by omega), hs]
  simp only [Result.andThen_ok, sliced, Int.toNat_natCast, Option.map_some, Nat.zero_mul]
  rw [add_zero_off]
  simp
theorem repeat_pts (z : Nat) : (⟨(Lib.repeatL [46] z).toArray⟩ : ByteArray) = ptsOf z := by
  have : ∀ z, Lib.repeatL [(46 : UInt8)] z = List.replicate z 46 := by
    intro z
    induction z with
    | zero => rfl
    | succ n ih => rw [List.replicate_succ, ← ih]; rfl
  rw [this]; rfl

/-- a page argument in its block, the answer's block behind it, still empty -/
structure PgBox (b : Nat) (s : ByteArray) (A : Option Addr) (n c : Nat) (W : World) : Prop where
  f0 : W.cell? ⟨b, 0, none⟩ = some (.string s)
  f1 : W.cell? ⟨b, 1, none⟩ = some (.slice A n c)
  r0 : W.cell? ⟨b + 1, 0, none⟩ = some (.string ⟨#[]⟩)
  r1 : W.cell? ⟨b + 1, 1, none⟩ = some (.slice none 0 0)
  z0 : W.frozen? ⟨b + 1, 0, none⟩ = false
  z1 : W.frozen? ⟨b + 1, 1, none⟩ = false
  lt : b + 2 ≤ W.heap.size
theorem PgBox.keep {b B : Nat} {s : ByteArray} {A : Option Addr} {n c : Nat} {W W' : World} (h : PgBox b s A n c W) (hb : Below B W W') (hB : b + 2 ≤ B) (hl : B ≤ W'.heap.size) : PgBox b s A n c W' :=
  ⟨(hb.cell (p := ⟨b, 0, none⟩) (by show b < B; omega)).trans h.f0, (hb.cell (p := ⟨b, 1, none⟩) (by show b < B; omega)).trans h.f1,
   (hb.cell (p := ⟨b + 1, 0, none⟩) (by show b + 1 < B; omega)).trans h.r0, (hb.cell (p := ⟨b + 1, 1, none⟩) (by show b + 1 < B; omega)).trans h.r1,
   (hb.frozen (p := ⟨b + 1, 0, none⟩) (by show b + 1 < B; omega)).trans h.z0, (hb.frozen (p := ⟨b + 1, 1, none⟩) (by show b + 1 < B; omega)).trans h.z1, by omega⟩
theorem PgBox.start (w : World) (s : ByteArray) (A : Option Addr) (n c : Nat) : PgBox w.heap.size s A n c ((w.alloc (.cells #[.string s, .slice A n c] 25)).alloc (.cells #[.string ⟨#[]⟩, .slice none 0 0] 25)) :=
  ⟨by simp [go_sem], by simp [go_sem], by simp [go_sem], by simp [go_sem], by simp [go_sem], by simp [go_sem], by simp⟩
theorem PgBox.next {b : Nat} {s : ByteArray} {A : Option Addr} {n c : Nat} {W W' : World} (h : PgBox b s A n c W) (hb : Below W.heap.size W W') : PgBox b s A n c W' := h.keep hb h.lt hb.size

def dropOk (s : ByteArray) (sl : List Sl) (p : Int) : Bool := iValid s sl && (decide (0 ≤ p) && (decide (p < sl.length) && decide (0 ≤ (sl.getD p.toNat (-1, 0)).1)))
def dropR (s : ByteArray) (sl : List Sl) (p : Int) : (ByteArray × List Sl) × Bool :=
  if dropOk s sl p = true then ((dropB s (sl.getD p.toNat (-1, 0)).1.toNat (sl.getD p.toNat (-1, 0)).2.toNat, dropL p.toNat sl), true) else ((⟨#[]⟩, []), false)
theorem dropR_len (s : ByteArray) (l : List Sl) (p : Int) : (dropR s l p).1.2.length ≤ l.length := by
  unfold dropR
  split
  · show (dropL p.toNat l).length ≤ _
    unfold dropL
    rw [List.length_take, List.length_set]; omega
  · simp
theorem drop_bytes {s : ByteArray} {a z : Nat} (h48 : s.size = 48) (h : a + z ≤ 48) : s.extract 0 a ++ ptsOf z ++ s.extract (a + z) 48 = dropB s a z := by
  have h1 : s.data.toList.length = 48 := by simpa using h48
  have e1 : s.extract 0 a = ofL (s.data.toList.take a) := by have := cutS_seg s 0 a; unfold cutS segL at this; simpa using this
  have e2 : s.extract (a + z) 48 = ofL (s.data.toList.drop (a + z)) := by
    have := cutS_seg s (a + z) (48 - (a + z))
    unfold cutS segL at this
    rw [show a + z + (48 - (a + z)) = 48 by omega] at this
    rw [this, List.take_of_length_le (by simp; omega)]
  rw [e1, e2, show ptsOf z = ofL (List.replicate z 46) from rfl, ofL_app, ofL_app]; rfl

set_option maxRecDepth 100000 in
set_option maxHeartbeats 4000000 in
theorem iDrop_no (s : ByteArray) (A : Option Addr) (n c : Nat) (sl : List Sl) (p : Int) (w : World) (h : PageAt w s A n sl) (hA : A = none → c = 0) (hok : dropOk s sl p = false) :
    Calls Try.prog 16 #[.agg #[.string s, .slice A n c], .int .i64 p] w (PgbPost (dropR s sl p) w) := by
  have HVA := Lib.hid (fun W (hb : Below w.heap.size w W) => iValid_any s A n c sl W (h.below hb))
  have HB0 := Lib.hid ((((Below.refl w.heap.size w).alloc (Nat.le_refl _) (.cells #[.string s, .slice A n c] 25)).alloc (by simp) (.cells #[.string ⟨#[]⟩, .slice none 0 0] 25)))
  have HN := Lib.hid h.len
  have H1 := Lib.hid (show dropR s sl p = ((⟨#[]⟩, []), false) by unfold dropR; rw [hok]; simp)
  have hend : ∀ (W : World), Below w.heap.size w W → PgbPost (dropR s sl p) w (.returned (.tuple #[.agg #[.string ⟨#[]⟩, .slice none 0 0], .bool false])) W := fun W hb => by
    rw [H1.out]; exact ⟨_, rfl, noPage_own _ _, hb⟩
  have HEND := Lib.hid hend; clear hend
  cases hv : iValid s sl
  · rw [hv] at HVA
    clear h hv hA hok
    go_enter Try.func16, Try.ntmps16
    go_wp2_with fail
    refine (HVA.out _ HB0.out).mono ?_
    rintro e w2 ⟨rfl, hb2⟩
    have r0 : w2.cell? ⟨w.heap.size + 1, 0, none⟩ = some (.string ⟨#[]⟩) := (hb2.cell (p := ⟨w.heap.size + 1, 0, none⟩) (by simp)).trans (by simp [go_sem])
    have r1 : w2.cell? ⟨w.heap.size + 1, 1, none⟩ = some (.slice none 0 0) := (hb2.cell (p := ⟨w.heap.size + 1, 1, none⟩) (by simp)).trans (by simp [go_sem])
    have z0 : w2.frozen? ⟨w.heap.size + 1, 0, none⟩ = false := (hb2.frozen (p := ⟨w.heap.size + 1, 0, none⟩) (by simp)).trans (by simp [go_sem])
    have z1 : w2.frozen? ⟨w.heap.size + 1, 1, none⟩ = false := (hb2.frozen (p := ⟨w.heap.size + 1, 1, none⟩) (by simp)).trans (by simp [go_sem])
    have HB2 := Lib.hid (HB0.out.trans (hb2.mono HB0.out.size)); clear hb2
    go_wp2_with fail
    refine bodyPost_ret (v := .tuple #[.agg #[.string ⟨#[]⟩, .slice none 0 0], .bool false]) ?_ rfl ?_
    · simp [results, Try.results16, go_sem, r0, r1]
    · refine HEND.out _ ((HB2.out.setCell ?_ _).setCell ?_ _) <;> simp
  · rw [hv] at HVA
    obtain ⟨h48, h24, hgd⟩ := iValid_good hv
    have HR := Lib.hid h.row
    have hcase : p < 0 ∨ (n : Int) ≤ p ∨ ∃ k : Nat, p = k ∧ k < n := by
      rcases Int.lt_or_le p 0 with h1 | h1
      · exact .inl h1
      · rcases Int.lt_or_le p n with h2 | h2
        · exact .inr (.inr ⟨p.toNat, by omega, by omega⟩)
        · exact .inr (.inl h2)
    rcases hcase with hp | hp | ⟨k, rfl, hk⟩
    · clear h hv hA hok
      go_enter Try.func16, Try.ntmps16
      go_wp2_with fail
      refine (HVA.out _ HB0.out).mono ?_
      rintro e w2 ⟨rfl, hb2⟩
      have r0 : w2.cell? ⟨w.heap.size + 1, 0, none⟩ = some (.string ⟨#[]⟩) := (hb2.cell (p := ⟨w.heap.size + 1, 0, none⟩) (by simp)).trans (by simp [go_sem])
      have r1 : w2.cell? ⟨w.heap.size + 1, 1, none⟩ = some (.slice none 0 0) := (hb2.cell (p := ⟨w.heap.size + 1, 1, none⟩) (by simp)).trans (by simp [go_sem])
      have z0 : w2.frozen? ⟨w.heap.size + 1, 0, none⟩ = false := (hb2.frozen (p := ⟨w.heap.size + 1, 0, none⟩) (by simp)).trans (by simp [go_sem])
      have z1 : w2.frozen? ⟨w.heap.size + 1, 1, none⟩ = false := (hb2.frozen (p := ⟨w.heap.size + 1, 1, none⟩) (by simp)).trans (by simp [go_sem])
      have HB2 := Lib.hid (HB0.out.trans (hb2.mono HB0.out.size)); clear hb2
      go_wp2_with fail
      refine bodyPost_ret (v := .tuple #[.agg #[.string ⟨#[]⟩, .slice none 0 0], .bool false]) ?_ rfl ?_
      · simp [results, Try.results16, go_sem, r0, r1]
      · refine HEND.out _ ((HB2.out.setCell ?_ _).setCell ?_ _) <;> simp
    · clear h hv hA hok
      have hp0 : ¬ p < 0 := by omega
      go_enter Try.func16, Try.ntmps16
      go_wp2_with fail
      refine (HVA.out _ HB0.out).mono ?_
      rintro e w2 ⟨rfl, hb2⟩
      have f1 : w2.cell? ⟨w.heap.size, 1, none⟩ = some (.slice A n c) := (hb2.cell (p := ⟨w.heap.size, 1, none⟩) (by simp <;> omega)).trans (by simp [go_sem])
      have r0 : w2.cell? ⟨w.heap.size + 1, 0, none⟩ = some (.string ⟨#[]⟩) := (hb2.cell (p := ⟨w.heap.size + 1, 0, none⟩) (by simp)).trans (by simp [go_sem])
      have r1 : w2.cell? ⟨w.heap.size + 1, 1, none⟩ = some (.slice none 0 0) := (hb2.cell (p := ⟨w.heap.size + 1, 1, none⟩) (by simp)).trans (by simp [go_sem])
      have z0 : w2.frozen? ⟨w.heap.size + 1, 0, none⟩ = false := (hb2.frozen (p := ⟨w.heap.size + 1, 0, none⟩) (by simp)).trans (by simp [go_sem])
      have z1 : w2.frozen? ⟨w.heap.size + 1, 1, none⟩ = false := (hb2.frozen (p := ⟨w.heap.size + 1, 1, none⟩) (by simp)).trans (by simp [go_sem])
      have HB2 := Lib.hid (HB0.out.trans (hb2.mono HB0.out.size)); clear hb2
      go_wp2_with fail
      refine bodyPost_ret (v := .tuple #[.agg #[.string ⟨#[]⟩, .slice none 0 0], .bool false]) ?_ rfl ?_
      · simp [results, Try.results16, go_sem, r0, r1]
      · refine HEND.out _ ((HB2.out.setCell ?_ _).setCell ?_ _) <;> simp
    · have hkl : k < sl.length := by have := HN.out; omega
      have hx : ¬ 0 ≤ sl[k].1 := by
        intro hx
        unfold dropOk at hok
        rw [hv, Int.toNat_natCast, List.getD_eq_getElem?_getD, List.getElem?_eq_getElem hkl] at hok
        simp only [Option.getD_some, Bool.true_and, decide_eq_true hx, Bool.and_true] at hok
        simp at hok
        omega
      have HC := Lib.hid (fun w => isFree_any sl[k].1 sl[k].2 w)
      rw [good_free (hgd _ (List.getElem_mem hkl)), show (!decide (0 ≤ sl[k].1)) = true by simp [hx]] at HC
      clear h hv hA hok hx
      have hp0 : ¬ ((k : Int) < 0) := by omega
      have hpn : ¬ ((n : Int) ≤ (k : Int)) := by omega
      go_enter Try.func16, Try.ntmps16
      go_wp2_with fail
      refine (HVA.out _ HB0.out).mono ?_
      rintro e w2 ⟨rfl, hb2⟩
      have f1 : w2.cell? ⟨w.heap.size, 1, none⟩ = some (.slice A n c) := (hb2.cell (p := ⟨w.heap.size, 1, none⟩) (by simp <;> omega)).trans (by simp [go_sem])
      have r0 : w2.cell? ⟨w.heap.size + 1, 0, none⟩ = some (.string ⟨#[]⟩) := (hb2.cell (p := ⟨w.heap.size + 1, 0, none⟩) (by simp)).trans (by simp [go_sem])
      have r1 : w2.cell? ⟨w.heap.size + 1, 1, none⟩ = some (.slice none 0 0) := (hb2.cell (p := ⟨w.heap.size + 1, 1, none⟩) (by simp)).trans (by simp [go_sem])
      have z0 : w2.frozen? ⟨w.heap.size + 1, 0, none⟩ = false := (hb2.frozen (p := ⟨w.heap.size + 1, 0, none⟩) (by simp)).trans (by simp [go_sem])
      have z1 : w2.frozen? ⟨w.heap.size + 1, 1, none⟩ = false := (hb2.frozen (p := ⟨w.heap.size + 1, 1, none⟩) (by simp)).trans (by simp [go_sem])
      have hs2 : w.heap.size + 2 ≤ w2.heap.size := by have := hb2.size; simpa using this
      have HB2 := Lib.hid (HB0.out.trans (hb2.mono HB0.out.size)); clear hb2
      obtain ⟨b, off, rfl, hbw, e0, e1⟩ := slots_at (HR.out.below HB2.out) hkl
      have HF := Lib.hid (And.intro r0 (And.intro r1 (And.intro z0 z1))); clear r0 r1 z0 z1
      generalize sl[k].1 = x1 at *
      generalize sl[k].2 = x2 at *
      go_wp2_with fail
      refine (HC.out _).mono ?_
      rintro e w3 ⟨rfl, hb3⟩
      have r0 : w3.cell? ⟨w.heap.size + 1, 0, none⟩ = some (.string ⟨#[]⟩) := (hb3.cell (p := ⟨w.heap.size + 1, 0, none⟩) (by show w.heap.size + 1 < w2.heap.size; omega)).trans HF.out.1
      have r1 : w3.cell? ⟨w.heap.size + 1, 1, none⟩ = some (.slice none 0 0) := (hb3.cell (p := ⟨w.heap.size + 1, 1, none⟩) (by show w.heap.size + 1 < w2.heap.size; omega)).trans HF.out.2.1
      have z0 : w3.frozen? ⟨w.heap.size + 1, 0, none⟩ = false := (hb3.frozen (p := ⟨w.heap.size + 1, 0, none⟩) (by show w.heap.size + 1 < w2.heap.size; omega)).trans HF.out.2.2.1
      have z1 : w3.frozen? ⟨w.heap.size + 1, 1, none⟩ = false := (hb3.frozen (p := ⟨w.heap.size + 1, 1, none⟩) (by show w.heap.size + 1 < w2.heap.size; omega)).trans HF.out.2.2.2
      have HB3 := Lib.hid (HB2.out.trans (hb3.mono HB2.out.size)); clear hb3
      go_wp2_with fail
      refine bodyPost_ret (v := .tuple #[.agg #[.string ⟨#[]⟩, .slice none 0 0], .bool false]) ?_ rfl ?_
      · simp [results, Try.results16, go_sem, r0, r1]
      · refine HEND.out _ ((HB3.out.setCell ?_ _).setCell ?_ _) <;> simp
end Go.Proofs.Ytelhgpmklhdhcaa
