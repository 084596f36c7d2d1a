/- The contract of the model's tight (chapter 1). Conditions: the page is valid, its slots lie in a row. -/
import Derived.Test.YtelhgpmklhdhcaaTight
import Derived.Test.YtelhgpmklhdhcaaNewP
import Derived.Test.YtelhgpmklhdhcaaPgK
import Derived.Test.YtelhgpmklhdhcaaExPageC
set_option linter.unusedVariables false
set_option linter.unusedSimpArgs false
namespace Go.Proofs.Ytelhgpmklhdhcaa
open Go.RowKit Go.ChangeShapes Go.WideShapes

theorem own_some {w : World} {B n c z : Nat} {e : TypeId} {A : Option Addr} {xs : List Value} (h : w.ownsRow B e z (.slice A n c) n xs) (hn : 0 < n) : ∃ g, A = some ⟨g, 0, none⟩ ∧ B ≤ g ∧ g < w.heap.size := by
  rcases h.2 with ⟨_, h2⟩ | ⟨g, cap, cur, hv, hg, hh, _⟩
  · omega
  · injection hv with hA _ _
    exact ⟨g, hA, hg, (Array.getElem?_eq_some_iff.1 hh).1⟩
/-- slots of the call's own: the cells of one of them -/
theorem own_slot {w : World} {B g n c : Nat} {l : List Sl} (h : w.ownsRow B 81 2 (.slice (some ⟨g, 0, none⟩) n c) n (slC l)) (hn : n = l.length) {k : Nat} (hk : k < l.length) :
    w.cell? ⟨g, k * 2, none⟩ = some (.int .i64 l[k].1) ∧ w.cell? ⟨g, k * 2 + 1, none⟩ = some (.int .i64 l[k].2) ∧ w.frozen? ⟨g, k * 2, none⟩ = false ∧ w.frozen? ⟨g, k * 2 + 1, none⟩ = false := by
  have c0 := h.cellAt (k * 2) (by omega)
  have c1 := h.cellAt (k * 2 + 1) (by omega)
  rw [slC_at0 hk] at c0
  rw [slC_at1 hk] at c1
  exact ⟨c0, c1, h.frozenAt _, h.frozenAt _⟩

/-- while slots are made tight: k of them are; the row is of the call's own from block B on -/
structure TRel (sl : List Sl) (A : Option Addr) (c B : Nat) (w2 : World) (k : Nat) (wr : World) : Prop where
  hk : k ≤ sl.length
  own : wr.ownsRow B 81 2 (.slice A sl.length c) sl.length (slC (tightK sl k))
  below : Below B w2 wr
  size : B ≤ wr.heap.size
theorem TRel.keep {sl : List Sl} {A : Option Addr} {c B : Nat} {w2 : World} {k : Nat} {wr W : World} (h : TRel sl A c B w2 k wr) (hb : Below wr.heap.size wr W) : TRel sl A c B w2 k W :=
  ⟨h.hk, h.own.kept (grown_of_below (row := none) hb) (by cases A <;> simp [Value.ownBlock]), h.below.trans (hb.mono h.size), Nat.le_trans h.size hb.size⟩
theorem TRel.put {sl : List Sl} {g c B : Nat} {w2 : World} {k : Nat} {wr : World} (h : TRel sl (some ⟨g, 0, none⟩) c B w2 k wr) (hB : B ≤ g) (hk : k < sl.length) (hg : ∀ p ∈ sl, 0 ≤ p.2) (h0 : 0 ≤ sl[k].1) :
    TRel sl (some ⟨g, 0, none⟩) c B w2 (k + 1) (wr.setCell ⟨g, k * 2, none⟩ (.int .i64 (48 - (sumZ (sl.take (k + 1)) : Int)))) := by
  refine ⟨hk, ?_, h.below.setCell hB _, by simp [h.size]⟩
  rw [tightK_put hk hg h0]
  have := (h.own.stored (k * 2) (.int .i64 (48 - (sumZ (sl.take (k + 1)) : Int)))).1
  rw [slC_set0 _ _ (by rw [tightK_len]; exact hk), tightK_at sl hk] at this
  exact this
theorem TRel.skip {sl : List Sl} {A : Option Addr} {c B : Nat} {w2 : World} {k : Nat} {wr : World} (h : TRel sl A c B w2 k wr) (hk : k < sl.length) (hg : ∀ p ∈ sl, 0 ≤ p.2) (h0 : ¬ 0 ≤ sl[k].1) : TRel sl A c B w2 (k + 1) wr :=
  ⟨hk, by rw [tightK_skip hk hg h0]; exact h.own, h.below, h.size⟩
theorem Pg.tail_size {s : ByteArray} {sl : List Sl} (h : Pg s sl) (k : Nat) : (ofL (tlB s (sl.take k))).size = sumZ (sl.take k) := by
  rw [ofL_size]
  exact tlB_len h.size _ fun p hp => h.good p (List.mem_of_mem_take hp)
theorem Pg.pos {s : ByteArray} {sl : List Sl} (h : Pg s sl) : ∀ p ∈ sl, 0 ≤ p.2 := fun p hp => (good_size (h.good p hp)).1
theorem extract_seg {s : ByteArray} {a z : Nat} : s.extract a (a + z) = ofL (segL s.data.toList a z) := cutS_seg s a z

set_option maxRecDepth 100000 in
set_option maxHeartbeats 2000000 in
theorem sTight_any (s : ByteArray) (A : Option Addr) (n c : Nat) (sl : List Sl) (w : World) (h : PageAt w s A n sl) (hv : Pg s sl) (hA : A = none → c = 0) :
    Calls Try.prog 129 #[.agg #[.string s, .slice A n c]] w (ToPost (tightB s sl) (tightL 48 sl) w) := by
  obtain ⟨hn, hrow, hwf, hs, hsm⟩ := h
  have HC := Lib.hid (fun W (hb : Below w.heap.size w W) => sCopy_any A n c sl W ((hrow.below hb).mono hb.size) hn hsm hA)
  have h48 : s.size = 48 := hv.size
  have hsum := hv.sumLe
  have HN := Lib.hid hn; clear hn
  have HV := Lib.hid hv; clear hv
  clear hrow hA
  go_enter Try.func129, Try.ntmps129
  go_wp2_with fail
  refine (HC.out _ (((Below.refl _ _).alloc (Nat.le_refl _) _).alloc (by simp) _)).mono ?_
  rintro e w2 ⟨v, rfl, ⟨A2, c2, rfl, ho⟩, hb2⟩
  have hsz := hb2.size
  simp only [World.size_alloc] at hsz
  have f0 : w2.cell? ⟨w.heap.size, 0, none⟩ = some (.string s) := (hb2.cell (p := ⟨w.heap.size, 0, none⟩) (by simp <;> omega)).trans (by simp [go_sem])
  have r0 : w2.cell? ⟨w.heap.size + 1, 0, none⟩ = some (.string ⟨#[]⟩) := (hb2.cell (p := ⟨w.heap.size + 1, 0, none⟩) (by simp)).trans (by simp [go_sem])
  have r1 : w2.cell? ⟨w.heap.size + 1, 1, none⟩ = some (.slice none 0 0) := (hb2.cell (p := ⟨w.heap.size + 1, 1, none⟩) (by simp)).trans (by simp [go_sem])
  have z0 : w2.frozen? ⟨w.heap.size + 1, 0, none⟩ = false := (hb2.frozen (p := ⟨w.heap.size + 1, 0, none⟩) (by simp)).trans (by simp [go_sem])
  have z1 : w2.frozen? ⟨w.heap.size + 1, 1, none⟩ = false := (hb2.frozen (p := ⟨w.heap.size + 1, 1, none⟩) (by simp)).trans (by simp [go_sem])
  have ho2 : w2.ownsRow (w.heap.size + 2) 81 2 (.slice A2 sl.length c2) sl.length (slC sl) := by simpa using ho
  have HT := Lib.hid (show TRel sl A2 c2 (w.heap.size + 2) w2 0 w2 from ⟨Nat.zero_le _, by rw [tightK_zero]; exact ho2, Below.refl _ _, by omega⟩)
  have HF := Lib.hid (And.intro f0 (And.intro r0 (And.intro r1 (And.intro z0 z1))))
  have HB2 := Lib.hid ((((Below.refl w.heap.size w).alloc (Nat.le_refl _) (.cells #[.string s, .slice A n c] 25)).alloc (by simp) (.cells #[.string ⟨#[]⟩, .slice none 0 0] 25)).trans (hb2.mono (by simp <;> omega)))
  clear f0 r0 r1 z0 z1 ho ho2 hb2
  go_wp2_with fail
  go_loopw [4, 5] (fun q i wr => ∃ k : Nat, i = .int .i64 k ∧ q = .string (ofL (tlB s (sl.take k))) ∧ TRel sl A2 c2 (w.heap.size + 2) w2 k wr) (fun _ i _ => n - (intOf i).toNat)
  case atStart => exact ⟨0, rfl, rfl, HT.out⟩
  case round =>
    clear HT
    obtain ⟨k, rfl, rfl, ht⟩ := hrel
    have HT := Lib.hid ht; clear ht
    have hqs := HV.out.tail_size k
    have hqk : sumZ (sl.take k) ≤ sumZ sl := sumZ_take sl k
    have hk := HT.out.hk
    have hnn := HN.out
    have hBr := HT.out.size
    have g0 : wr.cell? ⟨w.heap.size, 0, none⟩ = some (.string s) := (HT.out.below.cell (p := ⟨w.heap.size, 0, none⟩) (by show w.heap.size < w.heap.size + 2; omega)).trans HF.out.1
    by_cases hlt : k < sl.length
    · obtain ⟨g, rfl, hBg, hgl⟩ := own_some HT.out.own (by omega)
      obtain ⟨e0, e1, f0, f1⟩ := own_slot HT.out.own (by rw [tightK_len]) (k := k) (by rw [tightK_len]; exact hlt)
      rw [tightK_at sl hlt] at e0 e1
      have hts := tlB_step s hlt
      have hss := sumZ_step hlt
      have hsl := sumZ_take sl (k + 1)
      have hqs1 := HV.out.tail_size (k + 1)
      by_cases hx : 0 ≤ sl[k].1
      · obtain ⟨a, z, ha, hz, _, hz1, haz, _⟩ := good_cell (HV.out.good _ (List.getElem_mem hlt)) hx
        have HP := Lib.hid (fun W (hb : Below wr.heap.size wr W) => (HT.out.keep hb).put hBg hlt HV.out.pos hx)
        rw [if_pos hx] at hss
        have heq : s.extract a (a + z) ++ ofL (tlB s (sl.take k)) = ofL (tlB s (sl.take (k + 1))) := by
          rw [hts, extract_seg, ofL_app]; unfold celO celL; rw [if_pos hx, ha, hz, Int.toNat_natCast, Int.toNat_natCast]
        have HQ := Lib.hid (And.intro heq hqs1); clear heq hqs1 hts
        rw [ha] at e0
        rw [hz] at e1
        have he : (48 : Int) - (sumZ (sl.take (k + 1)) : Int) = 48 - ((z : Int) + (sumZ (sl.take k) : Int)) := by rw [hss, hz, Int.toNat_natCast]; omega
        rw [he] at HP
        clear hx he
        generalize ofL (tlB s (sl.take k)) = q at *
        generalize sumZ (sl.take k) = m at *
        have haz2 : a + z ≤ s.size := by omega
        go_wp2_with fail
        go_quiet (fail)
        go_wp2_with fail
        go_roundw
        case rel => exact ⟨k + 1, by go_num, by rw [HQ.out.1], HP.out _ (below_drewN _ _)⟩
        case measure => simp [intOf]; omega
      · have HK := Lib.hid (HT.out.skip hlt HV.out.pos hx)
        have hts2 : tlB s (sl.take (k + 1)) = tlB s (sl.take k) := by rw [hts]; unfold celO; rw [if_neg hx]; rfl
        have HQ := Lib.hid (show ofL (tlB s (sl.take (k + 1))) = ofL (tlB s (sl.take k)) by rw [hts2]); clear hts hts2
        generalize hx1 : sl[k].1 = x1 at *
        clear hx1 hss
        generalize ofL (tlB s (sl.take k)) = q at *
        go_wp2_with fail
        go_roundw
        case rel => exact ⟨k + 1, by go_num, by rw [HQ.out], HK.out⟩
        case measure => simp [intOf]; omega
    · obtain rfl : k = sl.length := by omega
      have HO := Lib.hid (And.intro HT.out.own HT.out.below)
      rw [tightK_all] at HO
      rw [List.take_length] at hqs ⊢
      have h40 : (48 : Int) - (sumZ sl : Int) = ((48 - sumZ sl : Nat) : Int) := by omega
      have HBL := Lib.hid (fun w => blank_any (48 - sumZ sl) w (by omega))
      have HE := Lib.hid (show ptsOf (48 - sumZ sl) ++ ofL (tlB s sl) = tightB s sl by
        unfold tightB
        rw [HV.out.tlLen, ← ofL_app]; rfl)
      have HPS := Lib.hid (ptsOf_size (48 - sumZ sl))
      rw [← h40] at HBL
      have r0 : wr.cell? ⟨w.heap.size + 1, 0, none⟩ = some (.string ⟨#[]⟩) := (HO.out.2.cell (p := ⟨w.heap.size + 1, 0, none⟩) (by simp)).trans HF.out.2.1
      have r1 : wr.cell? ⟨w.heap.size + 1, 1, none⟩ = some (.slice none 0 0) := (HO.out.2.cell (p := ⟨w.heap.size + 1, 1, none⟩) (by simp)).trans HF.out.2.2.1
      have z0 : wr.frozen? ⟨w.heap.size + 1, 0, none⟩ = false := (HO.out.2.frozen (p := ⟨w.heap.size + 1, 0, none⟩) (by simp)).trans HF.out.2.2.2.1
      have z1 : wr.frozen? ⟨w.heap.size + 1, 1, none⟩ = false := (HO.out.2.frozen (p := ⟨w.heap.size + 1, 1, none⟩) (by simp)).trans HF.out.2.2.2.2
      generalize ofL (tlB s sl) = q at *
      generalize ptsOf (48 - sumZ sl) = P at *
      have hps : P.size = 48 - sumZ sl := HPS.out
      generalize sumZ sl = m at *
      clear g0 h40
      go_wp2_with fail
      refine (HBL.out _).mono ?_
      rintro e w' ⟨rfl, rfl⟩
      go_wp2_with fail
      refine bodyPost_ret (v := .agg #[.string (P ++ q), .slice A2 sl.length c2]) ?_ rfl ?_
      · simp [results, Try.results129, go_sem, r0, r1]
      · rw [HE.out]
        refine ⟨_, rfl, ⟨A2, c2, by rw [tightL_len], ?_⟩, ?_⟩
        · rw [tightL_len]
          refine own_mono (ownsRow_setCell_below (ownsRow_setCell_below HO.out.1 ?_ _) ?_ _) ?_ <;> simp
        · refine ((HB2.out.trans (HO.out.2.mono (by omega))).setCell ?_ _).setCell ?_ _ <;> simp
end Go.Proofs.Ytelhgpmklhdhcaa
