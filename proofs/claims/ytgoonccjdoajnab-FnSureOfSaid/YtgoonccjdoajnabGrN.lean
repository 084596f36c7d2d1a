/- The contract of RunGroup of the model: it answers a valid group in memory of its own (chapter 10). Conditions: from one to five peers, at most thirty moves, which lie in memory. -/
import Derived.Test.YtgoonccjdoajnabGrJ
import Derived.Test.YtgoonccjdoajnabGrT
import Derived.Test.YtgoonccjdoajnabGrW
import Derived.Test.YtgoonccjdoajnabGrF
import Derived.Test.YtgoonccjdoajnabExMove
set_option linter.unusedVariables false
set_option linter.unusedSimpArgs false
namespace Go.Proofs.Ytgoonccjdoajnab
open Go.RowKit Go.ChangeShapes Go.WideShapes

theorem okG_outW {L : List (List En)} {ld tm i : Int} (h : (outW L ld tm i).2.2.2 = true) : okG (outW L ld tm i).1 (outW L ld tm i).2.1 (outW L ld tm i).2.2.1 := by
  unfold outW at h ⊢
  by_cases q : okW L ld tm i
  · rw [if_pos q]
    obtain ⟨⟨h1, h2, h3, h4⟩, hi, hne⟩ := q
    obtain ⟨hlt, e⟩ := leadL_at h2.1 h2.2
    refine ⟨by rw [List.length_set]; exact h1, by rw [List.length_set]; exact h2, h3, fun l hl => ?_⟩
    rcases List.mem_or_eq_of_mem_set hl with m | m
    · exact h4 l m
    · have hq := h4 _ (List.getElem_mem hlt)
      rw [← e] at hq
      rw [m]
      refine ⟨by rw [List.length_append]; have := hq.1; simp; omega, fun j hj => ?_⟩
      rw [List.length_append, List.length_singleton] at hj
      rcases Nat.lt_or_ge j (leadL L ld).length with a | a
      · rw [List.getElem_append_left a]
        obtain ⟨b1, b2, b3⟩ := hq.2 j a
        refine ⟨b1, b2, fun h0 => ?_⟩
        rw [List.getElem_append_left (by omega)]
        exact b3 h0
      · obtain rfl : j = (leadL L ld).length := by omega
        rw [List.getElem_append_right (Nat.le_refl _)]
        simp only [Nat.sub_self, List.getElem_cons_zero]
        refine ⟨by omega, hi, fun h0 => ?_⟩
        rw [List.getElem_append_left (by omega)]
        exact (hq.2 _ (by omega)).1.2
  · rw [if_neg q] at h; cases h
theorem okLog_take {tm : Int} {l : List En} (h : okLog tm l) (k : Nat) : okLog tm (l.take k) := by
  refine ⟨by rw [List.length_take]; have := h.1; omega, fun i hi => ?_⟩
  have hi2 : i < l.length := by rw [List.length_take] at hi; omega
  simp only [List.getElem_take]
  exact h.2 i hi2
theorem okG_outS {L : List (List En)} {ld tm t u : Int} (h : (outS L ld tm t u).2.2.2 = true) : okG (outS L ld tm t u).1 (outS L ld tm t u).2.1 (outS L ld tm t u).2.2.1 := by
  unfold outS at h ⊢
  by_cases q : okS L ld tm t u
  · rw [if_pos q]
    obtain ⟨⟨h1, h2, h3, h4⟩, _⟩ := q
    obtain ⟨hlt, e⟩ := leadL_at h2.1 h2.2
    refine ⟨by rw [List.length_set]; exact h1, by rw [List.length_set]; exact h2, h3, fun l hl => ?_⟩
    rcases List.mem_or_eq_of_mem_set hl with m | m
    · exact h4 l m
    · rw [m, e]
      exact okLog_take (h4 _ (List.getElem_mem hlt)) _
  · rw [if_neg q] at h; cases h
theorem okG_outE {L : List (List En)} {ld tm x v : Int} (h : (outE L ld tm x v).2.2.2 = true) : okG (outE L ld tm x v).1 (outE L ld tm x v).2.1 (outE L ld tm x v).2.2.1 := by
  unfold outE at h ⊢
  by_cases q : okE L ld tm x v
  · rw [if_pos q]
    obtain ⟨⟨⟨h1, h2, h3, h4⟩, hx, _⟩, hne⟩ := q
    refine ⟨h1, hx, by show 1 ≤ tm + 1 ∧ tm + 1 ≤ 9; omega, fun l hl => ?_⟩
    have hq := h4 l hl
    exact ⟨hq.1, fun i hi => ⟨⟨(hq.2 i hi).1.1, by have := (hq.2 i hi).1.2; show _ ≤ tm + 1; omega⟩, (hq.2 i hi).2⟩⟩
  · rw [if_neg q] at h; cases h
theorem okG_small {L : List (List En)} {ld tm : Int} (h : okG L ld tm) : SmallGv L := fun r hr => by have := (h.2.2.2 r hr).1; omega
theorem okG_new {n : Nat} (h1 : 1 ≤ n) (h5 : n ≤ 5) : okG (List.replicate n []) 0 1 := by
  refine ⟨by rw [List.length_replicate]; omega, by rw [List.length_replicate]; omega, by omega, fun l hl => ?_⟩
  rw [(List.mem_replicate.1 hl).2]
  exact ⟨by simp, fun i hi => by simp at hi⟩
/-- while the moves are run -/
structure RG (w : World) (G6 : Nat) (At : Option Addr) (mt ct : Nat) (A : Option Addr) (c : Nat) (hs : List GHd) (L : List (List En)) (ld tm : Int) (W : World) : Prop where
  hb : Below w.heap.size w W
  lt : w.heap.size < G6
  res : BoxAt w.heap.size none 0 0 0 0 W ∧ W.frozen? ⟨w.heap.size, 0, none⟩ = false ∧ W.frozen? ⟨w.heap.size, 1, none⟩ = false ∧ W.frozen? ⟨w.heap.size, 2, none⟩ = false
  box : BoxAt G6 A L.length c ld tm W ∧ W.frozen? ⟨G6, 0, none⟩ = false ∧ W.frozen? ⟨G6, 1, none⟩ = false ∧ W.frozen? ⟨G6, 2, none⟩ = false
  ow : OwG (w.heap.size + 1) A c hs L W
  gx : ∀ q, BlkG A hs q → q ≠ G6
  ok : okG L ld tm
  told : ∃ xs, W.ownsRow (G6 + 1) 3 1 (.slice At mt ct) mt xs
section
variable {w : World} {G6 : Nat} {At : Option Addr} {mt ct : Nat} {A : Option Addr} {c : Nat} {hs : List GHd} {L : List (List En)} {ld tm : Int} {W W' : World}
theorem frz_same {b : Nat} {o : Nat} {W W' : World} (hb : W'.heap[b]? = W.heap[b]?) (h : W.frozen? ⟨b, o, none⟩ = false) : W'.frozen? ⟨b, o, none⟩ = false := (World.frozen?_of_block hb).trans h
theorem RG.keep (h : RG w G6 At mt ct A c hs L ld tm W) (hb : Below W.heap.size W W') : RG w G6 At mt ct A c hs L ld tm W' := by
  have k1 := hb.block _ h.res.1.lt
  have k2 := hb.block _ h.box.1.lt
  obtain ⟨xs, hx⟩ := h.told
  exact ⟨h.hb.trans (hb.mono h.hb.size), h.lt, ⟨h.res.1.keep hb, frz_same k1 h.res.2.1, frz_same k1 h.res.2.2.1, frz_same k1 h.res.2.2.2⟩, ⟨h.box.1.keep hb, frz_same k2 h.box.2.1, frz_same k2 h.box.2.2.1, frz_same k2 h.box.2.2.2⟩, h.ow.keep hb, h.gx, h.ok, xs, own_keepG hx hb⟩
/-- more is told -/
theorem RG.tell (h : RG w G6 At mt ct A c hs L ld tm W) {v' : Value} {m' : Nat} {xs' : List Value} (ho : W'.ownsRow (G6 + 1) 3 1 v' m' xs') (hg : W.grownBy W' (Value.slice At mt ct).ownBlock) : ∃ At' ct', v' = .slice At' m' ct' ∧ RG w G6 At' m' ct' A c hs L ld tm W' := by
  obtain ⟨At', ct', rfl⟩ := own_shapeG ho
  obtain ⟨xs, hx⟩ := h.told
  have hge : ∀ q, (Value.slice At mt ct).ownBlock = some q → G6 + 1 ≤ q := fun q hq => (hx.lt q hq).1
  have hlt := h.lt
  have k1 : W'.heap[w.heap.size]? = W.heap[w.heap.size]? := hg.block _ h.res.1.lt (fun e => by have := hge _ e.symm; omega)
  have k2 : W'.heap[G6]? = W.heap[G6]? := hg.block _ h.box.1.lt (fun e => by have := hge _ e.symm; omega)
  refine ⟨At', ct', rfl, h.hb.grown hg h.hb.size (fun q hq => by have := hge q hq; omega), h.lt, ⟨h.res.1.same k1 hg.size, frz_same k1 h.res.2.1, frz_same k1 h.res.2.2.1, frz_same k1 h.res.2.2.2⟩, ⟨h.box.1.same k2 hg.size, frz_same k2 h.box.2.1, frz_same k2 h.box.2.2.1, frz_same k2 h.box.2.2.2⟩, ?_, h.gx, h.ok, xs', ho⟩
  refine h.ow.same fun q hq hqs => hg.block q hqs (fun e => ?_)
  rcases hq with hq | ⟨y, hy, hq⟩
  · exact own_apartG h.ow.own hx (by decide) q (by rw [blk_slice]; exact hq) e.symm
  · obtain ⟨i, hi, rfl⟩ := List.getElem_of_mem hy
    exact own_apartG (h.ow.inn.2 i hi (by have := h.ow.hl; omega)).2 hx (by decide) q (by rw [blk_slice]; exact hq) e.symm
/-- another group is laid into the variable -/
theorem RG.lay (h : RG w G6 At mt ct A c hs L ld tm W) {A' : Option Addr} {c' B : Nat} {hs' : List GHd} {L' : List (List En)} {ld' tm' : Int} (ho : OwG B A' c' hs' L' W) (hB : G6 < B) (hk : okG L' ld' tm') : RG w G6 At mt ct A' c' hs' L' ld' tm' (((W.setCell ⟨G6, 0, none⟩ (.slice A' L'.length c')).setCell ⟨G6, 1, none⟩ (.int .i64 ld')).setCell ⟨G6, 2, none⟩ (.int .i64 tm')) := by
  have hlt := h.lt
  have b0 := h.box.1.c0
  have b1 := h.box.1.c1
  have b2 := h.box.1.c2
  have hs := h.box.1.lt
  obtain ⟨xs, hx⟩ := h.told
  have hne : w.heap.size ≠ G6 := by omega
  have far : ∀ (V : World) (o : Nat) (v : Value) (p : Nat), (V.setCell ⟨G6, o, none⟩ v).cell? ⟨w.heap.size, p, none⟩ = V.cell? ⟨w.heap.size, p, none⟩ := fun V o v p => World.cell?_setCell_other V _ _ _ (fun e => by injection e with e1; omega)
  refine ⟨((h.hb.setCell (by show w.heap.size ≤ G6; omega) _).setCell (by show w.heap.size ≤ G6; omega) _).setCell (by show w.heap.size ≤ G6; omega) _, h.lt, ⟨⟨by simpa using h.res.1.lt, (far _ _ _ _).trans ((far _ _ _ _).trans ((far _ _ _ _).trans h.res.1.c0)), (far _ _ _ _).trans ((far _ _ _ _).trans ((far _ _ _ _).trans h.res.1.c1)), (far _ _ _ _).trans ((far _ _ _ _).trans ((far _ _ _ _).trans h.res.1.c2))⟩, by simpa [go_sem] using h.res.2.1, by simpa [go_sem] using h.res.2.2.1, by simpa [go_sem] using h.res.2.2.2⟩, ⟨⟨by simpa using hs, by simp [go_sem, b0, b1, b2], by simp [go_sem, b0, b1, b2], by simp [go_sem, b0, b1, b2]⟩, by simpa [go_sem] using h.box.2.1, by simpa [go_sem] using h.box.2.2.1, by simpa [go_sem] using h.box.2.2.2⟩, ((((ho.setBelow hB).setBelow hB).setBelow hB).mono (by omega)), fun q hq => by have := (ho.blk hq).1; omega, hk, xs, ?_⟩
  refine own_same hx (fun q hq hqs => ?_)
  have hq1 := (hx.lt q (by rw [blk_slice]; exact hq)).1
  rw [Below.heap_setCell _ _ _ _ (by show q ≠ G6; omega), Below.heap_setCell _ _ _ _ (by show q ≠ G6; omega), Below.heap_setCell _ _ _ _ (by show q ≠ G6; omega)]
end
theorem intInfoR : (Try.prog.info? 3).map (fun i => (i.zero, i.size, i.bytes)) = some (some (.int .i64 0), 1, 8) := by kernel_rfl
def RunPost (w : World) (e : Ending) (w' : World) : Prop := ∃ A c hs L ld tm v, e = .returned (.tuple #[.agg #[.slice A L.length c, .int .i64 ld, .int .i64 tm], v]) ∧ OwG w.heap.size A c hs L w' ∧ okG L ld tm ∧ Below w.heap.size w w'
set_option maxRecDepth 100000 in
set_option maxHeartbeats 16000000 in
theorem sRun_any10 (n : Nat) (Am : Option Addr) (m cm : Nat) (l : List Mv) (w : World) (h1 : 1 ≤ n) (h5 : n ≤ 5) (hr : RowAt w w.heap.size Am (mvsC l)) (hm : m = l.length) (hm30 : m ≤ 30) :
    Calls Try.prog 39 #[.int .i64 (n : Int), .slice Am m cm] w (RunPost w) := by
  obtain ⟨i0, hi0, hz0, hz1, hz2⟩ := info_parts intInfoR
  have HI := Lib.hid (And.intro hi0 (And.intro hz0 (And.intro hz1 hz2))); clear hi0 hz0 hz1 hz2
  have HR := Lib.hid hr; clear hr
  have HM := Lib.hid hm; clear hm
  have HIR := Lib.hid (fun w => inRg_any (n := (n : Int)) (lo := 1) (hi := 5) (b := true) (by simp; omega) w)
  have HNW := Lib.hid (fun W => sNew0_any n W h5)
  have HOK0 := Lib.hid (okG_new h1 h5)
  obtain ⟨W0, hW0⟩ : ∃ W0, W0 = w.alloc (.cells #[.slice none 0 0, .int .i64 0, .int .i64 0] 25) := ⟨_, rfl⟩
  have HW0 := Lib.hid hW0
  clear hW0
  have HB0 := Lib.hid (show Below w.heap.size w W0 by rw [HW0.out]; exact (Below.refl _ _).alloc (Nat.le_refl _) _)
  have HRC := Lib.hid (show BoxAt w.heap.size none 0 0 0 0 W0 ∧ W0.frozen? ⟨w.heap.size, 0, none⟩ = false ∧ W0.frozen? ⟨w.heap.size, 1, none⟩ = false ∧ W0.frozen? ⟨w.heap.size, 2, none⟩ = false from by rw [HW0.out]; exact ⟨BoxAt.new w none 0 0 0 0 _, by simp [go_sem], by simp [go_sem], by simp [go_sem]⟩)
  have g2 : ¬ ((m : Int) > 30) := by omega
  go_enter Try.func39, Try.ntmps39
  go_wp2_with fail
  rw [← HW0.out]
  refine (HIR.out _).mono ?_
  rintro e w1 ⟨rfl, hw1⟩
  obtain rfl := hw1.symm
  go_wp2_with fail
  refine (HNW.out _).mono ?_
  rintro e w2 ⟨A2, c2, hs2, rfl, ho2, hb2⟩
  have hz0 := HRC.out.1.lt
  have hz2 : W0.heap.size ≤ w2.heap.size := hb2.size
  have HO2 := Lib.hid (show OwG (w.heap.size + 1) A2 c2 hs2 (List.replicate n []) w2 from ho2.mono (by omega))
  have HGX := Lib.hid (show ∀ q, BlkG A2 hs2 q → q ≠ w2.heap.size from fun q hq => by have := (ho2.blk hq).2; omega)
  have HB2 := Lib.hid (HB0.out.trans (hb2.mono HB0.out.size))
  have k1 := hb2.block _ HRC.out.1.lt
  have HR2 := Lib.hid (show BoxAt w.heap.size none 0 0 0 0 w2 ∧ w2.frozen? ⟨w.heap.size, 0, none⟩ = false ∧ w2.frozen? ⟨w.heap.size, 1, none⟩ = false ∧ w2.frozen? ⟨w.heap.size, 2, none⟩ = false from ⟨HRC.out.1.keep hb2, frz_same k1 HRC.out.2.1, frz_same k1 HRC.out.2.2.1, frz_same k1 HRC.out.2.2.2⟩)
  have HRG0 := Lib.hid (show RG w w2.heap.size (some ⟨w2.heap.size + 1, 0, none⟩) 0 0 A2 c2 hs2 (List.replicate n []) 0 1 ((w2.alloc (.cells #[.slice A2 (List.replicate n ([] : List En)).length c2, .int .i64 0, .int .i64 1] 25)).alloc (.cells #[] 3)) from by
    have hbb : Below w2.heap.size w2 ((w2.alloc (.cells #[.slice A2 (List.replicate n ([] : List En)).length c2, .int .i64 0, .int .i64 1] 25)).alloc (.cells #[] 3)) := ((Below.refl _ _).alloc (Nat.le_refl _) _).alloc (by simp) _
    have k2 := hbb.block _ HR2.out.1.lt
    refine ⟨HB2.out.trans (hbb.mono HB2.out.size), by omega, ⟨HR2.out.1.keep hbb, frz_same k2 HR2.out.2.1, frz_same k2 HR2.out.2.2.1, frz_same k2 HR2.out.2.2.2⟩, ⟨(BoxAt.new w2 A2 _ c2 0 1 25).keep ((Below.refl _ _).alloc (Nat.le_refl _) _), by simp [go_sem], by simp [go_sem], by simp [go_sem]⟩, HO2.out.keep hbb, HGX.out, HOK0.out, [], ?_⟩
    have := own_startG (w2.alloc (.cells #[.slice A2 (List.replicate n ([] : List En)).length c2, .int .i64 0, .int .i64 1] 25)) 3 1
    simpa using this)
  rw [List.length_replicate] at HRG0
  have HG6 : ∃ G6, G6 = w2.heap.size := ⟨_, rfl⟩
  obtain ⟨G6, hG6⟩ := HG6
  have HGG := Lib.hid hG6
  clear ho2 hb2 k1
  go_wp2_with fail
  rw [← HGG.out] at HRG0 ⊢
  clear hG6
  go_loopw [7, 8] (fun q i wr => ∃ (k mt ct : Nat) (At A : Option Addr) (c : Nat) (hs : List GHd) (L : List (List En)) (ld tm : Int), q = .slice At mt ct ∧ i = .int .i64 (k : Int) ∧ k ≤ m ∧ mt ≤ 12 ∧ RG w G6 At mt ct A c hs L ld tm wr) (fun _ i _ => m - (intOf i).toNat)
  case atStart => exact ⟨0, 0, 0, _, A2, c2, hs2, _, 0, 1, rfl, rfl, by omega, by omega, HRG0.out⟩
  case round =>
    clear HRG0
    obtain ⟨k, mt, ct, At, A, c, hs, L, ld, tm, rfl, rfl, hk, hmt, hrel⟩ := hrel
    have HG := Lib.hid hrel; clear hrel
    have b0 := HG.out.box.1.c0
    have b1 := HG.out.box.1.c1
    have b2 := HG.out.box.1.c2
    have hG6s := HG.out.box.1.lt
    by_cases hlt : k < m
    · have hkl : k < l.length := by have := HM.out; omega
      obtain ⟨bm, offm, hAm, hbmw, e0, e1, e2⟩ := mvs_at (HR.out.below HG.out.hb) hkl
      subst hAm
      have hbm2 : bm < wr.heap.size := Nat.lt_of_lt_of_le hbmw HG.out.hb.size
      have hi1 : (k : Int) < (m : Int) := by omega
      have hi2 : (0 : Int) ≤ (k : Int) := by omega
      have hL5 : L.length ≤ 1048576 := by have := HG.out.ok.1.2; omega
      have hLs : SmallGv L := okG_small HG.out.ok
      generalize l[k].1 = kd at *
      generalize l[k].2.1 = xa at *
      generalize l[k].2.2 = xb at *
      -- the copies of the move and of the group
      obtain ⟨W9, hW9⟩ : ∃ W9, W9 = (wr.alloc (.cells #[.int .i64 kd, .int .i64 xa, .int .i64 xb] 74)).alloc (.cells #[.slice A L.length c, .int .i64 ld, .int .i64 tm] 25) := ⟨_, rfl⟩
      have HW9 := Lib.hid hW9
      clear hW9
      have HB9 := Lib.hid (show Below wr.heap.size wr W9 by rw [HW9.out]; exact ((Below.refl _ _).alloc (Nat.le_refl _) _).alloc (by simp) _)
      have HG9 := Lib.hid (HG.out.keep HB9.out)
      have HS9 := Lib.hid (show W9.heap.size = wr.heap.size + 1 + 1 by rw [HW9.out]; simp)
      have HMV := Lib.hid (show W9.cell? ⟨wr.heap.size, 0, none⟩ = some (.int .i64 kd) ∧ W9.cell? ⟨wr.heap.size, 1, none⟩ = some (.int .i64 xa) ∧ W9.cell? ⟨wr.heap.size, 2, none⟩ = some (.int .i64 xb) by rw [HW9.out]; simp [go_sem])
      have HNX := Lib.hid (show BoxAt (wr.heap.size + 1) A L.length c ld tm W9 ∧ W9.frozen? ⟨wr.heap.size + 1, 0, none⟩ = false ∧ W9.frozen? ⟨wr.heap.size + 1, 1, none⟩ = false ∧ W9.frozen? ⟨wr.heap.size + 1, 2, none⟩ = false by
        rw [HW9.out]
        have h9 := BoxAt.new (wr.alloc (.cells #[.int .i64 kd, .int .i64 xa, .int .i64 xb] 74)) A L.length c ld tm 25
        rw [World.size_alloc] at h9
        exact ⟨h9, by simp [go_sem], by simp [go_sem], by simp [go_sem]⟩)
      have HOP0 := Lib.hid (fun W (hg : GvAt W W.heap.size A L) => sWrite_any A L.length c L ld tm xa W hg rfl hL5 hLs)
      have HOP1 := Lib.hid (fun W (hg : GvAt W W.heap.size A L) => sShip_any A L.length c L ld tm xa xb W hg rfl hL5 hLs)
      have HOP2 := Lib.hid (fun W (hg : GvAt W W.heap.size A L) => sElect_any A L.length c L ld tm xa xb W hg rfl hL5 hLs)
      have HOKW := Lib.hid (okG_outW (L := L) (ld := ld) (tm := tm) (i := xa))
      have HOKS := Lib.hid (okG_outS (L := L) (ld := ld) (tm := tm) (t := xa) (u := xb))
      have HOKE := Lib.hid (okG_outE (L := L) (ld := ld) (tm := tm) (x := xa) (v := xb))
      generalize outW L ld tm xa = oW at *
      generalize outS L ld tm xa xb = oS at *
      generalize outE L ld tm xa xb = oE at *
      obtain ⟨LW, lW, tW, kW⟩ := oW
      obtain ⟨LS, lS, tS, kS⟩ := oS
      obtain ⟨LE, lE, tE, kE⟩ := oE
      simp only at HOP0 HOP1 HOP2 HOKW HOKS HOKE
      have mv0 := HMV.out.1
      have mv1 := HMV.out.2.1
      have mv2 := HMV.out.2.2
      have g90 := HG9.out.box.1.c0
      have g91 := HG9.out.box.1.c1
      have g92 := HG9.out.box.1.c2
      have n90 := HNX.out.1.c0
      have n91 := HNX.out.1.c1
      have n92 := HNX.out.1.c2
      have hs9 := HS9.out
      have f60 := HG.out.box.2.1
      have f61 := HG.out.box.2.2.1
      have f62 := HG.out.box.2.2.2
      clear mv0 mv1 mv2 g90 g91 g92 n90 n91 n92
      by_cases t0 : kd = 0
      · have q0 : (kd == 0) = true := by simpa using t0
        clear t0
        have HCALL := Lib.hid (HOP0.out W9 HG9.out.ow.at_)
        go_wp2_with fail
        rw [← HW9.out]
        refine (HCALL.out).mono ?_
        rintro e w10 ⟨A10, c10, hs10, rfl, ho10, hb10⟩
        have HG10 := Lib.hid (HG9.out.keep hb10)
        have HO10 := Lib.hid ho10
        have kx := hb10.block _ HNX.out.1.lt
        have n10 := HNX.out.1.keep hb10
        have fx0 := frz_same kx HNX.out.2.1
        have fx1 := frz_same kx HNX.out.2.2.1
        have fx2 := frz_same kx HNX.out.2.2.2
        have n100 := n10.c0
        have n101 := n10.c1
        have n102 := n10.c2
        have hn10 := n10.lt
        have hs10z : W9.heap.size ≤ w10.heap.size := hb10.size
        have hq9 : wr.heap.size + 1 < W9.heap.size := by omega
        have hG9 : G6 < W9.heap.size := by omega
        have HK10 := Lib.hid (show Below wr.heap.size wr w10 from HB9.out.trans (hb10.mono HB9.out.size))
        have HBX := Lib.hid (show Below wr.heap.size wr (((w10.setCell ⟨wr.heap.size + 1, 0, none⟩ (.slice A10 LW.length c10)).setCell ⟨wr.heap.size + 1, 1, none⟩ (.int .i64 lW)).setCell ⟨wr.heap.size + 1, 2, none⟩ (.int .i64 tW)) from (((HK10.out).setCell (by simp) _).setCell (by simp) _).setCell (by simp) _)
        have ga0 := HG10.out.box.1.c0
        have ga1 := HG10.out.box.1.c1
        have ga2 := HG10.out.box.1.c2
        have gf0 := HG10.out.box.2.1
        have gf1 := HG10.out.box.2.2.1
        have gf2 := HG10.out.box.2.2.2
        have ne1 : ¬ (G6 = wr.heap.size + 1) := by omega
        have ne2 : ¬ (wr.heap.size + 1 = G6) := by omega
        have gs10 : G6 < w10.heap.size := by omega
        clear hb10 ho10 kx n10 e0 e1 e2 b0 b1 b2 f60 f61 f62 HCALL HOP0 HOP1 HOP2
        cases kW
        · have HG11 := Lib.hid (HG.out.keep HBX.out)
          obtain ⟨d, rfl⟩ : ∃ d : Nat, ld = (d : Int) := ⟨ld.toNat, by have := HG11.out.ok.2.1; omega⟩
          have hd : d < L.length := by have := HG11.out.ok.2.1.2; omega
          have hLL : L.length ≤ 1048576 := by have := HG11.out.ok.1.2; omega
          have hL12 : L[d].length ≤ 12 := (HG11.out.ok.2.2.2 _ (List.getElem_mem hd)).1
          have HSU := Lib.hid (fun V (hg : GvAt V V.heap.size A L) => sSureN_any A L.length c L d tm V hg rfl hLL (okG_small HG11.out.ok) hd)
          have HSL := Lib.hid (sureN_le L L[d] tm)
          have hdi : (d : Int) < (L.length : Int) := by omega
          have hd0 : (0 : Int) ≤ (d : Int) := by omega
          go_wp2_with fail
          go_loopw [7] (fun q wx => ∃ (mt2 ct2 : Nat) (At2 : Option Addr), q = .slice At2 mt2 ct2 ∧ mt2 ≤ 12 ∧ RG w G6 At2 mt2 ct2 A c hs L (d : Int) tm wx) (fun q _ => match q with | .slice _ a _ => 12 - a | _ => 0)
          case atStart => exact ⟨mt, ct, At, rfl, hmt, HG11.out⟩
          case round =>
            obtain ⟨mt2, ct2, At2, rfl, hmt2, hrel2⟩ := hrel
            have HT := Lib.hid hrel2; clear hrel2
            have z0 := HT.out.box.1.c0
            have z1 := HT.out.box.1.c1
            have z2 := HT.out.box.1.c2
            rename World => wx
            have HSV := Lib.hid (HSU.out wx HT.out.ow.at_)
            generalize hsn : sureN L L[d] tm = sn at *
            clear hsn
            by_cases hts : mt2 < sn
            · have hts2 : (mt2 : Int) < (sn : Int) := by omega
              have hml : mt2 < L[d].length := by have := HSL.out; omega
              go_wp2_with fail
              refine (HSV.out).mono ?_
              rintro e w20 ⟨rfl, hb20⟩
              have HT2 := Lib.hid (HT.out.keep hb20); clear hb20 z0 z1 z2
              obtain ⟨b, off, Ad, cd, hA, hbw, y0, hrow⟩ := HT2.out.ow.at_.at_ hd
              obtain ⟨b3, off3, hA3, hbw3, y1, y2⟩ := ens_at hrow hml
              have z0 := HT2.out.box.1.c0
              have z1 := HT2.out.box.1.c1
              have HA := Lib.hid hA
              rw [hA] at z0
              subst hA3
              have hmi : (mt2 : Int) < (L[d].length : Int) := by omega
              have hm0 : (0 : Int) ≤ (mt2 : Int) := by omega
              generalize L[d][mt2].2 = yv at *
              obtain ⟨xs, hxs⟩ := HT2.out.told
              have HXS := Lib.hid hxs
              have HT3 := Lib.hid (HT2.out.keep ((Below.refl w20.heap.size w20).alloc (Nat.le_refl _) (.cells #[.int .i64 yv] 3)))
              have HXS3 := Lib.hid (own_keepG hxs ((Below.refl w20.heap.size w20).alloc (Nat.le_refl _) (.cells #[.int .i64 yv] 3)))
              have hG20 := HT2.out.box.1.lt
              clear hA hrow hxs y1
              go_wp2_with (at_builtin; refine wpList_append_own _ rfl _ _ 51 rfl (G6 + 1) 3 i0 (.int .i64 0) 1 8 Try.underlying51 HI.out.1 HI.out.2.1 HI.out.2.2.1 HI.out.2.2.2 rfl (by decide) (.slice At2 mt2 ct2) mt2 xs rfl HXS3.out ⟨w20.heap.size, 0, none⟩ 1 1 [.int .i64 yv] rfl rfl ?c1 ?c2 ?c3 ?c4 ?c5 ?_)
              try (case c1 => intro j u hj; rw [add_zero_off, Nat.zero_add]; match j, hj with | 0, hj => (simp at hj ⊢; simpa using hj) | k + 1, hj => simp at hj)
              try (case c2 => first | rfl | (intro u hu; simp at hu; subst hu; rfl))
              try (case c3 => unfold maxLen; omega)
              try (case c4 => omega)
              try (case c5 => simp; omega)
              intro v21 w21 hown21 hgrow21 _
              obtain ⟨At3, ct3, rfl, h21⟩ := HT3.out.tell hown21 hgrow21
              have H21 := Lib.hid h21
              clear h21 hown21 hgrow21 y0 y2 z0 z1
              go_wp2_with fail
              go_roundw
              case rel => exact ⟨mt2 + 1, ct3, At3, rfl, by have := HSL.out; omega, H21.out⟩
              case measure => simp; have := HSL.out; omega
            · have hts2 : ¬ ((mt2 : Int) < (sn : Int)) := by omega
              go_wp2_with fail
              refine (HSV.out).mono ?_
              rintro e w20 ⟨rfl, hb20⟩
              have HT2 := Lib.hid (HT.out.keep hb20); clear hb20 z0 z1 z2
              go_wp2_with fail
              go_roundw
              case rel => exact ⟨k + 1, mt2, ct2, At2, A, c, hs, L, (d : Int), tm, rfl, by go_num, by omega, hmt2, HT2.out⟩
              case measure => simp [intOf]; omega
        · have HG11 := Lib.hid ((HG.out.keep HBX.out).lay (((HO10.out.setBelow hq9).setBelow hq9).setBelow hq9) hG9 (HOKW.out rfl))
          obtain ⟨d, rfl⟩ : ∃ d : Nat, lW = (d : Int) := ⟨lW.toNat, by have := HG11.out.ok.2.1; omega⟩
          have hd : d < LW.length := by have := HG11.out.ok.2.1.2; omega
          have hLL : LW.length ≤ 1048576 := by have := HG11.out.ok.1.2; omega
          have hL12 : LW[d].length ≤ 12 := (HG11.out.ok.2.2.2 _ (List.getElem_mem hd)).1
          have HSU := Lib.hid (fun V (hg : GvAt V V.heap.size A10 LW) => sSureN_any A10 LW.length c10 LW d tW V hg rfl hLL (okG_small HG11.out.ok) hd)
          have HSL := Lib.hid (sureN_le LW LW[d] tW)
          have hdi : (d : Int) < (LW.length : Int) := by omega
          have hd0 : (0 : Int) ≤ (d : Int) := by omega
          go_wp2_with fail
          go_loopw [7] (fun q wx => ∃ (mt2 ct2 : Nat) (At2 : Option Addr), q = .slice At2 mt2 ct2 ∧ mt2 ≤ 12 ∧ RG w G6 At2 mt2 ct2 A10 c10 hs10 LW (d : Int) tW wx) (fun q _ => match q with | .slice _ a _ => 12 - a | _ => 0)
          case atStart => exact ⟨mt, ct, At, rfl, hmt, HG11.out⟩
          case round =>
            obtain ⟨mt2, ct2, At2, rfl, hmt2, hrel2⟩ := hrel
            have HT := Lib.hid hrel2; clear hrel2
            have z0 := HT.out.box.1.c0
            have z1 := HT.out.box.1.c1
            have z2 := HT.out.box.1.c2
            rename World => wx
            have HSV := Lib.hid (HSU.out wx HT.out.ow.at_)
            generalize hsn : sureN LW LW[d] tW = sn at *
            clear hsn
            by_cases hts : mt2 < sn
            · have hts2 : (mt2 : Int) < (sn : Int) := by omega
              have hml : mt2 < LW[d].length := by have := HSL.out; omega
              go_wp2_with fail
              refine (HSV.out).mono ?_
              rintro e w20 ⟨rfl, hb20⟩
              have HT2 := Lib.hid (HT.out.keep hb20); clear hb20 z0 z1 z2
              obtain ⟨b, off, Ad, cd, hA, hbw, y0, hrow⟩ := HT2.out.ow.at_.at_ hd
              obtain ⟨b3, off3, hA3, hbw3, y1, y2⟩ := ens_at hrow hml
              have z0 := HT2.out.box.1.c0
              have z1 := HT2.out.box.1.c1
              have HA := Lib.hid hA
              rw [hA] at z0
              subst hA3
              have hmi : (mt2 : Int) < (LW[d].length : Int) := by omega
              have hm0 : (0 : Int) ≤ (mt2 : Int) := by omega
              generalize LW[d][mt2].2 = yv at *
              obtain ⟨xs, hxs⟩ := HT2.out.told
              have HXS := Lib.hid hxs
              have HT3 := Lib.hid (HT2.out.keep ((Below.refl w20.heap.size w20).alloc (Nat.le_refl _) (.cells #[.int .i64 yv] 3)))
              have HXS3 := Lib.hid (own_keepG hxs ((Below.refl w20.heap.size w20).alloc (Nat.le_refl _) (.cells #[.int .i64 yv] 3)))
              have hG20 := HT2.out.box.1.lt
              clear hA hrow hxs y1
              go_wp2_with (at_builtin; refine wpList_append_own _ rfl _ _ 51 rfl (G6 + 1) 3 i0 (.int .i64 0) 1 8 Try.underlying51 HI.out.1 HI.out.2.1 HI.out.2.2.1 HI.out.2.2.2 rfl (by decide) (.slice At2 mt2 ct2) mt2 xs rfl HXS3.out ⟨w20.heap.size, 0, none⟩ 1 1 [.int .i64 yv] rfl rfl ?c1 ?c2 ?c3 ?c4 ?c5 ?_)
              try (case c1 => intro j u hj; rw [add_zero_off, Nat.zero_add]; match j, hj with | 0, hj => (simp at hj ⊢; simpa using hj) | k + 1, hj => simp at hj)
              try (case c2 => first | rfl | (intro u hu; simp at hu; subst hu; rfl))
              try (case c3 => unfold maxLen; omega)
              try (case c4 => omega)
              try (case c5 => simp; omega)
              intro v21 w21 hown21 hgrow21 _
              obtain ⟨At3, ct3, rfl, h21⟩ := HT3.out.tell hown21 hgrow21
              have H21 := Lib.hid h21
              clear h21 hown21 hgrow21 y0 y2 z0 z1
              go_wp2_with fail
              go_roundw
              case rel => exact ⟨mt2 + 1, ct3, At3, rfl, by have := HSL.out; omega, H21.out⟩
              case measure => simp; have := HSL.out; omega
            · have hts2 : ¬ ((mt2 : Int) < (sn : Int)) := by omega
              go_wp2_with fail
              refine (HSV.out).mono ?_
              rintro e w20 ⟨rfl, hb20⟩
              have HT2 := Lib.hid (HT.out.keep hb20); clear hb20 z0 z1 z2
              go_wp2_with fail
              go_roundw
              case rel => exact ⟨k + 1, mt2, ct2, At2, A10, c10, hs10, LW, (d : Int), tW, rfl, by go_num, by omega, hmt2, HT2.out⟩
              case measure => simp [intOf]; omega
      · by_cases t1 : kd = 1
        · have q0 : (kd == 0) = false := by simpa using t0
          have q1 : (kd == 1) = true := by simpa using t1
          clear t0
          clear t1
          have HCALL := Lib.hid (HOP1.out W9 HG9.out.ow.at_)
          go_wp2_with fail
          rw [← HW9.out]
          refine (HCALL.out).mono ?_
          rintro e w10 ⟨A10, c10, hs10, rfl, ho10, hb10⟩
          have HG10 := Lib.hid (HG9.out.keep hb10)
          have HO10 := Lib.hid ho10
          have kx := hb10.block _ HNX.out.1.lt
          have n10 := HNX.out.1.keep hb10
          have fx0 := frz_same kx HNX.out.2.1
          have fx1 := frz_same kx HNX.out.2.2.1
          have fx2 := frz_same kx HNX.out.2.2.2
          have n100 := n10.c0
          have n101 := n10.c1
          have n102 := n10.c2
          have hn10 := n10.lt
          have hs10z : W9.heap.size ≤ w10.heap.size := hb10.size
          have hq9 : wr.heap.size + 1 < W9.heap.size := by omega
          have hG9 : G6 < W9.heap.size := by omega
          have HK10 := Lib.hid (show Below wr.heap.size wr w10 from HB9.out.trans (hb10.mono HB9.out.size))
          have HBX := Lib.hid (show Below wr.heap.size wr (((w10.setCell ⟨wr.heap.size + 1, 0, none⟩ (.slice A10 LS.length c10)).setCell ⟨wr.heap.size + 1, 1, none⟩ (.int .i64 lS)).setCell ⟨wr.heap.size + 1, 2, none⟩ (.int .i64 tS)) from (((HK10.out).setCell (by simp) _).setCell (by simp) _).setCell (by simp) _)
          have ga0 := HG10.out.box.1.c0
          have ga1 := HG10.out.box.1.c1
          have ga2 := HG10.out.box.1.c2
          have gf0 := HG10.out.box.2.1
          have gf1 := HG10.out.box.2.2.1
          have gf2 := HG10.out.box.2.2.2
          have ne1 : ¬ (G6 = wr.heap.size + 1) := by omega
          have ne2 : ¬ (wr.heap.size + 1 = G6) := by omega
          have gs10 : G6 < w10.heap.size := by omega
          clear hb10 ho10 kx n10 e0 e1 e2 b0 b1 b2 f60 f61 f62 HCALL HOP0 HOP1 HOP2
          cases kS
          · have HG11 := Lib.hid (HG.out.keep HBX.out)
            obtain ⟨d, rfl⟩ : ∃ d : Nat, ld = (d : Int) := ⟨ld.toNat, by have := HG11.out.ok.2.1; omega⟩
            have hd : d < L.length := by have := HG11.out.ok.2.1.2; omega
            have hLL : L.length ≤ 1048576 := by have := HG11.out.ok.1.2; omega
            have hL12 : L[d].length ≤ 12 := (HG11.out.ok.2.2.2 _ (List.getElem_mem hd)).1
            have HSU := Lib.hid (fun V (hg : GvAt V V.heap.size A L) => sSureN_any A L.length c L d tm V hg rfl hLL (okG_small HG11.out.ok) hd)
            have HSL := Lib.hid (sureN_le L L[d] tm)
            have hdi : (d : Int) < (L.length : Int) := by omega
            have hd0 : (0 : Int) ≤ (d : Int) := by omega
            go_wp2_with fail
            go_loopw [7] (fun q wx => ∃ (mt2 ct2 : Nat) (At2 : Option Addr), q = .slice At2 mt2 ct2 ∧ mt2 ≤ 12 ∧ RG w G6 At2 mt2 ct2 A c hs L (d : Int) tm wx) (fun q _ => match q with | .slice _ a _ => 12 - a | _ => 0)
            case atStart => exact ⟨mt, ct, At, rfl, hmt, HG11.out⟩
            case round =>
              obtain ⟨mt2, ct2, At2, rfl, hmt2, hrel2⟩ := hrel
              have HT := Lib.hid hrel2; clear hrel2
              have z0 := HT.out.box.1.c0
              have z1 := HT.out.box.1.c1
              have z2 := HT.out.box.1.c2
              rename World => wx
              have HSV := Lib.hid (HSU.out wx HT.out.ow.at_)
              generalize hsn : sureN L L[d] tm = sn at *
              clear hsn
              by_cases hts : mt2 < sn
              · have hts2 : (mt2 : Int) < (sn : Int) := by omega
                have hml : mt2 < L[d].length := by have := HSL.out; omega
                go_wp2_with fail
                refine (HSV.out).mono ?_
                rintro e w20 ⟨rfl, hb20⟩
                have HT2 := Lib.hid (HT.out.keep hb20); clear hb20 z0 z1 z2
                obtain ⟨b, off, Ad, cd, hA, hbw, y0, hrow⟩ := HT2.out.ow.at_.at_ hd
                obtain ⟨b3, off3, hA3, hbw3, y1, y2⟩ := ens_at hrow hml
                have z0 := HT2.out.box.1.c0
                have z1 := HT2.out.box.1.c1
                have HA := Lib.hid hA
                rw [hA] at z0
                subst hA3
                have hmi : (mt2 : Int) < (L[d].length : Int) := by omega
                have hm0 : (0 : Int) ≤ (mt2 : Int) := by omega
                generalize L[d][mt2].2 = yv at *
                obtain ⟨xs, hxs⟩ := HT2.out.told
                have HXS := Lib.hid hxs
                have HT3 := Lib.hid (HT2.out.keep ((Below.refl w20.heap.size w20).alloc (Nat.le_refl _) (.cells #[.int .i64 yv] 3)))
                have HXS3 := Lib.hid (own_keepG hxs ((Below.refl w20.heap.size w20).alloc (Nat.le_refl _) (.cells #[.int .i64 yv] 3)))
                have hG20 := HT2.out.box.1.lt
                clear hA hrow hxs y1
                go_wp2_with (at_builtin; refine wpList_append_own _ rfl _ _ 51 rfl (G6 + 1) 3 i0 (.int .i64 0) 1 8 Try.underlying51 HI.out.1 HI.out.2.1 HI.out.2.2.1 HI.out.2.2.2 rfl (by decide) (.slice At2 mt2 ct2) mt2 xs rfl HXS3.out ⟨w20.heap.size, 0, none⟩ 1 1 [.int .i64 yv] rfl rfl ?c1 ?c2 ?c3 ?c4 ?c5 ?_)
                try (case c1 => intro j u hj; rw [add_zero_off, Nat.zero_add]; match j, hj with | 0, hj => (simp at hj ⊢; simpa using hj) | k + 1, hj => simp at hj)
                try (case c2 => first | rfl | (intro u hu; simp at hu; subst hu; rfl))
                try (case c3 => unfold maxLen; omega)
                try (case c4 => omega)
                try (case c5 => simp; omega)
                intro v21 w21 hown21 hgrow21 _
                obtain ⟨At3, ct3, rfl, h21⟩ := HT3.out.tell hown21 hgrow21
                have H21 := Lib.hid h21
                clear h21 hown21 hgrow21 y0 y2 z0 z1
                go_wp2_with fail
                go_roundw
                case rel => exact ⟨mt2 + 1, ct3, At3, rfl, by have := HSL.out; omega, H21.out⟩
                case measure => simp; have := HSL.out; omega
              · have hts2 : ¬ ((mt2 : Int) < (sn : Int)) := by omega
                go_wp2_with fail
                refine (HSV.out).mono ?_
                rintro e w20 ⟨rfl, hb20⟩
                have HT2 := Lib.hid (HT.out.keep hb20); clear hb20 z0 z1 z2
                go_wp2_with fail
                go_roundw
                case rel => exact ⟨k + 1, mt2, ct2, At2, A, c, hs, L, (d : Int), tm, rfl, by go_num, by omega, hmt2, HT2.out⟩
                case measure => simp [intOf]; omega
          · have HG11 := Lib.hid ((HG.out.keep HBX.out).lay (((HO10.out.setBelow hq9).setBelow hq9).setBelow hq9) hG9 (HOKS.out rfl))
            obtain ⟨d, rfl⟩ : ∃ d : Nat, lS = (d : Int) := ⟨lS.toNat, by have := HG11.out.ok.2.1; omega⟩
            have hd : d < LS.length := by have := HG11.out.ok.2.1.2; omega
            have hLL : LS.length ≤ 1048576 := by have := HG11.out.ok.1.2; omega
            have hL12 : LS[d].length ≤ 12 := (HG11.out.ok.2.2.2 _ (List.getElem_mem hd)).1
            have HSU := Lib.hid (fun V (hg : GvAt V V.heap.size A10 LS) => sSureN_any A10 LS.length c10 LS d tS V hg rfl hLL (okG_small HG11.out.ok) hd)
            have HSL := Lib.hid (sureN_le LS LS[d] tS)
            have hdi : (d : Int) < (LS.length : Int) := by omega
            have hd0 : (0 : Int) ≤ (d : Int) := by omega
            go_wp2_with fail
            go_loopw [7] (fun q wx => ∃ (mt2 ct2 : Nat) (At2 : Option Addr), q = .slice At2 mt2 ct2 ∧ mt2 ≤ 12 ∧ RG w G6 At2 mt2 ct2 A10 c10 hs10 LS (d : Int) tS wx) (fun q _ => match q with | .slice _ a _ => 12 - a | _ => 0)
            case atStart => exact ⟨mt, ct, At, rfl, hmt, HG11.out⟩
            case round =>
              obtain ⟨mt2, ct2, At2, rfl, hmt2, hrel2⟩ := hrel
              have HT := Lib.hid hrel2; clear hrel2
              have z0 := HT.out.box.1.c0
              have z1 := HT.out.box.1.c1
              have z2 := HT.out.box.1.c2
              rename World => wx
              have HSV := Lib.hid (HSU.out wx HT.out.ow.at_)
              generalize hsn : sureN LS LS[d] tS = sn at *
              clear hsn
              by_cases hts : mt2 < sn
              · have hts2 : (mt2 : Int) < (sn : Int) := by omega
                have hml : mt2 < LS[d].length := by have := HSL.out; omega
                go_wp2_with fail
                refine (HSV.out).mono ?_
                rintro e w20 ⟨rfl, hb20⟩
                have HT2 := Lib.hid (HT.out.keep hb20); clear hb20 z0 z1 z2
                obtain ⟨b, off, Ad, cd, hA, hbw, y0, hrow⟩ := HT2.out.ow.at_.at_ hd
                obtain ⟨b3, off3, hA3, hbw3, y1, y2⟩ := ens_at hrow hml
                have z0 := HT2.out.box.1.c0
                have z1 := HT2.out.box.1.c1
                have HA := Lib.hid hA
                rw [hA] at z0
                subst hA3
                have hmi : (mt2 : Int) < (LS[d].length : Int) := by omega
                have hm0 : (0 : Int) ≤ (mt2 : Int) := by omega
                generalize LS[d][mt2].2 = yv at *
                obtain ⟨xs, hxs⟩ := HT2.out.told
                have HXS := Lib.hid hxs
                have HT3 := Lib.hid (HT2.out.keep ((Below.refl w20.heap.size w20).alloc (Nat.le_refl _) (.cells #[.int .i64 yv] 3)))
                have HXS3 := Lib.hid (own_keepG hxs ((Below.refl w20.heap.size w20).alloc (Nat.le_refl _) (.cells #[.int .i64 yv] 3)))
                have hG20 := HT2.out.box.1.lt
                clear hA hrow hxs y1
                go_wp2_with (at_builtin; refine wpList_append_own _ rfl _ _ 51 rfl (G6 + 1) 3 i0 (.int .i64 0) 1 8 Try.underlying51 HI.out.1 HI.out.2.1 HI.out.2.2.1 HI.out.2.2.2 rfl (by decide) (.slice At2 mt2 ct2) mt2 xs rfl HXS3.out ⟨w20.heap.size, 0, none⟩ 1 1 [.int .i64 yv] rfl rfl ?c1 ?c2 ?c3 ?c4 ?c5 ?_)
                try (case c1 => intro j u hj; rw [add_zero_off, Nat.zero_add]; match j, hj with | 0, hj => (simp at hj ⊢; simpa using hj) | k + 1, hj => simp at hj)
                try (case c2 => first | rfl | (intro u hu; simp at hu; subst hu; rfl))
                try (case c3 => unfold maxLen; omega)
                try (case c4 => omega)
                try (case c5 => simp; omega)
                intro v21 w21 hown21 hgrow21 _
                obtain ⟨At3, ct3, rfl, h21⟩ := HT3.out.tell hown21 hgrow21
                have H21 := Lib.hid h21
                clear h21 hown21 hgrow21 y0 y2 z0 z1
                go_wp2_with fail
                go_roundw
                case rel => exact ⟨mt2 + 1, ct3, At3, rfl, by have := HSL.out; omega, H21.out⟩
                case measure => simp; have := HSL.out; omega
              · have hts2 : ¬ ((mt2 : Int) < (sn : Int)) := by omega
                go_wp2_with fail
                refine (HSV.out).mono ?_
                rintro e w20 ⟨rfl, hb20⟩
                have HT2 := Lib.hid (HT.out.keep hb20); clear hb20 z0 z1 z2
                go_wp2_with fail
                go_roundw
                case rel => exact ⟨k + 1, mt2, ct2, At2, A10, c10, hs10, LS, (d : Int), tS, rfl, by go_num, by omega, hmt2, HT2.out⟩
                case measure => simp [intOf]; omega
        · by_cases t2 : kd = 2
          · have q0 : (kd == 0) = false := by simpa using t0
            have q1 : (kd == 1) = false := by simpa using t1
            have q2 : (kd == 2) = true := by simpa using t2
            clear t0
            clear t1
            clear t2
            have HCALL := Lib.hid (HOP2.out W9 HG9.out.ow.at_)
            go_wp2_with fail
            rw [← HW9.out]
            refine (HCALL.out).mono ?_
            rintro e w10 ⟨A10, c10, hs10, rfl, ho10, hb10⟩
            have HG10 := Lib.hid (HG9.out.keep hb10)
            have HO10 := Lib.hid ho10
            have kx := hb10.block _ HNX.out.1.lt
            have n10 := HNX.out.1.keep hb10
            have fx0 := frz_same kx HNX.out.2.1
            have fx1 := frz_same kx HNX.out.2.2.1
            have fx2 := frz_same kx HNX.out.2.2.2
            have n100 := n10.c0
            have n101 := n10.c1
            have n102 := n10.c2
            have hn10 := n10.lt
            have hs10z : W9.heap.size ≤ w10.heap.size := hb10.size
            have hq9 : wr.heap.size + 1 < W9.heap.size := by omega
            have hG9 : G6 < W9.heap.size := by omega
            have HK10 := Lib.hid (show Below wr.heap.size wr w10 from HB9.out.trans (hb10.mono HB9.out.size))
            have HBX := Lib.hid (show Below wr.heap.size wr (((w10.setCell ⟨wr.heap.size + 1, 0, none⟩ (.slice A10 LE.length c10)).setCell ⟨wr.heap.size + 1, 1, none⟩ (.int .i64 lE)).setCell ⟨wr.heap.size + 1, 2, none⟩ (.int .i64 tE)) from (((HK10.out).setCell (by simp) _).setCell (by simp) _).setCell (by simp) _)
            have ga0 := HG10.out.box.1.c0
            have ga1 := HG10.out.box.1.c1
            have ga2 := HG10.out.box.1.c2
            have gf0 := HG10.out.box.2.1
            have gf1 := HG10.out.box.2.2.1
            have gf2 := HG10.out.box.2.2.2
            have ne1 : ¬ (G6 = wr.heap.size + 1) := by omega
            have ne2 : ¬ (wr.heap.size + 1 = G6) := by omega
            have gs10 : G6 < w10.heap.size := by omega
            clear hb10 ho10 kx n10 e0 e1 e2 b0 b1 b2 f60 f61 f62 HCALL HOP0 HOP1 HOP2
            cases kE
            · have HG11 := Lib.hid (HG.out.keep HBX.out)
              obtain ⟨d, rfl⟩ : ∃ d : Nat, ld = (d : Int) := ⟨ld.toNat, by have := HG11.out.ok.2.1; omega⟩
              have hd : d < L.length := by have := HG11.out.ok.2.1.2; omega
              have hLL : L.length ≤ 1048576 := by have := HG11.out.ok.1.2; omega
              have hL12 : L[d].length ≤ 12 := (HG11.out.ok.2.2.2 _ (List.getElem_mem hd)).1
              have HSU := Lib.hid (fun V (hg : GvAt V V.heap.size A L) => sSureN_any A L.length c L d tm V hg rfl hLL (okG_small HG11.out.ok) hd)
              have HSL := Lib.hid (sureN_le L L[d] tm)
              have hdi : (d : Int) < (L.length : Int) := by omega
              have hd0 : (0 : Int) ≤ (d : Int) := by omega
              go_wp2_with fail
              go_loopw [7] (fun q wx => ∃ (mt2 ct2 : Nat) (At2 : Option Addr), q = .slice At2 mt2 ct2 ∧ mt2 ≤ 12 ∧ RG w G6 At2 mt2 ct2 A c hs L (d : Int) tm wx) (fun q _ => match q with | .slice _ a _ => 12 - a | _ => 0)
              case atStart => exact ⟨mt, ct, At, rfl, hmt, HG11.out⟩
              case round =>
                obtain ⟨mt2, ct2, At2, rfl, hmt2, hrel2⟩ := hrel
                have HT := Lib.hid hrel2; clear hrel2
                have z0 := HT.out.box.1.c0
                have z1 := HT.out.box.1.c1
                have z2 := HT.out.box.1.c2
                rename World => wx
                have HSV := Lib.hid (HSU.out wx HT.out.ow.at_)
                generalize hsn : sureN L L[d] tm = sn at *
                clear hsn
                by_cases hts : mt2 < sn
                · have hts2 : (mt2 : Int) < (sn : Int) := by omega
                  have hml : mt2 < L[d].length := by have := HSL.out; omega
                  go_wp2_with fail
                  refine (HSV.out).mono ?_
                  rintro e w20 ⟨rfl, hb20⟩
                  have HT2 := Lib.hid (HT.out.keep hb20); clear hb20 z0 z1 z2
                  obtain ⟨b, off, Ad, cd, hA, hbw, y0, hrow⟩ := HT2.out.ow.at_.at_ hd
                  obtain ⟨b3, off3, hA3, hbw3, y1, y2⟩ := ens_at hrow hml
                  have z0 := HT2.out.box.1.c0
                  have z1 := HT2.out.box.1.c1
                  have HA := Lib.hid hA
                  rw [hA] at z0
                  subst hA3
                  have hmi : (mt2 : Int) < (L[d].length : Int) := by omega
                  have hm0 : (0 : Int) ≤ (mt2 : Int) := by omega
                  generalize L[d][mt2].2 = yv at *
                  obtain ⟨xs, hxs⟩ := HT2.out.told
                  have HXS := Lib.hid hxs
                  have HT3 := Lib.hid (HT2.out.keep ((Below.refl w20.heap.size w20).alloc (Nat.le_refl _) (.cells #[.int .i64 yv] 3)))
                  have HXS3 := Lib.hid (own_keepG hxs ((Below.refl w20.heap.size w20).alloc (Nat.le_refl _) (.cells #[.int .i64 yv] 3)))
                  have hG20 := HT2.out.box.1.lt
                  clear hA hrow hxs y1
                  go_wp2_with (at_builtin; refine wpList_append_own _ rfl _ _ 51 rfl (G6 + 1) 3 i0 (.int .i64 0) 1 8 Try.underlying51 HI.out.1 HI.out.2.1 HI.out.2.2.1 HI.out.2.2.2 rfl (by decide) (.slice At2 mt2 ct2) mt2 xs rfl HXS3.out ⟨w20.heap.size, 0, none⟩ 1 1 [.int .i64 yv] rfl rfl ?c1 ?c2 ?c3 ?c4 ?c5 ?_)
                  try (case c1 => intro j u hj; rw [add_zero_off, Nat.zero_add]; match j, hj with | 0, hj => (simp at hj ⊢; simpa using hj) | k + 1, hj => simp at hj)
                  try (case c2 => first | rfl | (intro u hu; simp at hu; subst hu; rfl))
                  try (case c3 => unfold maxLen; omega)
                  try (case c4 => omega)
                  try (case c5 => simp; omega)
                  intro v21 w21 hown21 hgrow21 _
                  obtain ⟨At3, ct3, rfl, h21⟩ := HT3.out.tell hown21 hgrow21
                  have H21 := Lib.hid h21
                  clear h21 hown21 hgrow21 y0 y2 z0 z1
                  go_wp2_with fail
                  go_roundw
                  case rel => exact ⟨mt2 + 1, ct3, At3, rfl, by have := HSL.out; omega, H21.out⟩
                  case measure => simp; have := HSL.out; omega
                · have hts2 : ¬ ((mt2 : Int) < (sn : Int)) := by omega
                  go_wp2_with fail
                  refine (HSV.out).mono ?_
                  rintro e w20 ⟨rfl, hb20⟩
                  have HT2 := Lib.hid (HT.out.keep hb20); clear hb20 z0 z1 z2
                  go_wp2_with fail
                  go_roundw
                  case rel => exact ⟨k + 1, mt2, ct2, At2, A, c, hs, L, (d : Int), tm, rfl, by go_num, by omega, hmt2, HT2.out⟩
                  case measure => simp [intOf]; omega
            · have HG11 := Lib.hid ((HG.out.keep HBX.out).lay (((HO10.out.setBelow hq9).setBelow hq9).setBelow hq9) hG9 (HOKE.out rfl))
              obtain ⟨d, rfl⟩ : ∃ d : Nat, lE = (d : Int) := ⟨lE.toNat, by have := HG11.out.ok.2.1; omega⟩
              have hd : d < LE.length := by have := HG11.out.ok.2.1.2; omega
              have hLL : LE.length ≤ 1048576 := by have := HG11.out.ok.1.2; omega
              have hL12 : LE[d].length ≤ 12 := (HG11.out.ok.2.2.2 _ (List.getElem_mem hd)).1
              have HSU := Lib.hid (fun V (hg : GvAt V V.heap.size A10 LE) => sSureN_any A10 LE.length c10 LE d tE V hg rfl hLL (okG_small HG11.out.ok) hd)
              have HSL := Lib.hid (sureN_le LE LE[d] tE)
              have hdi : (d : Int) < (LE.length : Int) := by omega
              have hd0 : (0 : Int) ≤ (d : Int) := by omega
              go_wp2_with fail
              go_loopw [7] (fun q wx => ∃ (mt2 ct2 : Nat) (At2 : Option Addr), q = .slice At2 mt2 ct2 ∧ mt2 ≤ 12 ∧ RG w G6 At2 mt2 ct2 A10 c10 hs10 LE (d : Int) tE wx) (fun q _ => match q with | .slice _ a _ => 12 - a | _ => 0)
              case atStart => exact ⟨mt, ct, At, rfl, hmt, HG11.out⟩
              case round =>
                obtain ⟨mt2, ct2, At2, rfl, hmt2, hrel2⟩ := hrel
                have HT := Lib.hid hrel2; clear hrel2
                have z0 := HT.out.box.1.c0
                have z1 := HT.out.box.1.c1
                have z2 := HT.out.box.1.c2
                rename World => wx
                have HSV := Lib.hid (HSU.out wx HT.out.ow.at_)
                generalize hsn : sureN LE LE[d] tE = sn at *
                clear hsn
                by_cases hts : mt2 < sn
                · have hts2 : (mt2 : Int) < (sn : Int) := by omega
                  have hml : mt2 < LE[d].length := by have := HSL.out; omega
                  go_wp2_with fail
                  refine (HSV.out).mono ?_
                  rintro e w20 ⟨rfl, hb20⟩
                  have HT2 := Lib.hid (HT.out.keep hb20); clear hb20 z0 z1 z2
                  obtain ⟨b, off, Ad, cd, hA, hbw, y0, hrow⟩ := HT2.out.ow.at_.at_ hd
                  obtain ⟨b3, off3, hA3, hbw3, y1, y2⟩ := ens_at hrow hml
                  have z0 := HT2.out.box.1.c0
                  have z1 := HT2.out.box.1.c1
                  have HA := Lib.hid hA
                  rw [hA] at z0
                  subst hA3
                  have hmi : (mt2 : Int) < (LE[d].length : Int) := by omega
                  have hm0 : (0 : Int) ≤ (mt2 : Int) := by omega
                  generalize LE[d][mt2].2 = yv at *
                  obtain ⟨xs, hxs⟩ := HT2.out.told
                  have HXS := Lib.hid hxs
                  have HT3 := Lib.hid (HT2.out.keep ((Below.refl w20.heap.size w20).alloc (Nat.le_refl _) (.cells #[.int .i64 yv] 3)))
                  have HXS3 := Lib.hid (own_keepG hxs ((Below.refl w20.heap.size w20).alloc (Nat.le_refl _) (.cells #[.int .i64 yv] 3)))
                  have hG20 := HT2.out.box.1.lt
                  clear hA hrow hxs y1
                  go_wp2_with (at_builtin; refine wpList_append_own _ rfl _ _ 51 rfl (G6 + 1) 3 i0 (.int .i64 0) 1 8 Try.underlying51 HI.out.1 HI.out.2.1 HI.out.2.2.1 HI.out.2.2.2 rfl (by decide) (.slice At2 mt2 ct2) mt2 xs rfl HXS3.out ⟨w20.heap.size, 0, none⟩ 1 1 [.int .i64 yv] rfl rfl ?c1 ?c2 ?c3 ?c4 ?c5 ?_)
                  try (case c1 => intro j u hj; rw [add_zero_off, Nat.zero_add]; match j, hj with | 0, hj => (simp at hj ⊢; simpa using hj) | k + 1, hj => simp at hj)
                  try (case c2 => first | rfl | (intro u hu; simp at hu; subst hu; rfl))
                  try (case c3 => unfold maxLen; omega)
                  try (case c4 => omega)
                  try (case c5 => simp; omega)
                  intro v21 w21 hown21 hgrow21 _
                  obtain ⟨At3, ct3, rfl, h21⟩ := HT3.out.tell hown21 hgrow21
                  have H21 := Lib.hid h21
                  clear h21 hown21 hgrow21 y0 y2 z0 z1
                  go_wp2_with fail
                  go_roundw
                  case rel => exact ⟨mt2 + 1, ct3, At3, rfl, by have := HSL.out; omega, H21.out⟩
                  case measure => simp; have := HSL.out; omega
                · have hts2 : ¬ ((mt2 : Int) < (sn : Int)) := by omega
                  go_wp2_with fail
                  refine (HSV.out).mono ?_
                  rintro e w20 ⟨rfl, hb20⟩
                  have HT2 := Lib.hid (HT.out.keep hb20); clear hb20 z0 z1 z2
                  go_wp2_with fail
                  go_roundw
                  case rel => exact ⟨k + 1, mt2, ct2, At2, A10, c10, hs10, LE, (d : Int), tE, rfl, by go_num, by omega, hmt2, HT2.out⟩
                  case measure => simp [intOf]; omega
          · have q0 : (kd == 0) = false := by simpa using t0
            have q1 : (kd == 1) = false := by simpa using t1
            have q2 : (kd == 2) = false := by simpa using t2
            clear t0 t1 t2
            obtain ⟨d, rfl⟩ : ∃ d : Nat, ld = (d : Int) := ⟨ld.toNat, by have := HG9.out.ok.2.1; omega⟩
            have hd : d < L.length := by have := HG9.out.ok.2.1.2; omega
            have hLL : L.length ≤ 1048576 := by have := HG9.out.ok.1.2; omega
            have hL12 : L[d].length ≤ 12 := (HG9.out.ok.2.2.2 _ (List.getElem_mem hd)).1
            have HSU := Lib.hid (fun V (hg : GvAt V V.heap.size A L) => sSureN_any A L.length c L d tm V hg rfl hLL (okG_small HG9.out.ok) hd)
            have HSL := Lib.hid (sureN_le L L[d] tm)
            have hdi : (d : Int) < (L.length : Int) := by omega
            have hd0 : (0 : Int) ≤ (d : Int) := by omega
            go_wp2_with fail
            rw [← HW9.out]
            clear e0 e1 e2 b0 b1 b2 f60 f61 f62
            go_loopw [7] (fun q wx => ∃ (mt2 ct2 : Nat) (At2 : Option Addr), q = .slice At2 mt2 ct2 ∧ mt2 ≤ 12 ∧ RG w G6 At2 mt2 ct2 A c hs L (d : Int) tm wx) (fun q _ => match q with | .slice _ a _ => 12 - a | _ => 0)
            case atStart => exact ⟨mt, ct, At, rfl, hmt, HG9.out⟩
            case round =>
              obtain ⟨mt2, ct2, At2, rfl, hmt2, hrel2⟩ := hrel
              have HT := Lib.hid hrel2; clear hrel2
              have z0 := HT.out.box.1.c0
              have z1 := HT.out.box.1.c1
              have z2 := HT.out.box.1.c2
              rename World => wx
              have HSV := Lib.hid (HSU.out wx HT.out.ow.at_)
              generalize hsn : sureN L L[d] tm = sn at *
              clear hsn
              by_cases hts : mt2 < sn
              · have hts2 : (mt2 : Int) < (sn : Int) := by omega
                have hml : mt2 < L[d].length := by have := HSL.out; omega
                go_wp2_with fail
                refine (HSV.out).mono ?_
                rintro e w20 ⟨rfl, hb20⟩
                have HT2 := Lib.hid (HT.out.keep hb20); clear hb20 z0 z1 z2
                obtain ⟨b, off, Ad, cd, hA, hbw, y0, hrow⟩ := HT2.out.ow.at_.at_ hd
                obtain ⟨b3, off3, hA3, hbw3, y1, y2⟩ := ens_at hrow hml
                have z0 := HT2.out.box.1.c0
                have z1 := HT2.out.box.1.c1
                have HA := Lib.hid hA
                rw [hA] at z0
                subst hA3
                have hmi : (mt2 : Int) < (L[d].length : Int) := by omega
                have hm0 : (0 : Int) ≤ (mt2 : Int) := by omega
                generalize L[d][mt2].2 = yv at *
                obtain ⟨xs, hxs⟩ := HT2.out.told
                have HXS := Lib.hid hxs
                have HT3 := Lib.hid (HT2.out.keep ((Below.refl w20.heap.size w20).alloc (Nat.le_refl _) (.cells #[.int .i64 yv] 3)))
                have HXS3 := Lib.hid (own_keepG hxs ((Below.refl w20.heap.size w20).alloc (Nat.le_refl _) (.cells #[.int .i64 yv] 3)))
                have hG20 := HT2.out.box.1.lt
                clear hA hrow hxs y1
                go_wp2_with (at_builtin; refine wpList_append_own _ rfl _ _ 51 rfl (G6 + 1) 3 i0 (.int .i64 0) 1 8 Try.underlying51 HI.out.1 HI.out.2.1 HI.out.2.2.1 HI.out.2.2.2 rfl (by decide) (.slice At2 mt2 ct2) mt2 xs rfl HXS3.out ⟨w20.heap.size, 0, none⟩ 1 1 [.int .i64 yv] rfl rfl ?c1 ?c2 ?c3 ?c4 ?c5 ?_)
                try (case c1 => intro j u hj; rw [add_zero_off, Nat.zero_add]; match j, hj with | 0, hj => (simp at hj ⊢; simpa using hj) | k + 1, hj => simp at hj)
                try (case c2 => first | rfl | (intro u hu; simp at hu; subst hu; rfl))
                try (case c3 => unfold maxLen; omega)
                try (case c4 => omega)
                try (case c5 => simp; omega)
                intro v21 w21 hown21 hgrow21 _
                obtain ⟨At3, ct3, rfl, h21⟩ := HT3.out.tell hown21 hgrow21
                have H21 := Lib.hid h21
                clear h21 hown21 hgrow21 y0 y2 z0 z1
                go_wp2_with fail
                go_roundw
                case rel => exact ⟨mt2 + 1, ct3, At3, rfl, by have := HSL.out; omega, H21.out⟩
                case measure => simp; have := HSL.out; omega
              · have hts2 : ¬ ((mt2 : Int) < (sn : Int)) := by omega
                go_wp2_with fail
                refine (HSV.out).mono ?_
                rintro e w20 ⟨rfl, hb20⟩
                have HT2 := Lib.hid (HT.out.keep hb20); clear hb20 z0 z1 z2
                go_wp2_with fail
                go_roundw
                case rel => exact ⟨k + 1, mt2, ct2, At2, A, c, hs, L, (d : Int), tm, rfl, by go_num, by omega, hmt2, HT2.out⟩
                case measure => simp [intOf]; omega
    · obtain rfl : k = m := by omega
      have r0 := HG.out.res.1.c0
      have r1 := HG.out.res.1.c1
      have r2 := HG.out.res.1.c2
      have f0 := HG.out.res.2.1
      have f1 := HG.out.res.2.2.1
      have f2 := HG.out.res.2.2.2
      have hrs := HG.out.res.1.lt
      go_wp2_with fail
      refine bodyPost_ret (v := .tuple #[.agg #[.slice A L.length c, .int .i64 ld, .int .i64 tm], .slice At mt ct]) ?_ rfl ?_
      · simp [results, Try.results39, go_sem, r0, r1, r2]
      · refine ⟨A, c, hs, L, ld, tm, _, rfl, ?_, HG.out.ok, (((HG.out.hb.setCell (by simp) _).setCell (by simp) _).setCell (by simp) _)⟩
        exact (((HG.out.ow.setBelow (by simp)).setBelow (by simp)).setBelow (by simp)).mono (by omega)
end Go.Proofs.Ytgoonccjdoajnab
