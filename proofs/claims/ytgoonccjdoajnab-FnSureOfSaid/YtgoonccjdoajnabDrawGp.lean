/- The drawn groups (the model's generator someGroup). Condition: the reader lies in its block. -/
import Derived.Test.YtgoonccjdoajnabDrawMv
import Derived.Test.YtgoonccjdoajnabGrN
set_option linter.unusedVariables false
set_option linter.unusedSimpArgs false
namespace Go.Proofs.Ytgoonccjdoajnab
open Go.RowKit Go.ChangeShapes Go.WideShapes

/-- a group in a variable that may be written -/
structure BxF (b : Nat) (A : Option Addr) (n c : Nat) (ld tm : Int) (W : World) : Prop where
  bx : BoxAt b A n c ld tm W
  f0 : W.frozen? ⟨b, 0, none⟩ = false
  f1 : W.frozen? ⟨b, 1, none⟩ = false
  f2 : W.frozen? ⟨b, 2, none⟩ = false
theorem BxF.same {b : Nat} {A : Option Addr} {n c : Nat} {ld tm : Int} {W W' : World} (h : BxF b A n c ld tm W) (hb : W'.heap[b]? = W.heap[b]?) (hs : W.heap.size ≤ W'.heap.size) : BxF b A n c ld tm W' :=
  ⟨h.bx.same hb hs, frz_same hb h.f0, frz_same hb h.f1, frz_same hb h.f2⟩
theorem BxF.keep {b : Nat} {A : Option Addr} {n c : Nat} {ld tm : Int} {W W' : World} (h : BxF b A n c ld tm W) (hb : Below W.heap.size W W') : BxF b A n c ld tm W' := h.same (hb.block b h.bx.lt) hb.size
theorem BxF.grow {b r : Nat} {A : Option Addr} {n c : Nat} {ld tm : Int} {W W' : World} (h : BxF b A n c ld tm W) (hg : W.grownBy W' (some r)) (hn : b ≠ r) : BxF b A n c ld tm W' := h.same (hg.block b h.bx.lt (fun e => by injection e with e; exact hn e)) hg.size
theorem BxF.new (W : World) (A : Option Addr) (n c : Nat) (ld tm : Int) (T : TypeId) : BxF W.heap.size A n c ld tm (W.alloc (.cells #[.slice A n c, .int .i64 ld, .int .i64 tm] T)) := ⟨BoxAt.new W A n c ld tm T, by simp [go_sem], by simp [go_sem], by simp [go_sem]⟩
theorem OwG.grewR {B r : Nat} {A : Option Addr} {c : Nat} {hs : List GHd} {L : List (List En)} {W W' : World} (h : OwG B A c hs L W) (hg : W.grownBy W' (some r)) (hr : r < B) : OwG B A c hs L W' := h.same fun q hq hqs => hg.block q hqs (fun e => by injection e with e; have := (h.blk hq).1; omega)
theorem OwG.setOff {B : Nat} {A : Option Addr} {c : Nat} {hs : List GHd} {L : List (List En)} {W : World} (h : OwG B A c hs L W) {p : Addr} (v : Value) (hp : ∀ q, BlkG A hs q → q ≠ p.block) : OwG B A c hs L (W.setCell p v) := h.same fun q hq hqs => Below.heap_setCell _ _ _ _ (hp q hq)
theorem grown_set {w W : World} {r : Nat} (h : w.grownBy W (some r)) {p : Addr} (hp : w.heap.size ≤ p.block) (v : Value) : w.grownBy (W.setCell p v) (some r) := ⟨h.os, h.tape, h.output, by simpa using h.size, fun k hk hn => (Below.heap_setCell _ _ _ _ (by omega)).trans (h.block k hk hn)⟩
theorem grown_belowG {w W W' : World} {r : Nat} (h : w.grownBy W (some r)) (hb : Below W.heap.size W W') : w.grownBy W' (some r) := grown_far h (grown_of_below (row := none) hb) (fun q hq => by cases hq)
/-- what a drawn group is -/
def WideG (L : List (List En)) (ld tm : Int) : Prop := (1 ≤ L.length ∧ L.length ≤ 5) ∧ (-1 ≤ ld ∧ ld ≤ 5) ∧ (0 ≤ tm ∧ tm ≤ 10) ∧ ∀ l ∈ L, l.length ≤ 12
theorem WideG.small {L : List (List En)} {ld tm : Int} (h : WideG L ld tm) : SmallGv L := fun r hr => by have := h.2.2.2 r hr; omega
theorem okG_wide {L : List (List En)} {ld tm : Int} (h : okG L ld tm) : WideG L ld tm := ⟨h.1, by have := h.2.1; have := h.1; omega, by have := h.2.2.1; omega, fun l hl => (h.2.2.2 l hl).1⟩
def GpDrawn (r M : Nat) (w : World) (e : Ending) (w' : World) : Prop := ∃ A c hs L ld tm, e = .returned (.agg #[.slice A L.length c, .int .i64 ld, .int .i64 tm]) ∧ OwG w.heap.size A c hs L w' ∧ WideG L ld tm ∧ Rdr 77 w' r M ∧ w.grownBy w' (some r)

set_option maxRecDepth 100000 in
set_option maxHeartbeats 1000000 in
theorem someGroup_any (r N : Nat) (w : World) (h : Rdr 77 w r N) (hN : N ≤ 700000) :
    Calls Try.prog 42 #[.pointer (some ⟨r, 0, none⟩)] w (GpDrawn r (N + 500) w) := by
  have hrl := h.lt
  have HR0 := Lib.hid (show Rdr 77 (w.alloc (.cells #[.slice none 0 0, .int .i64 0, .int .i64 0] 25)) r N from h.alloc _)
  clear h
  have ho1 := fun cs m c t hm hm0 hm1 hs => oneNew_any 1 5 r N m c cs t _ HR0.out (by omega) hm hm0 hm1 hs
  simp only [World.size_alloc] at ho1
  have HO1 := Lib.hid ho1; clear ho1
  have HX0 := Lib.hid (BxF.new w none 0 0 0 0 25)
  have HW0 := Lib.hid (World.grownBy_alloc w (.cells #[.slice none 0 0, .int .i64 0, .int .i64 0] 25) (some r))
  go_enter Try.func42, Try.ntmps42
  go_wp2_with fail
  refine (HO1.out _ _ _ _ (by rfl) (by omega) (by omega) (by rfl)).mono ?_
  rintro e w1 ⟨nn, rfl, hn1, hn2, hr1, hg1⟩
  have HR1 := Lib.hid hr1
  have HX1 := Lib.hid (HX0.out.grow hg1 (by omega))
  have HG1 := Lib.hid (HW0.out.trans' hg1); clear hr1 hg1
  obtain ⟨n, rfl⟩ := Int.eq_ofNat_of_zero_le (show 0 ≤ nn by omega)
  have HMV := Lib.hid (someMoves_any r _ w1 HR1.out (by omega))
  go_wp2_with fail
  refine (HMV.out).mono ?_
  rintro e w2 ⟨l, Am, m, cm, rfl, hml, hm30, hd⟩
  have HML := Lib.hid hml; clear hml
  have HD := Lib.hid hd
  have HX2 := Lib.hid (HX1.out.grow hd.gr (by omega))
  have HG2 := Lib.hid (HG1.out.trans' hd.gr); clear hd
  have HRN := Lib.hid (sRun_any10 n Am m cm l w2 (by omega) (by omega) HD.out.row HML.out hm30)
  go_wp2_with fail
  refine (HRN.out).mono ?_
  rintro e w3 ⟨A, c, hs, L, ld, tm, tv, rfl, ho, hok, hb3⟩
  have hs1 := HG1.out.size
  have hs2 := HG2.out.size
  have hs3 := hb3.size
  have hx2 := HX2.out.bx.lt
  have HX3 := Lib.hid ((HX2.out.keep hb3).keep ((Below.refl _ _).alloc (Nat.le_refl _) (.cells #[.slice A L.length c, .int .i64 ld, .int .i64 tm] 25)))
  have HR3 := Lib.hid (((HD.out.rd.below hb3 HD.out.rd.lt).alloc (.cells #[.slice A L.length c, .int .i64 ld, .int .i64 tm] 25)))
  have HG3 := Lib.hid (grown_belowG (grown_belowG HG2.out hb3) ((Below.refl _ _).alloc (Nat.le_refl _) (.cells #[.slice A L.length c, .int .i64 ld, .int .i64 tm] 25)))
  have HV3 := Lib.hid (BxF.new w3 A L.length c ld tm 25)
  have HNE := Lib.hid (fun q (hq : BlkG A hs q) => (ho.blk hq).2)
  have HO3 := Lib.hid ((ho.mono (show w.heap.size + 1 ≤ w2.heap.size by omega)).keep ((Below.refl _ _).alloc (Nat.le_refl _) (.cells #[.slice A L.length c, .int .i64 ld, .int .i64 tm] 25)))
  have HWD := Lib.hid (okG_wide hok)
  clear ho hok hb3
  have HP := Lib.hid (pick_any r _ 40 _ HR3.out (by omega) (by omega))
  go_wp2_with fail
  refine (HP.out).mono ?_
  rintro e w5 ⟨v, rfl, hv0, hvn, hr5, hg5⟩
  have HR5 := Lib.hid hr5
  have HX5 := Lib.hid (HX3.out.grow hg5 (by omega))
  have HV5 := Lib.hid (HV3.out.grow hg5 (by omega))
  have HO5 := Lib.hid (HO3.out.grewR hg5 (by omega))
  have HG5 := Lib.hid (HG3.out.trans' hg5); clear hr5 hg5
  have ne1 : ¬ (w3.heap.size = w.heap.size) := by omega
  have ne2 : ¬ (w.heap.size = w3.heap.size) := by omega
  by_cases t0 : v = 0
  · have q0 : (v == 0) = true := by simpa using t0
    clear t0
    have HO2 := Lib.hid (fun cs m c t hm hm0 hm1 hs => oneNew_any (-1) 5 r _ m c cs t w5 HR5.out (by omega) hm hm0 hm1 hs)
    go_wp2_with fail
    refine (HO2.out _ _ _ _ (by rfl) (by omega) (by omega) (by rfl)).mono ?_
    rintro e w6 ⟨x, rfl, hx1, hx2, hr6, hg6⟩
    have HR6 := Lib.hid hr6
    have HX6 := Lib.hid (HX5.out.grow hg6 (by omega))
    have HV6 := Lib.hid (HV5.out.grow hg6 (by omega))
    have HO6 := Lib.hid (HO5.out.grewR hg6 (by omega))
    have HG6 := Lib.hid (HG5.out.trans' hg6); clear hr6 hg6
    have x0 := HX6.out.bx.c0
    have x1 := HX6.out.bx.c1
    have x2 := HX6.out.bx.c2
    have fx0 := HX6.out.f0
    have fx1 := HX6.out.f1
    have fx2 := HX6.out.f2
    have xl := HX6.out.bx.lt
    have y0 := HV6.out.bx.c0
    have y1 := HV6.out.bx.c1
    have y2 := HV6.out.bx.c2
    have fy0 := HV6.out.f0
    have fy1 := HV6.out.f1
    have fy2 := HV6.out.f2
    have yl := HV6.out.bx.lt
    go_wp2_with fail
    refine bodyPost_ret (v := .agg #[.slice A L.length c, .int .i64 x, .int .i64 tm]) ?_ rfl ?_
    · simp [results, Try.results42, go_sem, x0, x1, x2, y0, y1, y2, ne1, ne2]
    · refine ⟨A, c, hs, L, x, tm, rfl, OwG.mono (OwG.setBelow (OwG.setBelow (OwG.setBelow (OwG.setOff HO6.out _ (fun q hq => by have := HNE.out q hq; show q ≠ w3.heap.size; omega)) (by show w.heap.size < w.heap.size + 1; omega)) (by show w.heap.size < w.heap.size + 1; omega)) (by show w.heap.size < w.heap.size + 1; omega)) (by omega), ?_, ?_, (grown_set (grown_set (grown_set (grown_set HG6.out (by show w.heap.size ≤ w3.heap.size; omega) _) (by show w.heap.size ≤ w.heap.size; omega) _) (by show w.heap.size ≤ w.heap.size; omega) _) (by show w.heap.size ≤ w.heap.size; omega) _)⟩
      · have := HWD.out; exact ⟨this.1, by have := this.2.1; omega, by have := this.2.2.1; omega, this.2.2.2⟩
      · refine Rdr.more (N := _) (Rdr.below (B := r + 1) HR6.out ?_ (by omega)) ?_
        · refine Below.setCell (Below.setCell (Below.setCell (Below.setCell (Below.refl (r + 1) _) ?_ _) ?_ _) ?_ _) ?_ _ <;> (dsimp only; omega)
        · omega
  · by_cases t1 : v = 1
    · have q0 : (v == 0) = false := by simpa using t0
      have q1 : (v == 1) = true := by simpa using t1
      clear t0 t1
      have HO2 := Lib.hid (fun cs m c t hm hm0 hm1 hs => oneNew_any (0) 10 r _ m c cs t w5 HR5.out (by omega) hm hm0 hm1 hs)
      go_wp2_with fail
      refine (HO2.out _ _ _ _ (by rfl) (by omega) (by omega) (by rfl)).mono ?_
      rintro e w6 ⟨x, rfl, hx1, hx2, hr6, hg6⟩
      have HR6 := Lib.hid hr6
      have HX6 := Lib.hid (HX5.out.grow hg6 (by omega))
      have HV6 := Lib.hid (HV5.out.grow hg6 (by omega))
      have HO6 := Lib.hid (HO5.out.grewR hg6 (by omega))
      have HG6 := Lib.hid (HG5.out.trans' hg6); clear hr6 hg6
      have x0 := HX6.out.bx.c0
      have x1 := HX6.out.bx.c1
      have x2 := HX6.out.bx.c2
      have fx0 := HX6.out.f0
      have fx1 := HX6.out.f1
      have fx2 := HX6.out.f2
      have xl := HX6.out.bx.lt
      have y0 := HV6.out.bx.c0
      have y1 := HV6.out.bx.c1
      have y2 := HV6.out.bx.c2
      have fy0 := HV6.out.f0
      have fy1 := HV6.out.f1
      have fy2 := HV6.out.f2
      have yl := HV6.out.bx.lt
      go_wp2_with fail
      refine bodyPost_ret (v := .agg #[.slice A L.length c, .int .i64 ld, .int .i64 x]) ?_ rfl ?_
      · simp [results, Try.results42, go_sem, x0, x1, x2, y0, y1, y2, ne1, ne2]
      · refine ⟨A, c, hs, L, ld, x, rfl, OwG.mono (OwG.setBelow (OwG.setBelow (OwG.setBelow (OwG.setOff HO6.out _ (fun q hq => by have := HNE.out q hq; show q ≠ w3.heap.size; omega)) (by show w.heap.size < w.heap.size + 1; omega)) (by show w.heap.size < w.heap.size + 1; omega)) (by show w.heap.size < w.heap.size + 1; omega)) (by omega), ?_, ?_, (grown_set (grown_set (grown_set (grown_set HG6.out (by show w.heap.size ≤ w3.heap.size; omega) _) (by show w.heap.size ≤ w.heap.size; omega) _) (by show w.heap.size ≤ w.heap.size; omega) _) (by show w.heap.size ≤ w.heap.size; omega) _)⟩
        · have := HWD.out; exact ⟨this.1, by have := this.2.1; omega, by have := this.2.2.1; omega, this.2.2.2⟩
        · refine Rdr.more (N := _) (Rdr.below (B := r + 1) HR6.out ?_ (by omega)) ?_
          · refine Below.setCell (Below.setCell (Below.setCell (Below.setCell (Below.refl (r + 1) _) ?_ _) ?_ _) ?_ _) ?_ _ <;> (dsimp only; omega)
          · omega
    · have q0 : (v == 0) = false := by simpa using t0
      have q1 : (v == 1) = false := by simpa using t1
      clear t0 t1
      have x0 := HX5.out.bx.c0
      have x1 := HX5.out.bx.c1
      have x2 := HX5.out.bx.c2
      have fx0 := HX5.out.f0
      have fx1 := HX5.out.f1
      have fx2 := HX5.out.f2
      have xl := HX5.out.bx.lt
      have y0 := HV5.out.bx.c0
      have y1 := HV5.out.bx.c1
      have y2 := HV5.out.bx.c2
      have fy0 := HV5.out.f0
      have fy1 := HV5.out.f1
      have fy2 := HV5.out.f2
      have yl := HV5.out.bx.lt
      go_wp2_with fail
      refine bodyPost_ret (v := .agg #[.slice A L.length c, .int .i64 ld, .int .i64 tm]) ?_ rfl ?_
      · simp [results, Try.results42, go_sem, x0, x1, x2, y0, y1, y2, ne1, ne2]
      · refine ⟨A, c, hs, L, ld, tm, rfl, OwG.mono (OwG.setBelow (OwG.setBelow (OwG.setBelow HO5.out (by show w.heap.size < w.heap.size + 1; omega)) (by show w.heap.size < w.heap.size + 1; omega)) (by show w.heap.size < w.heap.size + 1; omega)) (by omega), ?_, ?_, (grown_set (grown_set (grown_set HG5.out (by show w.heap.size ≤ w.heap.size; omega) _) (by show w.heap.size ≤ w.heap.size; omega) _) (by show w.heap.size ≤ w.heap.size; omega) _)⟩
        · have := HWD.out; exact ⟨this.1, by have := this.2.1; omega, by have := this.2.2.1; omega, this.2.2.2⟩
        · refine Rdr.more (N := _) (Rdr.below (B := r + 1) HR5.out ?_ (by omega)) ?_
          · refine Below.setCell (Below.setCell (Below.setCell (Below.refl (r + 1) _) ?_ _) ?_ _) ?_ _ <;> (dsimp only; omega)
          · omega
end Go.Proofs.Ytgoonccjdoajnab
