/- The drawn histories (the model's generator someRecs). Condition: the reader lies in its block. -/
import Derived.Test.YthpfijhmdeciaaaDrawL
import Derived.Test.YthpfijhmdeciaaaRecQ
import Derived.StillTailTactics
import Derived.Deep.RegionWith
import Derived.Deep.RegionHeld3
import Derived.Deep.CutRange
import Derived.Deep.CutBlock
import Derived.Deep.AppendLies
import Derived.Test.YthpfijhmdeciaaaOut
set_option linter.unusedVariables false
set_option linter.unusedSimpArgs false
namespace Go.Proofs.Ythpfijhmdeciaaa
open Go.RowKit Go.ChangeShapes Go.WideShapes

def RecsDrawn (r M : Nat) (w : World) (e : Ending) (w' : World) : Prop := ∃ (l : List Rc) (A : Option Addr) (m c : Nat), e = .returned (.slice A m c) ∧ m = l.length ∧ m ≤ 14 ∧ m ≤ c ∧ WfRc l ∧ RowD r M 31 5 w A m c (rcsC l) w'
/-- the cells of one record -/
def rcF (z0 z1 z2 z3 z4 : Int) (j : Nat) : Value := if j = 0 then .int .i64 z0 else if j = 1 then .int .i64 z1 else if j = 2 then .int .i64 z2 else if j = 3 then .int .i64 z3 else .int .i64 z4
theorem rf_start {B : Nat} (w : World) (z0 z1 z2 z3 z4 : Int) (hB : B ≤ w.heap.size) : RowG (w.alloc (.cells #[.int .i64 z0, .int .i64 z1, .int .i64 z2, .int .i64 z3, .int .i64 z4] 31)) B 31 w.heap.size 5 (rcF z0 z1 z2 z3 z4) :=
  ⟨by simp [mcells], .inr ⟨w.heap.size, 5, _, rfl, hB, heap_alloc_new w _, Nat.le_refl _, by simp [maxLen], rfl, rfl⟩⟩
theorem RowG.grow {w W : World} {B g n : Nat} {T : TypeId} {f : Nat → Value} {row : Option Nat} (h : RowG w B T g n f) (hg : w.grownBy W row) (hne : some g ≠ row) : RowG W B T g n f := World.ownsRow.kept h hg (.inr hne)
theorem rf_put {W : World} {B R : Nat} {z0 z1 z2 z3 z4 y0 y1 y2 y3 y4 : Int} (h : RowG W B 31 R 5 (rcF z0 z1 z2 z3 z4)) :
    RowG (((((W.setCell ⟨R, 0, none⟩ (.int .i64 y0)).setCell ⟨R, 1, none⟩ (.int .i64 y1)).setCell ⟨R, 2, none⟩ (.int .i64 y2)).setCell ⟨R, 3, none⟩ (.int .i64 y3)).setCell ⟨R, 4, none⟩ (.int .i64 y4)) B 31 R 5 (rcF y0 y1 y2 y3 y4) := by
  refine (((((h.set 0 _).set 1 _).set 2 _).set 3 _).set 4 _).congr (fun q hq => ?_)
  match q, hq with
  | 0, _ => rfl
  | 1, _ => rfl
  | 2, _ => rfl
  | 3, _ => rfl
  | 4, _ => rfl
theorem rf_cells {W : World} {B R : Nat} {z0 z1 z2 z3 z4 : Int} (h : RowG W B 31 R 5 (rcF z0 z1 z2 z3 z4)) :
    (W.cell? ⟨R, 0, none⟩ = some (.int .i64 z0) ∧ W.cell? ⟨R, 1, none⟩ = some (.int .i64 z1) ∧ W.cell? ⟨R, 2, none⟩ = some (.int .i64 z2) ∧ W.cell? ⟨R, 3, none⟩ = some (.int .i64 z3) ∧ W.cell? ⟨R, 4, none⟩ = some (.int .i64 z4)) ∧
    (W.frozen? ⟨R, 0, none⟩ = false ∧ W.frozen? ⟨R, 1, none⟩ = false ∧ W.frozen? ⟨R, 2, none⟩ = false ∧ W.frozen? ⟨R, 3, none⟩ = false ∧ W.frozen? ⟨R, 4, none⟩ = false) :=
  ⟨⟨(h.cell (by omega : 0 < 5)).1, (h.cell (by omega : 1 < 5)).1, (h.cell (by omega : 2 < 5)).1, (h.cell (by omega : 3 < 5)).1, (h.cell (by omega : 4 < 5)).1⟩,
    ⟨(h.cell (by omega : 0 < 5)).2, (h.cell (by omega : 1 < 5)).2, (h.cell (by omega : 2 < 5)).2, (h.cell (by omega : 3 < 5)).2, (h.cell (by omega : 4 < 5)).2⟩⟩
theorem rcsC_cons (p : Rc) (u : List Rc) : rcsC (p :: u) = rcC p ++ rcsC u := by simp [rcsC]
theorem rcsC_set1 (l : List Rc) (i : Nat) (x : Int) (h : i < l.length) : (rcsC l).set (i * 5 + 1) (.int .i64 x) = rcsC (l.set i (l[i].1, x, l[i].2.2)) := by
  induction l generalizing i with
  | nil => simp at h
  | cons p t ih =>
    match i, h with
    | 0, _ => simp [rcsC_cons, rcC]
    | i + 1, h =>
      have h2 : i < t.length := by simpa using h
      have := ih i h2
      rw [List.set_cons_succ, rcsC_cons, rcsC_cons, show (i + 1) * 5 + 1 = i * 5 + 1 + 1 + 1 + 1 + 1 + 1 by omega]
      simp [rcC, this]
theorem rcsC_set4 (l : List Rc) (i : Nat) (x : Int) (h : i < l.length) : (rcsC l).set (i * 5 + 4) (.int .i64 x) = rcsC (l.set i (l[i].1, l[i].2.1, l[i].2.2.1, l[i].2.2.2.1, x)) := by
  induction l generalizing i with
  | nil => simp at h
  | cons p t ih =>
    match i, h with
    | 0, _ => simp [rcsC_cons, rcC]
    | i + 1, h =>
      have h2 : i < t.length := by simpa using h
      have := ih i h2
      rw [List.set_cons_succ, rcsC_cons, rcsC_cons, show (i + 1) * 5 + 4 = i * 5 + 4 + 1 + 1 + 1 + 1 + 1 by omega]
      simp [rcC, this]
theorem drawn_set1 {r M : Nat} {w W : World} {ad m c q : Nat} {l : List Rc} (h : RowD r M 31 5 w (some ⟨ad, 0, none⟩) m c (rcsC l) W) (hr : r < w.heap.size) (hq : q < l.length) (hm : m = l.length) (x : Int) :
    RowD r M 31 5 w (some ⟨ad, 0, none⟩) m c (rcsC (l.set q (l[q].1, x, l[q].2.2))) (W.setCell ⟨ad, q * 5 + 1, none⟩ (.int .i64 x)) := by
  obtain ⟨h1, h2⟩ := World.ownsRow.stored h.own (q * 5 + 1) (.int .i64 x)
  rw [rcsC_set1 l q x hq] at h1
  obtain ⟨A', c', e, hR⟩ := h.app hr h1 h2
  injection e with e1 e2 e3
  subst e1 e3
  exact hR
theorem drawn_set4 {r M : Nat} {w W : World} {ad m c q : Nat} {l : List Rc} (h : RowD r M 31 5 w (some ⟨ad, 0, none⟩) m c (rcsC l) W) (hr : r < w.heap.size) (hq : q < l.length) (hm : m = l.length) (x : Int) :
    RowD r M 31 5 w (some ⟨ad, 0, none⟩) m c (rcsC (l.set q (l[q].1, l[q].2.1, l[q].2.2.1, l[q].2.2.2.1, x))) (W.setCell ⟨ad, q * 5 + 4, none⟩ (.int .i64 x)) := by
  obtain ⟨h1, h2⟩ := World.ownsRow.stored h.own (q * 5 + 4) (.int .i64 x)
  rw [rcsC_set4 l q x hq] at h1
  obtain ⟨A', c', e, hR⟩ := h.app hr h1 h2
  injection e with e1 e2 e3
  subst e1 e3
  exact hR
theorem wf_set {l : List Rc} {q : Nat} {x : Rc} (h : WfRc l) (hx : GoodRc x) : WfRc (l.set q x) := fun p hp => by
  rcases List.mem_or_eq_of_mem_set hp with h1 | h1
  · exact h p h1
  · rw [h1]; exact hx
theorem drawn_cell {r M : Nat} {w W : World} {ad m c q j : Nat} {l : List Rc} (h : RowD r M 31 5 w (some ⟨ad, 0, none⟩) m c (rcsC l) W) (hm : m = l.length) (hq : q < m) (hj : j < 5) : (∃ u, W.cell? ⟨ad, q * 5 + j, none⟩ = some u) ∧ W.frozen? ⟨ad, q * 5 + j, none⟩ = false := by
  have c0 := World.ownsRow.cellAt h.own (q * 5 + j) (by omega)
  rw [List.getElem?_eq_getElem (by rw [h.own.1]; omega)] at c0
  exact ⟨⟨_, c0⟩, World.ownsRow.frozenAt h.own _⟩
theorem below_put (B R : Nat) (hR : B ≤ R) (W : World) (v0 v1 v2 v3 v4 : Value) : Below B W (((((W.setCell ⟨R, 0, none⟩ v0).setCell ⟨R, 1, none⟩ v1).setCell ⟨R, 2, none⟩ v2).setCell ⟨R, 3, none⟩ v3).setCell ⟨R, 4, none⟩ v4) :=
  (((((Below.refl B W).setCell (p := ⟨R, 0, none⟩) hR v0).setCell (p := ⟨R, 1, none⟩) hR v1).setCell (p := ⟨R, 2, none⟩) hR v2).setCell (p := ⟨R, 3, none⟩) hR v3).setCell (p := ⟨R, 4, none⟩) hR v4
theorem step_append_ownR {P : Program} {w : World} {ops : Array Oper} {o : Oper} {a : Act} {K : Act → World → Prop} {Q : Exit → Act → World → Prop} {E : Prop} (hgd : o.guard = none) (s x : Operand) (t : TypeId)
    (ho : o.op = .call { callee := .builtin .append, args := #[s, x], argTypes := #[t, t] })
    (base : Nat) (e : TypeId) (i : TypeInfo) (z : Value) (size bytes : Nat) (ht : P.underlying t = some (.slice e)) (hi : P.info? e = some i) (hz : i.zero = some z)
    (hsize : i.size = size) (hby : i.bytes = bytes) (hzs : z.cells.size = size) (hsz : 0 < size)
    (v : Value) (n : Nat) (xs : List Value) (hs : a.eval s = v) (hown : w.ownsRow base e size v n xs)
    (ad : Addr) (m c : Nat) (news : List Value) (hx : a.eval x = .slice (some ad) m c) (hl : news.length = m * size) (hnews : ∀ j u, news[j]? = some u → w.cell? (ad.add j) = some u) (h1 : ∀ u ∈ news, u.oneCell' = true)
    (h63 : n + m ≤ maxLen) (hbytes : (n + m) * bytes ≤ 140737488355328) (hbase : base ≤ w.heap.size)
    (h : ∀ v' w', w'.ownsRow base e size v' (n + m) (xs ++ news) → w.grownBy w' v.ownBlock → (v' = .slice none 0 0 ↔ v = .slice none 0 0 ∧ m = 0) → K (a.put o.dst v') w') :
    if Region.wanted o (yielded ops a.tmps) = true then Oper.wp P o a w K Q else E := by
  have hw : Region.wanted o (yielded ops a.tmps) = true := by simp [Region.wanted, hgd]
  rw [if_pos hw]
  exact wp_append_own w s x t ho base e i z size bytes ht hi hz hsize hby hzs hsz v n xs hs hown ad m c news hx hl hnews h1 h63 hbytes hbase h
theorem rcs_one (l : List Rc) : ∀ u ∈ rcsC l, u.oneCell' = true := by
  intro u hu
  unfold rcsC at hu
  obtain ⟨p, _, hp⟩ := List.mem_flatMap.1 hu
  simp [rcC] at hp
  rcases hp with rfl | rfl | rfl | rfl | rfl <;> rfl
theorem out_empty {T : TypeId} {z : Nat} {w W : World} (h : Below w.heap.size w W) : OutR T z w [] 0 (some ⟨W.heap.size, 0, none⟩) 0 (W.alloc (.cells #[] T)) :=
  ⟨⟨by simp, .inr ⟨W.heap.size, 0, #[], rfl, h.size, heap_alloc_new W _, by omega, by simp [maxLen], by simp, by simp⟩⟩, h.alloc h.size _⟩
theorem rf_news {W : World} {B R : Nat} {z0 z1 z2 z3 z4 : Int} (h : RowG W B 31 R 5 (rcF z0 z1 z2 z3 z4)) :
    ∀ j u, [Value.int .i64 z0, .int .i64 z1, .int .i64 z2, .int .i64 z3, .int .i64 z4][j]? = some u → W.cell? ((⟨R, 0, none⟩ : Addr).add j) = some u := by
  intro j u hj
  rw [add_zero_off, Nat.zero_add]
  match j, hj with
  | 0, hj => cases hj; exact (h.cell (by omega : 0 < 5)).1
  | 1, hj => cases hj; exact (h.cell (by omega : 1 < 5)).1
  | 2, hj => cases hj; exact (h.cell (by omega : 2 < 5)).1
  | 3, hj => cases hj; exact (h.cell (by omega : 3 < 5)).1
  | 4, hj => cases hj; exact (h.cell (by omega : 4 < 5)).1
  | n + 5, hj => simp at hj
theorem rcs_snoc (l : List Rc) (z0 z1 z2 z3 z4 : Int) : rcsC l ++ [.int .i64 z0, .int .i64 z1, .int .i64 z2, .int .i64 z3, .int .i64 z4] = rcsC (l ++ [(z0, z1, z2, z3, z4)]) := by simp [rcsC, rcC]
theorem wf_snocRc {l : List Rc} {x : Rc} (h : WfRc l) (hx : GoodRc x) : WfRc (l ++ [x]) := fun p hp => by
  rcases List.mem_append.1 hp with h1 | h1
  · exact h p h1
  · rw [List.mem_singleton.1 h1]; exact hx
theorem out_some {T : TypeId} {z : Nat} {w W : World} {cs : List Value} {m c : Nat} {A : Option Addr} (h : OutR T z w cs m A c W) (hm : 0 < m) : ∃ g, A = some ⟨g, 0, none⟩ ∧ m ≤ c := by
  rcases h.1.2 with ⟨hv, hn⟩ | ⟨g, cap, cur, hv, _, _, h1, h2, _⟩
  · omega
  · injection hv with h3 _ h4
    subst h3 h4
    exact ⟨g, rfl, h1⟩
theorem goodRc_mk {a b c d e : Int} (ha : GoodIn a) (hb : GoodIn b) (hc : GoodIn c) (hd : GoodIn d) (he : GoodIn e) : GoodRc (a, b, c, d, e) := ⟨ha, hb, hc, hd, he⟩
theorem RowD.underR {r M : Nat} {e : TypeId} {z : Nat} {w W W' : World} {A : Option Addr} {n c : Nat} {cs : List Value} {B : Nat} (h : RowD r M e z w A n c cs W) (hb : Below B W W') (hq : ∀ q, (Value.slice A n c).ownBlock = some q → q < B) (hr : r < B) (hw : w.heap.size ≤ B) : RowD r M e z w A n c cs W' := by
  refine ⟨⟨h.own.1, ?_⟩, h.rd.below hb hr, ⟨hb.os.trans h.gr.os, hb.tape.trans h.gr.tape, hb.output.trans h.gr.output, Nat.le_trans h.gr.size hb.size, fun k hk hn => (hb.block k (by omega)).trans (h.gr.block k hk hn)⟩⟩
  rcases h.own.2 with h1 | ⟨g, cap, cur, hv, hg, hh, s⟩
  · exact .inl h1
  · exact .inr ⟨g, cap, cur, hv, hg, (hb.block g (hq g (by rw [hv]; rfl))).trans hh, s⟩

set_option maxRecDepth 100000 in
set_option maxHeartbeats 8000000 in
theorem someRecs_any (r N : Nat) (w : World) (h : Rdr 53 w r N) (hN : N ≤ 800000) :
    Calls Try.prog 20 #[.pointer (some ⟨r, 0, none⟩)] w (RecsDrawn r (N + 200) w) := by
  have hrl := h.lt
  have HS := Lib.hid (RowD.start h 31 5)
  clear h
  have ho1 := fun cs m c t hm hm0 hm1 hs => oneNew_any 0 14 r N m c cs t _ HS.out.rd (by omega) hm hm0 hm1 hs
  simp only [World.size_alloc] at ho1
  have HO1 := Lib.hid ho1; clear ho1
  go_enter Try.func20, Try.ntmps20
  go_wp2_with fail
  refine (HO1.out _ _ _ _ (by rfl) (by omega) (by omega) (by rfl)).mono ?_
  rintro e w1 ⟨nn, rfl, hn1, hn2, hr1, hg1⟩
  have HS1 := Lib.hid (HS.out.grow hrl hg1 hr1); clear hr1 hg1
  obtain ⟨n, rfl⟩ := Int.eq_ofNat_of_zero_le hn1
  go_wp2_with fail
  go_loopw [3, 4] (fun q i wr => ∃ (l : List Rc) (ad : Nat) (m c k : Nat) (h : HP), q = .slice (some ⟨ad, 0, none⟩) m c ∧ m = l.length ∧ i = .int .i64 k ∧ m + k ≤ 14 ∧ m ≤ c ∧ WfRc l ∧ histP l m = some h ∧ RowD r (N + 1 + 8 * (14 - k)) 31 5 w (some ⟨ad, 0, none⟩) m c (rcsC l) wr) (fun _ i _ => (intOf i).toNat)
  case atStart => exact ⟨[], _, 0, _, n, h0, rfl, rfl, rfl, by omega, by omega, (fun p hp => by cases hp), rfl, HS1.out.more (by omega)⟩
  case round =>
    obtain ⟨l, ad, m, c, k, h, rfl, hm, rfl, hmk, hmc, hwf, hh, hrel⟩ := hrel
    have HM := Lib.hid hm; clear hm
    have HWF := Lib.hid hwf; clear hwf
    have HH := Lib.hid hh; clear hh
    have HR := Lib.hid hrel; clear hrel
    cases k with
    | succ k =>
      have hpos : (0 : Int) < ((k + 1 : Nat) : Int) := by omega
      have hm18 : (m : Int) < 18 := by omega
      have HP1 := Lib.hid (pick_any r _ 4 wr HR.out.rd (by omega) (by omega))
      go_wp2_with fail
      refine (HP1.out).mono ?_
      rintro e w2 ⟨x1, rfl, hx10, hx1n, hr2, hg2⟩
      have HR2 := Lib.hid (HR.out.grow hrl hg2 hr2); clear hr2 hg2
      obtain ⟨t, ht⟩ : ∃ t : Nat, 1 + x1 = (t : Int) := ⟨(1 + x1).toNat, by omega⟩
      have hwr : IntKind.i64.wrap (1 + x1) = (t : Int) := by rw [ht]; exact IntWalk.i64_in _ (by omega)
      have ht1 : 1 ≤ t := by omega
      have ht4 : t ≤ 4 := by omega
      have HP2 := Lib.hid (pick_any r _ 3 w2 HR2.out.rd (by omega) (by omega))
      go_wp2_with fail
      refine (HP2.out).mono ?_
      rintro e w3 ⟨x2, rfl, hx20, hx2n, hr3, hg3⟩
      have HR3 := Lib.hid (HR2.out.grow hrl hg3 hr3); clear hr3 hg3
      obtain ⟨p, rfl⟩ := Int.eq_ofNat_of_zero_le hx20
      have hp3 : p < 3 := by omega
      have hp3i : (p : Int) < 3 := by omega
      have HP3 := Lib.hid (pick_any r _ 10 w3 HR3.out.rd (by omega) (by omega))
      go_wp2_with fail
      refine (HP3.out).mono ?_
      rintro e w4 ⟨x4, rfl, hx40, hx4n, hr4, hg4⟩
      have HR4 := Lib.hid (HR3.out.grow hrl hg4 hr4); clear hr4 hg4 ht hx10 hx1n hx20 hx2n
      clear HP1 HP2 HP3 HR2 HR3
      have HRA := Lib.hid (HR4.out.alloc (.cells #[.int .i64 1, .int .i64 (t : Int), .int .i64 (p : Int), .int .i64 0, .int .i64 x4] 31))
      have hRw : w.heap.size ≤ w4.heap.size := HR4.out.gr.size
      have hrR : r < w4.heap.size := HR4.out.rd.lt
      have hadR : ad < w4.heap.size := (HR4.out.own.lt ad rfl).2
      have HPL := Lib.hid (hist_pl l m h HH.out).1
      have HRUN := Lib.hid (fun W (hb : Below (w4.heap.size + 1) (w4.alloc (.cells #[.int .i64 1, .int .i64 (t : Int), .int .i64 (p : Int), .int .i64 0, .int .i64 x4] 31)) W) => sRunW_any (some ⟨ad, 0, none⟩) m c l W ((HRA.out.row.below (by simpa using hb)).mono hb.size) (by rw [HM.out]; exact Nat.le_refl _) (by omega) HPL.out)
      have HF0 := Lib.hid (rf_start (B := w.heap.size) w4 1 (t : Int) (p : Int) 0 x4 hRw)
      obtain ⟨bv, hbv⟩ : ∃ y, (runW l m).getD p 0 = y := ⟨_, rfl⟩
      have HBV := Lib.hid (show GoodIn bv by rw [← hbv]; exact runW_goodAt HWF.out m p)
      have HBE := Lib.hid hbv; clear hbv
      go_upto_region 7 with fail
      go_cut [7] from 15 to 78 (fun s7 wx => ∃ bv : Int, GoodIn bv ∧ RowG wx w.heap.size 31 w4.heap.size 5 (rcF 1 (t : Int) (p : Int) bv x4) ∧ Below w4.heap.size w4 wx)
      case first =>
        go_region_with (go_at_call 24; refine (HRUN.out _ (by repeat (first | with_reducible exact Below.refl _ _ | with_reducible refine Below.drew ?_ | with_reducible refine Below.trans ?_ (below_drewN _ _)))).mono ?_; rintro e w5 ⟨v5, rfl, ho5, hb5⟩; obtain ⟨g5, c5, rfl, hrow5⟩ := ints_rowC (w := w4) (runW_len l m) ho5; have x5 := (hrow5.cell hp3).1; rw [HBE.out] at x5; have HF5 := Lib.hid (HF0.out.keep ((Below.drew (Below.refl _ _)).trans hb5)); have HB5 := Lib.hid ((show Below w4.heap.size w4 _ from Below.drew ((Below.refl _ _).alloc (Nat.le_refl _) (.cells #[.int .i64 1, .int .i64 (t : Int), .int .i64 (p : Int), .int .i64 0, .int .i64 x4] 31))).trans (hb5.mono (by simp))); obtain ⟨⟨_, _, y2, y3, _⟩, ⟨_, _, _, y4, _⟩⟩ := rf_cells HF5.out)
        all_goals
          go_wp2_with fail
          go_meet
          refine ⟨bv, HBV.out, (HF5.out.set 3 _).congr (fun q hq => ?_), HB5.out.setCell (Nat.le_refl _) _⟩
          match q, hq with
          | 0, _ => rfl
          | 1, _ => rfl
          | 2, _ => rfl
          | 3, _ => rfl
          | 4, _ => rfl
      case rest =>
        clear HRUN HF0 HBV HBE HRA
        obtain ⟨bv, hbv, hf, hb⟩ := hcut
        have HBV := Lib.hid hbv; clear hbv
        have HR6 := Lib.hid (HR4.out.keep hb)
        have HF6 := Lib.hid hf; clear hf
        have hs6 : w4.heap.size ≤ wc.heap.size := hb.size
        clear hb
        have HP4 := Lib.hid (pick_any r _ 8 wc HR6.out.rd (by omega) (by omega))
        go_wp2_with fail
        refine (HP4.out).mono ?_
        rintro e w7 ⟨x8, rfl, hx80, hx8n, hr7, hg7⟩
        have HR7 := Lib.hid (HR6.out.grow hrl hg7 hr7)
        have HF7 := Lib.hid (HF6.out.grow hg7 (fun e => by injection e with e; omega))
        have hs7 : w4.heap.size < w7.heap.size := HF7.out.lt.2
        clear hr7 hg7 HP4 HR6 HF6 hs6
        obtain ⟨⟨y0, y1, y2, y3, y4⟩, ⟨f0, f1, f2, f3, f4⟩⟩ := rf_cells HF7.out
        have HUA := Lib.hid (undoAt_any (some ⟨ad, 0, none⟩) m c l t w7 HR7.out.row (by rw [HM.out]; exact Nat.le_refl _) (by omega))
        rw [ua_last (hist_inv l m h HH.out) t] at HUA
        have HLM := Lib.hid (last_mem (hist_inv l m h HH.out) t)
        have hx4g : GoodIn x4 := by unfold GoodIn; omega
        have htg : GoodIn (t : Int) := ⟨by omega, by omega⟩
        have hpg : GoodIn (p : Int) := ⟨by omega, by omega⟩
        have hz0g : GoodIn 0 := ⟨by omega, by omega⟩
        have HG3 := Lib.hid (goodRc_mk (a := 3) ⟨by omega, by omega⟩ htg hz0g hz0g hz0g)
        have HG4 := Lib.hid (goodRc_mk (a := 4) ⟨by omega, by omega⟩ htg hz0g hz0g hz0g)
        have HG1 := Lib.hid (goodRc_mk (a := 1) ⟨by omega, by omega⟩ htg hpg HBV.out hx4g)
        have HG2 := Lib.hid (fun (a b : Int) (ha : GoodIn a) (hb : GoodIn b) (q : Int) (hq : GoodIn q) => goodRc_mk (a := 2) ⟨by omega, by omega⟩ htg hq ha hb)
        clear htg hpg hz0g hx4g
        have HPT := Lib.hid (fun (v0 v1 v2 v3 v4 : Int) => And.intro (rf_put (y0 := v0) (y1 := v1) (y2 := v2) (y3 := v3) (y4 := v4) HF7.out) (below_put w4.heap.size w4.heap.size (Nat.le_refl _) w7 (.int .i64 v0) (.int .i64 v1) (.int .i64 v2) (.int .i64 v3) (.int .i64 v4)))
        go_upto_block 2 with fail
        go_cut [7, 8] from 15 to 78 (fun s7 s8 wx => ∃ z0 z1 z2 z3 z4 : Int, GoodRc (z0, z1, z2, z3, z4) ∧ RowG wx w.heap.size 31 w4.heap.size 5 (rcF z0 z1 z2 z3 z4) ∧ Below w4.heap.size w7 wx)
        case first =>
          by_cases h8 : x8 = 0 ∨ x8 = 1
          · rcases h8 with rfl | rfl
            all_goals
              go_wp2_with fail
              go_meet
              exact ⟨3, (t : Int), 0, 0, 0, HG3.out, (HPT.out 3 (t : Int) 0 0 0).1, (HPT.out 3 (t : Int) 0 0 0).2⟩
          · have q0 : (x8 == 0) = false := by simp; omega
            have q1 : (x8 == 1) = false := by simp; omega
            by_cases h3 : x8 = 3
            · subst h3
              go_wp2_with fail
              go_meet
              exact ⟨4, (t : Int), 0, 0, 0, HG4.out, (HPT.out 4 (t : Int) 0 0 0).1, (HPT.out 4 (t : Int) 0 0 0).2⟩
            · have q3 : (x8 == 3) = false := by simp; omega
              by_cases h2 : x8 = 2
              · subst h2
                rcases HLM.out with ⟨hv, _⟩ | ⟨i, hv, _, him⟩
                · rw [hv] at HUA
                  go_wp2_with fail
                  refine (HUA.out).mono ?_
                  rintro e w8 ⟨rfl, hw8⟩
                  obtain rfl := hw8.symm
                  go_wp2_with fail
                  go_meet
                  exact ⟨1, (t : Int), (p : Int), bv, x4, HG1.out, HF7.out, Below.refl _ _⟩
                · rw [hv] at HUA
                  obtain ⟨hik, _, _, hi0, hi2, _⟩ := (hist_inv l m h HH.out).stk t i him
                  obtain ⟨b9, off9, hA9, _, e0, e1, e2, e3, e4⟩ := rc_cells_at HR7.out.row (show i < l.length by have := HM.out; omega)
                  obtain ⟨rfl, rfl⟩ : ad = b9 ∧ 0 = off9 := by simpa using hA9
                  clear hA9
                  have hbg : GoodIn (bf l i) ∧ GoodIn (af l i) := by
                    have hil : i < l.length := by have := HM.out; omega
                    have hg9 := HWF.out l[i] (List.getElem_mem hil)
                    unfold bf af
                    rw [rc_get hil]
                    exact ⟨hg9.2.2.2.1, hg9.2.2.2.2⟩
                  have him2 : (i : Int) < (m : Int) := by omega
                  have hii0 : (0 : Int) ≤ (i : Int) := by omega
                  simp only [Nat.zero_add] at e0 e1 e2 e3 e4
                  go_wp2_with fail
                  refine (HUA.out).mono ?_
                  rintro e w8 ⟨rfl, hw8⟩
                  obtain rfl := hw8.symm
                  have hpg9 : GoodIn (pl l i) := ⟨by omega, by omega⟩
                  go_wp2_with fail
                  go_meet
                  exact ⟨2, (t : Int), pl l i, af l i, bf l i, HG2.out _ _ hbg.2 hbg.1 _ hpg9, (HPT.out 2 (t : Int) (pl l i) (af l i) (bf l i)).1.keep ((Below.refl _ _).alloc (Nat.le_refl _) _), (HPT.out 2 (t : Int) (pl l i) (af l i) (bf l i)).2.alloc (by simp; omega) _⟩
              · have q2 : (x8 == 2) = false := by simpa using h2
                go_wp2_with fail
                go_meet
                exact ⟨1, (t : Int), (p : Int), bv, x4, HG1.out, HF7.out, Below.refl _ _⟩
        case rest =>
          clear HG1 HG2 HG3 HG4 HPT HUA HLM f0 f1 f2 f3 f4 y0 y1 y2 y3 y4
          obtain ⟨z0, z1, z2, z3, z4, hg, hf, hb⟩ := hcut
          have HGZ := Lib.hid hg; clear hg
          have HR8 := Lib.hid (HR7.out.underR hb (fun q9 e9 => by have : ad = q9 := by simpa [Value.ownBlock] using e9
                                                                  omega) hrR hRw)
          have HF8 := Lib.hid hf; clear hf hb
          clear HF7 HR7 hs7
          have HC := Lib.hid (fun W (hbW : Below wc.heap.size wc W) => (rf_cells (HF8.out.keep hbW)).1)
          have HNEWS := Lib.hid (fun W (hbW : Below wc.heap.size wc W) => (show ∀ j u, (rcsC l)[j]? = some u → W.cell? ((⟨ad, 0, none⟩ : Addr).add j) = some u from by
            intro j u hj
            obtain ⟨b, off, e, _, hc⟩ := (HR8.out.row.below hbW) (by intro h0; rw [h0] at hj; simp at hj)
            cases e
            rw [add_zero_off]; exact hc j u hj))
          obtain ⟨i0, hi0, hz0, hz1, hz2⟩ := info_parts rcInfo
          have HI := Lib.hid (And.intro hi0 (And.intro hz0 (And.intro hz1 hz2))); clear hi0 hz0 hz1 hz2
          have HML := Lib.hid (show (rcsC l).length = m * 5 by rw [rcsC_len, ← HM.out])
          have HBW := Lib.hid (Below.drew (Below.refl wc.heap.size wc))
          obtain ⟨s0, s1, s2, s3, s4⟩ := HC.out _ HBW.out
          go_wp2_with fail
          refine wp_region_any (by kernel_rfl) ?_
          try (change wpAny _ _ _ _ _ _ _ (World.drew _))
          generalize wc.drew = W0 at *
          refine wpAny_take (i := 1) (v := ?_) rfl (by kernel_rfl) (by kernel_rfl) (by kernel_rfl) (fun _ _ _ h => h) (Or.inl ⟨by kernel_rfl, ?_⟩) ?_
          rotate_left
          · (intro w; go_simp; first | done | with_reducible rfl)
          conv => arg 7; simp [Act.put]
          refine wpAny_ready (rs := [0, 3]) (by kernel_rfl) (by simp) ?_
          refine AllReady.cons rfl (fun K hK => ?_) (AllReady.cons rfl (fun K hK => ?_) AllReady.nil)
          · go_simp
            refine hK _ _ ?_; clear hK K
            have HOA := Lib.hid (out_empty (T := 31) (z := 5) HBW.out)
            replace HBW := Lib.hid (HBW.out.alloc HBW.out.size (.cells #[] 31))
            clear s0 s1 s2 s3 s4
            obtain ⟨s0, s1, s2, s3, s4⟩ := HC.out _ HBW.out
            generalize W0.alloc (.cells #[] 31) = W1 at *
            refine wpAny_ready (rs := [2, 3]) (by kernel_rfl) (by simp) ?_
            refine AllReady.cons rfl (fun K hK => ?_) (AllReady.cons rfl (fun K hK => ?_) AllReady.nil)
            · refine step_append_ownR (by rfl) _ _ 23 (by rfl) wc.heap.size 31 i0 (.agg #[.int .i64 0, .int .i64 0, .int .i64 0, .int .i64 0, .int .i64 0]) 5 40 Try.underlying23 HI.out.1 HI.out.2.1 HI.out.2.2.1 HI.out.2.2.2 rfl (by decide) (.slice (some ⟨W0.heap.size, 0, none⟩) 0 0) 0 [] (by rfl) HOA.out.1 ⟨ad, 0, none⟩ m c (rcsC l) (by rfl) HML.out (HNEWS.out _ HBW.out) (rcs_one l) (by unfold maxLen; omega) (by omega) HBW.out.size ?_
              intro v2 W2 hown2 hgr2 _
              rw [List.nil_append, Nat.zero_add] at hown2
              obtain ⟨A2, c2, rfl, ho2⟩ := HOA.out.app hown2 hgr2
              replace HOA := Lib.hid ho2
              replace HBW := Lib.hid ho2.2
              clear s0 s1 s2 s3 s4
              obtain ⟨s0, s1, s2, s3, s4⟩ := HC.out _ HBW.out
              clear hown2 hgr2 ho2
              refine hK _ _ ?_; clear hK K
              conv => arg 7; simp [Act.put]
              try simp only [Nat.zero_add]
              refine wpAny_ready (rs := [3]) (by kernel_rfl) (by simp) ?_
              refine AllReady.cons rfl (fun K hK => ?_) AllReady.nil
              go_simp
              refine hK _ _ ?_; clear hK K
              refine wpAny_ready (rs := [4]) (by kernel_rfl) (by simp) ?_
              refine AllReady.cons rfl (fun K hK => ?_) AllReady.nil
              go_simp
              refine hK _ _ ?_; clear hK K
              have HGB := Lib.hid (rf_start (B := wc.heap.size) W2 z0 z1 z2 z3 z4 HBW.out.size)
              replace HOA := Lib.hid (HOA.out.keep ((Below.refl _ _).alloc (Nat.le_refl _) (.cells #[.int .i64 z0, .int .i64 z1, .int .i64 z2, .int .i64 z3, .int .i64 z4] 31)))
              replace HBW := Lib.hid (HBW.out.alloc HBW.out.size (.cells #[.int .i64 z0, .int .i64 z1, .int .i64 z2, .int .i64 z3, .int .i64 z4] 31))
              generalize W2.alloc (.cells #[.int .i64 z0, .int .i64 z1, .int .i64 z2, .int .i64 z3, .int .i64 z4] 31) = W3 at *
              refine wpAny_ready (rs := [5]) (by kernel_rfl) (by simp) ?_
              refine AllReady.cons rfl (fun K hK => ?_) AllReady.nil
              refine step_append_ownR (by rfl) _ _ 23 (by rfl) wc.heap.size 31 i0 (.agg #[.int .i64 0, .int .i64 0, .int .i64 0, .int .i64 0, .int .i64 0]) 5 40 Try.underlying23 HI.out.1 HI.out.2.1 HI.out.2.2.1 HI.out.2.2.2 rfl (by decide) (.slice A2 m c2) m (rcsC l) (by rfl) HOA.out.1 ⟨W2.heap.size, 0, none⟩ 1 1 [.int .i64 z0, .int .i64 z1, .int .i64 z2, .int .i64 z3, .int .i64 z4] (by rfl) (by rfl) (rf_news HGB.out) (by intro u hu; simp at hu; rcases hu with rfl | rfl | rfl | rfl | rfl <;> rfl) (by unfold maxLen; omega) (by omega) HBW.out.size ?_
              intro v3 w9 hown3 hgr3 _
              obtain ⟨A3, c3, rfl, ho3⟩ := HOA.out.app hown3 hgr3
              have HO3 := Lib.hid ho3; clear ho3 hown3 hgr3
              refine hK _ _ ?_; clear hK K
              conv => arg 7; simp [Act.put]
              refine wpAny_take (i := 6) (v := ?_) rfl (by kernel_rfl) (by kernel_rfl) (by kernel_rfl) (fun _ _ _ h => h) (Or.inl ⟨by kernel_rfl, ?_⟩) ?_
              rotate_left
              · (intro w; go_simp; first | done | with_reducible rfl)
              conv => arg 7; simp [Act.put]
              refine wpAny_done (by kernel_rfl) ?_ _
              have HM3 := Lib.hid (show m + 1 = (l ++ [(z0, z1, z2, z3, z4)]).length by rw [List.length_append, ← HM.out]; rfl)
              obtain ⟨g3, rfl, hc3⟩ := out_some HO3.out (by omega)
              rw [rcs_snoc] at HO3
              have HWF3 := Lib.hid (wf_snocRc HWF.out HGZ.out)
              have HSV := Lib.hid (sValid_any (some ⟨g3, 0, none⟩) (m + 1) c3 (l ++ [(z0, z1, z2, z3, z4)]) _ (RowAt.of_own HO3.out.1) HM3.out (by omega) hc3)
              generalize l ++ [(z0, z1, z2, z3, z4)] = l3 at *
              try clear HOA
              try clear HGB
              try clear HBW
              try clear HC
              try clear HNEWS
              go_wp2_with fail
              refine (HSV.out).mono ?_
              rintro e w10 ⟨rfl, hb10⟩
              have HO4 := Lib.hid (HO3.out.keep hb10)
              clear hb10 HSV
              cases hv : validP l3
              · clear hv
                go_wp2_with fail
                go_roundw
                case rel => exact ⟨l, ad, m, c, k, h, rfl, HM.out, by first | rfl | go_num, by omega, hmc, HWF.out, HH.out, (HR8.out.keep HO4.out.2).more (by omega)⟩
                case measure => simp [intOf] <;> omega
              · obtain ⟨h', hh'⟩ := valid_hist hv
                have HH3 := Lib.hid hh'
                clear hv hh'
                go_wp2_with fail
                go_roundw
                case rel => exact ⟨l3, g3, m + 1, c3, k, h', rfl, HM3.out, by first | rfl | go_num, by omega, hc3, HWF3.out, by rw [HM3.out]; exact HH3.out, (HR8.out.new HO4.out.2 HO4.out.1).more (by omega)⟩
                case measure => simp [intOf] <;> omega
            · go_simp
              refine hK _ _ ?_; clear hK K
              refine wpAny_ready (rs := [2, 4]) (by kernel_rfl) (by simp) ?_
              refine AllReady.cons rfl (fun K hK => ?_) (AllReady.cons rfl (fun K hK => ?_) AllReady.nil)
              · refine step_append_ownR (by rfl) _ _ 23 (by rfl) wc.heap.size 31 i0 (.agg #[.int .i64 0, .int .i64 0, .int .i64 0, .int .i64 0, .int .i64 0]) 5 40 Try.underlying23 HI.out.1 HI.out.2.1 HI.out.2.2.1 HI.out.2.2.2 rfl (by decide) (.slice (some ⟨W0.heap.size, 0, none⟩) 0 0) 0 [] (by rfl) HOA.out.1 ⟨ad, 0, none⟩ m c (rcsC l) (by rfl) HML.out (HNEWS.out _ HBW.out) (rcs_one l) (by unfold maxLen; omega) (by omega) HBW.out.size ?_
                intro v2 W2 hown2 hgr2 _
                rw [List.nil_append, Nat.zero_add] at hown2
                obtain ⟨A2, c2, rfl, ho2⟩ := HOA.out.app hown2 hgr2
                replace HOA := Lib.hid ho2
                replace HBW := Lib.hid ho2.2
                clear hown2 hgr2 ho2
                refine hK _ _ ?_; clear hK K
                conv => arg 7; simp [Act.put]
                try simp only [Nat.zero_add]
                refine wpAny_ready (rs := [4]) (by kernel_rfl) (by simp) ?_
                refine AllReady.cons rfl (fun K hK => ?_) AllReady.nil
                go_simp
                refine hK _ _ ?_; clear hK K
                have HGB := Lib.hid (rf_start (B := wc.heap.size) W2 z0 z1 z2 z3 z4 HBW.out.size)
                replace HOA := Lib.hid (HOA.out.keep ((Below.refl _ _).alloc (Nat.le_refl _) (.cells #[.int .i64 z0, .int .i64 z1, .int .i64 z2, .int .i64 z3, .int .i64 z4] 31)))
                replace HBW := Lib.hid (HBW.out.alloc HBW.out.size (.cells #[.int .i64 z0, .int .i64 z1, .int .i64 z2, .int .i64 z3, .int .i64 z4] 31))
                generalize W2.alloc (.cells #[.int .i64 z0, .int .i64 z1, .int .i64 z2, .int .i64 z3, .int .i64 z4] 31) = W3 at *
                refine wpAny_ready (rs := [5]) (by kernel_rfl) (by simp) ?_
                refine AllReady.cons rfl (fun K hK => ?_) AllReady.nil
                refine step_append_ownR (by rfl) _ _ 23 (by rfl) wc.heap.size 31 i0 (.agg #[.int .i64 0, .int .i64 0, .int .i64 0, .int .i64 0, .int .i64 0]) 5 40 Try.underlying23 HI.out.1 HI.out.2.1 HI.out.2.2.1 HI.out.2.2.2 rfl (by decide) (.slice A2 m c2) m (rcsC l) (by rfl) HOA.out.1 ⟨W2.heap.size, 0, none⟩ 1 1 [.int .i64 z0, .int .i64 z1, .int .i64 z2, .int .i64 z3, .int .i64 z4] (by rfl) (by rfl) (rf_news HGB.out) (by intro u hu; simp at hu; rcases hu with rfl | rfl | rfl | rfl | rfl <;> rfl) (by unfold maxLen; omega) (by omega) HBW.out.size ?_
                intro v3 w9 hown3 hgr3 _
                obtain ⟨A3, c3, rfl, ho3⟩ := HOA.out.app hown3 hgr3
                have HO3 := Lib.hid ho3; clear ho3 hown3 hgr3
                refine hK _ _ ?_; clear hK K
                conv => arg 7; simp [Act.put]
                refine wpAny_take (i := 6) (v := ?_) rfl (by kernel_rfl) (by kernel_rfl) (by kernel_rfl) (fun _ _ _ h => h) (Or.inl ⟨by kernel_rfl, ?_⟩) ?_
                rotate_left
                · (intro w; go_simp; first | done | with_reducible rfl)
                conv => arg 7; simp [Act.put]
                refine wpAny_done (by kernel_rfl) ?_ _
                have HM3 := Lib.hid (show m + 1 = (l ++ [(z0, z1, z2, z3, z4)]).length by rw [List.length_append, ← HM.out]; rfl)
                obtain ⟨g3, rfl, hc3⟩ := out_some HO3.out (by omega)
                rw [rcs_snoc] at HO3
                have HWF3 := Lib.hid (wf_snocRc HWF.out HGZ.out)
                have HSV := Lib.hid (sValid_any (some ⟨g3, 0, none⟩) (m + 1) c3 (l ++ [(z0, z1, z2, z3, z4)]) _ (RowAt.of_own HO3.out.1) HM3.out (by omega) hc3)
                generalize l ++ [(z0, z1, z2, z3, z4)] = l3 at *
                try clear HOA
                try clear HGB
                try clear HBW
                try clear HC
                try clear HNEWS
                go_wp2_with fail
                refine (HSV.out).mono ?_
                rintro e w10 ⟨rfl, hb10⟩
                have HO4 := Lib.hid (HO3.out.keep hb10)
                clear hb10 HSV
                cases hv : validP l3
                · clear hv
                  go_wp2_with fail
                  go_roundw
                  case rel => exact ⟨l, ad, m, c, k, h, rfl, HM.out, by first | rfl | go_num, by omega, hmc, HWF.out, HH.out, (HR8.out.keep HO4.out.2).more (by omega)⟩
                  case measure => simp [intOf] <;> omega
                · obtain ⟨h', hh'⟩ := valid_hist hv
                  have HH3 := Lib.hid hh'
                  clear hv hh'
                  go_wp2_with fail
                  go_roundw
                  case rel => exact ⟨l3, g3, m + 1, c3, k, h', rfl, HM3.out, by first | rfl | go_num, by omega, hc3, HWF3.out, by rw [HM3.out]; exact HH3.out, (HR8.out.new HO4.out.2 HO4.out.1).more (by omega)⟩
                  case measure => simp [intOf] <;> omega
              · go_simp
                refine hK _ _ ?_; clear hK K
                have hne : W1.heap.size ≠ W0.heap.size := by have h9 : W0.heap.size < W1.heap.size := (World.ownsRow.lt HOA.out.1 _ rfl).2; omega
                have HGB := Lib.hid (rf_start (B := wc.heap.size) W1 z0 z1 z2 z3 z4 HBW.out.size)
                replace HOA := Lib.hid (HOA.out.keep ((Below.refl _ _).alloc (Nat.le_refl _) (.cells #[.int .i64 z0, .int .i64 z1, .int .i64 z2, .int .i64 z3, .int .i64 z4] 31)))
                replace HBW := Lib.hid (HBW.out.alloc HBW.out.size (.cells #[.int .i64 z0, .int .i64 z1, .int .i64 z2, .int .i64 z3, .int .i64 z4] 31))
                generalize W1.alloc (.cells #[.int .i64 z0, .int .i64 z1, .int .i64 z2, .int .i64 z3, .int .i64 z4] 31) = W2 at *
                refine wpAny_ready (rs := [2]) (by kernel_rfl) (by simp) ?_
                refine AllReady.cons rfl (fun K hK => ?_) AllReady.nil
                refine step_append_ownR (by rfl) _ _ 23 (by rfl) wc.heap.size 31 i0 (.agg #[.int .i64 0, .int .i64 0, .int .i64 0, .int .i64 0, .int .i64 0]) 5 40 Try.underlying23 HI.out.1 HI.out.2.1 HI.out.2.2.1 HI.out.2.2.2 rfl (by decide) (.slice (some ⟨W0.heap.size, 0, none⟩) 0 0) 0 [] (by rfl) HOA.out.1 ⟨ad, 0, none⟩ m c (rcsC l) (by rfl) HML.out (HNEWS.out _ HBW.out) (rcs_one l) (by unfold maxLen; omega) (by omega) HBW.out.size ?_
                intro v2 W3 hown2 hgr2 _
                rw [List.nil_append, Nat.zero_add] at hown2
                obtain ⟨A2, c2, rfl, ho2⟩ := HOA.out.app hown2 hgr2
                replace HOA := Lib.hid ho2
                replace HBW := Lib.hid ho2.2
                replace HGB := Lib.hid (HGB.out.grow hgr2 (fun e => by injection e with e; exact hne e))
                clear hown2 hgr2 ho2
                refine hK _ _ ?_; clear hK K
                conv => arg 7; simp [Act.put]
                try simp only [Nat.zero_add]
                refine wpAny_ready (rs := [5]) (by kernel_rfl) (by simp) ?_
                refine AllReady.cons rfl (fun K hK => ?_) AllReady.nil
                refine step_append_ownR (by rfl) _ _ 23 (by rfl) wc.heap.size 31 i0 (.agg #[.int .i64 0, .int .i64 0, .int .i64 0, .int .i64 0, .int .i64 0]) 5 40 Try.underlying23 HI.out.1 HI.out.2.1 HI.out.2.2.1 HI.out.2.2.2 rfl (by decide) (.slice A2 m c2) m (rcsC l) (by rfl) HOA.out.1 ⟨W1.heap.size, 0, none⟩ 1 1 [.int .i64 z0, .int .i64 z1, .int .i64 z2, .int .i64 z3, .int .i64 z4] (by rfl) (by rfl) (rf_news HGB.out) (by intro u hu; simp at hu; rcases hu with rfl | rfl | rfl | rfl | rfl <;> rfl) (by unfold maxLen; omega) (by omega) HBW.out.size ?_
                intro v3 w9 hown3 hgr3 _
                obtain ⟨A3, c3, rfl, ho3⟩ := HOA.out.app hown3 hgr3
                have HO3 := Lib.hid ho3; clear ho3 hown3 hgr3
                refine hK _ _ ?_; clear hK K
                conv => arg 7; simp [Act.put]
                refine wpAny_take (i := 6) (v := ?_) rfl (by kernel_rfl) (by kernel_rfl) (by kernel_rfl) (fun _ _ _ h => h) (Or.inl ⟨by kernel_rfl, ?_⟩) ?_
                rotate_left
                · (intro w; go_simp; first | done | with_reducible rfl)
                conv => arg 7; simp [Act.put]
                refine wpAny_done (by kernel_rfl) ?_ _
                have HM3 := Lib.hid (show m + 1 = (l ++ [(z0, z1, z2, z3, z4)]).length by rw [List.length_append, ← HM.out]; rfl)
                obtain ⟨g3, rfl, hc3⟩ := out_some HO3.out (by omega)
                rw [rcs_snoc] at HO3
                have HWF3 := Lib.hid (wf_snocRc HWF.out HGZ.out)
                have HSV := Lib.hid (sValid_any (some ⟨g3, 0, none⟩) (m + 1) c3 (l ++ [(z0, z1, z2, z3, z4)]) _ (RowAt.of_own HO3.out.1) HM3.out (by omega) hc3)
                generalize l ++ [(z0, z1, z2, z3, z4)] = l3 at *
                try clear HOA
                try clear HGB
                try clear HBW
                try clear HC
                try clear HNEWS
                go_wp2_with fail
                refine (HSV.out).mono ?_
                rintro e w10 ⟨rfl, hb10⟩
                have HO4 := Lib.hid (HO3.out.keep hb10)
                clear hb10 HSV
                cases hv : validP l3
                · clear hv
                  go_wp2_with fail
                  go_roundw
                  case rel => exact ⟨l, ad, m, c, k, h, rfl, HM.out, by first | rfl | go_num, by omega, hmc, HWF.out, HH.out, (HR8.out.keep HO4.out.2).more (by omega)⟩
                  case measure => simp [intOf] <;> omega
                · obtain ⟨h', hh'⟩ := valid_hist hv
                  have HH3 := Lib.hid hh'
                  clear hv hh'
                  go_wp2_with fail
                  go_roundw
                  case rel => exact ⟨l3, g3, m + 1, c3, k, h', rfl, HM3.out, by first | rfl | go_num, by omega, hc3, HWF3.out, by rw [HM3.out]; exact HH3.out, (HR8.out.new HO4.out.2 HO4.out.1).more (by omega)⟩
                  case measure => simp [intOf] <;> omega
          · go_simp
            refine hK _ _ ?_; clear hK K
            refine wpAny_ready (rs := [0, 4]) (by kernel_rfl) (by simp) ?_
            refine AllReady.cons rfl (fun K hK => ?_) (AllReady.cons rfl (fun K hK => ?_) AllReady.nil)
            · go_simp
              refine hK _ _ ?_; clear hK K
              have HOA := Lib.hid (out_empty (T := 31) (z := 5) HBW.out)
              replace HBW := Lib.hid (HBW.out.alloc HBW.out.size (.cells #[] 31))
              generalize W0.alloc (.cells #[] 31) = W1 at *
              refine wpAny_ready (rs := [2, 4]) (by kernel_rfl) (by simp) ?_
              refine AllReady.cons rfl (fun K hK => ?_) (AllReady.cons rfl (fun K hK => ?_) AllReady.nil)
              · refine step_append_ownR (by rfl) _ _ 23 (by rfl) wc.heap.size 31 i0 (.agg #[.int .i64 0, .int .i64 0, .int .i64 0, .int .i64 0, .int .i64 0]) 5 40 Try.underlying23 HI.out.1 HI.out.2.1 HI.out.2.2.1 HI.out.2.2.2 rfl (by decide) (.slice (some ⟨W0.heap.size, 0, none⟩) 0 0) 0 [] (by rfl) HOA.out.1 ⟨ad, 0, none⟩ m c (rcsC l) (by rfl) HML.out (HNEWS.out _ HBW.out) (rcs_one l) (by unfold maxLen; omega) (by omega) HBW.out.size ?_
                intro v2 W2 hown2 hgr2 _
                rw [List.nil_append, Nat.zero_add] at hown2
                obtain ⟨A2, c2, rfl, ho2⟩ := HOA.out.app hown2 hgr2
                replace HOA := Lib.hid ho2
                replace HBW := Lib.hid ho2.2
                clear hown2 hgr2 ho2
                refine hK _ _ ?_; clear hK K
                conv => arg 7; simp [Act.put]
                try simp only [Nat.zero_add]
                refine wpAny_ready (rs := [4]) (by kernel_rfl) (by simp) ?_
                refine AllReady.cons rfl (fun K hK => ?_) AllReady.nil
                go_simp
                refine hK _ _ ?_; clear hK K
                have HGB := Lib.hid (rf_start (B := wc.heap.size) W2 z0 z1 z2 z3 z4 HBW.out.size)
                replace HOA := Lib.hid (HOA.out.keep ((Below.refl _ _).alloc (Nat.le_refl _) (.cells #[.int .i64 z0, .int .i64 z1, .int .i64 z2, .int .i64 z3, .int .i64 z4] 31)))
                replace HBW := Lib.hid (HBW.out.alloc HBW.out.size (.cells #[.int .i64 z0, .int .i64 z1, .int .i64 z2, .int .i64 z3, .int .i64 z4] 31))
                generalize W2.alloc (.cells #[.int .i64 z0, .int .i64 z1, .int .i64 z2, .int .i64 z3, .int .i64 z4] 31) = W3 at *
                refine wpAny_ready (rs := [5]) (by kernel_rfl) (by simp) ?_
                refine AllReady.cons rfl (fun K hK => ?_) AllReady.nil
                refine step_append_ownR (by rfl) _ _ 23 (by rfl) wc.heap.size 31 i0 (.agg #[.int .i64 0, .int .i64 0, .int .i64 0, .int .i64 0, .int .i64 0]) 5 40 Try.underlying23 HI.out.1 HI.out.2.1 HI.out.2.2.1 HI.out.2.2.2 rfl (by decide) (.slice A2 m c2) m (rcsC l) (by rfl) HOA.out.1 ⟨W2.heap.size, 0, none⟩ 1 1 [.int .i64 z0, .int .i64 z1, .int .i64 z2, .int .i64 z3, .int .i64 z4] (by rfl) (by rfl) (rf_news HGB.out) (by intro u hu; simp at hu; rcases hu with rfl | rfl | rfl | rfl | rfl <;> rfl) (by unfold maxLen; omega) (by omega) HBW.out.size ?_
                intro v3 w9 hown3 hgr3 _
                obtain ⟨A3, c3, rfl, ho3⟩ := HOA.out.app hown3 hgr3
                have HO3 := Lib.hid ho3; clear ho3 hown3 hgr3
                refine hK _ _ ?_; clear hK K
                conv => arg 7; simp [Act.put]
                refine wpAny_take (i := 6) (v := ?_) rfl (by kernel_rfl) (by kernel_rfl) (by kernel_rfl) (fun _ _ _ h => h) (Or.inl ⟨by kernel_rfl, ?_⟩) ?_
                rotate_left
                · (intro w; go_simp; first | done | with_reducible rfl)
                conv => arg 7; simp [Act.put]
                refine wpAny_done (by kernel_rfl) ?_ _
                have HM3 := Lib.hid (show m + 1 = (l ++ [(z0, z1, z2, z3, z4)]).length by rw [List.length_append, ← HM.out]; rfl)
                obtain ⟨g3, rfl, hc3⟩ := out_some HO3.out (by omega)
                rw [rcs_snoc] at HO3
                have HWF3 := Lib.hid (wf_snocRc HWF.out HGZ.out)
                have HSV := Lib.hid (sValid_any (some ⟨g3, 0, none⟩) (m + 1) c3 (l ++ [(z0, z1, z2, z3, z4)]) _ (RowAt.of_own HO3.out.1) HM3.out (by omega) hc3)
                generalize l ++ [(z0, z1, z2, z3, z4)] = l3 at *
                try clear HOA
                try clear HGB
                try clear HBW
                try clear HC
                try clear HNEWS
                go_wp2_with fail
                refine (HSV.out).mono ?_
                rintro e w10 ⟨rfl, hb10⟩
                have HO4 := Lib.hid (HO3.out.keep hb10)
                clear hb10 HSV
                cases hv : validP l3
                · clear hv
                  go_wp2_with fail
                  go_roundw
                  case rel => exact ⟨l, ad, m, c, k, h, rfl, HM.out, by first | rfl | go_num, by omega, hmc, HWF.out, HH.out, (HR8.out.keep HO4.out.2).more (by omega)⟩
                  case measure => simp [intOf] <;> omega
                · obtain ⟨h', hh'⟩ := valid_hist hv
                  have HH3 := Lib.hid hh'
                  clear hv hh'
                  go_wp2_with fail
                  go_roundw
                  case rel => exact ⟨l3, g3, m + 1, c3, k, h', rfl, HM3.out, by first | rfl | go_num, by omega, hc3, HWF3.out, by rw [HM3.out]; exact HH3.out, (HR8.out.new HO4.out.2 HO4.out.1).more (by omega)⟩
                  case measure => simp [intOf] <;> omega
              · go_simp
                refine hK _ _ ?_; clear hK K
                have hne : W1.heap.size ≠ W0.heap.size := by have h9 : W0.heap.size < W1.heap.size := (World.ownsRow.lt HOA.out.1 _ rfl).2; omega
                have HGB := Lib.hid (rf_start (B := wc.heap.size) W1 z0 z1 z2 z3 z4 HBW.out.size)
                replace HOA := Lib.hid (HOA.out.keep ((Below.refl _ _).alloc (Nat.le_refl _) (.cells #[.int .i64 z0, .int .i64 z1, .int .i64 z2, .int .i64 z3, .int .i64 z4] 31)))
                replace HBW := Lib.hid (HBW.out.alloc HBW.out.size (.cells #[.int .i64 z0, .int .i64 z1, .int .i64 z2, .int .i64 z3, .int .i64 z4] 31))
                generalize W1.alloc (.cells #[.int .i64 z0, .int .i64 z1, .int .i64 z2, .int .i64 z3, .int .i64 z4] 31) = W2 at *
                refine wpAny_ready (rs := [2]) (by kernel_rfl) (by simp) ?_
                refine AllReady.cons rfl (fun K hK => ?_) AllReady.nil
                refine step_append_ownR (by rfl) _ _ 23 (by rfl) wc.heap.size 31 i0 (.agg #[.int .i64 0, .int .i64 0, .int .i64 0, .int .i64 0, .int .i64 0]) 5 40 Try.underlying23 HI.out.1 HI.out.2.1 HI.out.2.2.1 HI.out.2.2.2 rfl (by decide) (.slice (some ⟨W0.heap.size, 0, none⟩) 0 0) 0 [] (by rfl) HOA.out.1 ⟨ad, 0, none⟩ m c (rcsC l) (by rfl) HML.out (HNEWS.out _ HBW.out) (rcs_one l) (by unfold maxLen; omega) (by omega) HBW.out.size ?_
                intro v2 W3 hown2 hgr2 _
                rw [List.nil_append, Nat.zero_add] at hown2
                obtain ⟨A2, c2, rfl, ho2⟩ := HOA.out.app hown2 hgr2
                replace HOA := Lib.hid ho2
                replace HBW := Lib.hid ho2.2
                replace HGB := Lib.hid (HGB.out.grow hgr2 (fun e => by injection e with e; exact hne e))
                clear hown2 hgr2 ho2
                refine hK _ _ ?_; clear hK K
                conv => arg 7; simp [Act.put]
                try simp only [Nat.zero_add]
                refine wpAny_ready (rs := [5]) (by kernel_rfl) (by simp) ?_
                refine AllReady.cons rfl (fun K hK => ?_) AllReady.nil
                refine step_append_ownR (by rfl) _ _ 23 (by rfl) wc.heap.size 31 i0 (.agg #[.int .i64 0, .int .i64 0, .int .i64 0, .int .i64 0, .int .i64 0]) 5 40 Try.underlying23 HI.out.1 HI.out.2.1 HI.out.2.2.1 HI.out.2.2.2 rfl (by decide) (.slice A2 m c2) m (rcsC l) (by rfl) HOA.out.1 ⟨W1.heap.size, 0, none⟩ 1 1 [.int .i64 z0, .int .i64 z1, .int .i64 z2, .int .i64 z3, .int .i64 z4] (by rfl) (by rfl) (rf_news HGB.out) (by intro u hu; simp at hu; rcases hu with rfl | rfl | rfl | rfl | rfl <;> rfl) (by unfold maxLen; omega) (by omega) HBW.out.size ?_
                intro v3 w9 hown3 hgr3 _
                obtain ⟨A3, c3, rfl, ho3⟩ := HOA.out.app hown3 hgr3
                have HO3 := Lib.hid ho3; clear ho3 hown3 hgr3
                refine hK _ _ ?_; clear hK K
                conv => arg 7; simp [Act.put]
                refine wpAny_take (i := 6) (v := ?_) rfl (by kernel_rfl) (by kernel_rfl) (by kernel_rfl) (fun _ _ _ h => h) (Or.inl ⟨by kernel_rfl, ?_⟩) ?_
                rotate_left
                · (intro w; go_simp; first | done | with_reducible rfl)
                conv => arg 7; simp [Act.put]
                refine wpAny_done (by kernel_rfl) ?_ _
                have HM3 := Lib.hid (show m + 1 = (l ++ [(z0, z1, z2, z3, z4)]).length by rw [List.length_append, ← HM.out]; rfl)
                obtain ⟨g3, rfl, hc3⟩ := out_some HO3.out (by omega)
                rw [rcs_snoc] at HO3
                have HWF3 := Lib.hid (wf_snocRc HWF.out HGZ.out)
                have HSV := Lib.hid (sValid_any (some ⟨g3, 0, none⟩) (m + 1) c3 (l ++ [(z0, z1, z2, z3, z4)]) _ (RowAt.of_own HO3.out.1) HM3.out (by omega) hc3)
                generalize l ++ [(z0, z1, z2, z3, z4)] = l3 at *
                try clear HOA
                try clear HGB
                try clear HBW
                try clear HC
                try clear HNEWS
                go_wp2_with fail
                refine (HSV.out).mono ?_
                rintro e w10 ⟨rfl, hb10⟩
                have HO4 := Lib.hid (HO3.out.keep hb10)
                clear hb10 HSV
                cases hv : validP l3
                · clear hv
                  go_wp2_with fail
                  go_roundw
                  case rel => exact ⟨l, ad, m, c, k, h, rfl, HM.out, by first | rfl | go_num, by omega, hmc, HWF.out, HH.out, (HR8.out.keep HO4.out.2).more (by omega)⟩
                  case measure => simp [intOf] <;> omega
                · obtain ⟨h', hh'⟩ := valid_hist hv
                  have HH3 := Lib.hid hh'
                  clear hv hh'
                  go_wp2_with fail
                  go_roundw
                  case rel => exact ⟨l3, g3, m + 1, c3, k, h', rfl, HM3.out, by first | rfl | go_num, by omega, hc3, HWF3.out, by rw [HM3.out]; exact HH3.out, (HR8.out.new HO4.out.2 HO4.out.1).more (by omega)⟩
                  case measure => simp [intOf] <;> omega
            · go_simp
              refine hK _ _ ?_; clear hK K
              have HGB := Lib.hid (rf_start (B := wc.heap.size) W0 z0 z1 z2 z3 z4 HBW.out.size)
              replace HBW := Lib.hid (HBW.out.alloc HBW.out.size (.cells #[.int .i64 z0, .int .i64 z1, .int .i64 z2, .int .i64 z3, .int .i64 z4] 31))
              generalize W0.alloc (.cells #[.int .i64 z0, .int .i64 z1, .int .i64 z2, .int .i64 z3, .int .i64 z4] 31) = W1 at *
              refine wpAny_ready (rs := [0]) (by kernel_rfl) (by simp) ?_
              refine AllReady.cons rfl (fun K hK => ?_) AllReady.nil
              go_simp
              refine hK _ _ ?_; clear hK K
              have hne : W0.heap.size ≠ W1.heap.size := by have := HGB.out.lt.2; omega
              have HOA := Lib.hid (out_empty (T := 31) (z := 5) HBW.out)
              replace HGB := Lib.hid (HGB.out.keep ((Below.refl _ _).alloc (Nat.le_refl _) (.cells #[] 31)))
              replace HBW := Lib.hid (HBW.out.alloc HBW.out.size (.cells #[] 31))
              generalize W1.alloc (.cells #[] 31) = W2 at *
              refine wpAny_ready (rs := [2]) (by kernel_rfl) (by simp) ?_
              refine AllReady.cons rfl (fun K hK => ?_) AllReady.nil
              refine step_append_ownR (by rfl) _ _ 23 (by rfl) wc.heap.size 31 i0 (.agg #[.int .i64 0, .int .i64 0, .int .i64 0, .int .i64 0, .int .i64 0]) 5 40 Try.underlying23 HI.out.1 HI.out.2.1 HI.out.2.2.1 HI.out.2.2.2 rfl (by decide) (.slice (some ⟨W1.heap.size, 0, none⟩) 0 0) 0 [] (by rfl) HOA.out.1 ⟨ad, 0, none⟩ m c (rcsC l) (by rfl) HML.out (HNEWS.out _ HBW.out) (rcs_one l) (by unfold maxLen; omega) (by omega) HBW.out.size ?_
              intro v2 W3 hown2 hgr2 _
              rw [List.nil_append, Nat.zero_add] at hown2
              obtain ⟨A2, c2, rfl, ho2⟩ := HOA.out.app hown2 hgr2
              replace HOA := Lib.hid ho2
              replace HBW := Lib.hid ho2.2
              replace HGB := Lib.hid (HGB.out.grow hgr2 (fun e => by injection e with e; exact hne e))
              clear hown2 hgr2 ho2
              refine hK _ _ ?_; clear hK K
              conv => arg 7; simp [Act.put]
              try simp only [Nat.zero_add]
              refine wpAny_ready (rs := [5]) (by kernel_rfl) (by simp) ?_
              refine AllReady.cons rfl (fun K hK => ?_) AllReady.nil
              refine step_append_ownR (by rfl) _ _ 23 (by rfl) wc.heap.size 31 i0 (.agg #[.int .i64 0, .int .i64 0, .int .i64 0, .int .i64 0, .int .i64 0]) 5 40 Try.underlying23 HI.out.1 HI.out.2.1 HI.out.2.2.1 HI.out.2.2.2 rfl (by decide) (.slice A2 m c2) m (rcsC l) (by rfl) HOA.out.1 ⟨W0.heap.size, 0, none⟩ 1 1 [.int .i64 z0, .int .i64 z1, .int .i64 z2, .int .i64 z3, .int .i64 z4] (by rfl) (by rfl) (rf_news HGB.out) (by intro u hu; simp at hu; rcases hu with rfl | rfl | rfl | rfl | rfl <;> rfl) (by unfold maxLen; omega) (by omega) HBW.out.size ?_
              intro v3 w9 hown3 hgr3 _
              obtain ⟨A3, c3, rfl, ho3⟩ := HOA.out.app hown3 hgr3
              have HO3 := Lib.hid ho3; clear ho3 hown3 hgr3
              refine hK _ _ ?_; clear hK K
              conv => arg 7; simp [Act.put]
              refine wpAny_take (i := 6) (v := ?_) rfl (by kernel_rfl) (by kernel_rfl) (by kernel_rfl) (fun _ _ _ h => h) (Or.inl ⟨by kernel_rfl, ?_⟩) ?_
              rotate_left
              · (intro w; go_simp; first | done | with_reducible rfl)
              conv => arg 7; simp [Act.put]
              refine wpAny_done (by kernel_rfl) ?_ _
              have HM3 := Lib.hid (show m + 1 = (l ++ [(z0, z1, z2, z3, z4)]).length by rw [List.length_append, ← HM.out]; rfl)
              obtain ⟨g3, rfl, hc3⟩ := out_some HO3.out (by omega)
              rw [rcs_snoc] at HO3
              have HWF3 := Lib.hid (wf_snocRc HWF.out HGZ.out)
              have HSV := Lib.hid (sValid_any (some ⟨g3, 0, none⟩) (m + 1) c3 (l ++ [(z0, z1, z2, z3, z4)]) _ (RowAt.of_own HO3.out.1) HM3.out (by omega) hc3)
              generalize l ++ [(z0, z1, z2, z3, z4)] = l3 at *
              try clear HOA
              try clear HGB
              try clear HBW
              try clear HC
              try clear HNEWS
              go_wp2_with fail
              refine (HSV.out).mono ?_
              rintro e w10 ⟨rfl, hb10⟩
              have HO4 := Lib.hid (HO3.out.keep hb10)
              clear hb10 HSV
              cases hv : validP l3
              · clear hv
                go_wp2_with fail
                go_roundw
                case rel => exact ⟨l, ad, m, c, k, h, rfl, HM.out, by first | rfl | go_num, by omega, hmc, HWF.out, HH.out, (HR8.out.keep HO4.out.2).more (by omega)⟩
                case measure => simp [intOf] <;> omega
              · obtain ⟨h', hh'⟩ := valid_hist hv
                have HH3 := Lib.hid hh'
                clear hv hh'
                go_wp2_with fail
                go_roundw
                case rel => exact ⟨l3, g3, m + 1, c3, k, h', rfl, HM3.out, by first | rfl | go_num, by omega, hc3, HWF3.out, by rw [HM3.out]; exact HH3.out, (HR8.out.new HO4.out.2 HO4.out.1).more (by omega)⟩
                case measure => simp [intOf] <;> omega
    | zero =>
      have hm0i : (0 : Int) ≤ (m : Int) := by omega
      by_cases hm0 : m = 0
      · subst hm0
        go_wp2_with fail
        go_ret
        exact ⟨l, _, 0, c, rfl, HM.out, by omega, by omega, HWF.out, HR.out.more (by omega)⟩
      · have hmp : (0 : Int) < (m : Int) := by omega
        have HP1 := Lib.hid (pick_any r _ 30 wr HR.out.rd (by omega) (by omega))
        go_wp2_with fail
        refine (HP1.out).mono ?_
        rintro e w2 ⟨x1, rfl, hx10, hx1n, hr2, hg2⟩
        have HR2 := Lib.hid (HR.out.grow hrl hg2 hr2); clear hr2 hg2 HP1
        by_cases hx : x1 = 0
        rotate_left
        · have q0 : (x1 == 0) = false := by simpa using hx
          clear hx
          go_wp2_with fail
          go_ret
          exact ⟨l, _, m, c, rfl, HM.out, by omega, by omega, HWF.out, HR2.out.more (by omega)⟩
        · subst hx
          have HP2 := Lib.hid (pick_any r _ (m : Int) w2 HR2.out.rd (by omega) (by omega))
          go_wp2_with fail
          refine (HP2.out).mono ?_
          rintro e w3 ⟨x2, rfl, hx20, hx2n, hr3, hg3⟩
          have HR3 := Lib.hid (HR2.out.grow hrl hg3 hr3); clear hr3 hg3 HP2
          obtain ⟨q, rfl⟩ := Int.eq_ofNat_of_zero_le hx20
          have hqm : q < m := by omega
          have hqi : (q : Int) < (m : Int) := by omega
          have hql : q < l.length := by have := HM.out; omega
          have ho1 := fun cs m c t hm hm0 hm1 hs => oneNew_any 0 5 r _ m c cs t w3 HR3.out.rd (by omega) hm hm0 hm1 hs
          have HO1 := Lib.hid ho1; clear ho1
          go_wp2_with fail
          refine (HO1.out _ _ _ _ (by rfl) (by omega) (by omega) (by rfl)).mono ?_
          rintro e w4 ⟨v1, rfl, hv1, hv2, hr4, hg4⟩
          have HR4 := Lib.hid (HR3.out.grow hrl hg4 hr4); clear hr4 hg4 HO1
          obtain ⟨⟨u1, cu1⟩, fu1⟩ := drawn_cell (j := 1) HR4.out HM.out hqm (by omega)
          have HR5 := Lib.hid (drawn_set1 HR4.out hrl hql HM.out v1)
          have hgq := HWF.out l[q] (List.getElem_mem hql)
          have HWF5 := Lib.hid (wf_set (q := q) HWF.out (goodRc_mk hgq.1 (⟨by omega, by omega⟩ : GoodIn v1) hgq.2.2.1 hgq.2.2.2.1 hgq.2.2.2.2))
          have HM5 := Lib.hid (show m = (l.set q (l[q].1, v1, l[q].2.2)).length by rw [List.length_set]; exact HM.out)
          obtain ⟨L5, hL5⟩ : ∃ x, l.set q (l[q].1, v1, l[q].2.2) = x := ⟨_, rfl⟩
          have HE5 := Lib.hid hL5
          rw [show (l[q].1, v1, l[q].2.2.1, l[q].2.2.2.1, l[q].2.2.2.2) = (l[q].1, v1, l[q].2.2) from rfl, hL5] at HWF5
          rw [hL5] at HR5 HM5
          clear hL5
          have hsz5 : (w4.setCell ⟨ad, q * 5 + 1, none⟩ (.int .i64 v1)).heap.size = w4.heap.size := by simp
          have ho1 := fun cs m c t hm hm0 hm1 hs => oneNew_any 0 10 r _ m c cs t _ HR5.out.rd (by omega) hm hm0 hm1 hs
          simp only [hsz5] at ho1
          have HO1 := Lib.hid ho1; clear ho1 hsz5
          go_wp2_with fail
          refine (HO1.out _ _ _ _ (by rfl) (by omega) (by omega) (by rfl)).mono ?_
          rintro e w6 ⟨v2, rfl, hv3, hv4, hr6, hg6⟩
          have HR6 := Lib.hid (HR5.out.grow hrl hg6 hr6); clear hr6 hg6 HO1
          have hq5 : q < L5.length := by have := HM5.out; omega
          obtain ⟨⟨u2, cu2⟩, fu2⟩ := drawn_cell (j := 4) HR6.out HM5.out hqm (by omega)
          have HR7 := Lib.hid (drawn_set4 HR6.out hrl hq5 HM5.out v2)
          have hgq5 := HWF5.out L5[q] (List.getElem_mem hq5)
          have HWF7 := Lib.hid (wf_set (q := q) HWF5.out (goodRc_mk hgq5.1 hgq5.2.1 hgq5.2.2.1 hgq5.2.2.2.1 (⟨by omega, by omega⟩ : GoodIn v2)))
          have HM7 := Lib.hid (show m = (L5.set q (L5[q].1, L5[q].2.1, L5[q].2.2.1, L5[q].2.2.2.1, v2)).length by rw [List.length_set]; exact HM5.out)
          go_wp2_with fail
          go_ret
          exact ⟨_, _, m, c, rfl, HM7.out, by omega, by omega, HWF7.out, HR7.out.more (by omega)⟩
end Go.Proofs.Ythpfijhmdeciaaa
