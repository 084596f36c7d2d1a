/- Contracts of putTo and add of the program (chapter 6). Conditions: what the history tells lies in blocks of the call's own; the record may stand there. -/
import Derived.Test.YthpfijhmdeciaaaRecI
import Derived.Deep.AppendLies
set_option linter.unusedVariables false
set_option linter.unusedSimpArgs false
namespace Go.Proofs.Ythpfijhmdeciaaa
open Go.RowKit Go.ChangeShapes Go.WideShapes

theorem putTo_not (x0 x1 x2 x3 x4 : Int) (v : Value) (w : World) (h1 : x0 ≠ 1) (h2 : x0 ≠ 2) :
    Calls Try.prog 27 #[.agg #[.int .i64 x0, .int .i64 x1, .int .i64 x2, .int .i64 x3, .int .i64 x4], v] w fun e w' => e = .returned (.tuple #[]) ∧ Below w.heap.size w w' := by
  have HB := Lib.hid (fun o => (Below.refl w.heap.size w).alloc (Nat.le_refl _) o)
  have q1 : (x0 == 1) = false := by simpa using h1
  have q2 : (x0 == 2) = false := by simpa using h2
  go_enter Try.func27, Try.ntmps27
  go_wp2_with fail
  go_end0
  exact ⟨rfl, HB.out _⟩
theorem putTo_any (x0 x1 x3 x4 : Int) (p wb n c B : Nat) (T : TypeId) (f : Nat → Value) (w : World) (h12 : x0 = 1 ∨ x0 = 2) (hm : RowG w B T wb 3 f) (hp : p < 3) :
    Calls Try.prog 27 #[.agg #[.int .i64 x0, .int .i64 x1, .int .i64 (p : Int), .int .i64 x3, .int .i64 x4], .slice (some ⟨wb, 0, none⟩) 3 3] w fun e w' => e = .returned (.tuple #[]) ∧ Below w.heap.size (w.setCell ⟨wb, p, none⟩ (.int .i64 x4)) w' := by
  have HB := Lib.hid (fun o => (Below.refl w.heap.size (w.setCell ⟨wb, p, none⟩ (.int .i64 x4))).alloc (by simp) o)
  obtain ⟨c0, f0⟩ := hm.cell hp
  have hl := hm.lt.2
  have hp0 : (0 : Int) ≤ (p : Int) := by omega
  have hp3 : (p : Int) < 3 := by omega
  have hne : ¬ (w.heap.size = wb) := by omega
  have hne2 : ¬ (wb = w.heap.size) := by omega
  rcases h12 with rfl | rfl
  · go_enter Try.func27, Try.ntmps27
    go_wp2_with fail
    go_end0
    exact ⟨rfl, HB.out _⟩
  · go_enter Try.func27, Try.ntmps27
    go_wp2_with fail
    go_end0
    exact ⟨rfl, HB.out _⟩

/-- a record in a variable of the call's own -/
structure RB (R : Nat) (x0 x1 x2 x3 x4 : Int) (W : World) : Prop where
  c0 : W.cell? ⟨R, 0, none⟩ = some (.int .i64 x0)
  c1 : W.cell? ⟨R, 1, none⟩ = some (.int .i64 x1)
  c2 : W.cell? ⟨R, 2, none⟩ = some (.int .i64 x2)
  c3 : W.cell? ⟨R, 3, none⟩ = some (.int .i64 x3)
  c4 : W.cell? ⟨R, 4, none⟩ = some (.int .i64 x4)
  lt : R < W.heap.size
section
variable {R : Nat} {x0 x1 x2 x3 x4 : Int} {W W' : World}
theorem RB.of_block (h : RB R x0 x1 x2 x3 x4 W) (hb : W'.heap[R]? = W.heap[R]?) (hs : W.heap.size ≤ W'.heap.size) : RB R x0 x1 x2 x3 x4 W' :=
  ⟨(World.cell?_of_block hb).trans h.c0, (World.cell?_of_block hb).trans h.c1, (World.cell?_of_block hb).trans h.c2, (World.cell?_of_block hb).trans h.c3, (World.cell?_of_block hb).trans h.c4, Nat.lt_of_lt_of_le h.lt hs⟩
theorem RB.keep (h : RB R x0 x1 x2 x3 x4 W) (hb : Below W.heap.size W W') : RB R x0 x1 x2 x3 x4 W' := h.of_block (hb.block R h.lt) hb.size
theorem RB.set (h : RB R x0 x1 x2 x3 x4 W) {a : Addr} (hne : R ≠ a.block) (v : Value) : RB R x0 x1 x2 x3 x4 (W.setCell a v) := h.of_block (Below.heap_setCell W a v R hne) (by simp)
theorem RB.grow (h : RB R x0 x1 x2 x3 x4 W) {row : Option Nat} (hg : W.grownBy W' row) (hne : some R ≠ row) : RB R x0 x1 x2 x3 x4 W' := h.of_block (hg.block R h.lt hne) hg.size
theorem RB.start (w : World) (x0 x1 x2 x3 x4 : Int) : RB w.heap.size x0 x1 x2 x3 x4 (w.alloc (.cells #[.int .i64 x0, .int .i64 x1, .int .i64 x2, .int .i64 x3, .int .i64 x4] 31)) := by
  refine ⟨?_, ?_, ?_, ?_, ?_, ?_⟩ <;> simp
end
theorem add1_eq (h : HP) (k t q : Nat) (x3 x4 : Int) (h1 : HP) (hl : h.tx.length = 5) (ht : t < 5) (e : setT h t ⟨(h.t t).st, true, (h.t t).bk, (h.t t).fin⟩ = h1) :
    (⟨(setT h1 t ⟨(h.t t).st ++ [k], (h1.t t).bg, (h1.t t).bk, (h1.t t).fin⟩).wd.set q x4, (setT h1 t ⟨(h.t t).st ++ [k], (h1.t t).bg, (h1.t t).bk, (h1.t t).fin⟩).wr.set q t, (setT h1 t ⟨(h.t t).st ++ [k], (h1.t t).bg, (h1.t t).bk, (h1.t t).fin⟩).tx⟩ : HP) = addP h k ((1 : Int), (t : Int), (q : Int), x3, x4) := by
  subst e
  rw [setT_t h t t _ hl ht, if_pos rfl]
  unfold addP setT
  simp
theorem t_setT (h : HP) (t : Nat) (x : TxP) (hl : h.tx.length = 5) (ht : t < 5) : (setT h t x).t t = x := by rw [setT_t h t t _ hl ht, if_pos rfl]

set_option maxRecDepth 100000 in
set_option maxHeartbeats 8000000 in
theorem add1_any (B hb wb : Nat) (A : Option Addr) (n c : Nat) (sv : Nat → Value) (l : List Rc) (k : Nat) (h : HP) (t q : Nat) (x3 x4 : Int) (w : World) (m : HAt B hb wb (.slice A n c) sv h w) (I : Inv l k h)
    (hr : RowAt w B A (rcsC l)) (hn : n = l.length) (hs : n ≤ 1048576) (hk : k < n) (he : l.getD k rc0 = ((1 : Int), (t : Int), (q : Int), x3, x4)) (ht : t < 5) (hq : q < 3) :
    Calls Try.prog 35 #[.pointer (some ⟨hb, 0, none⟩), .int .i64 (k : Int)] w fun e w' => e = .returned (.tuple #[]) ∧ (∃ sv', HAt B hb wb (.slice A n c) sv' (addP h k ((1 : Int), (t : Int), (q : Int), x3, x4)) w') ∧ Below B w w' := by
  obtain ⟨hl1, hl2, hl3, hl4⟩ := m.lt
  have hkl : k < l.length := by omega
  obtain ⟨b, off, rfl, hbB, e0, e1, e2, e3, e4⟩ := rc_cells_at hr hkl
  unfold kd at e0
  unfold tn at e1
  unfold pl at e2
  unfold bf at e3
  unfold af at e4
  rw [he] at e0 e1 e2 e3 e4
  simp only at e0 e1 e2 e3 e4
  clear he
  have HN := Lib.hid hn; clear hn
  have hcl := m.list
  have hkn : (k : Int) < (n : Int) := by omega
  have hk0 : (0 : Int) ≤ (k : Int) := by omega
  have ht0 : (0 : Int) ≤ (t : Int) := by omega
  have ht5 : (t : Int) < 5 := by omega
  have hq0 : (0 : Int) ≤ (q : Int) := by omega
  have hq3 : (q : Int) < 3 := by omega
  have hbw : b < w.heap.size := by omega
  have HM := Lib.hid m
  obtain ⟨c0, c1, _, _⟩ := m.tx ht
  have f1 := m.froz (5 + t * 4 + 1)
  have hne : ¬ (w.heap.size = hb) := by omega
  have hne2 : ¬ (hb = w.heap.size) := by omega
  have hlen := st_le I t
  have HL := Lib.hid (And.intro I.lt (And.intro I.lr I.lw))
  have HTT := Lib.hid (fun x => t_setT h t x I.lt ht)
  obtain ⟨h1, hh1⟩ : ∃ x, setT h t ⟨(h.t t).st, true, (h.t t).bk, (h.t t).fin⟩ = x := ⟨_, rfl⟩
  have H1 := Lib.hid hh1
  obtain ⟨i0, hi0, hz0, hz1, hz2⟩ := info_parts intInfo
  have HI := Lib.hid (And.intro hi0 (And.intro hz0 (And.intro hz1 hz2))); clear hi0 hz0 hz1 hz2
  clear m I hr
  go_enter Try.func35, Try.ntmps35
  go_wp2_with fail
  go_quiet (fail)
  obtain ⟨W1, hW1⟩ : ∃ x, ((w.alloc (.cells #[.int .i64 1, .int .i64 (t : Int), .int .i64 (q : Int), .int .i64 x3, .int .i64 x4] 31)).drewN nq) = x := ⟨_, rfl⟩
  have HZ1 := Lib.hid (show W1.heap.size = w.heap.size + 1 by rw [← hW1]; simp)
  have HB1 := Lib.hid (show Below w.heap.size w W1 by rw [← hW1]; exact ((Below.refl _ _).alloc (Nat.le_refl _) _).trans (below_drewN _ _))
  have HR1 := Lib.hid (show RB w.heap.size 1 (t : Int) (q : Int) x3 x4 W1 by rw [← hW1]; exact (RB.start w 1 (t : Int) (q : Int) x3 x4).keep (below_drewN _ _))
  rw [hW1]
  clear hW1
  have HM1 := Lib.hid (HM.out.keep HB1.out)
  replace c0 := (HM1.out.tx ht).1
  replace c1 := (HM1.out.tx ht).2.1
  replace f1 := HM1.out.froz (5 + t * 4 + 1)
  have r0 := HR1.out.c0
  have HM2 := Lib.hid (HM1.out.bg true HL.out.1 ht)
  rw [H1.out] at HM2
  have hl2 := HM2.out.s t ht
  have H1T := Lib.hid (show h1.t t = ⟨(h.t t).st, true, (h.t t).bk, (h.t t).fin⟩ by rw [← H1.out]; exact HTT.out _)
  rw [H1T.out] at hl2
  simp only at hl2
  have HOWN := Lib.hid hl2; clear hl2
  go_wp2_with (at_builtin; refine wpList_append_lies _ rfl _ _ 27 rfl B 3 i0 (.int .i64 0) 1 8 Try.underlying27 HI.out.1 HI.out.2.1 HI.out.2.2.1 HI.out.2.2.2 rfl (by decide) (sv t) (h.t t).st.length (natC (h.t t).st) rfl ?c0 ⟨W1.heap.size, 0, none⟩ 1 1 [.int .i64 (k : Int)] rfl rfl ?c1 ?c2 (by decide) ?c3 ?c4 ?c5 _ rfl ?_)
  case c0 => exact HOWN.out.alloc _
  case c1 =>
    intro j u hj
    have := cell_one_new (W1.setCell ⟨hb, 5 + t * 4 + 1, none⟩ (.bool true)) (.int .i64 (k : Int)) 3 j u hj
    simpa using this
  case c2 => first | rfl | (intro u hu; simp at hu; subst hu; rfl)
  case c3 => unfold maxLen; omega
  case c4 => omega
  case c5 => have := HB1.out.size; simp; omega
  intro g cap w2 hown hgrow hat hlt
  have HA2 := Lib.hid (HM2.out.keep ((Below.refl _ _).alloc (Nat.le_refl _) (.cells #[.int .i64 (k : Int)] 3)))
  have HS2 := Lib.hid (show (W1.setCell ⟨hb, 5 + t * 4 + 1, none⟩ (.bool true)).heap.size = W1.heap.size by simp)
  have HRS := Lib.hid (fun q9 (e : (sv t).ownBlock = some q9) => ((HM.out.s t ht).lt q9 e).2)
  have HR2 := Lib.hid ((((HR1.out.set (a := ⟨hb, 5 + t * 4 + 1, none⟩) hne (.bool true)).keep ((Below.refl _ _).alloc (Nat.le_refl _) (.cells #[.int .i64 (k : Int)] 3))).grow hgrow (fun e => by have := HRS.out _ e.symm; omega)))
  have HM3 := Lib.hid (HAt.st (s' := .slice (some ⟨g, 0, none⟩) ((h.t t).st.length + 1) cap) (st' := (h.t t).st ++ [k]) (W := w2) (by rw [← H1.out]; simp [setT, HL.out.1]) ht
    (World.ownsRow.kept HA2.out.r hgrow (.inr (fun e => HM.out.hs t ht e.symm))) (World.ownsRow.kept HA2.out.w hgrow (.inr (fun e => HM.out.ws t ht e.symm))) HA2.out.hw
    (fun t' ht' hne' => (HA2.out.s t' ht').kept hgrow (HM.out.d t' t ht' ht hne')) (by rw [natC_snoc, List.length_append, List.length_singleton]; exact hown)
    HM.out.d HM.out.hs HM.out.ws
    (fun t' ht' hne' => by
      rcases hat with e | e
      · show _ ∨ _ ≠ some g
        rw [← e]; exact HM.out.d t' t ht' ht hne'
      · cases hq9 : (sv t').ownBlock with
        | none => exact .inl rfl
        | some q9 =>
          have := ((HM.out.s t' ht').lt q9 hq9).2
          have := HZ1.out
          exact .inr (fun e2 => by have e3 : q9 = g := by simpa [Value.ownBlock] using e2
                                   omega))
    (fun e2 => by
      have e3 : g = hb := by simpa [Value.ownBlock] using e2
      rcases hat with e | e
      · exact HM.out.hs t ht (by rw [e, e3])
      · have := HZ1.out
        omega)
    (fun e2 => by
      have e3 : g = wb := by simpa [Value.ownBlock] using e2
      rcases hat with e | e
      · exact HM.out.ws t ht (by rw [e, e3])
      · have := HZ1.out
        omega))
  have HB2 := Lib.hid (show Below B W1 w2 from by
    refine Below.trans (b := (W1.setCell ⟨hb, 5 + t * 4 + 1, none⟩ (.bool true)).alloc (.cells #[.int .i64 (k : Int)] 3)) ?_ ((Below.refl _ _).grown hgrow (by have := HZ1.out; simp; omega) (fun q9 e => ((HM.out.s t ht).lt q9 e).1))
    exact ((Below.refl _ _).setCell (by omega) _).alloc (by have := HZ1.out; simp; omega) _)
  have HC3 := Lib.hid (World.ownsRow.kept HA2.out.r hgrow (.inr (fun e => HM.out.hs t ht e.symm)))
  obtain ⟨c00, f00⟩ := RowG.cell (f := hisF (.slice (some ⟨b, off, none⟩) n c) (.slice (some ⟨wb, 0, none⟩) 3 3) sv h1) HC3.out (i := 5 + t * 4 + 0) (by omega)
  rw [hisF_tx _ _ _ _ _ _ (by omega)] at c00
  simp only [txF, if_true, Nat.add_zero] at c00 f00
  clear c0 c1 f1 r0 hgrow hown hat HC3
  replace hcl := HR2.out.c0
  go_wp2_with fail
  obtain ⟨W4, hW4⟩ : ∃ x, w2.setCell ⟨hb, 5 + t * 4, none⟩ (.slice (some ⟨g, 0, none⟩) ((h.t t).st.length + 1) cap) = x := ⟨_, rfl⟩
  have HR4 := Lib.hid (HR2.out.set (a := ⟨hb, 5 + t * 4, none⟩) hne (.slice (some ⟨g, 0, none⟩) ((h.t t).st.length + 1) cap))
  have HB4 := Lib.hid (show Below B w2 (w2.setCell ⟨hb, 5 + t * 4, none⟩ (.slice (some ⟨g, 0, none⟩) ((h.t t).st.length + 1) cap)) from (Below.refl _ _).setCell (by omega) _)
  rw [hW4] at HR4 HM3 HB4 ⊢
  clear hW4 c00 f00 hcl
  have r1 := HR4.out.c1
  have r2 := HR4.out.c2
  have co := HM3.out.own hq
  have fo := HM3.out.froz (2 + q)
  have HL4 := Lib.hid (show ∀ x y, (setT h1 t x).wr.length = 3 ∧ (⟨y, (setT h1 t x).wr.set q t, (setT h1 t x).tx⟩ : HP).wr.length = 3 ∧ (setT h1 t x).wd.length = 3 from fun x y => by
    rw [← H1.out]; simp [setT, HL.out.2.1, HL.out.2.2])
  have HB04 := Lib.hid (show Below B w W4 from (HB1.out.mono (by omega)).trans (HB2.out.trans HB4.out))
  have hne9 : ¬ (hb = w.heap.size) := hne2
  have hwd9 : h1.wd.length = 3 := by rw [← H1.out]; exact HL.out.2.2
  clear HR1 HM1 HM2 HA2 HR2 HB1 HB2 HB4 HOWN H1T HI
  go_wp2_with fail
  go_region_with fail
  all_goals
    have HM5 := Lib.hid ((HM3.out.wr (p := q) (t := t) (HL4.out _ []).1 hq).keep (Below.drew (Below.refl _ _)))
    have HR5 := Lib.hid ((HR4.out.set (a := ⟨hb, 2 + q, none⟩) hne (.int .i64 (t : Int))).keep (Below.drew (Below.refl _ _)))
    obtain ⟨W5, hW5⟩ : ∃ x, (W4.setCell ⟨hb, 2 + q, none⟩ (.int .i64 (t : Int))).drew = x := ⟨_, rfl⟩
    have HB5 := Lib.hid (show Below B W4 ((W4.setCell ⟨hb, 2 + q, none⟩ (.int .i64 (t : Int))).drew) from Below.drew ((Below.refl _ _).setCell (by omega) _))
    rw [hW5] at HM5 HR5 HB5 ⊢
    clear hW5 r1 r2 co fo
    have r0 := HR5.out.c0
    have r1 := HR5.out.c1
    have r2 := HR5.out.c2
    have r3 := HR5.out.c3
    have r4 := HR5.out.c4
    have cw := HM5.out.words
    have HPU := Lib.hid (fun (f : Nat → Value) W (m9 : RowG W B 3 wb 3 f) => putTo_any 1 (t : Int) x3 x4 q wb 0 0 B _ _ W (.inl rfl) m9 hq)
    go_wp2_with fail
    go_region_with (go_at_call 27; refine (HPU.out _ _ (HM5.out.keep (Below.drew (Below.refl _ _))).w).mono ?_; rintro e w6 ⟨rfl, hb6⟩)
    all_goals
      go_wp2_with fail
      go_end0
      have HM6 := (HM5.out.keep (Below.drew (Below.refl _ _))).wd (p := q) (x := x4) hwd9 hq
      have h9 := HM6.keep (hb6.mono (by simp))
      rw [add1_eq h k t q x3 x4 h1 HL.out.1 ht H1.out] at h9
      have hz5 : B ≤ W5.heap.size := Nat.le_trans (Nat.le_trans (by omega) HB04.out.size) HB5.out.size
      exact ⟨rfl, ⟨_, h9⟩, HB04.out.trans (HB5.out.trans (((Below.drew (Below.refl _ _)).setCell hl3 _).trans (hb6.mono hz5)))⟩
end Go.Proofs.Ythpfijhmdeciaaa
