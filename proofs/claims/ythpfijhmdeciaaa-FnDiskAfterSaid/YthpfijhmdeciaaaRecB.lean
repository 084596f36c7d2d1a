/- Contract of add of the program at records that take back or end (chapter 6). Conditions: what the history tells lies in blocks of the call's own; the record may stand there. -/
import Derived.Test.YthpfijhmdeciaaaRecA
import Derived.Deep.RegionHeld3
set_option linter.unusedVariables false
set_option linter.unusedSimpArgs false
namespace Go.Proofs.Ythpfijhmdeciaaa
open Go.RowKit Go.ChangeShapes Go.WideShapes

theorem cut_headI (b off n c k : Nat) (W : World) (h : k ≤ c) :
    (Instr.sliceAt 27 (.slice (some ⟨b, off, none⟩) n c) none (some (.int .i64 (k : Int))) none).run Try.prog W = .ok (.slice (some ⟨b, off, none⟩) k c) W := by
  have hu : Try.prog.underlying 27 = some (.slice (Try.prog.elem 27)) := by kernel_rfl
  have hs : (sizeOf (Try.prog.elem 27)).run Try.prog W = .ok 1 W := by kernel_rfl
  rw [run_sliceAt_slice (h := hu), run_slice_h (ht := hu) (h0 := by omega) (h2 := by omega), hs]
  simp only [Result.andThen_ok, sliced, Int.toNat_natCast, Option.map_some, Nat.zero_mul]
  rw [add_zero_off]
  simp
theorem add2_eq (h : HP) (k t q : Nat) (x3 x4 : Int) (h1 h2 : HP) (hl : h.tx.length = 5) (ht : t < 5) (e : setT h t ⟨(h.t t).st, true, (h.t t).bk, (h.t t).fin⟩ = h1) (e2 : setT h1 t ⟨(h.t t).st.dropLast, (h1.t t).bg, (h1.t t).bk, (h1.t t).fin⟩ = h2) :
    (⟨(setT h2 t ⟨(h2.t t).st, (h2.t t).bg, true, (h2.t t).fin⟩).wd.set q x4, (setT h2 t ⟨(h2.t t).st, (h2.t t).bg, true, (h2.t t).fin⟩).wr, (setT h2 t ⟨(h2.t t).st, (h2.t t).bg, true, (h2.t t).fin⟩).tx⟩ : HP) = addP h k ((2 : Int), (t : Int), (q : Int), x3, x4) := by
  have h1l : h1.tx.length = 5 := by rw [← e]; simp [setT, hl]
  have e3 : h2.t t = ⟨(h.t t).st.dropLast, (h1.t t).bg, (h1.t t).bk, (h1.t t).fin⟩ := by rw [← e2]; exact t_setT h1 t _ h1l ht
  have e4 : h1.t t = ⟨(h.t t).st, true, (h.t t).bk, (h.t t).fin⟩ := by rw [← e]; exact t_setT h t _ hl ht
  rw [e3, ← e2, e4, ← e]
  unfold addP setT
  simp
theorem add3_eq (h : HP) (k t : Nat) (x0 x2 x3 x4 : Int) (h1 : HP) (hk : x0 = 3 ∨ x0 = 4) (hl : h.tx.length = 5) (ht : t < 5) (e : setT h t ⟨(h.t t).st, true, (h.t t).bk, (h.t t).fin⟩ = h1) :
    setT h1 t ⟨(h1.t t).st, (h1.t t).bg, (h1.t t).bk, x0⟩ = addP h k (x0, (t : Int), x2, x3, x4) := by
  have e4 : h1.t t = ⟨(h.t t).st, true, (h.t t).bk, (h.t t).fin⟩ := by rw [← e]; exact t_setT h t _ hl ht
  rw [e4, ← e]
  unfold addP setT
  rw [if_neg (by rcases hk with h | h <;> omega), if_neg (by rcases hk with h | h <;> omega)]
  simp

set_option maxRecDepth 100000 in
set_option maxHeartbeats 8000000 in
theorem add2_any (B hb wb : Nat) (A : Option Addr) (n c : Nat) (sv : Nat → Value) (l : List Rc) (k : Nat) (h : HP) (t q : Nat) (x3 x4 : Int) (w : World) (m : HAt B hb wb (.slice A n c) sv h w) (I : Inv l k h)
    (hr : RowAt w B A (rcsC l)) (hn : n = l.length) (hs : n ≤ 1048576) (hk : k < n) (he : l.getD k rc0 = ((2 : Int), (t : Int), (q : Int), x3, x4)) (ht : t < 5) (hq : q < 3) (hst : (h.t t).st ≠ []) :
    Calls Try.prog 35 #[.pointer (some ⟨hb, 0, none⟩), .int .i64 (k : Int)] w fun e w' => e = .returned (.tuple #[]) ∧ (∃ sv', HAt B hb wb (.slice A n c) sv' (addP h k ((2 : Int), (t : Int), (q : Int), x3, x4)) w') ∧ Below B w w' := by
  obtain ⟨hl1, hl2, hl3, hl4⟩ := m.lt
  have hkl : k < l.length := by omega
  obtain ⟨b, off, rfl, hbB, e0, e1, e2, e3, e4⟩ := rc_cells_at hr hkl
  unfold kd at e0
  unfold tn at e1
  unfold pl at e2
  unfold bf at e3
  unfold af at e4
  rw [he] at e0 e1 e2 e3 e4
  simp only at e0 e1 e2 e3 e4
  clear he
  have HN := Lib.hid hn; clear hn
  have hcl := m.list
  have hkn : (k : Int) < (n : Int) := by omega
  have hk0 : (0 : Int) ≤ (k : Int) := by omega
  have ht0 : (0 : Int) ≤ (t : Int) := by omega
  have ht5 : (t : Int) < 5 := by omega
  have hq0 : (0 : Int) ≤ (q : Int) := by omega
  have hq3 : (q : Int) < 3 := by omega
  have hbw : b < w.heap.size := by omega
  have HM := Lib.hid m
  obtain ⟨c0, c1, _, _⟩ := m.tx ht
  have f1 := m.froz (5 + t * 4 + 1)
  have hne : ¬ (w.heap.size = hb) := by omega
  have hne2 : ¬ (hb = w.heap.size) := by omega
  have hlen := st_le I t
  have HL := Lib.hid (And.intro I.lt (And.intro I.lr I.lw))
  have HTT := Lib.hid (fun x => t_setT h t x I.lt ht)
  obtain ⟨h1, hh1⟩ : ∃ x, setT h t ⟨(h.t t).st, true, (h.t t).bk, (h.t t).fin⟩ = x := ⟨_, rfl⟩
  have H1 := Lib.hid hh1
  obtain ⟨i0, hi0, hz0, hz1, hz2⟩ := info_parts intInfo
  have HI := Lib.hid (And.intro hi0 (And.intro hz0 (And.intro hz1 hz2))); clear hi0 hz0 hz1 hz2
  have hpos : 0 < (h.t t).st.length := by cases hq9 : (h.t t).st with | nil => exact absurd hq9 hst | cons a b => simp
  obtain ⟨g, cs, hS, hg1, hg2⟩ := World.ownsRow.form (m.s t ht) hpos
  obtain ⟨m1, hm1⟩ : ∃ y, (h.t t).st.length = y + 1 := ⟨(h.t t).st.length - 1, by omega⟩
  have hOW := m.s t ht
  rw [hS, hm1] at hOW
  rw [hm1] at hS
  have hcs : m1 + 1 ≤ cs := by
    rcases hOW.2 with ⟨h', _⟩ | ⟨g', cap', cur, h', _, _, hnc, _⟩
    · simp at h'
    · injection h' with _ _ h3; omega
  have HLESS := Lib.hid (fun (W : World) (hb9 : W.ownsRow B 3 1 (.slice (some ⟨g, 0, none⟩) (m1 + 1) cs) (m1 + 1) (natC (h.t t).st)) => own_less (m := m1) hb9 (by omega))
  have HDL := Lib.hid (show (natC (h.t t).st).take m1 = natC (h.t t).st.dropLast ∧ (h.t t).st.dropLast.length = m1 from by
    rw [List.dropLast_eq_take, hm1]
    refine ⟨?_, by rw [List.length_take, hm1]; omega⟩
    unfold natC
    rw [← List.map_take]; rfl)
  have HS := Lib.hid hS
  have hmwa : IntKind.i64.wrap (m1 : Int) = (m1 : Int) := IntWalk.i64_in _ (by omega)
  have hmwb : IntKind.i64.wrap ((m1 : Int) + 1 - 1) = (m1 : Int) := by rw [show (m1 : Int) + 1 - 1 = (m1 : Int) by omega]; exact hmwa
  have hm10 : (0 : Int) ≤ (m1 : Int) := by omega
  have hm11 : (m1 : Int) ≤ (cs : Int) := by omega
  have hcut := fun W => cut_headI g 0 (m1 + 1) cs m1 W (by omega)
  have HM1L := Lib.hid hm1
  have HHL := Lib.hid hst
  clear hOW hS hst hm1 hpos
  clear m I hr
  go_enter Try.func35, Try.ntmps35
  go_wp2_with fail
  go_quiet (fail)
  obtain ⟨W1, hW1⟩ : ∃ x, ((w.alloc (.cells #[.int .i64 2, .int .i64 (t : Int), .int .i64 (q : Int), .int .i64 x3, .int .i64 x4] 31)).drewN nq) = x := ⟨_, rfl⟩
  have HZ1 := Lib.hid (show W1.heap.size = w.heap.size + 1 by rw [← hW1]; simp)
  have HB1 := Lib.hid (show Below w.heap.size w W1 by rw [← hW1]; exact ((Below.refl _ _).alloc (Nat.le_refl _) _).trans (below_drewN _ _))
  have HR1 := Lib.hid (show RB w.heap.size 2 (t : Int) (q : Int) x3 x4 W1 by rw [← hW1]; exact (RB.start w 2 (t : Int) (q : Int) x3 x4).keep (below_drewN _ _))
  rw [hW1]
  clear hW1
  have HM1 := Lib.hid (HM.out.keep HB1.out)
  replace c0 := (HM1.out.tx ht).1
  replace c1 := (HM1.out.tx ht).2.1
  replace f1 := HM1.out.froz (5 + t * 4 + 1)
  have r0 := HR1.out.c0
  have HM2 := Lib.hid (HM1.out.bg true HL.out.1 ht)
  rw [H1.out] at HM2
  have HA2 := HM2
  have HR2 := Lib.hid (HR1.out.set (a := ⟨hb, 5 + t * 4 + 1, none⟩) hne (.bool true))
  have HB2 := Lib.hid (show Below B W1 (W1.setCell ⟨hb, 5 + t * 4 + 1, none⟩ (.bool true)) from (Below.refl _ _).setCell (by omega) _)
  go_wp2_with fail
  obtain ⟨W2, hW2⟩ : ∃ x, W1.setCell ⟨hb, 5 + t * 4 + 1, none⟩ (.bool true) = x := ⟨_, rfl⟩
  rw [hW2] at HM2 HA2 HR2 HB2 ⊢
  clear hW2 c0 c1 f1 r0
  have c0 := (HM2.out.tx ht).1
  rw [HS.out] at c0
  have f0 := HM2.out.froz (5 + t * 4)
  have H1T := Lib.hid (show h1.t t = ⟨(h.t t).st, true, (h.t t).bk, (h.t t).fin⟩ by rw [← H1.out]; exact HTT.out _)
  have hOW := HM2.out.s t ht
  rw [H1T.out, HS.out] at hOW
  simp only [HM1L.out] at hOW
  have hOW2 := HLESS.out _ hOW
  rw [HDL.out.1] at hOW2
  have HM3 := Lib.hid (HAt.st (s' := .slice (some ⟨g, 0, none⟩) m1 cs) (st' := (h.t t).st.dropLast) (W := W2) (by rw [← H1.out]; simp [setT, HL.out.1]) ht
    HM2.out.r HM2.out.w HM2.out.hw (fun t' ht' hne' => HM2.out.s t' ht') (by rw [HDL.out.2]; exact hOW2)
    HM2.out.d HM2.out.hs HM2.out.ws
    (fun t' ht' hne' => by
      have := HM2.out.d t' t ht' ht hne'
      rw [HS.out] at this
      exact this)
    (by have := HM2.out.hs t ht; rw [HS.out] at this; exact this)
    (by have := HM2.out.ws t ht; rw [HS.out] at this; exact this))
  clear hOW hOW2
  have r0 := HR2.out.c0
  obtain ⟨h2, hh2⟩ : ∃ x, setT h1 t ⟨(h.t t).st.dropLast, (h1.t t).bg, (h1.t t).bk, (h1.t t).fin⟩ = x := ⟨_, rfl⟩
  rw [hh2] at HM3
  have H2 := Lib.hid hh2; clear hh2
  have HL2 := Lib.hid (show h2.tx.length = 5 ∧ h2.wd.length = 3 from by
    rw [← H2.out, ← H1.out]; simp [setT, HL.out.1, HL.out.2.2])
  go_region_with fail
  all_goals
    obtain ⟨W3, hW3⟩ : ∃ x, (W2.setCell ⟨hb, 5 + t * 4, none⟩ (.slice (some ⟨g, 0, none⟩) m1 cs)).drew = x := ⟨_, rfl⟩
    have HR3 := Lib.hid ((HR2.out.set (a := ⟨hb, 5 + t * 4, none⟩) hne (.slice (some ⟨g, 0, none⟩) m1 cs)).keep (Below.drew (Below.refl _ _)))
    have HM4 := Lib.hid (HM3.out.keep (Below.drew (Below.refl _ _)))
    have HB3 := Lib.hid (show Below B W2 ((W2.setCell ⟨hb, 5 + t * 4, none⟩ (.slice (some ⟨g, 0, none⟩) m1 cs)).drew) from Below.drew ((Below.refl _ _).setCell (by omega) _))
    rw [hW3] at HR3 HM4 HB3 ⊢
    clear hW3 c0 f0 r0
    have c2 := (HM4.out.tx ht).2.2.1
    have f2 := HM4.out.froz (5 + t * 4 + 2)
    have HM5 := Lib.hid (HM4.out.bk true HL2.out.1 ht)
    have HR5 := Lib.hid (HR3.out.set (a := ⟨hb, 5 + t * 4 + 2, none⟩) hne (.bool true))
    have HB5 := Lib.hid (show Below B W3 (W3.setCell ⟨hb, 5 + t * 4 + 2, none⟩ (.bool true)) from (Below.refl _ _).setCell (by omega) _)
    go_wp2_with fail
    obtain ⟨W5, hW5⟩ : ∃ x, W3.setCell ⟨hb, 5 + t * 4 + 2, none⟩ (.bool true) = x := ⟨_, rfl⟩
    rw [hW5] at HM5 HR5 HB5 ⊢
    clear hW5 c2 f2
    have r0 := HR5.out.c0
    have r1 := HR5.out.c1
    have r2 := HR5.out.c2
    have r3 := HR5.out.c3
    have r4 := HR5.out.c4
    have cw := HM5.out.words
    have HPU := Lib.hid (fun (f : Nat → Value) W (m9 : RowG W B 3 wb 3 f) => putTo_any 2 (t : Int) x3 x4 q wb 0 0 B _ _ W (.inr rfl) m9 hq)
    go_region_with (go_at_call 27; refine (HPU.out _ _ (HM5.out.keep (Below.drew (Below.refl _ _))).w).mono ?_; rintro e w6 ⟨rfl, hb6⟩)
    all_goals
      go_wp2_with fail
      go_end0
      have HM6 := (HM5.out.keep (Below.drew (Below.refl _ _))).wd (p := q) (x := x4) HL2.out.2 hq
      have h9 := HM6.keep (hb6.mono (by simp))
      rw [add2_eq h k t q x3 x4 h1 h2 HL.out.1 ht H1.out H2.out] at h9
      have hz1 : B ≤ W1.heap.size := by have := HZ1.out; omega
      have hz5 : B ≤ W5.heap.size := Nat.le_trans hz1 (Nat.le_trans HB2.out.size (Nat.le_trans HB3.out.size HB5.out.size))
      exact ⟨rfl, ⟨_, h9⟩, (HB1.out.mono (by omega)).trans (HB2.out.trans (HB3.out.trans (HB5.out.trans (((Below.drew (Below.refl _ _)).setCell hl3 _).trans (hb6.mono hz5)))))⟩

set_option maxRecDepth 100000 in
set_option maxHeartbeats 8000000 in
theorem add3_any (B hb wb : Nat) (A : Option Addr) (n c : Nat) (sv : Nat → Value) (l : List Rc) (k : Nat) (h : HP) (t : Nat) (x0 x2 x3 x4 : Int) (w : World) (m : HAt B hb wb (.slice A n c) sv h w) (I : Inv l k h)
    (hr : RowAt w B A (rcsC l)) (hn : n = l.length) (hs : n ≤ 1048576) (hk : k < n) (he : l.getD k rc0 = (x0, (t : Int), x2, x3, x4)) (ht : t < 5) (hk34 : x0 = 3 ∨ x0 = 4) :
    Calls Try.prog 35 #[.pointer (some ⟨hb, 0, none⟩), .int .i64 (k : Int)] w fun e w' => e = .returned (.tuple #[]) ∧ (∃ sv', HAt B hb wb (.slice A n c) sv' (addP h k (x0, (t : Int), x2, x3, x4)) w') ∧ Below B w w' := by
  obtain ⟨hl1, hl2, hl3, hl4⟩ := m.lt
  have hkl : k < l.length := by omega
  obtain ⟨b, off, rfl, hbB, e0, e1, e2, e3, e4⟩ := rc_cells_at hr hkl
  unfold kd at e0
  unfold tn at e1
  unfold pl at e2
  unfold bf at e3
  unfold af at e4
  rw [he] at e0 e1 e2 e3 e4
  simp only at e0 e1 e2 e3 e4
  clear he
  have HN := Lib.hid hn; clear hn
  have hcl := m.list
  have hkn : (k : Int) < (n : Int) := by omega
  have hk0 : (0 : Int) ≤ (k : Int) := by omega
  have ht0 : (0 : Int) ≤ (t : Int) := by omega
  have ht5 : (t : Int) < 5 := by omega
  have k1 : (x0 == 1) = false := by simp; omega
  have k2 : (x0 == 2) = false := by simp; omega
  have hbw : b < w.heap.size := by omega
  have HM := Lib.hid m
  obtain ⟨c0, c1, _, _⟩ := m.tx ht
  have f1 := m.froz (5 + t * 4 + 1)
  have hne : ¬ (w.heap.size = hb) := by omega
  have hne2 : ¬ (hb = w.heap.size) := by omega
  have hlen := st_le I t
  have HL := Lib.hid (And.intro I.lt (And.intro I.lr I.lw))
  have HTT := Lib.hid (fun x => t_setT h t x I.lt ht)
  obtain ⟨h1, hh1⟩ : ∃ x, setT h t ⟨(h.t t).st, true, (h.t t).bk, (h.t t).fin⟩ = x := ⟨_, rfl⟩
  have H1 := Lib.hid hh1
  obtain ⟨i0, hi0, hz0, hz1, hz2⟩ := info_parts intInfo
  have HI := Lib.hid (And.intro hi0 (And.intro hz0 (And.intro hz1 hz2))); clear hi0 hz0 hz1 hz2
  clear m I hr
  go_enter Try.func35, Try.ntmps35
  go_wp2_with fail
  go_quiet (fail)
  obtain ⟨W1, hW1⟩ : ∃ x, ((w.alloc (.cells #[.int .i64 x0, .int .i64 (t : Int), .int .i64 x2, .int .i64 x3, .int .i64 x4] 31)).drewN nq) = x := ⟨_, rfl⟩
  have HZ1 := Lib.hid (show W1.heap.size = w.heap.size + 1 by rw [← hW1]; simp)
  have HB1 := Lib.hid (show Below w.heap.size w W1 by rw [← hW1]; exact ((Below.refl _ _).alloc (Nat.le_refl _) _).trans (below_drewN _ _))
  have HR1 := Lib.hid (show RB w.heap.size x0 (t : Int) x2 x3 x4 W1 by rw [← hW1]; exact (RB.start w x0 (t : Int) x2 x3 x4).keep (below_drewN _ _))
  rw [hW1]
  clear hW1
  have HM1 := Lib.hid (HM.out.keep HB1.out)
  replace c0 := (HM1.out.tx ht).1
  replace c1 := (HM1.out.tx ht).2.1
  replace f1 := HM1.out.froz (5 + t * 4 + 1)
  have r0 := HR1.out.c0
  have HM2 := Lib.hid (HM1.out.bg true HL.out.1 ht)
  rw [H1.out] at HM2
  have HR2 := Lib.hid (HR1.out.set (a := ⟨hb, 5 + t * 4 + 1, none⟩) hne (.bool true))
  have HB2 := Lib.hid (show Below B W1 (W1.setCell ⟨hb, 5 + t * 4 + 1, none⟩ (.bool true)) from (Below.refl _ _).setCell (by omega) _)
  have f3 := HM1.out.froz (5 + t * 4 + 3)
  have c3 := (HM1.out.tx ht).2.2.2
  have hh1l : h1.tx.length = 5 := by rw [← H1.out]; simp [setT, HL.out.1]
  have HM3 := Lib.hid (HM2.out.fn x0 hh1l ht)
  have HR3 := Lib.hid (HR2.out.set (a := ⟨hb, 5 + t * 4 + 3, none⟩) hne (.int .i64 x0))
  have HB3 := Lib.hid (show Below B (W1.setCell ⟨hb, 5 + t * 4 + 1, none⟩ (.bool true)) ((W1.setCell ⟨hb, 5 + t * 4 + 1, none⟩ (.bool true)).setCell ⟨hb, 5 + t * 4 + 3, none⟩ (.int .i64 x0)) from (Below.refl _ _).setCell (by omega) _)
  go_wp2_with fail
  obtain ⟨W5, hW5⟩ : ∃ x, (W1.setCell ⟨hb, 5 + t * 4 + 1, none⟩ (.bool true)).setCell ⟨hb, 5 + t * 4 + 3, none⟩ (.int .i64 x0) = x := ⟨_, rfl⟩
  rw [hW5] at HM3 HR3 HB3 ⊢
  clear hW5 c0 c1 f1 r0 f3 c3
  have r0 := HR3.out.c0
  have r1 := HR3.out.c1
  have r2 := HR3.out.c2
  have r3 := HR3.out.c3
  have r4 := HR3.out.c4
  have cw := HM3.out.words
  have HPU := Lib.hid (fun v W => putTo_not x0 (t : Int) x2 x3 x4 v W (by omega) (by omega))
  go_region_with (go_at_call 27; refine (HPU.out _ _).mono ?_; rintro e w6 ⟨rfl, hb6⟩)
  all_goals
    go_wp2_with fail
    go_end0
    have h9 := (HM3.out.keep (Below.drew (Below.refl _ _))).keep hb6
    rw [add3_eq h k t x0 x2 x3 x4 h1 hk34 HL.out.1 ht H1.out] at h9
    have hz1 : B ≤ W1.heap.size := by have := HZ1.out; omega
    have hz5 : B ≤ W5.heap.size := Nat.le_trans hz1 (Nat.le_trans HB2.out.size HB3.out.size)
    exact ⟨rfl, ⟨_, h9⟩, (HB1.out.mono (by omega)).trans (HB2.out.trans (HB3.out.trans ((Below.drew (Below.refl _ _)).trans (hb6.mono hz5))))⟩
end Go.Proofs.Ythpfijhmdeciaaa
