/- Contract of the model's ValidRecs (chapter 6). Conditions: the records lie in a row; they are few. -/
import Derived.Test.YthpfijhmdeciaaaRecT
import Derived.Test.YthpfijhmdeciaaaRecG
set_option linter.unusedVariables false
set_option linter.unusedSimpArgs false
namespace Go.Proofs.Ythpfijhmdeciaaa
open Go.RowKit Go.ChangeShapes Go.WideShapes

theorem boolInfo : (Try.prog.info? 4).map (fun i => (i.zero, i.size, i.bytes)) = some (some (.bool false), 1, 1) := by kernel_rfl

def ownF (h : HP) (q : Nat) : Value := .int .i64 (ownS h q : Int)
def doneF (h : HP) (q : Nat) : Value := .bool (decide ((h.t q).fin ≠ 0))
structure MS (w : World) (g1 g2 g3 : Nat) (h : HP) (wr : World) : Prop where
  hb : Below w.heap.size w wr
  a : RowG wr w.heap.size 3 g1 3 (nowF h)
  o : RowG wr w.heap.size 3 g2 3 (ownF h)
  d : RowG wr w.heap.size 4 g3 5 (doneF h)
theorem MS.keep {w wr W : World} {g1 g2 g3 : Nat} {h : HP} (m : MS w g1 g2 g3 h wr) (hb : Below wr.heap.size wr W) : MS w g1 g2 g3 h W :=
  ⟨m.hb.trans (hb.mono m.hb.size), m.a.keep hb, m.o.keep hb, m.d.keep hb⟩
theorem validP_fail (l : List Rc) (k : Nat) (h : HP) (hk : k < l.length) (hh : histP l k = some h) (hm : mayP l h (l.getD k rc0) = false) : validP l = false := by
  have h1 : histP l (k + 1) = none := by
    unfold histP; rw [hh]; simp only; rw [if_neg (by rw [hm]; simp)]
  have h2 := hist_none l (k + 1) h1 l.length (by omega)
  unfold validP
  rw [h2]; simp
theorem hist_next (l : List Rc) (k : Nat) (h : HP) (hh : histP l k = some h) (hm : mayP l h (l.getD k rc0) = true) : histP l (k + 1) = some (addP h k (l.getD k rc0)) := by
  unfold histP; rw [hh]; simp only; rw [if_pos hm]
theorem validP_done (l : List Rc) (h : HP) (hh : histP l l.length = some h) : validP l = decide (l.length ≤ 24) := by
  unfold validP; rw [hh]; simp

theorem ownF_add1 {l : List Rc} {k : Nat} {h : HP} (I : Inv l k h) (r : Rc) (t p : Nat) (hk : r.1 = 1) (ht : r.2.1 = t) (ht4 : t ≤ 4) (hf : (h.t t).fin = 0) (hp : r.2.2.1 = p) (hp2 : p < 3) (j : Nat) : (if j = p then Value.int .i64 (t : Int) else ownF h j) = ownF (addP h k r) j := by
  unfold ownF
  rw [own_add1 I r t p hk ht ht4 hf hp (by omega) j]
  by_cases e : j = p
  · rw [if_pos e, if_pos e.symm]
  · rw [if_neg e, if_neg (fun e2 => e e2.symm)]
theorem doneF_add {l : List Rc} {k : Nat} {h : HP} (I : Inv l k h) (r : Rc) (t : Nat) (hk : r.1 = 1 ∨ r.1 = 2) (ht : r.2.1 = t) (ht4 : t ≤ 4) (j : Nat) : doneF h j = doneF (addP h k r) j := by
  unfold doneF
  rw [fin_add l k h r t j I.lt ht ht4, if_pos hk]
theorem doneF_add3 {l : List Rc} {k : Nat} {h : HP} (I : Inv l k h) (r : Rc) (t : Nat) (hk : r.1 = 3 ∨ r.1 = 4) (ht : r.2.1 = t) (ht4 : t ≤ 4) (j : Nat) : (if j = t then Value.bool true else doneF h j) = doneF (addP h k r) j := by
  unfold doneF
  have e9 := fin_add l k h r t j I.lt ht ht4
  rw [if_neg (by omega)] at e9
  rw [e9]
  by_cases e : j = t
  · rw [if_pos e, if_pos e.symm]
    rcases hk with h1 | h1 <;> rw [h1] <;> rfl
  · rw [if_neg e, if_neg (fun e2 => e e2.symm)]
theorem open_of_last {l : List Rc} {k : Nat} {h : HP} (I : Inv l k h) {t : Nat} (hf : (h.t t).fin = 0) {i : Nat} (hi : i ∈ (h.t t).st) : (h.t t).opn = true := st_open I hf (List.ne_nil_of_mem hi)
structure MS2 (w : World) (g1 g2 g3 R : Nat) (h h' : HP) (x0 : Int) (t p : Nat) (wr : World) : Prop where
  hb : Below w.heap.size w wr
  a : RowG wr w.heap.size 3 g1 3 (nowF h')
  o : RowG wr w.heap.size 3 g2 3 (fun j => if j < p then ownF h' j else ownF h j)
  d : RowG wr w.heap.size 4 g3 5 (doneF h')
  c0 : wr.cell? ⟨R, 0, none⟩ = some (.int .i64 x0)
  c1 : wr.cell? ⟨R, 1, none⟩ = some (.int .i64 (t : Int))
  le : R < wr.heap.size
theorem MS2.keep {w wr W : World} {g1 g2 g3 R : Nat} {h h' : HP} {x0 : Int} {t p : Nat} (m : MS2 w g1 g2 g3 R h h' x0 t p wr) (hb : Below wr.heap.size wr W) : MS2 w g1 g2 g3 R h h' x0 t p W :=
  ⟨m.hb.trans (hb.mono m.hb.size), m.a.keep hb, m.o.keep hb, m.d.keep hb, (hb.cell (p := ⟨R, 0, none⟩) m.le).trans m.c0, (hb.cell (p := ⟨R, 1, none⟩) m.le).trans m.c1, Nat.lt_of_lt_of_le m.le hb.size⟩
theorem MS2.skip {w wr : World} {g1 g2 g3 R : Nat} {h h' : HP} {x0 : Int} {t p : Nat} (m : MS2 w g1 g2 g3 R h h' x0 t p wr) (he : ownF h p = ownF h' p) : MS2 w g1 g2 g3 R h h' x0 t (p + 1) wr :=
  ⟨m.hb, m.a, m.o.congr (fun j _ => by
    by_cases h1 : j < p
    · rw [if_pos h1, if_pos (by omega)]
    · rw [if_neg h1]
      by_cases h2 : j = p
      · subst h2; rw [if_pos (by omega)]; exact he
      · rw [if_neg (by omega)]), m.d, m.c0, m.c1, m.le⟩
theorem MS2.zero {w wr : World} {g1 g2 g3 R : Nat} {h h' : HP} {x0 : Int} {t p : Nat} (m : MS2 w g1 g2 g3 R h h' x0 t p wr) (he : Value.int .i64 0 = ownF h' p) (h12 : g1 ≠ g2) (h32 : g3 ≠ g2) (hR : R ≠ g2) : MS2 w g1 g2 g3 R h h' x0 t (p + 1) (wr.setCell ⟨g2, p, none⟩ (.int .i64 0)) :=
  ⟨m.hb.setCell (m.o.lt.1) _, m.a.other h12 _, (m.o.set p _).congr (fun j _ => by
    by_cases h2 : j = p
    · subst h2; rw [if_pos rfl, if_pos (by omega)]; exact he
    · rw [if_neg h2]
      by_cases h1 : j < p
      · rw [if_pos h1, if_pos (by omega)]
      · rw [if_neg h1, if_neg (by omega)]), m.d.other h32 _, (World.cell?_setCell_far _ _ _ _ (Ne.symm hR)).trans m.c0, (World.cell?_setCell_far _ _ _ _ (Ne.symm hR)).trans m.c1, by simpa using m.le⟩

set_option maxRecDepth 100000 in
set_option maxHeartbeats 40000000 in
theorem sValid_any (A : Option Addr) (n c : Nat) (l : List Rc) (w : World) (hr : RowAt w w.heap.size A (rcsC l)) (hn : n = l.length) (hs : n ≤ 1048576) (hnc : n ≤ c) :
    Calls Try.prog 23 #[.slice A n c] w fun e w' => e = .returned (.bool (validP l)) ∧ Below w.heap.size w w' := by
  have HR := Lib.hid hr; clear hr
  have HN := Lib.hid hn; clear hn
  obtain ⟨i0, hi0, hz0, hz1, hz2⟩ := info_parts intInfo
  have HI := Lib.hid (And.intro hi0 (And.intro hz0 (And.intro hz1 hz2))); clear hi0 hz0 hz1 hz2
  obtain ⟨j0, hi0, hz0, hz1, hz2⟩ := info_parts boolInfo
  have HJ := Lib.hid (And.intro hi0 (And.intro hz0 (And.intro hz1 hz2))); clear hi0 hz0 hz1 hz2
  have hb3 : i0.bytes * 3 ≤ 281474976710656 := by rw [HI.out.2.2.2]; omega
  have hb5 : j0.bytes * 5 ≤ 281474976710656 := by rw [HJ.out.2.2.2]; omega
  go_enter Try.func23, Try.ntmps23
  go_wp2_with (first
    | (refine wpList_make_full _ rfl _ _ 27 rfl w.heap.size 3 i0 (.int .i64 0) 1 Try.underlying27 HI.out.1 HI.out.2.1 HI.out.2.2.1 .i64 .i64 _ _ 3 rfl rfl rfl rfl hb3 (by unfold maxLen; omega) (Nat.le_refl _) ?_
       intro w1 hown hg1
       have HA1 := Lib.hid (RowG.start hown rfl)
       have HG1 := Lib.hid (Below.grown (Below.refl w.heap.size w) hg1 (Nat.le_refl _) (by simp))
       clear hown hg1)
    | (refine wpList_make_full _ rfl _ _ 27 rfl w.heap.size 3 i0 (.int .i64 0) 1 Try.underlying27 HI.out.1 HI.out.2.1 HI.out.2.2.1 .i64 .i64 _ _ 3 rfl rfl rfl rfl hb3 (by unfold maxLen; omega) HG1.out.size ?_
       intro w2 hown hg2
       have HA2 := Lib.hid (RowG.start hown rfl)
       have HG2 := Lib.hid (Below.grown (Below.refl w1.heap.size w1) hg2 (Nat.le_refl _) (by simp))
       clear hown hg2)
    | (refine wpList_make_full _ rfl _ _ 56 rfl w.heap.size 4 j0 (.bool false) 1 Try.underlying56 HJ.out.1 HJ.out.2.1 HJ.out.2.2.1 .i64 .i64 _ _ 5 rfl rfl rfl rfl hb5 (by unfold maxLen; omega) (Nat.le_trans HG1.out.size HG2.out.size) ?_
       intro w3 hown hg3
       have HA3 := Lib.hid (RowG.start hown rfl)
       have HG3 := Lib.hid (Below.grown (Below.refl w2.heap.size w2) hg3 (Nat.le_refl _) (by simp))
       clear hown hg3))
  have h12 : w.heap.size < w1.heap.size := HA1.out.lt.2
  have h23 : w1.heap.size < w2.heap.size := HA2.out.lt.2
  have hn12 : ¬ (w.heap.size = w1.heap.size) := by omega
  have hn13 : ¬ (w.heap.size = w2.heap.size) := by omega
  have hn23 : ¬ (w1.heap.size = w2.heap.size) := by omega
  have hn21 : ¬ (w1.heap.size = w.heap.size) := by omega
  have hn31 : ¬ (w2.heap.size = w.heap.size) := by omega
  have hn32 : ¬ (w2.heap.size = w1.heap.size) := by omega
  have HS0 := Lib.hid (show MS w w.heap.size w1.heap.size w2.heap.size h0 w3 from by
    refine ⟨HG1.out.trans ((HG2.out.mono HG1.out.size).trans (HG3.out.mono (Nat.le_trans HG1.out.size HG2.out.size))), ?_, ?_, ?_⟩
    · refine ((HA1.out.keep HG2.out).keep HG3.out).congr (fun q hq => ?_)
      match q, hq with
      | 0, _ => rfl
      | 1, _ => rfl
      | 2, _ => rfl
    · refine (HA2.out.keep HG3.out).congr (fun q hq => ?_)
      match q, hq with
      | 0, _ => rfl
      | 1, _ => rfl
      | 2, _ => rfl
    · refine HA3.out.congr (fun q hq => ?_)
      match q, hq with
      | 0, _ => rfl
      | 1, _ => rfl
      | 2, _ => rfl
      | 3, _ => rfl
      | 4, _ => rfl)
  clear HA1 HA2 HA3 HG1 HG2 HG3 hb3 hb5 HI HJ
  obtain ⟨G1, hG1⟩ : ∃ g, w.heap.size = g := ⟨_, rfl⟩
  obtain ⟨G2, hG2⟩ : ∃ g, w1.heap.size = g := ⟨_, rfl⟩
  obtain ⟨G3, hG3⟩ : ∃ g, w2.heap.size = g := ⟨_, rfl⟩
  have HG := Lib.hid hG1
  rw [hG2, hG3] at HS0
  simp only [hG2, hG3] at *
  clear hG2 hG3 hG1
  go_loopw [6] (fun i wr => ∃ (k : Nat) (h : HP), i = .int .i64 k ∧ k ≤ n ∧ histP l k = some h ∧ MS w w.heap.size G2 G3 h wr) (fun i _ => n - (intOf i).toNat)
  case atStart => exact ⟨0, h0, rfl, by omega, rfl, HS0.out⟩
  case round =>
    clear HS0
    obtain ⟨k, h, rfl, hk, hh, hms⟩ := hrel
    have HH := Lib.hid hh; clear hh
    have HS := Lib.hid hms; clear hms
    by_cases hlt : k < n
    · have hkl : k < l.length := by have := HN.out; omega
      obtain ⟨b, off, rfl, hbw, e0, e1, e2, e3, e4⟩ := rc_cells_at (HR.out.below HS.out.hb) hkl
      have hbw2 : b < wr.heap.size := Nat.lt_of_lt_of_le hbw HS.out.hb.size
      have HV := Lib.hid (hist_inv l k h HH.out)
      have HFAIL := Lib.hid (validP_fail l k h hkl HH.out)
      have HNEXT := Lib.hid (hist_next l k h HH.out)
      have HBK := Lib.hid (fun (t : Nat) c W (hb : Below w.heap.size w W) => backs_any (some ⟨b, off, none⟩) k c l t W ((HR.out.below hb).mono hb.size) (by omega) (by omega))
      have HUA := Lib.hid (fun (t : Nat) c W (hb : Below w.heap.size w W) => undoAt_any (some ⟨b, off, none⟩) k c l t W ((HR.out.below hb).mono hb.size) (by omega) (by omega))
      have HLA := Lib.hid (fun t => ua_last HV.out t)
      have hl1 := HS.out.a.lt.2
      have hl2 := HS.out.o.lt.2
      have hl3 := HS.out.d.lt.2
      have hcut := fun W => cut_headR b off n c k W (by omega)
      have HB := Lib.hid HS.out.hb
      have hsz : w.heap.size ≤ wr.heap.size := HS.out.hb.size
      unfold kd at e0
      unfold tn at e1
      unfold pl at e2
      unfold bf at e3
      unfold af at e4
      generalize hrr : l.getD k rc0 = r at *
      obtain ⟨x0, x1, x2, x3, x4⟩ := r
      simp only at e0 e1 e2 e3 e4
      have HRR := Lib.hid hrr; clear hrr
      go_wp2_with fail
      by_cases d1 : 1 ≤ x1 ∧ x1 ≤ 4
      rotate_left
      · have HIT := Lib.hid (fun W => (show Calls Try.prog 36 #[.int .i64 x1, .int .i64 1, .int .i64 4] W fun e w' => e = .returned (.bool false) ∧ w' = W by have := inRange_any x1 1 4 W; rw [show (decide ((1 : Int) ≤ x1) && decide (x1 ≤ 4)) = false by simp; omega] at this; exact this))
        have HF := Lib.hid (show validP l = false from HFAIL.out (by
            unfold mayP
            simp only
            rw [show (decide ((1 : Int) ≤ x1) && decide (x1 ≤ 4)) = false by simp; omega]
            rfl
          ))
        refine (HIT.out _).mono ?_
        rintro e w4 ⟨rfl, hw4⟩
        obtain rfl := hw4.symm
        go_wp2_with fail
        go_ret
        exact ⟨by rw [HF.out]; rfl, by repeat (first | with_reducible exact HB.out | with_reducible refine Below.trans ?_ (below_drewN _ _) | (refine Below.setCell ?_ (by first | exact Nat.le_refl _ | (show w.heap.size ≤ G2; omega) | (show w.heap.size ≤ G3; omega)) _) | (refine Below.alloc ?_ (by first | omega | (simp; omega)) _))⟩
      have HIT := Lib.hid (fun W => (show Calls Try.prog 36 #[.int .i64 x1, .int .i64 1, .int .i64 4] W fun e w' => e = .returned (.bool true) ∧ w' = W by have := inRange_any x1 1 4 W; rw [show (decide ((1 : Int) ≤ x1) && decide (x1 ≤ 4)) = true by simp; omega] at this; exact this))
      obtain ⟨t, rfl⟩ : ∃ t : Nat, x1 = (t : Int) := ⟨x1.toNat, by omega⟩
      have ht1 : 1 ≤ t := by omega
      have ht4 : t ≤ 4 := by omega
      clear d1
      have ht5 : (t : Int) < 5 := by omega
      have ht0 : (0 : Int) ≤ (t : Int) := by omega
      obtain ⟨cd, fd⟩ := HS.out.d.cell (show t < 5 by omega)
      unfold doneF at cd
      have HM0 := Lib.hid (show mayP l h (x0, (t : Int), x2, x3, x4) = (decide ((h.t t).fin = 0) && mayK l h (x0, (t : Int), x2, x3, x4)) by
          unfold mayP
          simp only [Int.toNat_natCast]
          rw [show (decide ((1 : Int) ≤ (t : Int)) && decide ((t : Int) ≤ 4)) = true by simp; omega]; rfl)
      have HBK := Lib.hid (HBK.out t)
      have HUA := Lib.hid (HUA.out t)
      rw [HLA.out t] at HUA
      clear HLA
      by_cases hf : (h.t t).fin = 0
      rotate_left
      · have hfd : decide ((h.t t).fin ≠ 0) = true := by simpa using hf
        rw [hfd] at cd
        have HF := Lib.hid (show validP l = false from HFAIL.out (by
            rw [HM0.out]
            simp [hf]
          ))
        refine (HIT.out _).mono ?_
        rintro e w4 ⟨rfl, hw4⟩
        obtain rfl := hw4.symm
        go_wp2_with fail
        go_ret
        exact ⟨by rw [HF.out]; rfl, by repeat (first | with_reducible exact HB.out | with_reducible refine Below.trans ?_ (below_drewN _ _) | (refine Below.setCell ?_ (by first | exact Nat.le_refl _ | (show w.heap.size ≤ G2; omega) | (show w.heap.size ≤ G3; omega)) _) | (refine Below.alloc ?_ (by first | omega | (simp; omega)) _))⟩
      have hfd : decide ((h.t t).fin ≠ 0) = false := by simpa using hf
      rw [hfd] at cd
      have HM := Lib.hid (show mayP l h (x0, (t : Int), x2, x3, x4) = mayK l h (x0, (t : Int), x2, x3, x4) by rw [HM0.out, hf]; rfl)
      clear HM0 hfd
      have HFI := Lib.hid hf; clear hf
      refine (HIT.out _).mono ?_
      rintro e w4 ⟨rfl, hw4⟩
      obtain rfl := hw4.symm
      clear HIT
      by_cases h1 : x0 = 1
      · as_aux_lemma =>
          subst h1
          have HMW := Lib.hid (may_write HV.out ((1 : Int), (t : Int), x2, x3, x4) t rfl ht1)
          have HMK := Lib.hid (show mayP l h ((1 : Int), (t : Int), x2, x3, x4) = mayW h ((1 : Int), (t : Int), x2, x3, x4) from HM.out)
          clear HM
          simp only at HMW
          by_cases dp : 0 ≤ x2 ∧ x2 ≤ 2
          rotate_left
          · have HIP := Lib.hid (fun W => (show Calls Try.prog 36 #[.int .i64 x2, .int .i64 0, .int .i64 2] W fun e w' => e = .returned (.bool false) ∧ w' = W by have := inRange_any x2 0 2 W; rw [show (decide ((0 : Int) ≤ x2) && decide (x2 ≤ 2)) = false by simp; omega] at this; exact this))
            have HF := Lib.hid (show validP l = false from HFAIL.out (by
                rw [HMK.out]
                cases hq9 : mayW h _ with
                | false => rfl
                | true =>
                  have h := HMW.out.1 hq9
                  exfalso
                  exact dp ⟨h.1, h.2.1⟩
              ))
            go_wp2_with fail
            go_quiet ((first
              | (go_at_call 36; with_reducible exact Calls.quiet_of_same (HIP.out _))
              | fail))
            go_wp2_with fail
            go_ret
            exact ⟨by rw [HF.out]; rfl, by repeat (first | with_reducible exact HB.out | with_reducible refine Below.trans ?_ (below_drewN _ _) | (refine Below.setCell ?_ (by first | exact Nat.le_refl _ | (show w.heap.size ≤ G2; omega) | (show w.heap.size ≤ G3; omega)) _) | (refine Below.alloc ?_ (by first | omega | (simp; omega)) _))⟩
          have HIP := Lib.hid (fun W => (show Calls Try.prog 36 #[.int .i64 x2, .int .i64 0, .int .i64 2] W fun e w' => e = .returned (.bool true) ∧ w' = W by have := inRange_any x2 0 2 W; rw [show (decide ((0 : Int) ≤ x2) && decide (x2 ≤ 2)) = true by simp; omega] at this; exact this))
          obtain ⟨q, rfl⟩ : ∃ q : Nat, x2 = (q : Int) := ⟨x2.toNat, by omega⟩
          have hq3 : q < 3 := by omega
          clear dp
          have hq3i : (q : Int) < 3 := by omega
          have hq0 : (0 : Int) ≤ (q : Int) := by omega
          obtain ⟨ca, fa⟩ := HS.out.a.cell hq3
          obtain ⟨co, fo⟩ := HS.out.o.cell hq3
          unfold nowF at ca
          unfold ownF at co
          by_cases da : 0 ≤ x4 ∧ x4 ≤ 9
          rotate_left
          · have HIA := Lib.hid (fun W => (show Calls Try.prog 36 #[.int .i64 x4, .int .i64 0, .int .i64 9] W fun e w' => e = .returned (.bool false) ∧ w' = W by have := inRange_any x4 0 9 W; rw [show (decide ((0 : Int) ≤ x4) && decide (x4 ≤ 9)) = false by simp; omega] at this; exact this))
            have HF := Lib.hid (show validP l = false from HFAIL.out (by
                rw [HMK.out]
                cases hq9 : mayW h _ with
                | false => rfl
                | true =>
                  have h := HMW.out.1 hq9
                  exfalso
                  exact da ⟨h.2.2.1, h.2.2.2.1⟩
              ))
            go_wp2_with fail
            go_quiet ((first
              | (go_at_call 36; with_reducible exact Calls.quiet_of_same (HIP.out _))
              | (go_at_call 36; with_reducible exact Calls.quiet_of_same (HIA.out _))
              | fail))
            go_wp2_with fail
            go_ret
            exact ⟨by rw [HF.out]; rfl, by repeat (first | with_reducible exact HB.out | with_reducible refine Below.trans ?_ (below_drewN _ _) | (refine Below.setCell ?_ (by first | exact Nat.le_refl _ | (show w.heap.size ≤ G2; omega) | (show w.heap.size ≤ G3; omega)) _) | (refine Below.alloc ?_ (by first | omega | (simp; omega)) _))⟩
          have HIA := Lib.hid (fun W => (show Calls Try.prog 36 #[.int .i64 x4, .int .i64 0, .int .i64 9] W fun e w' => e = .returned (.bool true) ∧ w' = W by have := inRange_any x4 0 9 W; rw [show (decide ((0 : Int) ≤ x4) && decide (x4 ≤ 9)) = true by simp; omega] at this; exact this))
          obtain ⟨y, hy⟩ : ∃ y, h.w q = y := ⟨_, rfl⟩
          rw [hy] at ca
          have HY := Lib.hid hy; clear hy
          obtain ⟨z, hz⟩ : ∃ z, ownS h q = z := ⟨_, rfl⟩
          rw [hz] at co
          have HZ := Lib.hid hz; clear hz
          by_cases hb9 : x3 = y
          rotate_left
          · have qb : (x3 != y) = true := by simpa using hb9
            rw [← HY.out] at hb9
            have HF := Lib.hid (show validP l = false from HFAIL.out (by
                rw [HMK.out]
                cases hq9 : mayW h _ with
                | false => rfl
                | true =>
                  have h := HMW.out.1 hq9
                  exfalso
                  exact hb9 (by simpa using h.2.2.2.2.1)
              ))
            go_wp2_with fail
            go_quiet ((first
              | (go_at_call 36; with_reducible exact Calls.quiet_of_same (HIP.out _))
              | (go_at_call 36; with_reducible exact Calls.quiet_of_same (HIA.out _))
              | fail))
            go_wp2_with fail
            go_ret
            exact ⟨by rw [HF.out]; rfl, by repeat (first | with_reducible exact HB.out | with_reducible refine Below.trans ?_ (below_drewN _ _) | (refine Below.setCell ?_ (by first | exact Nat.le_refl _ | (show w.heap.size ≤ G2; omega) | (show w.heap.size ≤ G3; omega)) _) | (refine Below.alloc ?_ (by first | omega | (simp; omega)) _))⟩
          have qb : (x3 != y) = false := by simpa using hb9
          by_cases hz0 : z = 0
          · subst hz0
            have qo : (((0 : Nat) : Int) != 0) = false := rfl
            have HOO := Lib.hid (show ownS h q = 0 ∨ ownS h q = t from .inl HZ.out)
            by_cases hn9 : nb l k t = 0
            rotate_left
            · have qn : (0 : Int) < (nb l k t : Int) := by omega
              have HF := Lib.hid (show validP l = false from HFAIL.out (by
                  rw [HMK.out]
                  cases hq9 : mayW h _ with
                  | false => rfl
                  | true => exact absurd (HMW.out.1 hq9).2.2.2.2.2.2 hn9
                ))
              go_wp2_with fail
              go_quiet ((first
                | (go_at_call 36; with_reducible exact Calls.quiet_of_same (HIP.out _))
                | (go_at_call 36; with_reducible exact Calls.quiet_of_same (HIA.out _))
                | fail))
              go_wp2_with fail
              go_quiet ((first
                | (go_at_call 37; with_reducible exact Calls.quiet_of_same (HBK.out _ _ (by repeat (first | with_reducible exact HB.out | with_reducible refine Below.trans ?_ (below_drewN _ _) | (refine Below.setCell ?_ (by first | exact Nat.le_refl _ | (show w.heap.size ≤ G2; omega) | (show w.heap.size ≤ G3; omega)) _) | (refine Below.alloc ?_ (by first | omega | (simp; omega)) _)))))
                | (go_at_call 37; with_reducible exact quiet_of_same2 (HBK.out _ _ (by repeat (first | with_reducible exact HB.out | with_reducible refine Below.trans ?_ (below_drewN _ _) | (refine Below.setCell ?_ (by first | exact Nat.le_refl _ | (show w.heap.size ≤ G2; omega) | (show w.heap.size ≤ G3; omega)) _) | (refine Below.alloc ?_ (by first | omega | (simp; omega)) _)))))
                | fail))
              go_wp2_with fail
              go_ret
              exact ⟨by rw [HF.out]; rfl, by repeat (first | with_reducible exact HB.out | with_reducible refine Below.trans ?_ (below_drewN _ _) | (refine Below.setCell ?_ (by first | exact Nat.le_refl _ | (show w.heap.size ≤ G2; omega) | (show w.heap.size ≤ G3; omega)) _) | (refine Below.alloc ?_ (by first | omega | (simp; omega)) _))⟩
            · have qn : ¬ ((0 : Int) < (nb l k t : Int)) := by omega
              have HOKM := Lib.hid (show mayP l h ((1 : Int), (t : Int), (q : Int), x3, x4) = true by
                  rw [HMK.out]
                  refine HMW.out.2 ⟨by omega, by omega, by omega, by omega, ?_, ?_, hn9⟩
                  · simp only [Int.toNat_natCast]; rw [HY.out]; exact hb9
                  · simp only [Int.toNat_natCast]; exact HOO.out)
              go_wp2_with fail
              go_quiet ((first
                | (go_at_call 36; with_reducible exact Calls.quiet_of_same (HIP.out _))
                | (go_at_call 36; with_reducible exact Calls.quiet_of_same (HIA.out _))
                | fail))
              go_wp2_with fail
              go_quiet ((first
                | (go_at_call 37; with_reducible exact Calls.quiet_of_same (HBK.out _ _ (by repeat (first | with_reducible exact HB.out | with_reducible refine Below.trans ?_ (below_drewN _ _) | (refine Below.setCell ?_ (by first | exact Nat.le_refl _ | (show w.heap.size ≤ G2; omega) | (show w.heap.size ≤ G3; omega)) _) | (refine Below.alloc ?_ (by first | omega | (simp; omega)) _)))))
                | (go_at_call 37; with_reducible exact quiet_of_same2 (HBK.out _ _ (by repeat (first | with_reducible exact HB.out | with_reducible refine Below.trans ?_ (below_drewN _ _) | (refine Below.setCell ?_ (by first | exact Nat.le_refl _ | (show w.heap.size ≤ G2; omega) | (show w.heap.size ≤ G3; omega)) _) | (refine Below.alloc ?_ (by first | omega | (simp; omega)) _)))))
                | fail))
              go_wp2_with fail
              go_roundw
              case rel =>
                refine ⟨k + 1, _, by go_num, by omega, HNEXT.out HOKM.out, ?_⟩
                refine ⟨by repeat (first | with_reducible exact HB.out | with_reducible refine Below.trans ?_ (below_drewN _ _) | (refine Below.setCell ?_ (by first | exact Nat.le_refl _ | (show w.heap.size ≤ G2; omega) | (show w.heap.size ≤ G3; omega)) _) | (refine Below.alloc ?_ (by first | omega | (simp; omega)) _)), ?_, ?_, ?_⟩
                · refine RowG.congr (RowG.keep (RowG.other (RowG.set (RowG.keep HS.out.a ?_) q _) ?_ _) (below_drewN _ _)) (fun j _ => nowF_add h k ((1 : Int), (t : Int), (q : Int), x3, x4) q HV.out.lw (.inl rfl) rfl hq3 j)
                  · exact (by repeat (first | with_reducible exact Below.refl _ _ | with_reducible refine Below.trans ?_ (below_drewN _ _) | (refine Below.alloc ?_ (by first | omega | simp) _)))
                  · assumption
                · refine RowG.congr (RowG.keep (RowG.set (RowG.other (RowG.keep HS.out.o ?_) ?_ _) q _) (below_drewN _ _)) (fun j _ => ownF_add1 HV.out ((1 : Int), (t : Int), (q : Int), x3, x4) t q rfl rfl ht4 HFI.out rfl hq3 j)
                  · exact (by repeat (first | with_reducible exact Below.refl _ _ | with_reducible refine Below.trans ?_ (below_drewN _ _) | (refine Below.alloc ?_ (by first | omega | simp) _)))
                  · assumption
                · refine RowG.congr (RowG.keep (RowG.other (RowG.other (RowG.keep HS.out.d ?_) ?_ _) ?_ _) (below_drewN _ _)) (fun j _ => doneF_add HV.out ((1 : Int), (t : Int), (q : Int), x3, x4) t (.inl rfl) rfl ht4 j)
                  · exact (by repeat (first | with_reducible exact Below.refl _ _ | with_reducible refine Below.trans ?_ (below_drewN _ _) | (refine Below.alloc ?_ (by first | omega | simp) _)))
                  · assumption
                  · assumption
              case measure => simp [intOf] <;> omega
          · have qo : ((z : Int) != 0) = true := by simp; omega
            by_cases ho8 : z = t
            rotate_left
            · have qo2 : ((z : Int) != (t : Int)) = true := by simp; omega
              have ho9 : ¬ (ownS h q = 0 ∨ ownS h q = t) := by rw [HZ.out]; omega
              have HF := Lib.hid (show validP l = false from HFAIL.out (by
                  rw [HMK.out]
                  cases hq9 : mayW h _ with
                  | false => rfl
                  | true =>
                    have h := HMW.out.1 hq9
                    exfalso
                    exact ho9 (by simpa using h.2.2.2.2.2.1)
                ))
              go_wp2_with fail
              go_quiet ((first
                | (go_at_call 36; with_reducible exact Calls.quiet_of_same (HIP.out _))
                | (go_at_call 36; with_reducible exact Calls.quiet_of_same (HIA.out _))
                | fail))
              go_wp2_with fail
              go_ret
              exact ⟨by rw [HF.out]; rfl, by repeat (first | with_reducible exact HB.out | with_reducible refine Below.trans ?_ (below_drewN _ _) | (refine Below.setCell ?_ (by first | exact Nat.le_refl _ | (show w.heap.size ≤ G2; omega) | (show w.heap.size ≤ G3; omega)) _) | (refine Below.alloc ?_ (by first | omega | (simp; omega)) _))⟩
            subst ho8
            have qo2 : ((z : Int) != (z : Int)) = false := by simp
            have HOO := Lib.hid (show ownS h q = 0 ∨ ownS h q = z from .inr HZ.out)
            by_cases hn9 : nb l k z = 0
            rotate_left
            · have qn : (0 : Int) < (nb l k z : Int) := by omega
              have HF := Lib.hid (show validP l = false from HFAIL.out (by
                  rw [HMK.out]
                  cases hq9 : mayW h _ with
                  | false => rfl
                  | true => exact absurd (HMW.out.1 hq9).2.2.2.2.2.2 hn9
                ))
              go_wp2_with fail
              go_quiet ((first
                | (go_at_call 36; with_reducible exact Calls.quiet_of_same (HIP.out _))
                | (go_at_call 36; with_reducible exact Calls.quiet_of_same (HIA.out _))
                | fail))
              go_wp2_with fail
              go_quiet ((first
                | (go_at_call 37; with_reducible exact Calls.quiet_of_same (HBK.out _ _ (by repeat (first | with_reducible exact HB.out | with_reducible refine Below.trans ?_ (below_drewN _ _) | (refine Below.setCell ?_ (by first | exact Nat.le_refl _ | (show w.heap.size ≤ G2; omega) | (show w.heap.size ≤ G3; omega)) _) | (refine Below.alloc ?_ (by first | omega | (simp; omega)) _)))))
                | (go_at_call 37; with_reducible exact quiet_of_same2 (HBK.out _ _ (by repeat (first | with_reducible exact HB.out | with_reducible refine Below.trans ?_ (below_drewN _ _) | (refine Below.setCell ?_ (by first | exact Nat.le_refl _ | (show w.heap.size ≤ G2; omega) | (show w.heap.size ≤ G3; omega)) _) | (refine Below.alloc ?_ (by first | omega | (simp; omega)) _)))))
                | fail))
              go_wp2_with fail
              go_ret
              exact ⟨by rw [HF.out]; rfl, by repeat (first | with_reducible exact HB.out | with_reducible refine Below.trans ?_ (below_drewN _ _) | (refine Below.setCell ?_ (by first | exact Nat.le_refl _ | (show w.heap.size ≤ G2; omega) | (show w.heap.size ≤ G3; omega)) _) | (refine Below.alloc ?_ (by first | omega | (simp; omega)) _))⟩
            · have qn : ¬ ((0 : Int) < (nb l k z : Int)) := by omega
              have HOKM := Lib.hid (show mayP l h ((1 : Int), (z : Int), (q : Int), x3, x4) = true by
                  rw [HMK.out]
                  refine HMW.out.2 ⟨by omega, by omega, by omega, by omega, ?_, ?_, hn9⟩
                  · simp only [Int.toNat_natCast]; rw [HY.out]; exact hb9
                  · simp only [Int.toNat_natCast]; exact HOO.out)
              go_wp2_with fail
              go_quiet ((first
                | (go_at_call 36; with_reducible exact Calls.quiet_of_same (HIP.out _))
                | (go_at_call 36; with_reducible exact Calls.quiet_of_same (HIA.out _))
                | fail))
              go_wp2_with fail
              go_quiet ((first
                | (go_at_call 37; with_reducible exact Calls.quiet_of_same (HBK.out _ _ (by repeat (first | with_reducible exact HB.out | with_reducible refine Below.trans ?_ (below_drewN _ _) | (refine Below.setCell ?_ (by first | exact Nat.le_refl _ | (show w.heap.size ≤ G2; omega) | (show w.heap.size ≤ G3; omega)) _) | (refine Below.alloc ?_ (by first | omega | (simp; omega)) _)))))
                | (go_at_call 37; with_reducible exact quiet_of_same2 (HBK.out _ _ (by repeat (first | with_reducible exact HB.out | with_reducible refine Below.trans ?_ (below_drewN _ _) | (refine Below.setCell ?_ (by first | exact Nat.le_refl _ | (show w.heap.size ≤ G2; omega) | (show w.heap.size ≤ G3; omega)) _) | (refine Below.alloc ?_ (by first | omega | (simp; omega)) _)))))
                | fail))
              go_wp2_with fail
              go_roundw
              case rel =>
                refine ⟨k + 1, _, by go_num, by omega, HNEXT.out HOKM.out, ?_⟩
                refine ⟨by repeat (first | with_reducible exact HB.out | with_reducible refine Below.trans ?_ (below_drewN _ _) | (refine Below.setCell ?_ (by first | exact Nat.le_refl _ | (show w.heap.size ≤ G2; omega) | (show w.heap.size ≤ G3; omega)) _) | (refine Below.alloc ?_ (by first | omega | (simp; omega)) _)), ?_, ?_, ?_⟩
                · refine RowG.congr (RowG.keep (RowG.other (RowG.set (RowG.keep HS.out.a ?_) q _) ?_ _) (below_drewN _ _)) (fun j _ => nowF_add h k ((1 : Int), (z : Int), (q : Int), x3, x4) q HV.out.lw (.inl rfl) rfl hq3 j)
                  · exact (by repeat (first | with_reducible exact Below.refl _ _ | with_reducible refine Below.trans ?_ (below_drewN _ _) | (refine Below.alloc ?_ (by first | omega | simp) _)))
                  · assumption
                · refine RowG.congr (RowG.keep (RowG.set (RowG.other (RowG.keep HS.out.o ?_) ?_ _) q _) (below_drewN _ _)) (fun j _ => ownF_add1 HV.out ((1 : Int), (z : Int), (q : Int), x3, x4) z q rfl rfl ht4 HFI.out rfl hq3 j)
                  · exact (by repeat (first | with_reducible exact Below.refl _ _ | with_reducible refine Below.trans ?_ (below_drewN _ _) | (refine Below.alloc ?_ (by first | omega | simp) _)))
                  · assumption
                · refine RowG.congr (RowG.keep (RowG.other (RowG.other (RowG.keep HS.out.d ?_) ?_ _) ?_ _) (below_drewN _ _)) (fun j _ => doneF_add HV.out ((1 : Int), (z : Int), (q : Int), x3, x4) z (.inl rfl) rfl ht4 j)
                  · exact (by repeat (first | with_reducible exact Below.refl _ _ | with_reducible refine Below.trans ?_ (below_drewN _ _) | (refine Below.alloc ?_ (by first | omega | simp) _)))
                  · assumption
                  · assumption
              case measure => simp [intOf] <;> omega
      have q1 : (x0 == 1) = false := by simpa using h1
      by_cases h2 : x0 = 2
      · as_aux_lemma =>
          subst h2
          have HMW := Lib.hid (may_back HV.out ((2 : Int), (t : Int), x2, x3, x4) t rfl rfl ht1 HFI.out)
          have HMK := Lib.hid (show mayP l h ((2 : Int), (t : Int), x2, x3, x4) = mayB l h ((2 : Int), (t : Int), x2, x3, x4) from HM.out)
          clear HM
          simp only at HMW
          by_cases dp : 0 ≤ x2 ∧ x2 ≤ 2
          rotate_left
          · have HIP := Lib.hid (fun W => (show Calls Try.prog 36 #[.int .i64 x2, .int .i64 0, .int .i64 2] W fun e w' => e = .returned (.bool false) ∧ w' = W by have := inRange_any x2 0 2 W; rw [show (decide ((0 : Int) ≤ x2) && decide (x2 ≤ 2)) = false by simp; omega] at this; exact this))
            have HF := Lib.hid (show validP l = false from HFAIL.out (by
                rw [HMK.out]
                cases hq9 : mayB l h _ with
                | false => rfl
                | true =>
                  have h := HMW.out.1 hq9
                  exfalso
                  exact dp ⟨h.1, h.2.1⟩
              ))
            go_wp2_with fail
            go_quiet ((first
              | (go_at_call 36; with_reducible exact Calls.quiet_of_same (HIP.out _))
              | fail))
            go_wp2_with fail
            go_ret
            exact ⟨by rw [HF.out]; rfl, by repeat (first | with_reducible exact HB.out | with_reducible refine Below.trans ?_ (below_drewN _ _) | (refine Below.setCell ?_ (by first | exact Nat.le_refl _ | (show w.heap.size ≤ G2; omega) | (show w.heap.size ≤ G3; omega)) _) | (refine Below.alloc ?_ (by first | omega | (simp; omega)) _))⟩
          have HIP := Lib.hid (fun W => (show Calls Try.prog 36 #[.int .i64 x2, .int .i64 0, .int .i64 2] W fun e w' => e = .returned (.bool true) ∧ w' = W by have := inRange_any x2 0 2 W; rw [show (decide ((0 : Int) ≤ x2) && decide (x2 ≤ 2)) = true by simp; omega] at this; exact this))
          obtain ⟨q, rfl⟩ : ∃ q : Nat, x2 = (q : Int) := ⟨x2.toNat, by omega⟩
          have hq3 : q < 3 := by omega
          clear dp
          have hq3i : (q : Int) < 3 := by omega
          have hq0 : (0 : Int) ≤ (q : Int) := by omega
          obtain ⟨ca, fa⟩ := HS.out.a.cell hq3
          obtain ⟨co, fo⟩ := HS.out.o.cell hq3
          unfold nowF at ca
          unfold ownF at co
          obtain ⟨y, hy⟩ : ∃ y, h.w q = y := ⟨_, rfl⟩
          rw [hy] at ca
          have HY := Lib.hid hy; clear hy
          obtain ⟨z, hz⟩ : ∃ z, ownS h q = z := ⟨_, rfl⟩
          rw [hz] at co
          have HZ := Lib.hid hz; clear hz
          by_cases ho8 : z = t
          rotate_left
          · have qo2 : ((z : Int) != (t : Int)) = true := by simp; omega
            have ho9 : ¬ (ownS h q = t) := by rw [HZ.out]; omega
            have HF := Lib.hid (show validP l = false from HFAIL.out (by
                rw [HMK.out]
                cases hq9 : mayB l h _ with
                | false => rfl
                | true =>
                  have h := HMW.out.1 hq9
                  exfalso
                  exact ho9 (by simpa using h.2.2.1)
              ))
            go_wp2_with fail
            go_quiet ((first
              | (go_at_call 36; with_reducible exact Calls.quiet_of_same (HIP.out _))
              | fail))
            go_wp2_with fail
            go_ret
            exact ⟨by rw [HF.out]; rfl, by repeat (first | with_reducible exact HB.out | with_reducible refine Below.trans ?_ (below_drewN _ _) | (refine Below.setCell ?_ (by first | exact Nat.le_refl _ | (show w.heap.size ≤ G2; omega) | (show w.heap.size ≤ G3; omega)) _) | (refine Below.alloc ?_ (by first | omega | (simp; omega)) _))⟩
          subst ho8
          have qo2 : ((z : Int) != (z : Int)) = false := by simp
          by_cases hb9 : x3 = y
          rotate_left
          · have qb : (x3 != y) = true := by simpa using hb9
            rw [← HY.out] at hb9
            have HF := Lib.hid (show validP l = false from HFAIL.out (by
                rw [HMK.out]
                cases hq9 : mayB l h _ with
                | false => rfl
                | true =>
                  have h := HMW.out.1 hq9
                  exfalso
                  exact hb9 (by simpa using h.2.2.2.1)
              ))
            go_wp2_with fail
            go_quiet ((first
              | (go_at_call 36; with_reducible exact Calls.quiet_of_same (HIP.out _))
              | fail))
            go_wp2_with fail
            go_ret
            exact ⟨by rw [HF.out]; rfl, by repeat (first | with_reducible exact HB.out | with_reducible refine Below.trans ?_ (below_drewN _ _) | (refine Below.setCell ?_ (by first | exact Nat.le_refl _ | (show w.heap.size ≤ G2; omega) | (show w.heap.size ≤ G3; omega)) _) | (refine Below.alloc ?_ (by first | omega | (simp; omega)) _))⟩
          have qb : (x3 != y) = false := by simpa using hb9
          rcases last_mem HV.out z with ⟨hv, _⟩ | ⟨i, hv, _, him⟩
          · rw [hv] at HUA HMW
            have HF := Lib.hid (show validP l = false from HFAIL.out (by
                rw [HMK.out]
                cases hq9 : mayB l h _ with
                | false => rfl
                | true =>
                  have h := HMW.out.1 hq9
                  exfalso
                  exact absurd h.2.2.2.2.1 (by decide)
              ))
            go_wp2_with fail
            go_quiet ((first
              | (go_at_call 36; with_reducible exact Calls.quiet_of_same (HIP.out _))
              | fail))
            go_wp2_with fail
            go_quiet ((first
              | (go_at_call 33; with_reducible exact Calls.quiet_of_same (HUA.out _ _ (by repeat (first | with_reducible exact HB.out | with_reducible refine Below.trans ?_ (below_drewN _ _) | (refine Below.setCell ?_ (by first | exact Nat.le_refl _ | (show w.heap.size ≤ G2; omega) | (show w.heap.size ≤ G3; omega)) _) | (refine Below.alloc ?_ (by first | omega | (simp; omega)) _)))))
              | (go_at_call 33; with_reducible exact quiet_of_same2 (HUA.out _ _ (by repeat (first | with_reducible exact HB.out | with_reducible refine Below.trans ?_ (below_drewN _ _) | (refine Below.setCell ?_ (by first | exact Nat.le_refl _ | (show w.heap.size ≤ G2; omega) | (show w.heap.size ≤ G3; omega)) _) | (refine Below.alloc ?_ (by first | omega | (simp; omega)) _)))))
              | fail))
            go_wp2_with fail
            go_quiet ((first
              | fail))
            go_wp2_with fail
            go_ret
            exact ⟨by rw [HF.out]; rfl, by repeat (first | with_reducible exact HB.out | with_reducible refine Below.trans ?_ (below_drewN _ _) | (refine Below.setCell ?_ (by first | exact Nat.le_refl _ | (show w.heap.size ≤ G2; omega) | (show w.heap.size ≤ G3; omega)) _) | (refine Below.alloc ?_ (by first | omega | (simp; omega)) _))⟩
          · rw [hv] at HUA HMW
            simp only [Int.toNat_natCast] at HMW
            obtain ⟨hik, _, _, _, _, _, _⟩ := HV.out.stk z i him
            have HOP := Lib.hid (open_of_last HV.out HFI.out him)
            clear him
            obtain ⟨b9, off9, hA9, _, _, _, c2, c3, _⟩ := rc_cells_at (HR.out.below HS.out.hb) (show i < l.length by omega)
            obtain ⟨rfl, rfl⟩ : b = b9 ∧ off = off9 := by simpa using hA9
            clear hA9
            have hdi : decide ((i : Int) < 0) = false := by first | (simp; done) | (simp; omega)
            have hin : (i : Int) < (n : Int) := by omega
            have hi0 : (0 : Int) ≤ (i : Int) := by omega
            obtain ⟨u, hu⟩ : ∃ u, pl l i = u := ⟨_, rfl⟩
            rw [hu] at c2 HMW
            clear hu
            obtain ⟨v, hv2⟩ : ∃ v, bf l i = v := ⟨_, rfl⟩
            rw [hv2] at c3 HMW
            clear hv2
            by_cases hu9 : u = (q : Int)
            rotate_left
            · have qu : (u != (q : Int)) = true := by simpa using hu9
              have HF := Lib.hid (show validP l = false from HFAIL.out (by
                  rw [HMK.out]
                  cases hq9 : mayB l h _ with
                  | false => rfl
                  | true =>
                    have h := HMW.out.1 hq9
                    exfalso
                    exact hu9 h.2.2.2.2.2.1
                ))
              go_wp2_with fail
              go_quiet ((first
                | (go_at_call 36; with_reducible exact Calls.quiet_of_same (HIP.out _))
                | fail))
              go_wp2_with fail
              go_quiet ((first
                | (go_at_call 33; with_reducible exact Calls.quiet_of_same (HUA.out _ _ (by repeat (first | with_reducible exact HB.out | with_reducible refine Below.trans ?_ (below_drewN _ _) | (refine Below.setCell ?_ (by first | exact Nat.le_refl _ | (show w.heap.size ≤ G2; omega) | (show w.heap.size ≤ G3; omega)) _) | (refine Below.alloc ?_ (by first | omega | (simp; omega)) _)))))
                | (go_at_call 33; with_reducible exact quiet_of_same2 (HUA.out _ _ (by repeat (first | with_reducible exact HB.out | with_reducible refine Below.trans ?_ (below_drewN _ _) | (refine Below.setCell ?_ (by first | exact Nat.le_refl _ | (show w.heap.size ≤ G2; omega) | (show w.heap.size ≤ G3; omega)) _) | (refine Below.alloc ?_ (by first | omega | (simp; omega)) _)))))
                | fail))
              go_wp2_with fail
              go_quiet ((first
                | fail))
              go_wp2_with fail
              go_ret
              exact ⟨by rw [HF.out]; rfl, by repeat (first | with_reducible exact HB.out | with_reducible refine Below.trans ?_ (below_drewN _ _) | (refine Below.setCell ?_ (by first | exact Nat.le_refl _ | (show w.heap.size ≤ G2; omega) | (show w.heap.size ≤ G3; omega)) _) | (refine Below.alloc ?_ (by first | omega | (simp; omega)) _))⟩
            have qu : (u != (q : Int)) = false := by simpa using hu9
            by_cases hv9 : v = x4
            rotate_left
            · have qv : (v != x4) = true := by simpa using hv9
              have HF := Lib.hid (show validP l = false from HFAIL.out (by
                  rw [HMK.out]
                  cases hq9 : mayB l h _ with
                  | false => rfl
                  | true =>
                    have h := HMW.out.1 hq9
                    exfalso
                    exact hv9 h.2.2.2.2.2.2
                ))
              go_wp2_with fail
              go_quiet ((first
                | (go_at_call 36; with_reducible exact Calls.quiet_of_same (HIP.out _))
                | fail))
              go_wp2_with fail
              go_quiet ((first
                | (go_at_call 33; with_reducible exact Calls.quiet_of_same (HUA.out _ _ (by repeat (first | with_reducible exact HB.out | with_reducible refine Below.trans ?_ (below_drewN _ _) | (refine Below.setCell ?_ (by first | exact Nat.le_refl _ | (show w.heap.size ≤ G2; omega) | (show w.heap.size ≤ G3; omega)) _) | (refine Below.alloc ?_ (by first | omega | (simp; omega)) _)))))
                | (go_at_call 33; with_reducible exact quiet_of_same2 (HUA.out _ _ (by repeat (first | with_reducible exact HB.out | with_reducible refine Below.trans ?_ (below_drewN _ _) | (refine Below.setCell ?_ (by first | exact Nat.le_refl _ | (show w.heap.size ≤ G2; omega) | (show w.heap.size ≤ G3; omega)) _) | (refine Below.alloc ?_ (by first | omega | (simp; omega)) _)))))
                | fail))
              go_wp2_with fail
              go_quiet ((first
                | fail))
              go_wp2_with fail
              go_ret
              exact ⟨by rw [HF.out]; rfl, by repeat (first | with_reducible exact HB.out | with_reducible refine Below.trans ?_ (below_drewN _ _) | (refine Below.setCell ?_ (by first | exact Nat.le_refl _ | (show w.heap.size ≤ G2; omega) | (show w.heap.size ≤ G3; omega)) _) | (refine Below.alloc ?_ (by first | omega | (simp; omega)) _))⟩
            have qv : (v != x4) = false := by simpa using hv9
            have HOKM := Lib.hid (show mayP l h ((2 : Int), (z : Int), (q : Int), x3, x4) = true by
                rw [HMK.out]
                refine HMW.out.2 ⟨by omega, by omega, ?_, ?_, by omega, hu9, hv9⟩
                · first | exact HZ.out | (simp only [Int.toNat_natCast]; exact HZ.out)
                · first | (rw [HY.out]; exact hb9) | (simp only [Int.toNat_natCast]; rw [HY.out]; exact hb9))
            go_wp2_with fail
            go_quiet ((first
              | (go_at_call 36; with_reducible exact Calls.quiet_of_same (HIP.out _))
              | fail))
            go_wp2_with fail
            go_quiet ((first
              | (go_at_call 33; with_reducible exact Calls.quiet_of_same (HUA.out _ _ (by repeat (first | with_reducible exact HB.out | with_reducible refine Below.trans ?_ (below_drewN _ _) | (refine Below.setCell ?_ (by first | exact Nat.le_refl _ | (show w.heap.size ≤ G2; omega) | (show w.heap.size ≤ G3; omega)) _) | (refine Below.alloc ?_ (by first | omega | (simp; omega)) _)))))
              | (go_at_call 33; with_reducible exact quiet_of_same2 (HUA.out _ _ (by repeat (first | with_reducible exact HB.out | with_reducible refine Below.trans ?_ (below_drewN _ _) | (refine Below.setCell ?_ (by first | exact Nat.le_refl _ | (show w.heap.size ≤ G2; omega) | (show w.heap.size ≤ G3; omega)) _) | (refine Below.alloc ?_ (by first | omega | (simp; omega)) _)))))
              | fail))
            go_wp2_with fail
            go_quiet ((first
              | fail))
            go_wp2_with fail
            go_quiet ((first
              | fail))
            go_wp2_with fail
            go_roundw
            case rel =>
              refine ⟨k + 1, _, by go_num, by omega, HNEXT.out HOKM.out, ?_⟩
              refine ⟨by repeat (first | with_reducible exact HB.out | with_reducible refine Below.trans ?_ (below_drewN _ _) | (refine Below.setCell ?_ (by first | exact Nat.le_refl _ | (show w.heap.size ≤ G2; omega) | (show w.heap.size ≤ G3; omega)) _) | (refine Below.alloc ?_ (by first | omega | (simp; omega)) _)), ?_, ?_, ?_⟩
              · refine RowG.congr (RowG.keep (RowG.set (RowG.keep HS.out.a ?_) q _) (below_drewN _ _)) (fun j _ => nowF_add h k ((2 : Int), (z : Int), (q : Int), x3, x4) q HV.out.lw (.inr rfl) rfl hq3 j)
                · exact (by repeat (first | with_reducible exact Below.refl _ _ | with_reducible refine Below.trans ?_ (below_drewN _ _) | (refine Below.alloc ?_ (by first | omega | simp) _)))
              · refine RowG.congr (RowG.keep (RowG.other (RowG.keep HS.out.o ?_) ?_ _) (below_drewN _ _)) (fun j _ => by unfold ownF; rw [own_add2 HV.out ((2 : Int), (z : Int), (q : Int), x3, x4) z rfl rfl ht4 HOP.out j])
                · exact (by repeat (first | with_reducible exact Below.refl _ _ | with_reducible refine Below.trans ?_ (below_drewN _ _) | (refine Below.alloc ?_ (by first | omega | simp) _)))
                · assumption
              · refine RowG.congr (RowG.keep (RowG.other (RowG.keep HS.out.d ?_) ?_ _) (below_drewN _ _)) (fun j _ => doneF_add HV.out ((2 : Int), (z : Int), (q : Int), x3, x4) z (.inr rfl) rfl ht4 j)
                · exact (by repeat (first | with_reducible exact Below.refl _ _ | with_reducible refine Below.trans ?_ (below_drewN _ _) | (refine Below.alloc ?_ (by first | omega | simp) _)))
                · assumption
            case measure => simp [intOf] <;> omega
      have q2 : (x0 == 2) = false := by simpa using h2
      by_cases h3 : x0 = 3
      · as_aux_lemma =>
          subst h3
          have HMK := Lib.hid (show mayP l h ((3 : Int), (t : Int), x2, x3, x4) = (decide ((x2, x3, x4) = ((0 : Int), (0 : Int), (0 : Int))) && !(h.t t).bk) from HM.out)
          clear HM
          by_cases a2 : x2 = 0
          rotate_left
          · have qx2 : (x2 != 0) = true := by simpa using a2
            have HF := Lib.hid (show validP l = false from HFAIL.out (by
                rw [HMK.out]
                simp [a2]
              ))
            go_wp2_with fail
            go_quiet ((first
              | fail))
            go_wp2_with fail
            go_ret
            exact ⟨by rw [HF.out]; rfl, by repeat (first | with_reducible exact HB.out | with_reducible refine Below.trans ?_ (below_drewN _ _) | (refine Below.setCell ?_ (by first | exact Nat.le_refl _ | (show w.heap.size ≤ G2; omega) | (show w.heap.size ≤ G3; omega)) _) | (refine Below.alloc ?_ (by first | omega | (simp; omega)) _))⟩
          subst a2
          by_cases a3 : x3 = 0
          rotate_left
          · have qx3 : (x3 != 0) = true := by simpa using a3
            have HF := Lib.hid (show validP l = false from HFAIL.out (by
                rw [HMK.out]
                simp [a3]
              ))
            go_wp2_with fail
            go_quiet ((first
              | fail))
            go_wp2_with fail
            go_ret
            exact ⟨by rw [HF.out]; rfl, by repeat (first | with_reducible exact HB.out | with_reducible refine Below.trans ?_ (below_drewN _ _) | (refine Below.setCell ?_ (by first | exact Nat.le_refl _ | (show w.heap.size ≤ G2; omega) | (show w.heap.size ≤ G3; omega)) _) | (refine Below.alloc ?_ (by first | omega | (simp; omega)) _))⟩
          subst a3
          by_cases a4 : x4 = 0
          rotate_left
          · have qx4 : (x4 != 0) = true := by simpa using a4
            have HF := Lib.hid (show validP l = false from HFAIL.out (by
                rw [HMK.out]
                simp [a4]
              ))
            go_wp2_with fail
            go_quiet ((first
              | fail))
            go_wp2_with fail
            go_ret
            exact ⟨by rw [HF.out]; rfl, by repeat (first | with_reducible exact HB.out | with_reducible refine Below.trans ?_ (below_drewN _ _) | (refine Below.setCell ?_ (by first | exact Nat.le_refl _ | (show w.heap.size ≤ G2; omega) | (show w.heap.size ≤ G3; omega)) _) | (refine Below.alloc ?_ (by first | omega | (simp; omega)) _))⟩
          subst a4
          have hbk := HV.out.bks t
          by_cases hn9 : nb l k t = 0
          rotate_left
          · have qn : (0 : Int) < (nb l k t : Int) := by omega
            have HF := Lib.hid (show validP l = false from HFAIL.out (by
                rw [HMK.out, hbk]
                simp; omega
              ))
            go_wp2_with fail
            go_quiet ((first
              | (go_at_call 37; with_reducible exact Calls.quiet_of_same (HBK.out _ _ (by repeat (first | with_reducible exact HB.out | with_reducible refine Below.trans ?_ (below_drewN _ _) | (refine Below.setCell ?_ (by first | exact Nat.le_refl _ | (show w.heap.size ≤ G2; omega) | (show w.heap.size ≤ G3; omega)) _) | (refine Below.alloc ?_ (by first | omega | (simp; omega)) _)))))
              | (go_at_call 37; with_reducible exact quiet_of_same2 (HBK.out _ _ (by repeat (first | with_reducible exact HB.out | with_reducible refine Below.trans ?_ (below_drewN _ _) | (refine Below.setCell ?_ (by first | exact Nat.le_refl _ | (show w.heap.size ≤ G2; omega) | (show w.heap.size ≤ G3; omega)) _) | (refine Below.alloc ?_ (by first | omega | (simp; omega)) _)))))
              | fail))
            go_wp2_with fail
            go_ret
            exact ⟨by rw [HF.out]; rfl, by repeat (first | with_reducible exact HB.out | with_reducible refine Below.trans ?_ (below_drewN _ _) | (refine Below.setCell ?_ (by first | exact Nat.le_refl _ | (show w.heap.size ≤ G2; omega) | (show w.heap.size ≤ G3; omega)) _) | (refine Below.alloc ?_ (by first | omega | (simp; omega)) _))⟩
          have qn : ¬ ((0 : Int) < (nb l k t : Int)) := by omega
          have HOKM := Lib.hid (show mayP l h ((3 : Int), (t : Int), (0 : Int), (0 : Int), (0 : Int)) = true by rw [HMK.out, hbk]; simp [hn9])
          have HV3 := Lib.hid (fun j => own_add3 HV.out ((3 : Int), (t : Int), (0 : Int), (0 : Int), (0 : Int)) t (by simp) rfl ht1 ht4 HFI.out j)
          obtain ⟨h9, hh9⟩ : ∃ x, addP h k ((3 : Int), (t : Int), (0 : Int), (0 : Int), (0 : Int)) = x := ⟨_, rfl⟩
          have HN9 := Lib.hid (fun j => nowF_add3 h k ((3 : Int), (t : Int), (0 : Int), (0 : Int), (0 : Int)) HV.out.lw (by simp) j)
          have HD9 := Lib.hid (fun j => doneF_add3 HV.out ((3 : Int), (t : Int), (0 : Int), (0 : Int), (0 : Int)) t (by simp) rfl ht4 j)
          have HX9 := Lib.hid (HNEXT.out HOKM.out)
          rw [hh9] at HV3 HN9 HD9 HX9
          clear hh9
          have hRG2 : wr.heap.size ≠ G2 := by omega
          go_wp2_with fail
          go_quiet ((first
            | (go_at_call 37; with_reducible exact Calls.quiet_of_same (HBK.out _ _ (by repeat (first | with_reducible exact HB.out | with_reducible refine Below.trans ?_ (below_drewN _ _) | (refine Below.setCell ?_ (by first | exact Nat.le_refl _ | (show w.heap.size ≤ G2; omega) | (show w.heap.size ≤ G3; omega)) _) | (refine Below.alloc ?_ (by first | omega | (simp; omega)) _)))))
            | (go_at_call 37; with_reducible exact quiet_of_same2 (HBK.out _ _ (by repeat (first | with_reducible exact HB.out | with_reducible refine Below.trans ?_ (below_drewN _ _) | (refine Below.setCell ?_ (by first | exact Nat.le_refl _ | (show w.heap.size ≤ G2; omega) | (show w.heap.size ≤ G3; omega)) _) | (refine Below.alloc ?_ (by first | omega | (simp; omega)) _)))))
            | fail))
          go_wp2_with fail
          go_loopw [9] (fun i W => ∃ p : Nat, i = .int .i64 p ∧ p ≤ 3 ∧ MS2 w w.heap.size G2 G3 wr.heap.size h h9 3 t p W) (fun i _ => 3 - (intOf i).toNat)
          case atStart =>
            refine ⟨0, rfl, by omega, ?_⟩
            refine ⟨by repeat (first | with_reducible exact HB.out | with_reducible refine Below.trans ?_ (below_drewN _ _) | (refine Below.setCell ?_ (by first | exact Nat.le_refl _ | (show w.heap.size ≤ G2; omega) | (show w.heap.size ≤ G3; omega)) _) | (refine Below.alloc ?_ (by first | omega | (simp; omega)) _)), ?_, ?_, ?_, ?_, ?_, by simp⟩
            · exact RowG.congr (RowG.other (RowG.keep HS.out.a (by repeat (first | with_reducible exact Below.refl _ _ | with_reducible refine Below.trans ?_ (below_drewN _ _) | (refine Below.alloc ?_ (by first | omega | simp) _)))) (by assumption) _) (fun j _ => HN9.out j)
            · exact RowG.congr (RowG.other (RowG.keep HS.out.o (by repeat (first | with_reducible exact Below.refl _ _ | with_reducible refine Below.trans ?_ (below_drewN _ _) | (refine Below.alloc ?_ (by first | omega | simp) _)))) (by assumption) _) (fun j _ => by simp)
            · exact RowG.congr (RowG.set (RowG.keep HS.out.d (by repeat (first | with_reducible exact Below.refl _ _ | with_reducible refine Below.trans ?_ (below_drewN _ _) | (refine Below.alloc ?_ (by first | omega | simp) _)))) t _) (fun j _ => HD9.out j)
            · exact (World.cell?_setCell_far _ _ _ _ (show G3 ≠ wr.heap.size by omega)).trans (show (wr.alloc (.cells #[.int .i64 3, .int .i64 (t : Int), .int .i64 0, .int .i64 0, .int .i64 0] 31)).cell? ⟨wr.heap.size, 0, none⟩ = _ by simp)
            · exact (World.cell?_setCell_far _ _ _ _ (show G3 ≠ wr.heap.size by omega)).trans (show (wr.alloc (.cells #[.int .i64 3, .int .i64 (t : Int), .int .i64 0, .int .i64 0, .int .i64 0] 31)).cell? ⟨wr.heap.size, 1, none⟩ = _ by simp)
          case round =>
            obtain ⟨pp, rfl, hpp, hm2⟩ := hrel
            have HM2 := Lib.hid hm2; clear hm2
            by_cases hp3 : pp < 3
            · have hp3i : (pp : Int) < 3 := by omega
              obtain ⟨co, fo⟩ := HM2.out.o.cell hp3
              rw [if_neg (by omega)] at co
              unfold ownF at co
              have c0 := HM2.out.c0
              have c1 := HM2.out.c1
              have HO := Lib.hid (HV3.out pp)
              obtain ⟨z, hz⟩ : ∃ z, ownS h pp = z := ⟨_, rfl⟩
              rw [hz] at co
              have HZ := Lib.hid hz; clear hz
              by_cases hzt : z = t
              · have qz : ((z : Int) == (t : Int)) = true := by simp [hzt]
                have HE := Lib.hid (show Value.int .i64 0 = ownF h9 pp by unfold ownF; rw [HO.out, HZ.out, if_pos hzt]; rfl)
                clear hzt
                go_wp2_with fail
                go_quiet ((first
                  | fail))
                go_wp2_with fail
                go_roundw
                case rel => exact ⟨pp + 1, by go_num, by omega, (HM2.out.keep (below_drewN _ _)).zero HE.out (by assumption) (by assumption) (by assumption)⟩
                case measure => simp [intOf] <;> omega
              · have qz : ((z : Int) == (t : Int)) = false := by simp; omega
                have HE := Lib.hid (show ownF h pp = ownF h9 pp by unfold ownF; rw [HO.out, HZ.out, if_neg hzt])
                clear hzt
                go_wp2_with fail
                go_quiet ((first
                  | fail))
                go_wp2_with fail
                go_roundw
                case rel => exact ⟨pp + 1, by go_num, by omega, (HM2.out.keep (below_drewN _ _)).skip HE.out⟩
                case measure => simp [intOf] <;> omega
            · obtain rfl : pp = 3 := by omega
              have c0 := HM2.out.c0
              have c1 := HM2.out.c1
              have HMS := Lib.hid (show MS w w.heap.size G2 G3 h9 _ from ⟨HM2.out.hb, HM2.out.a, HM2.out.o.congr (fun j hj => if_pos hj), HM2.out.d⟩)
              go_wp2_with fail
              go_quiet ((first
                | fail))
              go_wp2_with fail
              go_roundw
              case rel => exact ⟨k + 1, h9, by go_num, by omega, HX9.out, HMS.out.keep (below_drewN _ _)⟩
              case measure => simp [intOf] <;> omega
      have q3 : (x0 == 3) = false := by simpa using h3
      by_cases h4 : x0 = 4
      · as_aux_lemma =>
          subst h4
          have HMK := Lib.hid (show mayP l h ((4 : Int), (t : Int), x2, x3, x4) = (decide ((x2, x3, x4) = ((0 : Int), (0 : Int), (0 : Int))) && (h.t t).st.isEmpty) from HM.out)
          clear HM
          by_cases a2 : x2 = 0
          rotate_left
          · have qx2 : (x2 != 0) = true := by simpa using a2
            have HF := Lib.hid (show validP l = false from HFAIL.out (by
                rw [HMK.out]
                simp [a2]
              ))
            go_wp2_with fail
            go_quiet ((first
              | fail))
            go_wp2_with fail
            go_ret
            exact ⟨by rw [HF.out]; rfl, by repeat (first | with_reducible exact HB.out | with_reducible refine Below.trans ?_ (below_drewN _ _) | (refine Below.setCell ?_ (by first | exact Nat.le_refl _ | (show w.heap.size ≤ G2; omega) | (show w.heap.size ≤ G3; omega)) _) | (refine Below.alloc ?_ (by first | omega | (simp; omega)) _))⟩
          subst a2
          by_cases a3 : x3 = 0
          rotate_left
          · have qx3 : (x3 != 0) = true := by simpa using a3
            have HF := Lib.hid (show validP l = false from HFAIL.out (by
                rw [HMK.out]
                simp [a3]
              ))
            go_wp2_with fail
            go_quiet ((first
              | fail))
            go_wp2_with fail
            go_ret
            exact ⟨by rw [HF.out]; rfl, by repeat (first | with_reducible exact HB.out | with_reducible refine Below.trans ?_ (below_drewN _ _) | (refine Below.setCell ?_ (by first | exact Nat.le_refl _ | (show w.heap.size ≤ G2; omega) | (show w.heap.size ≤ G3; omega)) _) | (refine Below.alloc ?_ (by first | omega | (simp; omega)) _))⟩
          subst a3
          by_cases a4 : x4 = 0
          rotate_left
          · have qx4 : (x4 != 0) = true := by simpa using a4
            have HF := Lib.hid (show validP l = false from HFAIL.out (by
                rw [HMK.out]
                simp [a4]
              ))
            go_wp2_with fail
            go_quiet ((first
              | fail))
            go_wp2_with fail
            go_ret
            exact ⟨by rw [HF.out]; rfl, by repeat (first | with_reducible exact HB.out | with_reducible refine Below.trans ?_ (below_drewN _ _) | (refine Below.setCell ?_ (by first | exact Nat.le_refl _ | (show w.heap.size ≤ G2; omega) | (show w.heap.size ≤ G3; omega)) _) | (refine Below.alloc ?_ (by first | omega | (simp; omega)) _))⟩
          subst a4
          rcases last_mem HV.out t with ⟨hv, hst⟩ | ⟨i, hv, _, him⟩
          rotate_left
          · rw [hv] at HUA
            have hi0 : (0 : Int) ≤ (i : Int) := by omega
            have HF := Lib.hid (show validP l = false from HFAIL.out (by
                rw [HMK.out]
                cases hs9 : (h.t t).st with
                | nil => rw [hs9] at him; cases him
                | cons a s => simp
              ))
            clear him
            go_wp2_with fail
            go_quiet ((first
              | (go_at_call 33; with_reducible exact Calls.quiet_of_same (HUA.out _ _ (by repeat (first | with_reducible exact HB.out | with_reducible refine Below.trans ?_ (below_drewN _ _) | (refine Below.setCell ?_ (by first | exact Nat.le_refl _ | (show w.heap.size ≤ G2; omega) | (show w.heap.size ≤ G3; omega)) _) | (refine Below.alloc ?_ (by first | omega | (simp; omega)) _)))))
              | (go_at_call 33; with_reducible exact quiet_of_same2 (HUA.out _ _ (by repeat (first | with_reducible exact HB.out | with_reducible refine Below.trans ?_ (below_drewN _ _) | (refine Below.setCell ?_ (by first | exact Nat.le_refl _ | (show w.heap.size ≤ G2; omega) | (show w.heap.size ≤ G3; omega)) _) | (refine Below.alloc ?_ (by first | omega | (simp; omega)) _)))))
              | fail))
            go_wp2_with fail
            go_ret
            exact ⟨by rw [HF.out]; rfl, by repeat (first | with_reducible exact HB.out | with_reducible refine Below.trans ?_ (below_drewN _ _) | (refine Below.setCell ?_ (by first | exact Nat.le_refl _ | (show w.heap.size ≤ G2; omega) | (show w.heap.size ≤ G3; omega)) _) | (refine Below.alloc ?_ (by first | omega | (simp; omega)) _))⟩
          rw [hv] at HUA
          have HOKM := Lib.hid (show mayP l h ((4 : Int), (t : Int), (0 : Int), (0 : Int), (0 : Int)) = true by rw [HMK.out, hst]; rfl)
          have HV3 := Lib.hid (fun j => own_add3 HV.out ((4 : Int), (t : Int), (0 : Int), (0 : Int), (0 : Int)) t (by simp) rfl ht1 ht4 HFI.out j)
          obtain ⟨h9, hh9⟩ : ∃ x, addP h k ((4 : Int), (t : Int), (0 : Int), (0 : Int), (0 : Int)) = x := ⟨_, rfl⟩
          have HN9 := Lib.hid (fun j => nowF_add3 h k ((4 : Int), (t : Int), (0 : Int), (0 : Int), (0 : Int)) HV.out.lw (by simp) j)
          have HD9 := Lib.hid (fun j => doneF_add3 HV.out ((4 : Int), (t : Int), (0 : Int), (0 : Int), (0 : Int)) t (by simp) rfl ht4 j)
          have HX9 := Lib.hid (HNEXT.out HOKM.out)
          rw [hh9] at HV3 HN9 HD9 HX9
          clear hh9
          have hRG2 : wr.heap.size ≠ G2 := by omega
          go_wp2_with fail
          go_quiet ((first
            | (go_at_call 33; with_reducible exact Calls.quiet_of_same (HUA.out _ _ (by repeat (first | with_reducible exact HB.out | with_reducible refine Below.trans ?_ (below_drewN _ _) | (refine Below.setCell ?_ (by first | exact Nat.le_refl _ | (show w.heap.size ≤ G2; omega) | (show w.heap.size ≤ G3; omega)) _) | (refine Below.alloc ?_ (by first | omega | (simp; omega)) _)))))
            | (go_at_call 33; with_reducible exact quiet_of_same2 (HUA.out _ _ (by repeat (first | with_reducible exact HB.out | with_reducible refine Below.trans ?_ (below_drewN _ _) | (refine Below.setCell ?_ (by first | exact Nat.le_refl _ | (show w.heap.size ≤ G2; omega) | (show w.heap.size ≤ G3; omega)) _) | (refine Below.alloc ?_ (by first | omega | (simp; omega)) _)))))
            | fail))
          go_wp2_with fail
          go_loopw [9] (fun i W => ∃ p : Nat, i = .int .i64 p ∧ p ≤ 3 ∧ MS2 w w.heap.size G2 G3 wr.heap.size h h9 4 t p W) (fun i _ => 3 - (intOf i).toNat)
          case atStart =>
            refine ⟨0, rfl, by omega, ?_⟩
            refine ⟨by repeat (first | with_reducible exact HB.out | with_reducible refine Below.trans ?_ (below_drewN _ _) | (refine Below.setCell ?_ (by first | exact Nat.le_refl _ | (show w.heap.size ≤ G2; omega) | (show w.heap.size ≤ G3; omega)) _) | (refine Below.alloc ?_ (by first | omega | (simp; omega)) _)), ?_, ?_, ?_, ?_, ?_, by simp⟩
            · exact RowG.congr (RowG.other (RowG.keep HS.out.a (by repeat (first | with_reducible exact Below.refl _ _ | with_reducible refine Below.trans ?_ (below_drewN _ _) | (refine Below.alloc ?_ (by first | omega | simp) _)))) (by assumption) _) (fun j _ => HN9.out j)
            · exact RowG.congr (RowG.other (RowG.keep HS.out.o (by repeat (first | with_reducible exact Below.refl _ _ | with_reducible refine Below.trans ?_ (below_drewN _ _) | (refine Below.alloc ?_ (by first | omega | simp) _)))) (by assumption) _) (fun j _ => by simp)
            · exact RowG.congr (RowG.set (RowG.keep HS.out.d (by repeat (first | with_reducible exact Below.refl _ _ | with_reducible refine Below.trans ?_ (below_drewN _ _) | (refine Below.alloc ?_ (by first | omega | simp) _)))) t _) (fun j _ => HD9.out j)
            · exact (World.cell?_setCell_far _ _ _ _ (show G3 ≠ wr.heap.size by omega)).trans (show (wr.alloc (.cells #[.int .i64 4, .int .i64 (t : Int), .int .i64 0, .int .i64 0, .int .i64 0] 31)).cell? ⟨wr.heap.size, 0, none⟩ = _ by simp)
            · exact (World.cell?_setCell_far _ _ _ _ (show G3 ≠ wr.heap.size by omega)).trans (show (wr.alloc (.cells #[.int .i64 4, .int .i64 (t : Int), .int .i64 0, .int .i64 0, .int .i64 0] 31)).cell? ⟨wr.heap.size, 1, none⟩ = _ by simp)
          case round =>
            obtain ⟨pp, rfl, hpp, hm2⟩ := hrel
            have HM2 := Lib.hid hm2; clear hm2
            by_cases hp3 : pp < 3
            · have hp3i : (pp : Int) < 3 := by omega
              obtain ⟨co, fo⟩ := HM2.out.o.cell hp3
              rw [if_neg (by omega)] at co
              unfold ownF at co
              have c0 := HM2.out.c0
              have c1 := HM2.out.c1
              have HO := Lib.hid (HV3.out pp)
              obtain ⟨z, hz⟩ : ∃ z, ownS h pp = z := ⟨_, rfl⟩
              rw [hz] at co
              have HZ := Lib.hid hz; clear hz
              by_cases hzt : z = t
              · have qz : ((z : Int) == (t : Int)) = true := by simp [hzt]
                have HE := Lib.hid (show Value.int .i64 0 = ownF h9 pp by unfold ownF; rw [HO.out, HZ.out, if_pos hzt]; rfl)
                clear hzt
                go_wp2_with fail
                go_quiet ((first
                  | fail))
                go_wp2_with fail
                go_roundw
                case rel => exact ⟨pp + 1, by go_num, by omega, (HM2.out.keep (below_drewN _ _)).zero HE.out (by assumption) (by assumption) (by assumption)⟩
                case measure => simp [intOf] <;> omega
              · have qz : ((z : Int) == (t : Int)) = false := by simp; omega
                have HE := Lib.hid (show ownF h pp = ownF h9 pp by unfold ownF; rw [HO.out, HZ.out, if_neg hzt])
                clear hzt
                go_wp2_with fail
                go_quiet ((first
                  | fail))
                go_wp2_with fail
                go_roundw
                case rel => exact ⟨pp + 1, by go_num, by omega, (HM2.out.keep (below_drewN _ _)).skip HE.out⟩
                case measure => simp [intOf] <;> omega
            · obtain rfl : pp = 3 := by omega
              have c0 := HM2.out.c0
              have c1 := HM2.out.c1
              have HMS := Lib.hid (show MS w w.heap.size G2 G3 h9 _ from ⟨HM2.out.hb, HM2.out.a, HM2.out.o.congr (fun j hj => if_pos hj), HM2.out.d⟩)
              go_wp2_with fail
              go_quiet ((first
                | fail))
              go_wp2_with fail
              go_roundw
              case rel => exact ⟨k + 1, h9, by go_num, by omega, HX9.out, HMS.out.keep (below_drewN _ _)⟩
              case measure => simp [intOf] <;> omega
      have q4 : (x0 == 4) = false := by simpa using h4
      have HF := Lib.hid (show validP l = false from HFAIL.out (by
          rw [HM.out]
          unfold mayK
          simp only
          rw [if_neg h1, if_neg h2, if_neg (by omega)]
        ))
      go_wp2_with fail
      go_ret
      exact ⟨by rw [HF.out]; rfl, by repeat (first | with_reducible exact HB.out | with_reducible refine Below.trans ?_ (below_drewN _ _) | (refine Below.setCell ?_ (by first | exact Nat.le_refl _ | (show w.heap.size ≤ G2; omega) | (show w.heap.size ≤ G3; omega)) _) | (refine Below.alloc ?_ (by first | omega | (simp; omega)) _))⟩
    · obtain rfl : k = n := by omega
      have HE := Lib.hid (show validP l = decide ((k : Int) ≤ 24) by
        rw [validP_done l h (by rw [← HN.out]; exact HH.out), ← HN.out]
        exact decide_eq_decide.2 (by omega))
      go_wp2_with fail
      go_ret
      exact ⟨by rw [HE.out]; rfl, HS.out.hb⟩
end Go.Proofs.Ythpfijhmdeciaaa
