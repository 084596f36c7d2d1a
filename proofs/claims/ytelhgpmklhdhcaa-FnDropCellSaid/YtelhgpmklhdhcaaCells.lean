/- Contracts of CellsOf, in the program and in the model (chapter 1). Conditions: the slots lie in a row. -/
import Derived.Test.YtelhgpmklhdhcaaPageP
import Derived.Test.YtelhgpmklhdhcaaExPageT
import Derived.Maps.AppendAt
import Derived.OwnWalk
set_option linter.unusedVariables false
set_option linter.unusedSimpArgs false
namespace Go.Proofs.Ytelhgpmklhdhcaa
open Go.RowKit Go.ChangeShapes Go.WideShapes

def noText : ByteArray := ⟨#[]⟩
def cellP (s : ByteArray) (p : Sl) : ByteArray := if 0 ≤ p.1 then cutS s p.1.toNat p.2.toNat else noText
def cellsP (s : ByteArray) (sl : List Sl) : List ByteArray := sl.map (cellP s)
def strC (l : List ByteArray) : List Value := l.map Value.string
theorem strC_len (l : List ByteArray) : (strC l).length = l.length := by simp [strC]
theorem strC_app (a b : List ByteArray) : strC (a ++ b) = strC a ++ strC b := by simp [strC]

/-- texts of the call's own, in a row -/
def OwnTexts (B : Nat) (l : List ByteArray) (v : Value) (w : World) : Prop :=
  ∃ (A : Option Addr) (c : Nat), v = .slice A l.length c ∧ w.ownsRow B 9 1 (.slice A l.length c) l.length (strC l)
def TextsPost (l : List ByteArray) (w : World) (e : Ending) (w' : World) : Prop := ∃ v, e = .returned v ∧ OwnTexts w.heap.size l v w' ∧ Below w.heap.size w w'
def cellsR (s : ByteArray) (sl : List Sl) : List ByteArray := if iValid s sl = true then cellsP s sl else []

theorem strInfo : (Try.prog.info? 9).map (fun i => (i.zero, i.size, i.bytes)) = some (some (.string noText), 1, 16) := by kernel_rfl

/-- the row that is filled: k texts are there, the others are empty -/
def CRel (w : World) (B g n : Nat) (l : List ByteArray) (k : Nat) (wr : World) : Prop :=
  k ≤ n ∧ B ≤ g ∧ wr.ownsRow B 9 1 (.slice (some ⟨g, 0, none⟩) n n) n (strC (l.take k) ++ List.replicate (n - k) (.string noText)) ∧ Below B w wr
theorem c_start {w w1 : World} {n : Nat} {l : List ByteArray} (hown : w1.ownsRow w.heap.size 9 1 (.slice (some ⟨w.heap.size, 0, none⟩) n n) n (madeCells (Value.string noText).cells (n * 1)).toList) (hg : w.grownBy w1 none) : CRel w w.heap.size w.heap.size n l 0 w1 := by
  refine ⟨by omega, by omega, ?_, (Below.refl _ _).grown hg (Nat.le_refl _) (by simp)⟩
  rw [Nat.mul_one, show (Value.string noText).cells = #[Value.string noText] from rfl, toList_madeCells_one] at hown
  simpa [strC] using hown
theorem CRel.keep {w wr W : World} {B g n : Nat} {l : List ByteArray} {k : Nat} (h : CRel w B g n l k wr) (hB : B ≤ wr.heap.size) (hb : Below wr.heap.size wr W) : CRel w B g n l k W := by
  obtain ⟨h1, h2, h3, h4⟩ := h
  exact ⟨h1, h2, h3.kept (grown_of_below (row := none) hb) (by simp [Value.ownBlock]), h4.trans (hb.mono hB)⟩
theorem CRel.skip {w wr : World} {B g n : Nat} {l : List ByteArray} {k : Nat} (h : CRel w B g n l k wr) (hl : n = l.length) (hk : k < n) (he : l[k]'(by omega) = noText) : CRel w B g n l (k + 1) wr := by
  obtain ⟨h1, h2, h3, h4⟩ := h
  refine ⟨by omega, h2, ?_, h4⟩
  have e : strC (l.take (k + 1)) ++ List.replicate (n - (k + 1)) (Value.string noText) = strC (l.take k) ++ List.replicate (n - k) (.string noText) := by
    rw [List.take_succ_eq_append_getElem (by omega), strC_app, he, List.append_assoc, show n - k = (n - (k + 1)) + 1 by omega, List.replicate_succ]
    rfl
  rw [e]; exact h3
theorem CRel.put {w wr : World} {B g n : Nat} {l : List ByteArray} {k : Nat} (h : CRel w B g n l k wr) (hl : n = l.length) (hk : k < n) : CRel w B g n l (k + 1) (wr.setCell ⟨g, k, none⟩ (.string (l[k]'(by omega)))) := by
  obtain ⟨h1, h2, h3, h4⟩ := h
  have hlen : (strC (l.take k)).length = k := by rw [strC_len, List.length_take]; omega
  rw [show n - k = (n - (k + 1)) + 1 by omega, List.replicate_succ] at h3
  have o := h3.stored k (.string (l[k]'(by omega)))
  rw [set_app _ _ _ _ _ hlen.symm] at o
  refine ⟨by omega, h2, ?_, h4.setCell h2 _⟩
  have e : strC (l.take (k + 1)) = strC (l.take k) ++ [.string (l[k]'(by omega))] := by
    rw [List.take_succ_eq_append_getElem (by omega), strC_app]; rfl
  rw [e]; exact o.1
theorem CRel.cell {w wr : World} {B g n : Nat} {l : List ByteArray} {k : Nat} (h : CRel w B g n l k wr) (hk : k < n) : (∃ u, wr.cell? ⟨g, k, none⟩ = some u) ∧ wr.frozen? ⟨g, k, none⟩ = false := by
  obtain ⟨h1, h2, h3, h4⟩ := h
  have c0 := h3.cellAt k (by omega)
  rw [List.getElem?_eq_getElem (by rw [h3.1]; omega)] at c0
  exact ⟨⟨_, c0⟩, h3.frozenAt _⟩

set_option maxRecDepth 100000 in
set_option maxHeartbeats 1000000 in
theorem iCells_any (s : ByteArray) (A : Option Addr) (n c : Nat) (sl : List Sl) (w : World) (h : PageAt w s A n sl) :
    Calls Try.prog 19 #[.agg #[.string s, .slice A n c]] w (TextsPost (cellsR s sl) w) := by
  have HV := Lib.hid (fun W (hb : Below w.heap.size w W) => iValid_any s A n c sl W (h.below hb))
  have HB0 := Lib.hid ((Below.refl w.heap.size w).alloc (Nat.le_refl _) (.cells #[.string s, .slice A n c] 25))
  cases hv : iValid s sl
  · rw [hv] at HV
    have H1 := Lib.hid (show cellsR s sl = [] by unfold cellsR; rw [hv]; simp)
    clear h hv
    go_enter Try.func19, Try.ntmps19
    go_wp2_with fail
    refine (HV.out _ HB0.out).mono ?_
    rintro e w2 ⟨rfl, hb2⟩
    have HB2 := Lib.hid (HB0.out.trans (hb2.mono HB0.out.size)); clear hb2
    go_wp2_with fail
    go_ret
    rw [H1.out]
    exact ⟨_, rfl, ⟨none, 0, rfl, World.ownsRow_nil _ _ _ _⟩, HB2.out⟩
  · have H1 := Lib.hid (show cellsR s sl = cellsP s sl by unfold cellsR; rw [hv]; simp)
    obtain ⟨h48, h24, hgd⟩ := iValid_good hv
    rw [hv] at HV
    have HN := Lib.hid h.len
    have hn24 : 2 * n ≤ 48 := by rw [h.len]; exact h24
    have HR := Lib.hid h.row
    have HG := Lib.hid hgd
    have H48 := Lib.hid h48
    have h48i : (48 : Int) = s.size := by omega
    obtain ⟨i0, hi0, hz0, hz1, hz2⟩ := info_parts strInfo
    have HI := Lib.hid (And.intro hi0 (And.intro hz0 (And.intro hz1 hz2))); clear hi0 hz0 hz1
    have hb2 : i0.bytes * n ≤ 281474976710656 := by rw [hz2]; omega
    clear hz2 h hv hgd h48 h24
    go_enter Try.func19, Try.ntmps19
    go_wp2_with fail
    refine (HV.out _ HB0.out).mono ?_
    rintro e w2 ⟨rfl, hbw2⟩
    have f0 : w2.cell? ⟨w.heap.size, 0, none⟩ = some (.string s) := (hbw2.cell (p := ⟨w.heap.size, 0, none⟩) (by simp)).trans (by simp)
    have f1 : w2.cell? ⟨w.heap.size, 1, none⟩ = some (.slice A n c) := (hbw2.cell (p := ⟨w.heap.size, 1, none⟩) (by simp)).trans (by simp)
    have hs2 : w.heap.size < w2.heap.size := by have := hbw2.size; simp at this; omega
    have HB2 := Lib.hid (HB0.out.trans (hbw2.mono HB0.out.size)); clear hbw2
    have F0 := Lib.hid f0
    have F1 := Lib.hid f1
    go_wp2_with ((refine wpList_make_full _ rfl _ _ 31 rfl w2.heap.size 9 i0 (.string noText) 1 Try.underlying31 HI.out.1 HI.out.2.1 HI.out.2.2.1 .i64 .i64 _ _ n rfl rfl rfl rfl hb2 (by unfold maxLen; omega) (Nat.le_refl _) ?_
                  intro w3 hown hg3
                  have g1 : w3.cell? ⟨w.heap.size, 1, none⟩ = some (.slice A n c) := hg3.cell F1.out (by simp)
                  have HC := Lib.hid (show CRel w2 w2.heap.size w2.heap.size n (cellsP s sl) 0 w3 from c_start hown hg3)
                  clear hown hg3))
    clear f0 f1 g1 hb2
    go_loopw [16] (fun i wr => ∃ k : Nat, i = .int .i64 k ∧ CRel w2 w2.heap.size w2.heap.size n (cellsP s sl) k wr) (fun i _ => n - (intOf i).toNat)
    case atStart => exact ⟨0, rfl, HC.out⟩
    case round =>
      clear HC
      obtain ⟨k, rfl, hc⟩ := hrel
      have HC := Lib.hid hc; clear hc
      have hk := HC.out.1
      have hb2r := HC.out.2.2.2
      have hsr : w2.heap.size ≤ wr.heap.size := hb2r.size
      by_cases hlt : k < n
      · have hkl : k < sl.length := by have := HN.out; omega
        obtain ⟨b, off, rfl, hbw, e0, e1⟩ := slots_at (HR.out.below (HB2.out.trans (hb2r.mono HB2.out.size))) hkl
        have HBR := Lib.hid hb2r; clear hb2r
        have hgd := HG.out sl[k] (List.getElem_mem hkl)
        have hfr := good_free hgd
        obtain ⟨hb1, hb2, hb3, hb4⟩ := good_bd hgd
        have HGD := Lib.hid hgd
        have HLN := Lib.hid (show n = (cellsP s sl).length by rw [HN.out]; simp [cellsP])
        have HCL := Lib.hid (show (cellsP s sl)[k]'(by have := HLN.out; omega) = cellP s sl[k] by simp [cellsP])
        have HF := Lib.hid (fun w => isFree_any sl[k].1 sl[k].2 w)
        rw [hfr] at HF
        have g0 : wr.cell? ⟨w.heap.size, 0, none⟩ = some (.string s) := (HBR.out.cell (p := ⟨w.heap.size, 0, none⟩) hs2).trans F0.out
        clear hgd hfr
        by_cases hx : 0 ≤ sl[k].1
        · have hz48 : sl[k].1 + sl[k].2 ≤ 48 := by
            rcases HGD.out with h1 | h1 <;> omega
          have HPQ := Lib.hid (show cellP s sl[k] = s.extract sl[k].1.toNat (sl[k].1 + sl[k].2).toNat by
            unfold cellP cutS; rw [if_pos hx]; congr 1; omega)
          have HPUT := Lib.hid (fun W (hb : Below wr.heap.size wr W) => (HC.out.keep hsr hb).put HLN.out hlt)
          rw [HCL.out, HPQ.out] at HPUT
          have HCELL := Lib.hid (fun W (hb : Below wr.heap.size wr W) => (HC.out.keep hsr hb).cell hlt)
          generalize hx1 : sl[k].1 = x1 at *
          generalize hx2 : sl[k].2 = x2 at *
          rw [show (!decide (0 ≤ x1)) = false by simp [hx]] at HF
          obtain ⟨a, rfl⟩ := Int.eq_ofNat_of_zero_le hx
          obtain ⟨z, rfl⟩ := Int.eq_ofNat_of_zero_le hb3
          have haz : a + z ≤ s.size := by omega
          have eaz : ((a : Int) + (z : Int)).toNat = a + z := by omega
          rw [Int.toNat_natCast, eaz] at HPUT
          clear hx1 hx2 HPQ eaz
          go_wp2_with fail
          refine (HF.out _).mono ?_
          rintro e w4 ⟨rfl, hb4'⟩
          have m0 : w4.cell? ⟨wr.heap.size, 0, none⟩ = some (.int .i64 (a : Int)) := (hb4'.cell (p := ⟨wr.heap.size, 0, none⟩) (by simp)).trans (by simp)
          have m1 : w4.cell? ⟨wr.heap.size, 1, none⟩ = some (.int .i64 (z : Int)) := (hb4'.cell (p := ⟨wr.heap.size, 1, none⟩) (by simp)).trans (by simp)
          have hb4r : Below wr.heap.size wr w4 := ((Below.refl _ _).alloc (Nat.le_refl _) _).trans (hb4'.mono (by simp))
          have g40 : w4.cell? ⟨w.heap.size, 0, none⟩ = some (.string s) := (hb4r.cell (p := ⟨w.heap.size, 0, none⟩) (by show w.heap.size < wr.heap.size; omega)).trans g0
          have HB4 := Lib.hid hb4r; clear hb4' hb4r g0
          obtain ⟨⟨u, cu⟩, fu⟩ := HCELL.out _ HB4.out
          go_wp2_with fail
          go_roundw
          case rel => exact ⟨k + 1, by go_num, HPUT.out _ HB4.out⟩
          case measure => simp [intOf]; omega
        · have HSK := Lib.hid (fun W (hb : Below wr.heap.size wr W) => (HC.out.keep hsr hb).skip HLN.out hlt (by rw [HCL.out]; unfold cellP; rw [if_neg hx]))
          generalize hx1 : sl[k].1 = x1 at *
          generalize hx2 : sl[k].2 = x2 at *
          rw [show (!decide (0 ≤ x1)) = true by simp [hx]] at HF
          clear hx1 hx2
          go_wp2_with fail
          refine (HF.out _).mono ?_
          rintro e w4 ⟨rfl, hb4'⟩
          have HB4 := Lib.hid (((Below.refl wr.heap.size wr).alloc (Nat.le_refl _) _).trans (hb4'.mono (by simp))); clear hb4'
          go_wp2_with fail
          go_roundw
          case rel => exact ⟨k + 1, by go_num, HSK.out _ HB4.out⟩
          case measure => simp [intOf]; omega
      · obtain rfl : k = n := by omega
        have HLN := Lib.hid (show k = (cellsP s sl).length by rw [HN.out]; simp [cellsP])
        obtain ⟨_, _, ho, hbb⟩ := HC.out
        rw [Nat.sub_self, List.replicate_zero, List.append_nil, List.take_of_length_le (by rw [← HLN.out]; exact Nat.le_refl _)] at ho
        have HO := Lib.hid (And.intro ho hbb); clear ho hbb hb2r
        go_wp2_with fail
        go_ret
        rw [H1.out]
        refine ⟨_, rfl, ⟨some ⟨w2.heap.size, 0, none⟩, k, ?_, ?_⟩, HB2.out.trans (HO.out.2.mono HB2.out.size)⟩
        · rw [← HLN.out]; rfl
        · rw [← HLN.out]; exact own_mono HO.out.1 HB2.out.size

/-- what was appended so far -/
def ARel (w2 : World) (B : Nat) (l : List ByteArray) (k : Nat) (v : Value) (wr : World) : Prop :=
  wr.ownsRow B 9 1 v k (strC (l.take k)) ∧ Below B w2 wr ∧ B ≤ wr.heap.size
theorem ARel.step {w2 wr W w' : World} {B : Nat} {l : List ByteArray} {k : Nat} {v v' : Value} {x : ByteArray} (h : ARel w2 B l k v wr) (hb : Below wr.heap.size wr W) (hk : k < l.length) (hx : l[k] = x)
    (ho : w'.ownsRow B 9 1 v' (k + 1) (strC (l.take k) ++ [.string x])) (hg : W.grownBy w' v.ownBlock) : ARel w2 B l (k + 1) v' w' := by
  have hlt := h.1.lt
  refine ⟨?_, ?_, Nat.le_trans h.2.2 (Nat.le_trans hb.size hg.size)⟩
  · rw [List.take_succ_eq_append_getElem hk, strC_app, hx]; exact ho
  · exact (h.2.1.trans (hb.mono h.2.2)).grown hg (Nat.le_trans h.2.2 hb.size) (fun q hq => (hlt q hq).1)

end Go.Proofs.Ytelhgpmklhdhcaa
