/- Contracts of DiskAfter and RedoRecs of the model (chapter 6). Conditions: the records and the numbers lie in rows; they are few. -/
import Derived.Test.YthpfijhmdeciaaaRecP
set_option linter.unusedVariables false
set_option linter.unusedSimpArgs false
namespace Go.Proofs.Ythpfijhmdeciaaa
open Go.RowKit Go.ChangeShapes Go.WideShapes

/-- three numbers of the call's own, room behind them -/
def RowC (w : World) (B g c : Nat) (L : List Int) : Prop := L.length = 3 ∧ w.ownsRow B 3 1 (.slice (some ⟨g, 0, none⟩) 3 c) 3 (intC L)
section
variable {w W : World} {B g c p : Nat} {L : List Int}
theorem RowC.lt (h : RowC w B g c L) : B ≤ g ∧ g < w.heap.size := World.ownsRow.lt h.2 g rfl
theorem RowC.cell (h : RowC w B g c L) (hp : p < 3) : w.cell? ⟨g, p, none⟩ = some (.int .i64 (L.getD p 0)) ∧ w.frozen? ⟨g, p, none⟩ = false := by
  have c0 := World.ownsRow.cellAt h.2 p (by omega)
  rw [show (intC L)[p]? = some (.int .i64 (L.getD p 0)) by simp [intC, List.getD_eq_getElem?_getD, h.1, hp]] at c0
  exact ⟨c0, World.ownsRow.frozenAt h.2 _⟩
theorem RowC.keep (h : RowC w B g c L) (hb : Below w.heap.size w W) : RowC W B g c L := ⟨h.1, World.ownsRow.kept h.2 (grown_of_below (row := none) hb) (by simp [Value.ownBlock])⟩
theorem RowC.set (h : RowC w B g c L) (p : Nat) (x : Int) : RowC (w.setCell ⟨g, p, none⟩ (.int .i64 x)) B g c (L.set p x) := by
  refine ⟨by rw [List.length_set]; exact h.1, ?_⟩
  have := (World.ownsRow.stored h.2 p (.int .i64 x)).1
  rw [show (intC L).set p (.int .i64 x) = intC (L.set p x) by simp [intC, List.map_set]] at this
  exact this
end
theorem ints_rowC {w W : World} {B : Nat} {L : List Int} {v : Value} (hl : L.length = 3) (h : OwnInts B L v W) : ∃ g c, v = .slice (some ⟨g, 0, none⟩) 3 c ∧ RowC W B g c L := by
  obtain ⟨A, c, hv, ho⟩ := h
  rw [hl] at hv ho
  obtain ⟨g, c', e, _, _⟩ := World.ownsRow.form ho (by omega)
  injection e with e1 e2 e3
  subst e1 e3
  exact ⟨g, _, hv, hl, ho⟩

set_option maxRecDepth 100000 in
set_option maxHeartbeats 8000000 in
theorem sRedoA_any (A Ak : Option Addr) (n c nk ck : Nat) (l : List Rc) (ks : List Int) (w : World) (hr : RowAt w w.heap.size A (rcsC l)) (hn : n = l.length) (hs : n ≤ 1048576) (hnc : n ≤ c) (hA : A = none → c = 0)
    (hrk : RowAt w w.heap.size Ak (intC ks)) (hk : nk = ks.length) (hv : validP l = true) (hkb : keptB n ks = true) :
    Calls Try.prog 30 #[.slice A n c, .slice Ak nk ck] w (IntsPost (redoW l ks n) w) := by
  have HD := Lib.hid (sDiskA_any A Ak n c nk ck l ks w hr hn hs hnc hA hrk hk hv hkb)
  obtain ⟨hk3, hkp⟩ := kept_at hkb
  have HNK := Lib.hid (show nk = 3 by omega)
  have HKP := Lib.hid hkp; clear hkp
  obtain ⟨h, hh⟩ := valid_hist hv
  have HP := Lib.hid (hist_pl l l.length h hh).1
  clear hh hv
  have HR := Lib.hid hr; clear hr
  have HRK := Lib.hid hrk; clear hrk
  have HN := Lib.hid hn; clear hn hA
  have HK3 := Lib.hid hk3; clear hk hk3
  go_enter Try.func30, Try.ntmps30
  go_wp2_with fail
  refine (HD.out).mono ?_
  rintro e w2 ⟨v, rfl, ho, hb⟩
  obtain ⟨g, cg, rfl, hrow⟩ := ints_rowC (w := w) (L := diskL l ks) rfl ho
  have HG0 := Lib.hid hrow; clear hrow ho
  have HB0 := Lib.hid hb; clear hb
  go_wp2_with fail
  go_loopw [6] (fun i wr => ∃ j : Nat, i = .int .i64 j ∧ j ≤ n ∧ RowC wr w.heap.size g cg (redoW l ks j) ∧ Below w.heap.size w wr) (fun i _ => n - (intOf i).toNat)
  case atStart => exact ⟨0, rfl, by omega, HG0.out, HB0.out⟩
  case round =>
    clear HG0 HB0
    obtain ⟨j, rfl, hj, hg, hb⟩ := hrel
    have HG := Lib.hid hg; clear hg
    have HB := Lib.hid hb; clear hb
    by_cases hlt : j < n
    · obtain ⟨b, off, rfl, hbw, e0, e1, e2, e3, e4⟩ := rc_cells_at (HR.out.below HB.out) (show j < l.length by have := HN.out; omega)
      have hbw2 : b < wr.heap.size := Nat.lt_of_lt_of_le hbw HB.out.size
      have hgl := HG.out.lt.2
      have hgw := HG.out.lt.1
      have HPJ := Lib.hid (HP.out j (by have := HN.out; omega))
      have HS := Lib.hid (show redoW l ks (j + 1) = if (kd l j = 1 ∨ kd l j = 2) ∧ kp ks (pl l j).toNat ≤ j then (redoW l ks j).set (pl l j).toNat (af l j) else redoW l ks j from rfl)
      obtain ⟨y0, h0⟩ : ∃ y, kd l j = y := ⟨_, rfl⟩
      obtain ⟨y1, h1⟩ : ∃ y, tn l j = y := ⟨_, rfl⟩
      obtain ⟨y2, h2⟩ : ∃ y, pl l j = y := ⟨_, rfl⟩
      obtain ⟨y3, h3⟩ : ∃ y, bf l j = y := ⟨_, rfl⟩
      obtain ⟨y4, h4⟩ : ∃ y, af l j = y := ⟨_, rfl⟩
      rw [h0] at e0 HS HPJ
      rw [h1] at e1
      rw [h2] at e2 HS HPJ
      rw [h3] at e3
      rw [h4] at e4 HS
      clear h0 h1 h2 h3 h4
      have HBW := Lib.hid ((Below.refl wr.heap.size wr).alloc (Nat.le_refl _) (.cells #[.int .i64 y0, .int .i64 y1, .int .i64 y2, .int .i64 y3, .int .i64 y4] 31))
      have HBL := Lib.hid (HB.out.trans (HBW.out.mono HB.out.size))
      by_cases hw9 : y0 = 1 ∨ y0 = 2
      · have hpp := HPJ.out hw9
        obtain ⟨q, rfl⟩ : ∃ q : Nat, y2 = (q : Int) := ⟨y2.toNat, by omega⟩
        have hq3 : q < 3 := by omega
        have hq0 : (0 : Int) ≤ (q : Int) := by omega
        have hq3i : (q : Int) < 3 := by omega
        clear hpp HPJ
        obtain ⟨ca, fa⟩ := HG.out.cell hq3
        obtain ⟨bk, ok, rfl, hbk, ek⟩ := ints_at (HRK.out.below HB.out) (show q < ks.length by have := HK3.out; omega)
        have hkx : ks[q]'(by have := HK3.out; omega) = (kp ks q : Int) := by rw [← (HKP.out q hq3).2.2]; simp [List.getD_eq_getElem?_getD, HK3.out, hq3]
        rw [hkx] at ek
        have hbk2 : bk < wr.heap.size := Nat.lt_of_lt_of_le hbk HB.out.size
        have hqn : (q : Int) < (nk : Int) := by have := HNK.out; omega
        rw [Int.toNat_natCast] at HS
        obtain ⟨kq, hkq⟩ : ∃ y, kp ks q = y := ⟨_, rfl⟩
        rw [hkq] at ek HS
        clear hkx hkq
        by_cases hge : kq ≤ j
        · have hgd : decide ((kq : Int) ≤ (j : Int)) = true := by simpa using hge
          have HNX := Lib.hid (show redoW l ks (j + 1) = (redoW l ks j).set q y4 by rw [HS.out, if_pos ⟨hw9, hge⟩])
          have HRN := Lib.hid (fun o => (HG.out.set q y4).keep ((Below.refl _ _).alloc (Nat.le_refl _) o))
          have HBN := Lib.hid (fun o => (HB.out.setCell (p := ⟨g, q, none⟩) hgw (.int .i64 y4)).alloc (by have := HB.out.size; simp; omega) o)
          rcases hw9 with rfl | rfl
          · go_wp2_with fail
            go_roundw
            case rel => exact ⟨j + 1, by go_num, by omega, by rw [HNX.out]; exact HRN.out _, HBN.out _⟩
            case measure => simp [intOf] <;> omega
          · go_wp2_with fail
            go_roundw
            case rel => exact ⟨j + 1, by go_num, by omega, by rw [HNX.out]; exact HRN.out _, HBN.out _⟩
            case measure => simp [intOf] <;> omega
        · have hgd : decide ((kq : Int) ≤ (j : Int)) = false := by simpa using hge
          have HNX := Lib.hid (show redoW l ks (j + 1) = redoW l ks j by rw [HS.out, if_neg (fun h => hge h.2)])
          rcases hw9 with rfl | rfl
          · go_wp2_with fail
            go_roundw
            case rel => exact ⟨j + 1, by go_num, by omega, by rw [HNX.out]; exact HG.out.keep HBW.out, HBL.out⟩
            case measure => simp [intOf] <;> omega
          · go_wp2_with fail
            go_roundw
            case rel => exact ⟨j + 1, by go_num, by omega, by rw [HNX.out]; exact HG.out.keep HBW.out, HBL.out⟩
            case measure => simp [intOf] <;> omega
      · have q1 : (y0 == 1) = false := by simp; omega
        have q2 : (y0 == 2) = false := by simp; omega
        have HNX := Lib.hid (show redoW l ks (j + 1) = redoW l ks j by rw [HS.out, if_neg (fun h => hw9 h.1)])
        clear hw9 HPJ
        go_wp2_with fail
        go_roundw
        case rel => exact ⟨j + 1, by go_num, by omega, by rw [HNX.out]; exact HG.out.keep HBW.out, HBL.out⟩
        case measure => simp [intOf] <;> omega
    · obtain rfl : j = n := by omega
      have HL := Lib.hid (redoW_len l ks j)
      go_wp2_with fail
      go_ret
      exact ⟨_, rfl, ⟨some ⟨g, 0, none⟩, cg, by rw [HL.out]; rfl, by rw [HL.out]; exact HG.out.2⟩, HB.out⟩

set_option maxRecDepth 100000 in
set_option maxHeartbeats 8000000 in
theorem sDisk_any (A Ak : Option Addr) (n c nk ck : Nat) (l : List Rc) (ks : List Int) (w : World) (hr : RowAt w w.heap.size A (rcsC l)) (hn : n = l.length) (hs : n ≤ 1048576) (hnc : n ≤ c) (hA : A = none → c = 0)
    (hrk : RowAt w w.heap.size Ak (intC ks)) (hk : nk = ks.length) (hks : nk ≤ 1048576) :
    Calls Try.prog 16 #[.slice A n c, .slice Ak nk ck] w (IntsPost (diskR l ks) w) := by
  have HC := Lib.hid (sValid_any A n c l w hr hn hs hnc)
  have HK := Lib.hid (fun W (hb : Below w.heap.size w W) => validKept_any A Ak n c nk ck ks W ((hrk.below hb).mono hb.size) hk hks hs)
  have HD := Lib.hid (fun W (hb : Below w.heap.size w W) hv hkb => sDiskA_any A Ak n c nk ck l ks W ((hr.below hb).mono hb.size) hn hs hnc hA ((hrk.below hb).mono hb.size) hk hv hkb)
  have HF := Lib.hid (show diskR l ks = if (validP l && keptB n ks) = true then diskL l ks else [] by rw [hn]; rfl)
  clear hr hn hA hrk hk
  cases hv : validP l with
  | false =>
    rw [hv] at HC HF
    go_enter Try.func16, Try.ntmps16
    go_wp2_with fail
    refine (HC.out).mono ?_
    rintro e w2 ⟨rfl, hb⟩
    have HB := Lib.hid hb; clear hb
    go_wp2_with fail
    go_ret
    exact ⟨_, rfl, by rw [HF.out]; exact own_nilI _ _, HB.out⟩
  | true =>
    rw [hv, Bool.true_and] at HF
    rw [hv] at HC
    have HV := Lib.hid hv; clear hv
    cases hkb : keptB n ks with
    | false =>
      rw [hkb] at HF HK
      clear hkb
      go_enter Try.func16, Try.ntmps16
      go_wp2_with fail
      refine (HC.out).mono ?_
      rintro e w2 ⟨rfl, hb⟩
      have HB := Lib.hid hb; clear hb
      go_wp2_with fail
      refine (HK.out _ HB.out).mono ?_
      rintro e w3 ⟨rfl, hw3⟩
      obtain rfl := hw3.symm
      go_wp2_with fail
      go_ret
      exact ⟨_, rfl, by rw [HF.out]; exact own_nilI _ _, HB.out⟩
    | true =>
      rw [hkb, if_pos rfl] at HF
      rw [hkb] at HK
      have HKB := Lib.hid hkb; clear hkb
      go_enter Try.func16, Try.ntmps16
      go_wp2_with fail
      refine (HC.out).mono ?_
      rintro e w2 ⟨rfl, hb⟩
      have HB := Lib.hid hb; clear hb
      go_wp2_with fail
      refine (HK.out _ HB.out).mono ?_
      rintro e w3 ⟨rfl, hw3⟩
      obtain rfl := hw3.symm
      go_wp2_with fail
      refine (HD.out _ HB.out HV.out HKB.out).mono ?_
      rintro e w4 ⟨v, rfl, ho, hb4⟩
      have HO := Lib.hid (And.intro ho hb4); clear ho hb4
      go_wp2_with fail
      go_ret
      refine ⟨v, rfl, ?_, HB.out.trans (HO.out.2.mono HB.out.size)⟩
      rw [HF.out]
      obtain ⟨A9, c9, e9, h9⟩ := HO.out.1
      exact ⟨A9, c9, e9, own_monoI h9 HB.out.size⟩

set_option maxRecDepth 100000 in
set_option maxHeartbeats 8000000 in
theorem sRedo_any (A Ak : Option Addr) (n c nk ck : Nat) (l : List Rc) (ks : List Int) (w : World) (hr : RowAt w w.heap.size A (rcsC l)) (hn : n = l.length) (hs : n ≤ 1048576) (hnc : n ≤ c) (hA : A = none → c = 0)
    (hrk : RowAt w w.heap.size Ak (intC ks)) (hk : nk = ks.length) (hks : nk ≤ 1048576) :
    Calls Try.prog 19 #[.slice A n c, .slice Ak nk ck] w (IntsPost (redoR l ks) w) := by
  have HC := Lib.hid (sValid_any A n c l w hr hn hs hnc)
  have HK := Lib.hid (fun W (hb : Below w.heap.size w W) => validKept_any A Ak n c nk ck ks W ((hrk.below hb).mono hb.size) hk hks hs)
  have HD := Lib.hid (fun W (hb : Below w.heap.size w W) hv hkb => sRedoA_any A Ak n c nk ck l ks W ((hr.below hb).mono hb.size) hn hs hnc hA ((hrk.below hb).mono hb.size) hk hv hkb)
  have HF := Lib.hid (show redoR l ks = if (validP l && keptB n ks) = true then redoW l ks n else [] by rw [hn]; rfl)
  clear hr hn hA hrk hk
  cases hv : validP l with
  | false =>
    rw [hv] at HC HF
    go_enter Try.func19, Try.ntmps19
    go_wp2_with fail
    refine (HC.out).mono ?_
    rintro e w2 ⟨rfl, hb⟩
    have HB := Lib.hid hb; clear hb
    go_wp2_with fail
    go_ret
    exact ⟨_, rfl, by rw [HF.out]; exact own_nilI _ _, HB.out⟩
  | true =>
    rw [hv, Bool.true_and] at HF
    rw [hv] at HC
    have HV := Lib.hid hv; clear hv
    cases hkb : keptB n ks with
    | false =>
      rw [hkb] at HF HK
      clear hkb
      go_enter Try.func19, Try.ntmps19
      go_wp2_with fail
      refine (HC.out).mono ?_
      rintro e w2 ⟨rfl, hb⟩
      have HB := Lib.hid hb; clear hb
      go_wp2_with fail
      refine (HK.out _ HB.out).mono ?_
      rintro e w3 ⟨rfl, hw3⟩
      obtain rfl := hw3.symm
      go_wp2_with fail
      go_ret
      exact ⟨_, rfl, by rw [HF.out]; exact own_nilI _ _, HB.out⟩
    | true =>
      rw [hkb, if_pos rfl] at HF
      rw [hkb] at HK
      have HKB := Lib.hid hkb; clear hkb
      go_enter Try.func19, Try.ntmps19
      go_wp2_with fail
      refine (HC.out).mono ?_
      rintro e w2 ⟨rfl, hb⟩
      have HB := Lib.hid hb; clear hb
      go_wp2_with fail
      refine (HK.out _ HB.out).mono ?_
      rintro e w3 ⟨rfl, hw3⟩
      obtain rfl := hw3.symm
      go_wp2_with fail
      refine (HD.out _ HB.out HV.out HKB.out).mono ?_
      rintro e w4 ⟨v, rfl, ho, hb4⟩
      have HO := Lib.hid (And.intro ho hb4); clear ho hb4
      go_wp2_with fail
      go_ret
      refine ⟨v, rfl, ?_, HB.out.trans (HO.out.2.mono HB.out.size)⟩
      rw [HF.out]
      obtain ⟨A9, c9, e9, h9⟩ := HO.out.1
      exact ⟨A9, c9, e9, own_monoI h9 HB.out.size⟩
end Go.Proofs.Ythpfijhmdeciaaa
