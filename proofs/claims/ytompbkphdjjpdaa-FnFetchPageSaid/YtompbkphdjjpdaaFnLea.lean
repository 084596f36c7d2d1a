/- The walk of the law FnLeavePage. Condition: the code lies in a row. -/
import Derived.Test.YtompbkphdjjpdaaDrawFL
set_option linter.unusedVariables false
set_option linter.unusedSimpArgs false
namespace Go.Proofs.Ytompbkphdjjpdaa
open Go.RowKit Go.ChangeShapes Go.WideShapes

def LeftNo (w : World) (e : Ending) (w' : World) : Prop := e = .returned (.tuple #[.agg #[.slice none 0 0, .int .i64 0], .bool false]) ∧ Below w.heap.size w w'
def LeftYes (m : Nat) (L : List Fr) (h : Int) (w : World) (e : Ending) (w' : World) : Prop := ∃ A c, e = .returned (.tuple #[.agg #[.slice A m c, .int .i64 h], .bool true]) ∧ w'.ownsRow w.heap.size 49 3 (.slice A m c) m (frsC L) ∧ Below w.heap.size w w'
theorem LeavePost.tellNo {l : List Fr} {h p : Int} {w w' : World} {e : Ending} (hq : leaveR l h p = none) (hp : LeavePost l h p w e w') : LeftNo w e w' := by
  unfold LeavePost at hp; rw [hq] at hp; exact hp
theorem LeavePost.tellYes {l L : List Fr} {h p : Int} {m : Nat} {w w' : World} {e : Ending} (hq : leaveR l h p = some L) (hm : L.length = m) (hp : LeavePost l h p w e w') : LeftYes m L h w e w' := by
  unfold LeavePost at hp; rw [hq] at hp
  obtain ⟨v, rfl, ⟨A, c, rfl, hw⟩, hb⟩ := hp
  subst hm
  exact ⟨A, c, rfl, hw, hb⟩
def FetchYes (m : Nat) (L : List Fr) (h k : Int) (w : World) (e : Ending) (w' : World) : Prop := ∃ A c, e = .returned (.tuple #[.agg #[.slice A m c, .int .i64 h], .int .i64 k, .bool true]) ∧ w'.ownsRow w.heap.size 49 3 (.slice A m c) m (frsC L) ∧ Below w.heap.size w w'
def FetchNo (w : World) (e : Ending) (w' : World) : Prop := e = .returned (.tuple #[.agg #[.slice none 0 0, .int .i64 0], .int .i64 (-1), .bool false]) ∧ Below w.heap.size w w'
theorem FetchPost.tellNo {l : List Fr} {h p : Int} {w w' : World} {e : Ending} (hq : fetchR l h p = none) (hp : FetchPost l h p w e w') : FetchNo w e w' := by
  unfold FetchPost at hp; rw [hq] at hp; exact hp
theorem FetchPost.tellYes {l L : List Fr} {h p k : Int} {h' m : Nat} {w w' : World} {e : Ending} (hq : fetchR l h p = some (L, h', k)) (hm : L.length = m) (hp : FetchPost l h p w e w') : FetchYes m L h' k w e w' := by
  unfold FetchPost at hp; rw [hq] at hp
  obtain ⟨v, rfl, ⟨A, c, rfl, hw⟩, hb⟩ := hp
  subst hm
  exact ⟨A, c, rfl, hw, hb⟩

set_option maxRecDepth 100000 in
set_option maxHeartbeats 8000000 in
theorem walk_FnLeavePage (A : Option Addr) (n c : Nat) (w : World) (h : BytesIn w A n c) :
    Calls Try.prog 8 #[.slice A n c] w fun e w' => e = .returned (.bool true) ∧ Below w.heap.size w w' := by
  have HD := Lib.hid (drawLeave_any A n c w h)
  obtain ⟨hc, hm, _⟩ := h
  unfold maxLen at hm
  by_cases hb : n ≤ 1048576
  · go_enter Try.func8, Try.ntmps8
    go_wp2_with fail
    refine (HD.out).mono ?_
    rintro e w1 ⟨v, p, rfl, l, m, hd, A1, c1, rfl, hml, hm1, hm5, ho, hb1⟩
    have P1 := Lib.hid (PV.new ho hml hd)
    have HB1 := Lib.hid (below_step hb1 (below_new (.cells #[.slice A1 m c1, .int .i64 hd] 28)))
    have HML := Lib.hid hml; clear ho hml hb1 hb
    cases hq : leaveR l hd p with
    | none =>
      have HV := Lib.hid (fun W A' c' (hr : RowAt W W.heap.size A' (frsC l)) => (iLeave_any A' m c' l hd p W hr HML.out (by omega)).mono fun e w' hh => LeavePost.tellNo hq hh)
      have HW := Lib.hid (fun W A' c' (hr : RowAt W W.heap.size A' (frsC l)) => (sLeave_any A' m c' l hd p W hr HML.out (by omega)).mono fun e w' hh => LeavePost.tellNo hq hh)
      clear hq
      go_wp2_with fail
      refine (HV.out _ _ _ P1.out.row).mono ?_
      rintro e w2 ⟨rfl, hb2⟩
      have hb2' := below_step hb2 (below_new (.cells #[.slice none 0 0, .int .i64 0] 28))
      have P2 := Lib.hid (P1.out.keep hb2')
      have Q2 := Lib.hid (PV.new (World.ownsRow_nil w2 0 49 3) (l := []) rfl 0)
      have HB2 := Lib.hid (below_step HB1.out hb2'); clear hb2 hb2'
      have a0 := P2.out.c0; have a1 := P2.out.c1
      go_wp2_with fail
      refine (HW.out _ _ _ P2.out.row).mono ?_
      rintro e w3 ⟨rfl, hb3⟩
      have hb3' := below_step hb3 (below_new (.cells #[.slice none 0 0, .int .i64 0] 28))
      have Q3 := Lib.hid (Q2.out.keep hb3')
      have R3 := Lib.hid (PV.new (World.ownsRow_nil w3 0 49 3) (l := []) rfl 0)
      have HB3 := Lib.hid (below_step HB2.out hb3'); clear hb3 hb3' a0 a1
      have b0 := Q3.out.c0; have b1 := Q3.out.c1
      go_wp2_with fail
      refine (equalPool_same none none 0 0 0 [] 0 _ Q3.out.row R3.out.row rfl (by omega)).mono ?_
      rintro e w4 ⟨rfl, hb4⟩
      have Q4 := Lib.hid (Q3.out.keep hb4)
      have R4 := Lib.hid (R3.out.keep hb4)
      have HB4 := Lib.hid (below_step HB3.out hb4); clear hb4 b0 b1
      have b0 := Q4.out.c0; have b1 := Q4.out.c1; have d0 := R4.out.c0; have d1 := R4.out.c1
      go_wp2_with fail
      refine (equalPool_same none none 0 0 0 [] 0 _ Q4.out.row R4.out.row rfl (by omega)).mono ?_
      rintro e w5 ⟨rfl, hb5⟩
      have HB5 := Lib.hid (below_step HB4.out hb5); clear hb5 b0 b1 d0 d1
      go_wp2_with fail
      go_ret
      exact ⟨rfl, HB5.out⟩
    | some L =>
      obtain ⟨g1, g2, g3, L2, h2, g4, g5, g6⟩ := left_back hq
      have hLm : L.length = m := by rw [g2, HML.out]
      have hL2m : L2.length = m := by rw [g5, HML.out]
      have HV := Lib.hid (fun W A' c' (hr : RowAt W W.heap.size A' (frsC l)) => (iLeave_any A' m c' l hd p W hr HML.out (by omega)).mono fun e w' hh => LeavePost.tellYes hq hLm hh)
      have HW := Lib.hid (fun W A' c' (hr : RowAt W W.heap.size A' (frsC l)) => (sLeave_any A' m c' l hd p W hr HML.out (by omega)).mono fun e w' hh => LeavePost.tellYes hq hLm hh)
      have HK := Lib.hid (fun W A' c' (hr : RowAt W W.heap.size A' (frsC L)) => (iFetch_any A' m c' L hd p W hr hLm.symm (by omega)).mono fun e w' hh => FetchPost.tellYes g4 hL2m hh)
      have HX := Lib.hid (fun W A' c' (hr : RowAt W W.heap.size A' (frsC L)) => iPool_any A' m c' L hd W hr hLm.symm (by omega))
      rw [g1] at HX
      have HLM := Lib.hid hLm; have HL2M := Lib.hid hL2m
      have G3 := Lib.hid g3; have G6 := Lib.hid g6
      clear hq g1 g2 g3 g4 g5 g6 hLm hL2m
      go_wp2_with fail
      refine (HV.out _ _ _ P1.out.row).mono ?_
      rintro e w2 ⟨A2, c2, rfl, ho2, hb2⟩
      have hb2' := below_step hb2 (below_new (.cells #[.slice A2 m c2, .int .i64 hd] 28))
      have P2 := Lib.hid (P1.out.keep hb2')
      have Q2 := Lib.hid (PV.new ho2 HLM.out.symm hd)
      have HB2 := Lib.hid (below_step HB1.out hb2'); clear hb2 hb2' ho2
      have a0 := P2.out.c0; have a1 := P2.out.c1
      go_wp2_with fail
      refine (HW.out _ _ _ P2.out.row).mono ?_
      rintro e w3 ⟨A3, c3, rfl, ho3, hb3⟩
      have hb3' := below_step hb3 (below_new (.cells #[.slice A3 m c3, .int .i64 hd] 28))
      have P3 := Lib.hid (P2.out.keep hb3')
      have Q3 := Lib.hid (Q2.out.keep hb3')
      have R3 := Lib.hid (PV.new ho3 HLM.out.symm hd)
      have HB3 := Lib.hid (below_step HB2.out hb3'); clear hb3 hb3' a0 a1 ho3
      have b0 := Q3.out.c0; have b1 := Q3.out.c1
      go_wp2_with fail
      refine (equalPool_same A2 A3 m c2 c3 L hd _ Q3.out.row R3.out.row HLM.out.symm (by omega)).mono ?_
      rintro e w4 ⟨rfl, hb4⟩
      have P4 := Lib.hid (P3.out.keep hb4)
      have Q4 := Lib.hid (Q3.out.keep hb4)
      have HB4 := Lib.hid (below_step HB3.out hb4); clear hb4 b0 b1
      have b0 := Q4.out.c0; have b1 := Q4.out.c1
      go_wp2_with fail
      refine (HK.out _ _ _ Q4.out.row).mono ?_
      rintro e w5 ⟨A5, c5, rfl, ho5, hb5⟩
      have hb5' := below_step hb5 (below_new (.cells #[.slice A5 m c5, .int .i64 (h2 : Int)] 28))
      have P5 := Lib.hid (P4.out.keep hb5')
      have Q5 := Lib.hid (Q4.out.keep hb5')
      have S5 := Lib.hid (PV.new ho5 HL2M.out.symm (h2 : Int))
      have HB5 := Lib.hid (below_step HB4.out hb5'); clear hb5 hb5' b0 b1 ho5
      obtain ⟨gp, rfl⟩ := P5.out.ptr hm1
      obtain ⟨gq, rfl⟩ := Q5.out.ptr hm1
      obtain ⟨gs, rfl⟩ := S5.out.ptr hm1
      obtain ⟨W5, hW5⟩ : ∃ W5, W5 = w5.alloc (.cells #[.slice (some ⟨gs, 0, none⟩) m c5, .int .i64 (h2 : Int)] 28) := ⟨_, rfl⟩
      go_wp2_with fail
      rw [← hW5] at P5 Q5 S5 HB5 ⊢
      clear hW5
      go_loopw [12] (fun i wr => ∃ k : Nat, k ≤ m ∧ i = .int .i64 k ∧ Below W5.heap.size W5 wr) (fun i _ => m - (intOf i).toNat)
      case atStart => exact ⟨0, by omega, rfl, Below.refl _ _⟩
      case round =>
        obtain ⟨k, hk, rfl, hbr⟩ := hrel
        have PR := Lib.hid (P5.out.keep hbr)
        have QR := Lib.hid (Q5.out.keep hbr)
        have SR := Lib.hid (S5.out.keep hbr)
        have HBR := Lib.hid hbr; clear hbr
        have a0 := PR.out.c0; have b0 := QR.out.c0; have s0 := SR.out.c0
        by_cases hlt : k < m
        · have i1 : (k : Int) < (m : Int) := by omega
          have i3 : (0 : Int) ≤ (k : Int) := by omega
          have hkl : k < l.length := by have := HML.out; omega
          have hkL : k < L.length := by have := HLM.out; omega
          have hkL2 : k < L2.length := by have := HL2M.out; omega
          obtain ⟨_, p0, p1, _⟩ := PR.out.frame hkl
          obtain ⟨_, q0, _, _⟩ := QR.out.frame hkL
          obtain ⟨_, _, t1, _⟩ := SR.out.frame hkL2
          have e1 := G3.out k hkl
          have e2 := G6.out k hkl
          rw [getD_get hkL] at e1
          rw [getD_get hkL2] at e2
          rw [e1] at q0
          rw [e2] at t1
          clear e1 e2
          generalize l[k].1 = x1 at *
          generalize l[k].2.1 = x2 at *
          have y1 : (x1 != x1) = false := by simp
          have y2 : (x2 != x2) = false := by simp
          go_wp2_with fail
          go_quiet (fail)
          go_wp2_with fail
          go_roundw
          case rel => exact ⟨k + 1, by omega, by go_num, HBR.out.trans (below_drewN _ _)⟩
          case measure => simp [intOf]; omega
        · obtain rfl : k = m := by omega
          have b1 := QR.out.c1
          go_wp2_with fail
          refine (HX.out _ _ _ QR.out.row).mono ?_
          rintro e w7 ⟨rfl, hb7⟩
          have HB7 := Lib.hid (below_step (below_step HB5.out HBR.out) hb7); clear hb7
          go_wp2_with fail
          go_ret
          exact ⟨rfl, HB7.out⟩
  · go_enter Try.func8, Try.ntmps8
    go_wp2
    go_ret
    exact ⟨rfl, Below.refl _ _⟩
end Go.Proofs.Ytompbkphdjjpdaa
