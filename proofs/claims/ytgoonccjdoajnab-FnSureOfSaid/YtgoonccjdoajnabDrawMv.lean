/- The drawn moves (the model's generator someMoves). Condition: the reader lies in its block. -/
import Derived.Test.YtgoonccjdoajnabDrawL
import Derived.Test.YtgoonccjdoajnabExMove
set_option linter.unusedVariables false
set_option linter.unusedSimpArgs false
namespace Go.Proofs.Ytgoonccjdoajnab
open Go.RowKit Go.ChangeShapes Go.WideShapes

theorem underM {r M : Nat} {e : TypeId} {z : Nat} {w W W' : World} {A : Option Addr} {n c : Nat} {cs : List Value} {B : Nat} (h : RowD r M e z w A n c cs W) (hb : Below B W W') (hq : ∀ q, (Value.slice A n c).ownBlock = some q → q < B) (hr : r < B) (hw : w.heap.size ≤ B) : RowD r M e z w A n c cs W' := by
  refine ⟨⟨h.own.1, ?_⟩, h.rd.below hb hr, ⟨hb.os.trans h.gr.os, hb.tape.trans h.gr.tape, hb.output.trans h.gr.output, Nat.le_trans h.gr.size hb.size, fun k hk hn => (hb.block k (by omega)).trans (h.gr.block k hk hn)⟩⟩
  rcases h.own.2 with h1 | ⟨g, cap, cur, hv, hg, hh, s⟩
  · exact .inl h1
  · exact .inr ⟨g, cap, cur, hv, hg, (hb.block g (hq g (by rw [hv]; rfl))).trans hh, s⟩
/-- a move in a variable -/
structure MvAt (g : Nat) (p : Mv) (W : World) : Prop where
  lt : g < W.heap.size
  c0 : W.cell? ⟨g, 0, none⟩ = some (.int .i64 p.1)
  c1 : W.cell? ⟨g, 1, none⟩ = some (.int .i64 p.2.1)
  c2 : W.cell? ⟨g, 2, none⟩ = some (.int .i64 p.2.2)
  f0 : W.frozen? ⟨g, 0, none⟩ = false
  f1 : W.frozen? ⟨g, 1, none⟩ = false
  f2 : W.frozen? ⟨g, 2, none⟩ = false
theorem MvAt.grow {g r : Nat} {p : Mv} {W W' : World} (h : MvAt g p W) (hg : W.grownBy W' (some r)) (hn : g ≠ r) : MvAt g p W' := by
  have hb : W'.heap[g]? = W.heap[g]? := hg.block g h.lt (fun e => by injection e with e; exact hn e)
  exact ⟨Nat.lt_of_lt_of_le h.lt hg.size, (World.cell?_of_block hb).trans h.c0, (World.cell?_of_block hb).trans h.c1, (World.cell?_of_block hb).trans h.c2, (World.frozen?_of_block hb).trans h.f0, (World.frozen?_of_block hb).trans h.f1, (World.frozen?_of_block hb).trans h.f2⟩
theorem MvAt.new (W : World) (a b c : Int) : MvAt W.heap.size (a, b, c) (W.alloc (.cells #[.int .i64 a, .int .i64 b, .int .i64 c] 74)) := ⟨by simp, by simp, by simp, by simp, by simp [go_sem], by simp [go_sem], by simp [go_sem]⟩
theorem mvsC_set0 (l : List Mv) (x : Int) (h : 0 < l.length) : (mvsC l).set 0 (.int .i64 x) = mvsC (l.set 0 (x, l[0].2)) := by
  cases l with
  | nil => simp at h
  | cons p t => simp [mvsC, mvC]
theorem mvdrawn_set0 {r M : Nat} {w W : World} {ad m c : Nat} {l : List Mv} (h : RowD r M 74 3 w (some ⟨ad, 0, none⟩) m c (mvsC l) W) (hr : r < w.heap.size) (hl : 0 < l.length) (x : Int) :
    RowD r M 74 3 w (some ⟨ad, 0, none⟩) m c (mvsC (l.set 0 (x, l[0].2))) (W.setCell ⟨ad, 0, none⟩ (.int .i64 x)) := by
  obtain ⟨h1, h2⟩ := World.ownsRow.stored h.own 0 (.int .i64 x)
  rw [mvsC_set0 l x hl] at h1
  obtain ⟨A', c', e, hR⟩ := h.app hr h1 h2
  injection e with e1 e2 e3
  subst e1 e3
  exact hR
theorem cells_at3 (w : World) (xs : List Value) (t : TypeId) (j : Nat) (u : Value) (h : xs[j]? = some u) : (w.alloc (.cells xs.toArray t)).cell? ((⟨w.heap.size, 0, none⟩ : Addr).add j) = some u := by
  rw [add_zero_off, Nat.zero_add]
  simpa using h
def MvDrawn (r M : Nat) (w : World) (e : Ending) (w' : World) : Prop := ∃ (l : List Mv) (A : Option Addr) (m c : Nat), e = .returned (.slice A m c) ∧ m = l.length ∧ m ≤ 30 ∧ RowD r M 74 3 w A m c (mvsC l) w'

set_option maxRecDepth 100000 in
set_option maxHeartbeats 8000000 in
theorem someMoves_any (r N : Nat) (w : World) (h : Rdr 77 w r N) (hN : N ≤ 800000) :
    Calls Try.prog 66 #[.pointer (some ⟨r, 0, none⟩)] w (MvDrawn r (N + 400) w) := by
  obtain ⟨i0, hi0, hz0, hz1, hz2⟩ := info_parts mvInfo
  have HI := Lib.hid (And.intro hi0 (And.intro hz0 (And.intro hz1 hz2))); clear hi0 hz0 hz1 hz2
  have hrl := h.lt
  have HS := Lib.hid (RowD.start h 74 3)
  clear h
  have ho1 := fun cs m c t hm hm0 hm1 hs => oneNew_any 0 30 r N m c cs t _ HS.out.rd (by omega) hm hm0 hm1 hs
  simp only [World.size_alloc] at ho1
  have HO1 := Lib.hid ho1; clear ho1
  go_enter Try.func66, Try.ntmps66
  go_wp2_with fail
  refine (HO1.out _ _ _ _ (by rfl) (by omega) (by omega) (by rfl)).mono ?_
  rintro e w1 ⟨nn, rfl, hn1, hn2, hr1, hg1⟩
  have HS1 := Lib.hid (HS.out.grow hrl hg1 hr1); clear hr1 hg1
  obtain ⟨n, rfl⟩ := Int.eq_ofNat_of_zero_le hn1
  have hn30 : n ≤ 30 := by omega
  go_wp2_with fail
  go_loopw [3] (fun q wr => ∃ (l : List Mv) (A : Option Addr) (m c : Nat), q = .slice A m c ∧ m = l.length ∧ m ≤ n ∧ RowD r (N + 1 + 8 * m) 74 3 w A m c (mvsC l) wr) (fun q _ => match q with | .slice _ m _ => n - m | _ => 0)
  case atStart => exact ⟨[], _, 0, _, rfl, rfl, by omega, HS1.out.more (by omega)⟩
  case round =>
    obtain ⟨l, A, m, c, rfl, hm, hmn, hrel⟩ := hrel
    have HM := Lib.hid hm; clear hm
    have HR := Lib.hid hrel; clear hrel
    by_cases hlt : m < n
    · have hi1 : (m : Int) < (n : Int) := by omega
      have hP1 := Lib.hid (pick_any r _ 100 wr HR.out.rd (by omega) (by omega))
      go_wp2_with fail
      refine (hP1.out).mono ?_
      rintro e w3 ⟨v1, rfl, hv10, hv1n, hr3, hg3⟩
      have HR3 := Lib.hid (HR.out.grow hrl hg3 hr3); clear hr3 hg3
      have HQ := Lib.hid (fun q hq => (HR3.out.own.lt q hq).2)
      have hw3 : w.heap.size ≤ w3.heap.size := HR3.out.gr.size
      have hr3 : r < w3.heap.size := HR3.out.rd.lt
      have HRA := Lib.hid (HR3.out.alloc (.cells #[.int .i64 0, .int .i64 v1, .int .i64 0] 74))
      have HMA := Lib.hid (MvAt.new w3 0 v1 0)
      have hP2 := Lib.hid (pick_any r _ 5 _ HRA.out.rd (by omega) (by omega))
      go_wp2_with fail
      refine (hP2.out).mono ?_
      rintro e w4 ⟨v2, rfl, hv20, hv2n, hr4, hg4⟩
      have HR4 := Lib.hid (HRA.out.grow hrl hg4 hr4)
      have HM4 := Lib.hid (HMA.out.grow hg4 (by omega)); clear hr4 hg4
      have HAPP := Lib.hid (fun (W w9 : World) (p : Mv) (v' : Value) (hd : RowD r (N + 1 + 8 * (m + 1)) 74 3 w A m c (mvsC l) W) (ho : w9.ownsRow w.heap.size 74 3 v' (m + 1) (mvsC l ++ [.int .i64 p.1, .int .i64 p.2.1, .int .i64 p.2.2])) (hg : W.grownBy w9 (Value.slice A m c).ownBlock) => (show ∃ A' c', v' = .slice A' (m + 1) c' ∧ (∃ l' : List Mv, m + 1 = l'.length ∧ RowD r (N + 1 + 8 * (m + 1)) 74 3 w A' (m + 1) c' (mvsC l') w9) from by
        obtain ⟨A', c', rfl, h9⟩ := hd.app hrl ho hg
        exact ⟨A', c', rfl, l ++ [p], by rw [List.length_append, ← HM.out]; rfl, by rw [mvsC_snoc]; exact h9⟩))
      by_cases t0 : v2 = 0
      · have q0 : (v2 == 0) = true := by simpa using t0
        have HRc := Lib.hid HR4.out
        have HMc := Lib.hid HM4.out
        have hP5 := Lib.hid (pick_any r _ 5 _ HRc.out.rd (by omega) (by omega))
        go_wp2_with fail
        refine (hP5.out).mono ?_
        rintro e w5 ⟨v5, rfl, hv50, hv5n, hr5, hg5⟩
        have HR5 := Lib.hid (HRc.out.grow hrl hg5 hr5)
        have HM5 := Lib.hid (HMc.out.grow hg5 (by omega)); clear hr5 hg5
        have hP6 := Lib.hid (pick_any r _ 7 _ HR5.out.rd (by omega) (by omega))
        go_wp2_with fail
        refine (hP6.out).mono ?_
        rintro e w6 ⟨v6, rfl, hv60, hv6n, hr6, hg6⟩
        have HR6 := Lib.hid (HR5.out.grow hrl hg6 hr6)
        have HM6 := Lib.hid (HM5.out.grow hg6 (by omega)); clear hr6 hg6
        have m0 := HM6.out.c0
        have m1 := HM6.out.c1
        have m2 := HM6.out.c2
        have k0 := HM6.out.f0
        have k1 := HM6.out.f1
        have k2 := HM6.out.f2
        have hlt6 := HM6.out.lt
        have HRS := Lib.hid (underM (W' := ((w6.setCell ⟨w3.heap.size, 0, none⟩ (.int .i64 1)).setCell ⟨w3.heap.size, 1, none⟩ (.int .i64 v5)).setCell ⟨w3.heap.size, 2, none⟩ (.int .i64 v6)) HR6.out ((((Below.refl w3.heap.size w6).setCell (Nat.le_refl _) _).setCell (Nat.le_refl _) _).setCell (Nat.le_refl _) _) HQ.out hr3 hw3)
        have HRZ := Lib.hid (HRS.out.alloc (.cells #[.int .i64 1, .int .i64 v5, .int .i64 v6] 74))
        have HRZ2 := Lib.hid (HRZ.out.more (show _ ≤ N + 1 + 8 * (m + 1) by omega))
        go_wp2_with (at_builtin; refine wpList_append_own _ rfl _ _ 48 rfl w.heap.size 74 i0 (.agg #[.int .i64 0, .int .i64 0, .int .i64 0]) 3 24 Try.underlying48 HI.out.1 HI.out.2.1 HI.out.2.2.1 HI.out.2.2.2 rfl (by decide) (.slice A m c) m (mvsC l) rfl (HRZ2.out).own ⟨w6.heap.size, 0, none⟩ 1 1 [.int .i64 1, .int .i64 v5, .int .i64 v6] rfl rfl ?c1 ?c2 ?c3 ?c4 ?c5 ?_)
        case c1 =>
          intro j u hj
          have hz : (((w6.setCell ⟨w3.heap.size, 0, none⟩ (.int .i64 1)).setCell ⟨w3.heap.size, 1, none⟩ (.int .i64 v5)).setCell ⟨w3.heap.size, 2, none⟩ (.int .i64 v6)).heap.size = w6.heap.size := by simp
          have := cells_at3 (((w6.setCell ⟨w3.heap.size, 0, none⟩ (.int .i64 1)).setCell ⟨w3.heap.size, 1, none⟩ (.int .i64 v5)).setCell ⟨w3.heap.size, 2, none⟩ (.int .i64 v6)) [.int .i64 1, .int .i64 v5, .int .i64 v6] 74 j u hj
          rw [hz] at this
          exact this
        case c2 => intro u hu; simp at hu; rcases hu with rfl | rfl | rfl <;> rfl
        case c3 => unfold maxLen; omega
        case c4 => omega
        case c5 => simp; omega
        intro v' w9 hown' hgrow _
        obtain ⟨A9, c9, rfl, l9, hl9, h9⟩ := HAPP.out _ w9 (1, v5, v6) v' HRZ2.out hown' hgrow
        have H9 := Lib.hid h9
        have HL9 := Lib.hid hl9
        clear h9 hl9 hown' hgrow
        go_wp2_with fail
        go_roundw
        case rel => exact ⟨l9, A9, m + 1, c9, rfl, HL9.out, by omega, H9.out⟩
        case measure => simp; omega
      · by_cases t1 : v2 = 1
        · have q0 : (v2 == 0) = false := by simpa using t0
          have q1 : (v2 == 1) = true := by simpa using t1
          have HRc := Lib.hid HR4.out
          have HMc := Lib.hid HM4.out
          have hP5 := Lib.hid (pick_any r _ 5 _ HRc.out.rd (by omega) (by omega))
          go_wp2_with fail
          refine (hP5.out).mono ?_
          rintro e w5 ⟨v5, rfl, hv50, hv5n, hr5, hg5⟩
          have HR5 := Lib.hid (HRc.out.grow hrl hg5 hr5)
          have HM5 := Lib.hid (HMc.out.grow hg5 (by omega)); clear hr5 hg5
          have hP6 := Lib.hid (pick_any r _ 7 _ HR5.out.rd (by omega) (by omega))
          go_wp2_with fail
          refine (hP6.out).mono ?_
          rintro e w6 ⟨v6, rfl, hv60, hv6n, hr6, hg6⟩
          have HR6 := Lib.hid (HR5.out.grow hrl hg6 hr6)
          have HM6 := Lib.hid (HM5.out.grow hg6 (by omega)); clear hr6 hg6
          have m0 := HM6.out.c0
          have m1 := HM6.out.c1
          have m2 := HM6.out.c2
          have k0 := HM6.out.f0
          have k1 := HM6.out.f1
          have k2 := HM6.out.f2
          have hlt6 := HM6.out.lt
          have HRS := Lib.hid (underM (W' := ((w6.setCell ⟨w3.heap.size, 0, none⟩ (.int .i64 1)).setCell ⟨w3.heap.size, 1, none⟩ (.int .i64 v5)).setCell ⟨w3.heap.size, 2, none⟩ (.int .i64 v6)) HR6.out ((((Below.refl w3.heap.size w6).setCell (Nat.le_refl _) _).setCell (Nat.le_refl _) _).setCell (Nat.le_refl _) _) HQ.out hr3 hw3)
          have HRZ := Lib.hid (HRS.out.alloc (.cells #[.int .i64 1, .int .i64 v5, .int .i64 v6] 74))
          have HRZ2 := Lib.hid (HRZ.out.more (show _ ≤ N + 1 + 8 * (m + 1) by omega))
          go_wp2_with (at_builtin; refine wpList_append_own _ rfl _ _ 48 rfl w.heap.size 74 i0 (.agg #[.int .i64 0, .int .i64 0, .int .i64 0]) 3 24 Try.underlying48 HI.out.1 HI.out.2.1 HI.out.2.2.1 HI.out.2.2.2 rfl (by decide) (.slice A m c) m (mvsC l) rfl (HRZ2.out).own ⟨w6.heap.size, 0, none⟩ 1 1 [.int .i64 1, .int .i64 v5, .int .i64 v6] rfl rfl ?c1 ?c2 ?c3 ?c4 ?c5 ?_)
          case c1 =>
            intro j u hj
            have hz : (((w6.setCell ⟨w3.heap.size, 0, none⟩ (.int .i64 1)).setCell ⟨w3.heap.size, 1, none⟩ (.int .i64 v5)).setCell ⟨w3.heap.size, 2, none⟩ (.int .i64 v6)).heap.size = w6.heap.size := by simp
            have := cells_at3 (((w6.setCell ⟨w3.heap.size, 0, none⟩ (.int .i64 1)).setCell ⟨w3.heap.size, 1, none⟩ (.int .i64 v5)).setCell ⟨w3.heap.size, 2, none⟩ (.int .i64 v6)) [.int .i64 1, .int .i64 v5, .int .i64 v6] 74 j u hj
            rw [hz] at this
            exact this
          case c2 => intro u hu; simp at hu; rcases hu with rfl | rfl | rfl <;> rfl
          case c3 => unfold maxLen; omega
          case c4 => omega
          case c5 => simp; omega
          intro v' w9 hown' hgrow _
          obtain ⟨A9, c9, rfl, l9, hl9, h9⟩ := HAPP.out _ w9 (1, v5, v6) v' HRZ2.out hown' hgrow
          have H9 := Lib.hid h9
          have HL9 := Lib.hid hl9
          clear h9 hl9 hown' hgrow
          go_wp2_with fail
          go_roundw
          case rel => exact ⟨l9, A9, m + 1, c9, rfl, HL9.out, by omega, H9.out⟩
          case measure => simp; omega
        · by_cases t2 : v2 = 2
          · have q0 : (v2 == 0) = false := by simpa using t0
            have q1 : (v2 == 1) = false := by simpa using t1
            have q2 : (v2 == 2) = true := by simpa using t2
            have HRc := Lib.hid HR4.out
            have HMc := Lib.hid HM4.out
            have hP5 := Lib.hid (pick_any r _ 5 _ HRc.out.rd (by omega) (by omega))
            go_wp2_with fail
            refine (hP5.out).mono ?_
            rintro e w5 ⟨v5, rfl, hv50, hv5n, hr5, hg5⟩
            have HR5 := Lib.hid (HRc.out.grow hrl hg5 hr5)
            have HM5 := Lib.hid (HMc.out.grow hg5 (by omega)); clear hr5 hg5
            have hP6 := Lib.hid (pick_any r _ 7 _ HR5.out.rd (by omega) (by omega))
            go_wp2_with fail
            refine (hP6.out).mono ?_
            rintro e w6 ⟨v6, rfl, hv60, hv6n, hr6, hg6⟩
            have HR6 := Lib.hid (HR5.out.grow hrl hg6 hr6)
            have HM6 := Lib.hid (HM5.out.grow hg6 (by omega)); clear hr6 hg6
            have m0 := HM6.out.c0
            have m1 := HM6.out.c1
            have m2 := HM6.out.c2
            have k0 := HM6.out.f0
            have k1 := HM6.out.f1
            have k2 := HM6.out.f2
            have hlt6 := HM6.out.lt
            have HRS := Lib.hid (underM (W' := ((w6.setCell ⟨w3.heap.size, 0, none⟩ (.int .i64 1)).setCell ⟨w3.heap.size, 1, none⟩ (.int .i64 v5)).setCell ⟨w3.heap.size, 2, none⟩ (.int .i64 v6)) HR6.out ((((Below.refl w3.heap.size w6).setCell (Nat.le_refl _) _).setCell (Nat.le_refl _) _).setCell (Nat.le_refl _) _) HQ.out hr3 hw3)
            have HRZ := Lib.hid (HRS.out.alloc (.cells #[.int .i64 1, .int .i64 v5, .int .i64 v6] 74))
            have HRZ2 := Lib.hid (HRZ.out.more (show _ ≤ N + 1 + 8 * (m + 1) by omega))
            go_wp2_with (at_builtin; refine wpList_append_own _ rfl _ _ 48 rfl w.heap.size 74 i0 (.agg #[.int .i64 0, .int .i64 0, .int .i64 0]) 3 24 Try.underlying48 HI.out.1 HI.out.2.1 HI.out.2.2.1 HI.out.2.2.2 rfl (by decide) (.slice A m c) m (mvsC l) rfl (HRZ2.out).own ⟨w6.heap.size, 0, none⟩ 1 1 [.int .i64 1, .int .i64 v5, .int .i64 v6] rfl rfl ?c1 ?c2 ?c3 ?c4 ?c5 ?_)
            case c1 =>
              intro j u hj
              have hz : (((w6.setCell ⟨w3.heap.size, 0, none⟩ (.int .i64 1)).setCell ⟨w3.heap.size, 1, none⟩ (.int .i64 v5)).setCell ⟨w3.heap.size, 2, none⟩ (.int .i64 v6)).heap.size = w6.heap.size := by simp
              have := cells_at3 (((w6.setCell ⟨w3.heap.size, 0, none⟩ (.int .i64 1)).setCell ⟨w3.heap.size, 1, none⟩ (.int .i64 v5)).setCell ⟨w3.heap.size, 2, none⟩ (.int .i64 v6)) [.int .i64 1, .int .i64 v5, .int .i64 v6] 74 j u hj
              rw [hz] at this
              exact this
            case c2 => intro u hu; simp at hu; rcases hu with rfl | rfl | rfl <;> rfl
            case c3 => unfold maxLen; omega
            case c4 => omega
            case c5 => simp; omega
            intro v' w9 hown' hgrow _
            obtain ⟨A9, c9, rfl, l9, hl9, h9⟩ := HAPP.out _ w9 (1, v5, v6) v' HRZ2.out hown' hgrow
            have H9 := Lib.hid h9
            have HL9 := Lib.hid hl9
            clear h9 hl9 hown' hgrow
            go_wp2_with fail
            go_roundw
            case rel => exact ⟨l9, A9, m + 1, c9, rfl, HL9.out, by omega, H9.out⟩
            case measure => simp; omega
          · by_cases t3 : v2 = 3
            · have q0 : (v2 == 0) = false := by simpa using t0
              have q1 : (v2 == 1) = false := by simpa using t1
              have q2 : (v2 == 2) = false := by simpa using t2
              have q3 : (v2 == 3) = true := by simpa using t3
              have hP7 := Lib.hid (pick_any r _ 2 _ HR4.out.rd (by omega) (by omega))
              go_wp2_with fail
              refine (hP7.out).mono ?_
              rintro e w7 ⟨v7, rfl, hv70, hv7n, hr7, hg7⟩
              have HR7 := Lib.hid (HR4.out.grow hrl hg7 hr7)
              have HM7 := Lib.hid (HM4.out.grow hg7 (by omega)); clear hr7 hg7
              by_cases t7 : v7 = 0
              · have q7 : (v7 == 0) = true := by simpa using t7
                have HRc := Lib.hid HR7.out
                have HMc := Lib.hid HM7.out
                have hP5 := Lib.hid (pick_any r _ 5 _ HRc.out.rd (by omega) (by omega))
                go_wp2_with fail
                refine (hP5.out).mono ?_
                rintro e w5 ⟨v5, rfl, hv50, hv5n, hr5, hg5⟩
                have HR5 := Lib.hid (HRc.out.grow hrl hg5 hr5)
                have HM5 := Lib.hid (HMc.out.grow hg5 (by omega)); clear hr5 hg5
                have hP6 := Lib.hid (pick_any r _ 32 _ HR5.out.rd (by omega) (by omega))
                go_wp2_with fail
                refine (hP6.out).mono ?_
                rintro e w6 ⟨v6, rfl, hv60, hv6n, hr6, hg6⟩
                have HR6 := Lib.hid (HR5.out.grow hrl hg6 hr6)
                have HM6 := Lib.hid (HM5.out.grow hg6 (by omega)); clear hr6 hg6
                have m0 := HM6.out.c0
                have m1 := HM6.out.c1
                have m2 := HM6.out.c2
                have k0 := HM6.out.f0
                have k1 := HM6.out.f1
                have k2 := HM6.out.f2
                have hlt6 := HM6.out.lt
                have HRS := Lib.hid (underM (W' := ((w6.setCell ⟨w3.heap.size, 0, none⟩ (.int .i64 2)).setCell ⟨w3.heap.size, 1, none⟩ (.int .i64 v5)).setCell ⟨w3.heap.size, 2, none⟩ (.int .i64 v6)) HR6.out ((((Below.refl w3.heap.size w6).setCell (Nat.le_refl _) _).setCell (Nat.le_refl _) _).setCell (Nat.le_refl _) _) HQ.out hr3 hw3)
                have HRZ := Lib.hid (HRS.out.alloc (.cells #[.int .i64 2, .int .i64 v5, .int .i64 v6] 74))
                have HRZ2 := Lib.hid (HRZ.out.more (show _ ≤ N + 1 + 8 * (m + 1) by omega))
                go_wp2_with (at_builtin; refine wpList_append_own _ rfl _ _ 48 rfl w.heap.size 74 i0 (.agg #[.int .i64 0, .int .i64 0, .int .i64 0]) 3 24 Try.underlying48 HI.out.1 HI.out.2.1 HI.out.2.2.1 HI.out.2.2.2 rfl (by decide) (.slice A m c) m (mvsC l) rfl (HRZ2.out).own ⟨w6.heap.size, 0, none⟩ 1 1 [.int .i64 2, .int .i64 v5, .int .i64 v6] rfl rfl ?c1 ?c2 ?c3 ?c4 ?c5 ?_)
                case c1 =>
                  intro j u hj
                  have hz : (((w6.setCell ⟨w3.heap.size, 0, none⟩ (.int .i64 2)).setCell ⟨w3.heap.size, 1, none⟩ (.int .i64 v5)).setCell ⟨w3.heap.size, 2, none⟩ (.int .i64 v6)).heap.size = w6.heap.size := by simp
                  have := cells_at3 (((w6.setCell ⟨w3.heap.size, 0, none⟩ (.int .i64 2)).setCell ⟨w3.heap.size, 1, none⟩ (.int .i64 v5)).setCell ⟨w3.heap.size, 2, none⟩ (.int .i64 v6)) [.int .i64 2, .int .i64 v5, .int .i64 v6] 74 j u hj
                  rw [hz] at this
                  exact this
                case c2 => intro u hu; simp at hu; rcases hu with rfl | rfl | rfl <;> rfl
                case c3 => unfold maxLen; omega
                case c4 => omega
                case c5 => simp; omega
                intro v' w9 hown' hgrow _
                obtain ⟨A9, c9, rfl, l9, hl9, h9⟩ := HAPP.out _ w9 (2, v5, v6) v' HRZ2.out hown' hgrow
                have H9 := Lib.hid h9
                have HL9 := Lib.hid hl9
                clear h9 hl9 hown' hgrow
                go_wp2_with fail
                go_roundw
                case rel => exact ⟨l9, A9, m + 1, c9, rfl, HL9.out, by omega, H9.out⟩
                case measure => simp; omega
              · have q7 : (v7 == 0) = false := by simpa using t7
                have m0 := HM7.out.c0
                have m1 := HM7.out.c1
                have m2 := HM7.out.c2
                have hlt6 := HM7.out.lt
                have HRZ := Lib.hid (HR7.out.alloc (.cells #[.int .i64 0, .int .i64 v1, .int .i64 0] 74))
                have HRZ2 := Lib.hid (HRZ.out.more (show _ ≤ N + 1 + 8 * (m + 1) by omega))
                go_wp2_with (at_builtin; refine wpList_append_own _ rfl _ _ 48 rfl w.heap.size 74 i0 (.agg #[.int .i64 0, .int .i64 0, .int .i64 0]) 3 24 Try.underlying48 HI.out.1 HI.out.2.1 HI.out.2.2.1 HI.out.2.2.2 rfl (by decide) (.slice A m c) m (mvsC l) rfl (HRZ2.out).own ⟨w7.heap.size, 0, none⟩ 1 1 [.int .i64 0, .int .i64 v1, .int .i64 0] rfl rfl ?c1 ?c2 ?c3 ?c4 ?c5 ?_)
                case c1 =>
                  exact fun j u hj => cells_at3 _ _ _ j u hj
                case c2 => intro u hu; simp at hu; rcases hu with rfl | rfl | rfl <;> rfl
                case c3 => unfold maxLen; omega
                case c4 => omega
                case c5 => simp; omega
                intro v' w9 hown' hgrow _
                obtain ⟨A9, c9, rfl, l9, hl9, h9⟩ := HAPP.out _ w9 (0, v1, 0) v' HRZ2.out hown' hgrow
                have H9 := Lib.hid h9
                have HL9 := Lib.hid hl9
                clear h9 hl9 hown' hgrow
                go_wp2_with fail
                go_roundw
                case rel => exact ⟨l9, A9, m + 1, c9, rfl, HL9.out, by omega, H9.out⟩
                case measure => simp; omega
            · have q0 : (v2 == 0) = false := by simpa using t0
              have q1 : (v2 == 1) = false := by simpa using t1
              have q2 : (v2 == 2) = false := by simpa using t2
              have q3 : (v2 == 3) = false := by simpa using t3
              have m0 := HM4.out.c0
              have m1 := HM4.out.c1
              have m2 := HM4.out.c2
              have hlt6 := HM4.out.lt
              have HRZ := Lib.hid (HR4.out.alloc (.cells #[.int .i64 0, .int .i64 v1, .int .i64 0] 74))
              have HRZ2 := Lib.hid (HRZ.out.more (show _ ≤ N + 1 + 8 * (m + 1) by omega))
              go_wp2_with (at_builtin; refine wpList_append_own _ rfl _ _ 48 rfl w.heap.size 74 i0 (.agg #[.int .i64 0, .int .i64 0, .int .i64 0]) 3 24 Try.underlying48 HI.out.1 HI.out.2.1 HI.out.2.2.1 HI.out.2.2.2 rfl (by decide) (.slice A m c) m (mvsC l) rfl (HRZ2.out).own ⟨w4.heap.size, 0, none⟩ 1 1 [.int .i64 0, .int .i64 v1, .int .i64 0] rfl rfl ?c1 ?c2 ?c3 ?c4 ?c5 ?_)
              case c1 =>
                exact fun j u hj => cells_at3 _ _ _ j u hj
              case c2 => intro u hu; simp at hu; rcases hu with rfl | rfl | rfl <;> rfl
              case c3 => unfold maxLen; omega
              case c4 => omega
              case c5 => simp; omega
              intro v' w9 hown' hgrow _
              obtain ⟨A9, c9, rfl, l9, hl9, h9⟩ := HAPP.out _ w9 (0, v1, 0) v' HRZ2.out hown' hgrow
              have H9 := Lib.hid h9
              have HL9 := Lib.hid hl9
              clear h9 hl9 hown' hgrow
              go_wp2_with fail
              go_roundw
              case rel => exact ⟨l9, A9, m + 1, c9, rfl, HL9.out, by omega, H9.out⟩
              case measure => simp; omega
    · obtain rfl : m = n := by omega
      have hni : ¬ ((m : Int) < (m : Int)) := by omega
      cases m with
      | zero =>
        go_wp2_with fail
        go_ret
        exact ⟨l, A, 0, c, rfl, HM.out, by omega, HR.out.more (by omega)⟩
      | succ k =>
        have h0 : (0 : Int) < ((k + 1 : Nat) : Int) := by omega
        have hP8 := Lib.hid (pick_any r _ 24 wr HR.out.rd (by omega) (by omega))
        go_wp2_with fail
        refine (hP8.out).mono ?_
        rintro e w3 ⟨v8, rfl, hv80, hv8n, hr3, hg3⟩
        have HR3 := Lib.hid (HR.out.grow hrl hg3 hr3); clear hr3 hg3
        by_cases t8 : v8 = 0
        · have q8 : (v8 == 0) = true := by simpa using t8
          have HO2 := Lib.hid (fun cs m c t hm hm0 hm1 hs => oneNew_any (-1) 3 r _ m c cs t w3 HR3.out.rd (by omega) hm hm0 hm1 hs)
          obtain ⟨ad, hA⟩ : ∃ ad, A = some ⟨ad, 0, none⟩ := by
            rcases HR3.out.own.2 with ⟨_, h0⟩ | ⟨g, N', cur, a1, _⟩
            · omega
            · injection a1 with a1; exact ⟨g, a1⟩
          subst hA
          have hlp : 0 < l.length := by have := HM.out; omega
          go_wp2_with fail
          refine (HO2.out _ _ _ _ (by rfl) (by omega) (by omega) (by rfl)).mono ?_
          rintro e w4 ⟨v9, rfl, hv90, hv9n, hr4, hg4⟩
          have HR4 := Lib.hid (HR3.out.grow hrl hg4 hr4); clear hr4 hg4
          have c0 := World.ownsRow.cellAt HR4.out.own 0 (by omega)
          rw [List.getElem?_eq_getElem (by rw [HR4.out.own.1]; omega)] at c0
          have f0 := World.ownsRow.frozenAt HR4.out.own 0
          have HR5 := Lib.hid (mvdrawn_set0 HR4.out hrl hlp v9)
          have HL5 := Lib.hid (show k + 1 = (l.set 0 (v9, l[0].2)).length by rw [List.length_set]; exact HM.out)
          generalize l.set 0 (v9, l[0].2) = l5 at *
          go_wp2_with fail
          go_ret
          exact ⟨l5, _, k + 1, c, rfl, HL5.out, by omega, HR5.out.more (by omega)⟩
        · have q8 : (v8 == 0) = false := by simpa using t8
          go_wp2_with fail
          go_ret
          exact ⟨l, A, k + 1, c, rfl, HM.out, by omega, HR3.out.more (by omega)⟩
end Go.Proofs.Ytgoonccjdoajnab
