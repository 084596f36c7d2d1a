/- The drawn schedules (the model's generator someActs) and the draws of the laws on acts. Condition: the reader lies in its block. -/
import Derived.Test.YtdpehojcoohjcabDrawL
import Derived.Test.YtdpehojcoohjcabExAct
set_option linter.unusedVariables false
set_option linter.unusedSimpArgs false
namespace Go.Proofs.Ytdpehojcoohjcab
open Go.RowKit Go.ChangeShapes Go.WideShapes

def ActsDrawn (r M : Nat) (w : World) (e : Ending) (w' : World) : Prop := ∃ (l : List Ac) (A : Option Addr) (m c : Nat), e = .returned (.slice A m c) ∧ m = l.length ∧ m ≤ 10 ∧ WfAc l ∧ RowD r M 47 3 w A m c (acsC l) w'
theorem acsC_set0 (l : List Ac) (x : Int) (h : 0 < l.length) : (acsC l).set 0 (.int .i64 x) = acsC (l.set 0 (x, l[0].2)) := by
  cases l with
  | nil => simp at h
  | cons p t => simp [acsC, acC]
theorem acdrawn_set0 {r M : Nat} {w W : World} {ad m c : Nat} {l : List Ac} (h : RowD r M 47 3 w (some ⟨ad, 0, none⟩) m c (acsC l) W) (hr : r < w.heap.size) (hl : 0 < l.length) (x : Int) :
    RowD r M 47 3 w (some ⟨ad, 0, none⟩) m c (acsC (l.set 0 (x, l[0].2))) (W.setCell ⟨ad, 0, none⟩ (.int .i64 x)) := by
  obtain ⟨h1, h2⟩ := World.ownsRow.stored h.own 0 (.int .i64 x)
  rw [acsC_set0 l x hl] at h1
  obtain ⟨A', c', e, hR⟩ := h.app hr h1 h2
  injection e with e1 e2 e3
  subst e1 e3
  exact hR
theorem cells_atA (w : World) (xs : List Value) (t : TypeId) (j : Nat) (u : Value) (h : xs[j]? = some u) : (w.alloc (.cells xs.toArray t)).cell? ((⟨w.heap.size, 0, none⟩ : Addr).add j) = some u := by
  rw [add_zero_off, Nat.zero_add]
  simpa using h
theorem acs_snoc3 (l : List Ac) (z0 z1 : Int) (z2 : Bool) : acsC l ++ [.int .i64 z0, .int .i64 z1, .bool z2] = acsC (l ++ [(z0, z1, z2)]) := by simp [acsC, acC]
theorem wf_snocAc {l : List Ac} {x : Ac} (h : WfAc l) (hx : GoodAc x) : WfAc (l ++ [x]) := fun p hp => by
  rcases List.mem_append.1 hp with h1 | h1
  · exact h p h1
  · rw [List.mem_singleton.1 h1]; exact hx
theorem wf_setAc {l : List Ac} {q : Nat} {x : Ac} (h : WfAc l) (hx : GoodAc x) : WfAc (l.set q x) := fun p hp => by
  rcases List.mem_or_eq_of_mem_set hp with h1 | h1
  · exact h p h1
  · rw [h1]; exact hx
set_option maxRecDepth 100000 in
set_option maxHeartbeats 4000000 in
theorem someActs_any (r N : Nat) (w : World) (h : Rdr 95 w r N) (hN : N ≤ 900000) :
    Calls Try.prog 58 #[.pointer (some ⟨r, 0, none⟩)] w (ActsDrawn r (N + 40) w) := by
  obtain ⟨i0, hi0, hz0, hz1, hz2⟩ := info_parts acInfo
  have HI := Lib.hid (And.intro hi0 (And.intro hz0 (And.intro hz1 hz2))); clear hi0 hz0 hz1 hz2
  have hrl := h.lt
  have HS := Lib.hid (show RowD r N 47 3 w (some ⟨w.heap.size, 0, none⟩) 0 0 (acsC []) (w.alloc (.cells #[] 47)) from RowD.start h 47 3)
  clear h
  have ho1 := fun cs m c t hm hm0 hm1 hs => oneNew_any 2 4 r N m c cs t _ HS.out.rd (by omega) hm hm0 hm1 hs
  simp only [World.size_alloc] at ho1
  have HO1 := Lib.hid ho1; clear ho1
  go_enter Try.func58, Try.ntmps58
  go_wp2_with fail
  refine (HO1.out _ _ _ _ (by rfl) (by omega) (by omega) (by rfl)).mono ?_
  rintro e w1 ⟨kk, rfl, hk1, hk2, hr1, hg1⟩
  have HS1 := Lib.hid (HS.out.grow hrl hg1 hr1); clear hr1 hg1
  have HO2 := Lib.hid (fun cs m c t hm hm0 hm1 hs => oneNew_any 0 10 r (N + 1) m c cs t _ HS1.out.rd (by omega) hm hm0 hm1 hs)
  go_wp2_with fail
  refine (HO2.out _ _ _ _ (by rfl) (by omega) (by omega) (by rfl)).mono ?_
  rintro e w2 ⟨nn, rfl, hn1, hn2, hr2, hg2⟩
  have HS2 := Lib.hid (HS1.out.grow hrl hg2 hr2); clear hr2 hg2
  obtain ⟨n, rfl⟩ := Int.eq_ofNat_of_zero_le hn1
  have hn10 : n ≤ 10 := by omega
  go_wp2_with fail
  go_loopw [3] (fun q wr => ∃ (l : List Ac) (A : Option Addr) (c k : Nat), q = .slice A k c ∧ k = l.length ∧ k ≤ n ∧ WfAc l ∧ RowD r (N + 2 + k * 3) 47 3 w A k c (acsC l) wr) (fun q _ => n - (match q with | .slice _ k _ => k | _ => 0))
  case atStart => exact ⟨[], _, _, 0, rfl, rfl, by omega, (fun x hx => by cases hx), HS2.out⟩
  case round =>
    obtain ⟨l, A, c, k, rfl, hkl, hkn, hwf, hrel⟩ := hrel
    have HKL := Lib.hid hkl; clear hkl
    have HWF := Lib.hid hwf; clear hwf
    have HR := Lib.hid hrel; clear hrel
    by_cases hlt : k < n
    · have HP := Lib.hid (pick_any r (N + 2 + k * 3) kk wr HR.out.rd (by omega) (by omega))
      go_wp2_with fail
      refine (HP.out).mono ?_
      rintro e w3 ⟨x, rfl, hx0, hxn, hr3, hg3⟩
      have HR3 := Lib.hid (HR.out.grow hrl hg3 hr3); clear hr3 hg3
      have hx4 : x ≤ 4 := by omega
      have HP2 := Lib.hid (pick_any r (N + 2 + k * 3 + 1) 3 w3 HR3.out.rd (by omega) (by omega))
      go_wp2_with fail
      refine (HP2.out).mono ?_
      rintro e w4 ⟨y, rfl, hy0, hyn, hr4, hg4⟩
      have HR4 := Lib.hid (HR3.out.grow hrl hg4 hr4); clear hr4 hg4
      have HP3 := Lib.hid (pick_any r (N + 2 + k * 3 + 1 + 1) 2 w4 HR4.out.rd (by omega) (by omega))
      go_wp2_with fail
      refine (HP3.out).mono ?_
      rintro e w5 ⟨z, rfl, hz0, hzn, hr5, hg5⟩
      have HR5 := Lib.hid (HR4.out.grow hrl hg5 hr5); clear hr5 hg5
      have hy3 : y ≤ 3 := by omega
      rcases (by omega : z = 0 ∨ z = 1) with rfl | rfl
      · have HR6 := Lib.hid (HR5.out.alloc (.cells #[.int .i64 x, .int .i64 y, .bool true] 47))
        have HCX := Lib.hid (cells_atA w5 [.int .i64 x, .int .i64 y, .bool true] 47)
        have hbase : w.heap.size ≤ (w5.alloc (.cells #[.int .i64 x, .int .i64 y, .bool true] 47)).heap.size := HR6.out.gr.size
        go_wp2_with (at_builtin; refine wpList_append_own _ rfl _ _ 26 rfl w.heap.size 47 i0 (.agg #[.int .i64 0, .int .i64 0, .bool false]) 3 24 Try.underlying26 HI.out.1 HI.out.2.1 HI.out.2.2.1 HI.out.2.2.2 rfl (by decide) _ k _ rfl HR6.out.own ⟨w5.heap.size, 0, none⟩ 1 1 [.int .i64 x, .int .i64 y, .bool true] rfl rfl (fun j u hj => HCX.out j u hj) (by intro u hu; simp at hu; rcases hu with rfl | rfl | rfl <;> rfl) (by unfold maxLen; omega) (by omega) hbase ?_)
        intro v' w6 hown' hgrow _
        rw [acs_snoc3] at hown'
        obtain ⟨A', c', rfl, hr7⟩ := HR6.out.app hrl hown' hgrow
        have HR7 := Lib.hid (hr7.more (by omega : N + 2 + k * 3 + 1 + 1 + 1 ≤ N + 2 + (k + 1) * 3)); clear hr7 hown' hgrow
        have HWF7 := Lib.hid (wf_snocAc (x := (x, y, true)) HWF.out ⟨by show -9223372036854775808 ≤ x ∧ x ≤ 9223372036854775807; omega, by show -9223372036854775808 ≤ y ∧ y ≤ 9223372036854775807; omega⟩)
        have HL7 := Lib.hid (show k + 1 = (l ++ [(x, y, true)]).length by rw [List.length_append, ← HKL.out]; rfl)
        go_wp2_with fail
        go_roundw
        case rel => exact ⟨l ++ [(x, y, true)], A', c', k + 1, rfl, HL7.out, by omega, HWF7.out, HR7.out⟩
        case measure => simp; omega
      · have HR6 := Lib.hid (HR5.out.alloc (.cells #[.int .i64 x, .int .i64 y, .bool false] 47))
        have HCX := Lib.hid (cells_atA w5 [.int .i64 x, .int .i64 y, .bool false] 47)
        have hbase : w.heap.size ≤ (w5.alloc (.cells #[.int .i64 x, .int .i64 y, .bool false] 47)).heap.size := HR6.out.gr.size
        go_wp2_with (at_builtin; refine wpList_append_own _ rfl _ _ 26 rfl w.heap.size 47 i0 (.agg #[.int .i64 0, .int .i64 0, .bool false]) 3 24 Try.underlying26 HI.out.1 HI.out.2.1 HI.out.2.2.1 HI.out.2.2.2 rfl (by decide) _ k _ rfl HR6.out.own ⟨w5.heap.size, 0, none⟩ 1 1 [.int .i64 x, .int .i64 y, .bool false] rfl rfl (fun j u hj => HCX.out j u hj) (by intro u hu; simp at hu; rcases hu with rfl | rfl | rfl <;> rfl) (by unfold maxLen; omega) (by omega) hbase ?_)
        intro v' w6 hown' hgrow _
        rw [acs_snoc3] at hown'
        obtain ⟨A', c', rfl, hr7⟩ := HR6.out.app hrl hown' hgrow
        have HR7 := Lib.hid (hr7.more (by omega : N + 2 + k * 3 + 1 + 1 + 1 ≤ N + 2 + (k + 1) * 3)); clear hr7 hown' hgrow
        have HWF7 := Lib.hid (wf_snocAc (x := (x, y, false)) HWF.out ⟨by show -9223372036854775808 ≤ x ∧ x ≤ 9223372036854775807; omega, by show -9223372036854775808 ≤ y ∧ y ≤ 9223372036854775807; omega⟩)
        have HL7 := Lib.hid (show k + 1 = (l ++ [(x, y, false)]).length by rw [List.length_append, ← HKL.out]; rfl)
        go_wp2_with fail
        go_roundw
        case rel => exact ⟨l ++ [(x, y, false)], A', c', k + 1, rfl, HL7.out, by omega, HWF7.out, HR7.out⟩
        case measure => simp; omega
    · obtain rfl : k = n := by omega
      by_cases hk0 : k = 0
      · subst hk0
        have HE := Lib.hid (HR.out.more (by omega : N + 2 + 0 * 3 ≤ N + 40))
        go_wp2_with fail
        go_ret
        exact ⟨l, A, 0, c, rfl, HKL.out, by omega, HWF.out, HE.out⟩
      have hkp : (0 : Int) < (k : Int) := by omega
      have HP := Lib.hid (pick_any r (N + 2 + k * 3) 40 wr HR.out.rd (by omega) (by omega))
      go_wp2_with fail
      refine (HP.out).mono ?_
      rintro e w3 ⟨x, rfl, hx0, hxn, hr3, hg3⟩
      have HR3 := Lib.hid (HR.out.grow hrl hg3 hr3); clear hr3 hg3
      by_cases hx : x = 0
      · subst hx
        have HO3 := Lib.hid (fun cs m c t hm hm0 hm1 hs => oneNew_any (-1) 4 r (N + 2 + k * 3 + 1) m c cs t _ HR3.out.rd (by omega) hm hm0 hm1 hs)
        obtain ⟨ad, hA⟩ : ∃ ad, A = some ⟨ad, 0, none⟩ := by
          rcases HR3.out.own.2 with ⟨_, h0⟩ | ⟨g, N', cur, a1, _⟩
          · exact absurd h0 hk0
          · injection a1 with a1; exact ⟨g, a1⟩
        subst hA
        have hlp : 0 < l.length := by have := HKL.out; omega
        go_wp2_with fail
        refine (HO3.out _ _ _ _ (by rfl) (by omega) (by omega) (by rfl)).mono ?_
        rintro e w4 ⟨y, rfl, hy1, hy2, hr4, hg4⟩
        have HR4 := Lib.hid (HR3.out.grow hrl hg4 hr4); clear hr4 hg4
        have c0 := World.ownsRow.cellAt HR4.out.own 0 (by omega)
        rw [List.getElem?_eq_getElem (by rw [HR4.out.own.1]; omega)] at c0
        have f0 := World.ownsRow.frozenAt HR4.out.own 0
        have HR5 := Lib.hid ((acdrawn_set0 HR4.out hrl hlp y).more (by omega : N + 2 + k * 3 + 1 + 1 ≤ N + 40))
        have HWF5 := Lib.hid (wf_setAc (q := 0) (x := (y, l[0].2)) HWF.out ⟨by show -9223372036854775808 ≤ y ∧ y ≤ 9223372036854775807; omega, (HWF.out l[0] (List.getElem_mem hlp)).2⟩)
        have HL5 := Lib.hid (show k = (l.set 0 (y, l[0].2)).length by rw [List.length_set]; exact HKL.out)
        have hads := (HR4.out.own.lt ad rfl).2
        generalize (acsC l)[0]'_ = c00 at *
        go_wp2_with fail
        go_ret
        exact ⟨_, _, k, c, rfl, HL5.out, by omega, HWF5.out, HR5.out⟩
      · have HE := Lib.hid (HR3.out.more (by omega : N + 2 + k * 3 + 1 ≤ N + 40))
        have hxb : ((x : Int) == 0) = false := by simpa using hx
        go_wp2_with fail
        go_ret
        exact ⟨l, _, k, c, rfl, HKL.out, by omega, HWF.out, HE.out⟩
end Go.Proofs.Ytdpehojcoohjcab
