/- The drawn jobs (the model's generator someJobs). Condition: the reader lies in its block. -/
import Derived.Test.YtdpehojcoohjcabDrawL
import Derived.Test.YtdpehojcoohjcabExJob
import Derived.Deep.DeepCutAuto
set_option linter.unusedVariables false
set_option linter.unusedSimpArgs false
namespace Go.Proofs.Ytdpehojcoohjcab
open Go.RowKit Go.ChangeShapes Go.WideShapes

def JobsDrawn (r M : Nat) (w : World) (e : Ending) (w' : World) : Prop := ∃ (l : List Jb) (A : Option Addr) (m c : Nat), e = .returned (.slice A m c) ∧ m = l.length ∧ m ≤ 6 ∧ WfJb l ∧ RowD r M 69 4 w A m c (jbsC l) w'
theorem jbsC_cons (x : Jb) (l : List Jb) : jbsC (x :: l) = .int .i64 x.1 :: .int .i64 x.2.1 :: .int .i64 x.2.2.1 :: .int .i64 x.2.2.2 :: jbsC l := rfl
theorem jbsC_set4 : ∀ (l : List Jb) (q : Nat) (x : Jb), q < l.length →
    ((((jbsC l).set (q * 4) (.int .i64 x.1)).set (q * 4 + 1) (.int .i64 x.2.1)).set (q * 4 + 2) (.int .i64 x.2.2.1)).set (q * 4 + 3) (.int .i64 x.2.2.2) = jbsC (l.set q x)
  | [], _, _, h => by simp at h
  | y :: l, 0, x, _ => by simp [jbsC_cons]
  | y :: l, q + 1, x, h => by
    have := jbsC_set4 l q x (by simpa using h)
    rw [List.set_cons_succ, jbsC_cons, jbsC_cons, ← this]
    rw [show (q + 1) * 4 = q * 4 + 1 + 1 + 1 + 1 by omega]
    simp only [List.set_cons_succ, Nat.add_assoc]
theorem jbdrawn_set {r M : Nat} {w W : World} {ad m c q : Nat} {l : List Jb} (h : RowD r M 69 4 w (some ⟨ad, 0, none⟩) m c (jbsC l) W) (hr : r < w.heap.size) (hq : q < l.length) (x : Jb) :
    RowD r M 69 4 w (some ⟨ad, 0, none⟩) m c (jbsC (l.set q x)) ((((W.setCell ⟨ad, q * 4, none⟩ (.int .i64 x.1)).setCell ⟨ad, q * 4 + 1, none⟩ (.int .i64 x.2.1)).setCell ⟨ad, q * 4 + 2, none⟩ (.int .i64 x.2.2.1)).setCell ⟨ad, q * 4 + 3, none⟩ (.int .i64 x.2.2.2)) := by
  obtain ⟨h1, g1⟩ := World.ownsRow.stored h.own (q * 4) (.int .i64 x.1)
  obtain ⟨h2, g2⟩ := h1.stored (q * 4 + 1) (.int .i64 x.2.1)
  obtain ⟨h3, g3⟩ := h2.stored (q * 4 + 2) (.int .i64 x.2.2.1)
  obtain ⟨h4, g4⟩ := h3.stored (q * 4 + 3) (.int .i64 x.2.2.2)
  rw [jbsC_set4 l q x hq] at h4
  obtain ⟨A', c', e, hR⟩ := h.app hr h4 (((g1.trans' g2).trans' g3).trans' g4)
  injection e with e1 e2 e3
  subst e1 e3
  exact hR
theorem jbdrawn_end {r M : Nat} {w W : World} {ad m c : Nat} {l : List Jb} (h : RowD r M 69 4 w (some ⟨ad, 0, none⟩) m c (jbsC l) W) (hr : r < w.heap.size) (hl : 0 < l.length) (x : Int) :
    RowD r M 69 4 w (some ⟨ad, 0, none⟩) m c (jbsC (l.set 0 (l[0].1, x, l[0].2.2))) (W.setCell ⟨ad, 1, none⟩ (.int .i64 x)) := by
  obtain ⟨h1, h2⟩ := World.ownsRow.stored h.own 1 (.int .i64 x)
  have e : (jbsC l).set 1 (.int .i64 x) = jbsC (l.set 0 (l[0].1, x, l[0].2.2)) := by
    cases l with
    | nil => simp at hl
    | cons y l => simp [jbsC_cons]
  rw [e] at h1
  obtain ⟨A', c', e, hR⟩ := h.app hr h1 h2
  injection e with e1 e2 e3
  subst e1 e3
  exact hR
theorem jbdrawn_at {r M : Nat} {w W : World} {ad m c q : Nat} {l : List Jb} (h : RowD r M 69 4 w (some ⟨ad, 0, none⟩) m c (jbsC l) W) (hm : m = l.length) (hq : q < l.length) :
    (W.cell? ⟨ad, q * 4, none⟩ = some (.int .i64 l[q].1) ∧ W.cell? ⟨ad, q * 4 + 1, none⟩ = some (.int .i64 l[q].2.1) ∧ W.cell? ⟨ad, q * 4 + 2, none⟩ = some (.int .i64 l[q].2.2.1) ∧ W.cell? ⟨ad, q * 4 + 3, none⟩ = some (.int .i64 l[q].2.2.2)) ∧
    (W.frozen? ⟨ad, q * 4, none⟩ = false ∧ W.frozen? ⟨ad, q * 4 + 1, none⟩ = false ∧ W.frozen? ⟨ad, q * 4 + 2, none⟩ = false ∧ W.frozen? ⟨ad, q * 4 + 3, none⟩ = false) := by
  have c0 := h.own.cellAt (q * 4) (by omega)
  have c1 := h.own.cellAt (q * 4 + 1) (by omega)
  have c2 := h.own.cellAt (q * 4 + 2) (by omega)
  have c3 := h.own.cellAt (q * 4 + 3) (by omega)
  rw [jbsC_at0 hq] at c0
  rw [jbsC_at1 hq] at c1
  rw [jbsC_at2 hq] at c2
  rw [jbsC_at3 hq] at c3
  exact ⟨⟨c0, c1, c2, c3⟩, h.own.frozenAt _, h.own.frozenAt _, h.own.frozenAt _, h.own.frozenAt _⟩
theorem cells_atJ (w : World) (xs : List Value) (t : TypeId) (j : Nat) (u : Value) (h : xs[j]? = some u) : (w.alloc (.cells xs.toArray t)).cell? ((⟨w.heap.size, 0, none⟩ : Addr).add j) = some u := by
  rw [add_zero_off, Nat.zero_add]
  simpa using h
theorem jbs_snoc4 (l : List Jb) (z0 z1 z2 z3 : Int) : jbsC l ++ [.int .i64 z0, .int .i64 z1, .int .i64 z2, .int .i64 z3] = jbsC (l ++ [(z0, z1, z2, z3)]) := by simp [jbsC, jbC]
theorem wf_snocJb {l : List Jb} {x : Jb} (h : WfJb l) (hx : GoodJb x) : WfJb (l ++ [x]) := fun p hp => by
  rcases List.mem_append.1 hp with h1 | h1
  · exact h p h1
  · rw [List.mem_singleton.1 h1]; exact hx
theorem wf_setJb {l : List Jb} {q : Nat} {x : Jb} (h : WfJb l) (hx : GoodJb x) : WfJb (l.set q x) := fun p hp => by
  rcases List.mem_or_eq_of_mem_set hp with h1 | h1
  · exact h p h1
  · rw [h1]; exact hx
theorem good_small {a b c d : Int} (ha : 0 ≤ a ∧ a ≤ 1000) (hb : 0 ≤ b ∧ b ≤ 1000) (hc : 0 ≤ c ∧ c ≤ 1000) (hd : 0 ≤ d ∧ d ≤ 1000) : GoodJb (a, b, c, d) := by
  refine ⟨⟨?_, ?_⟩, ⟨?_, ?_⟩, ⟨?_, ?_⟩, ?_, ?_⟩ <;> simp only <;> omega
theorem far4 (W : World) (ad o0 o1 o2 o3 bx j : Nat) (v0 v1 v2 v3 : Value) (h : (⟨ad, 0, none⟩ : Addr).block ≠ bx) :
    ((((W.setCell ⟨ad, o0, none⟩ v0).setCell ⟨ad, o1, none⟩ v1).setCell ⟨ad, o2, none⟩ v2).setCell ⟨ad, o3, none⟩ v3).cell? ⟨bx, j, none⟩ = W.cell? ⟨bx, j, none⟩ := by
  have hn : ∀ o, (⟨ad, o, none⟩ : Addr) ≠ ⟨bx, j, none⟩ := fun o e => h (by injection e)
  rw [World.cell?_setCell_other (h := hn _), World.cell?_setCell_other (h := hn _), World.cell?_setCell_other (h := hn _), World.cell?_setCell_other (h := hn _)]
/-- what is drawn at first: ends that are small -/
def SmallJ (l : List Jb) : Prop := ∀ p ∈ l, 0 ≤ p.2.1 ∧ p.2.1 ≤ 1000
set_option maxRecDepth 100000 in
set_option maxHeartbeats 4000000 in
theorem someJobs_any (r N : Nat) (w : World) (h : Rdr 95 w r N) (hN : N ≤ 900000) :
    Calls Try.prog 61 #[.pointer (some ⟨r, 0, none⟩)] w (JobsDrawn r (N + 60) w) := by
  obtain ⟨i0, hi0, hz0, hz1, hz2⟩ := info_parts jbInfo
  have HI := Lib.hid (And.intro hi0 (And.intro hz0 (And.intro hz1 hz2))); clear hi0 hz0 hz1 hz2
  have hrl := h.lt
  have HS := Lib.hid (show RowD r N 69 4 w (some ⟨w.heap.size, 0, none⟩) 0 0 (jbsC []) (w.alloc (.cells #[] 69)) from RowD.start h 69 4)
  clear h
  have ho1 := fun cs m c t hm hm0 hm1 hs => oneNew_any 0 6 r N m c cs t _ HS.out.rd (by omega) hm hm0 hm1 hs
  simp only [World.size_alloc] at ho1
  have HO1 := Lib.hid ho1; clear ho1
  go_enter Try.func61, Try.ntmps61
  go_wp2_with fail
  refine (HO1.out _ _ _ _ (by rfl) (by omega) (by omega) (by rfl)).mono ?_
  rintro e w2 ⟨nn, rfl, hn1, hn2, hr2, hg2⟩
  have HS2 := Lib.hid (HS.out.grow hrl hg2 hr2); clear hr2 hg2
  obtain ⟨n, rfl⟩ := Int.eq_ofNat_of_zero_le hn1
  have hn6 : n ≤ 6 := by omega
  go_wp2_with fail
  go_loopw [3] (fun q wr => ∃ (l : List Jb) (A : Option Addr) (c k : Nat), q = .slice A k c ∧ k = l.length ∧ k ≤ n ∧ WfJb l ∧ RowD r (N + 1 + k * 4) 69 4 w A k c (jbsC l) wr) (fun q _ => n - (match q with | .slice _ k _ => k | _ => 0))
  case atStart => exact ⟨[], _, _, 0, rfl, rfl, by omega, (fun x hx => by cases hx), HS2.out⟩
  case round =>
    obtain ⟨l, A, c, k, rfl, hkl, hkn, hwf, hrel⟩ := hrel
    have HKL := Lib.hid hkl; clear hkl
    have HWF := Lib.hid hwf; clear hwf
    have HR := Lib.hid hrel; clear hrel
    by_cases hlt : k < n
    · have HP := Lib.hid (pick_any r (N + 1 + k * 4) 3 wr HR.out.rd (by omega) (by omega))
      go_wp2_with fail
      refine (HP.out).mono ?_
      rintro e w3 ⟨x, rfl, hx0, hxn, hr3, hg3⟩
      have HR3 := Lib.hid (HR.out.grow hrl hg3 hr3); clear hr3 hg3
      have hx3 : x ≤ 3 := by omega
      have HE := Lib.hid (show 0 ≤ 2 + 3 * (k : Int) + x ∧ 2 + 3 * (k : Int) + x ≤ 1000 by omega)
      generalize hE : 2 + 3 * (k : Int) + x = E1 at *
      have hE0 := HE.out.1
      have hE1 := HE.out.2
      have HP2 := Lib.hid (pick_any r (N + 1 + k * 4 + 1) 9 w3 HR3.out.rd (by omega) (by omega))
      go_wp2_with (first | rw [hE] | fail)
      refine (HP2.out).mono ?_
      rintro e w4 ⟨y, rfl, hy0, hyn, hr4, hg4⟩
      have HR4 := Lib.hid (HR3.out.grow hrl hg4 hr4); clear hr4 hg4
      have hy9 : y ≤ 9 := by omega
      rcases (by omega : E1 - 1 - y < 0 ∨ 0 ≤ E1 - 1 - y) with hm | hm
      · skip
        have HP3 := Lib.hid (pick_any r (N + 1 + k * 4 + 1 + 1) 8 w4 HR4.out.rd (by omega) (by omega))
        go_wp2_with fail
        refine (HP3.out).mono ?_
        rintro e w5 ⟨z, rfl, hz0, hzn, hr5, hg5⟩
        have HR5 := Lib.hid (HR4.out.grow hrl hg5 hr5); clear hr5 hg5
        have hz8 : z ≤ 8 := by omega
        have HP4 := Lib.hid (pick_any r (N + 1 + k * 4 + 1 + 1 + 1) 8 w5 HR5.out.rd (by omega) (by omega))
        go_wp2_with fail
        refine (HP4.out).mono ?_
        rintro e w6 ⟨u, rfl, hu0, hun, hr6, hg6⟩
        have HR6 := Lib.hid (HR5.out.grow hrl hg6 hr6); clear hr6 hg6
        have hu8 : u ≤ 8 := by omega
        have HR7 := Lib.hid (HR6.out.alloc (.cells #[.int .i64 0, .int .i64 E1, .int .i64 z, .int .i64 u] 69))
        have HCX := Lib.hid (cells_atJ w6 [.int .i64 0, .int .i64 E1, .int .i64 z, .int .i64 u] 69)
        have hbase : w.heap.size ≤ (w6.alloc (.cells #[.int .i64 0, .int .i64 E1, .int .i64 z, .int .i64 u] 69)).heap.size := HR7.out.gr.size
        have HGD := Lib.hid (good_small (a := 0) (b := E1) (c := z) (d := u) (by omega) ⟨hE0, hE1⟩ ⟨hz0, by omega⟩ ⟨hu0, by omega⟩)
        go_wp2_with (at_builtin; refine wpList_append_own _ rfl _ _ 38 rfl w.heap.size 69 i0 (.agg #[.int .i64 0, .int .i64 0, .int .i64 0, .int .i64 0]) 4 32 Try.underlying38 HI.out.1 HI.out.2.1 HI.out.2.2.1 HI.out.2.2.2 rfl (by decide) _ k _ rfl HR7.out.own ⟨w6.heap.size, 0, none⟩ 1 1 [.int .i64 0, .int .i64 E1, .int .i64 z, .int .i64 u] rfl rfl (fun j u hj => HCX.out j u hj) (by intro u hu; simp at hu; rcases hu with rfl | rfl | rfl | rfl <;> rfl) (by unfold maxLen; omega) (by omega) hbase ?_)
        intro v' w7 hown' hgrow _
        rw [jbs_snoc4] at hown'
        obtain ⟨A', c', rfl, hr8⟩ := HR7.out.app hrl hown' hgrow
        have HR8 := Lib.hid (hr8.more (by omega : N + 1 + k * 4 + 1 + 1 + 1 + 1 ≤ N + 1 + (k + 1) * 4)); clear hr8 hown' hgrow
        have HWF7 := Lib.hid (wf_snocJb HWF.out HGD.out)
        have HL7 := Lib.hid (show k + 1 = (l ++ [(0, E1, z, u)]).length by rw [List.length_append, ← HKL.out]; rfl)
        go_wp2_with fail
        go_roundw
        case rel => exact ⟨l ++ [(0, E1, z, u)], A', c', k + 1, rfl, HL7.out, by omega, HWF7.out, HR8.out⟩
        case measure => simp; omega
      · have hs2 : E1 - 1 - y ≤ 1000 := by omega
        have HP3 := Lib.hid (pick_any r (N + 1 + k * 4 + 1 + 1) 8 w4 HR4.out.rd (by omega) (by omega))
        go_wp2_with fail
        refine (HP3.out).mono ?_
        rintro e w5 ⟨z, rfl, hz0, hzn, hr5, hg5⟩
        have HR5 := Lib.hid (HR4.out.grow hrl hg5 hr5); clear hr5 hg5
        have hz8 : z ≤ 8 := by omega
        have HP4 := Lib.hid (pick_any r (N + 1 + k * 4 + 1 + 1 + 1) 8 w5 HR5.out.rd (by omega) (by omega))
        go_wp2_with fail
        refine (HP4.out).mono ?_
        rintro e w6 ⟨u, rfl, hu0, hun, hr6, hg6⟩
        have HR6 := Lib.hid (HR5.out.grow hrl hg6 hr6); clear hr6 hg6
        have hu8 : u ≤ 8 := by omega
        have HR7 := Lib.hid (HR6.out.alloc (.cells #[.int .i64 (E1 - 1 - y), .int .i64 E1, .int .i64 z, .int .i64 u] 69))
        have HCX := Lib.hid (cells_atJ w6 [.int .i64 (E1 - 1 - y), .int .i64 E1, .int .i64 z, .int .i64 u] 69)
        have hbase : w.heap.size ≤ (w6.alloc (.cells #[.int .i64 (E1 - 1 - y), .int .i64 E1, .int .i64 z, .int .i64 u] 69)).heap.size := HR7.out.gr.size
        have HGD := Lib.hid (good_small (a := (E1 - 1 - y)) (b := E1) (c := z) (d := u) (by omega) ⟨hE0, hE1⟩ ⟨hz0, by omega⟩ ⟨hu0, by omega⟩)
        go_wp2_with (at_builtin; refine wpList_append_own _ rfl _ _ 38 rfl w.heap.size 69 i0 (.agg #[.int .i64 0, .int .i64 0, .int .i64 0, .int .i64 0]) 4 32 Try.underlying38 HI.out.1 HI.out.2.1 HI.out.2.2.1 HI.out.2.2.2 rfl (by decide) _ k _ rfl HR7.out.own ⟨w6.heap.size, 0, none⟩ 1 1 [.int .i64 (E1 - 1 - y), .int .i64 E1, .int .i64 z, .int .i64 u] rfl rfl (fun j u hj => HCX.out j u hj) (by intro u hu; simp at hu; rcases hu with rfl | rfl | rfl | rfl <;> rfl) (by unfold maxLen; omega) (by omega) hbase ?_)
        intro v' w7 hown' hgrow _
        rw [jbs_snoc4] at hown'
        obtain ⟨A', c', rfl, hr8⟩ := HR7.out.app hrl hown' hgrow
        have HR8 := Lib.hid (hr8.more (by omega : N + 1 + k * 4 + 1 + 1 + 1 + 1 ≤ N + 1 + (k + 1) * 4)); clear hr8 hown' hgrow
        have HWF7 := Lib.hid (wf_snocJb HWF.out HGD.out)
        have HL7 := Lib.hid (show k + 1 = (l ++ [((E1 - 1 - y), E1, z, u)]).length by rw [List.length_append, ← HKL.out]; rfl)
        go_wp2_with fail
        go_roundw
        case rel => exact ⟨l ++ [((E1 - 1 - y), E1, z, u)], A', c', k + 1, rfl, HL7.out, by omega, HWF7.out, HR8.out⟩
        case measure => simp; omega
    · obtain rfl : k = n := by omega
      have HM := Lib.hid (HR.out.more (by omega : N + 1 + k * 4 ≤ N + 30 + (k - k))); clear HR
      have HWF1 := Lib.hid HWF.out; clear HWF
      go_wp2_with fail
      go_loopw [6] (fun i wr => ∃ (l : List Jb) (j : Nat), i = .int .i64 ((j : Int) - 1) ∧ j ≤ k ∧ k = l.length ∧ WfJb l ∧ RowD r (N + 30 + (k - j)) 69 4 w A k c (jbsC l) wr) (fun i _ => (intOf i + 1).toNat)
      case atStart => exact ⟨l, k, rfl, by omega, HKL.out, HWF1.out, HM.out⟩
      case round =>
        clear HM HKL HWF1
        obtain ⟨l, j, rfl, hjk, hkl, hwf, hrel⟩ := hrel
        have HKL := Lib.hid hkl; clear hkl
        have HWF := Lib.hid hwf; clear hwf
        have HR := Lib.hid hrel; clear hrel
        by_cases hj2 : 2 ≤ j
        · obtain ⟨q, rfl⟩ : ∃ q, j = q + 1 := ⟨j - 1, by omega⟩
          have hq1 : (0 : Int) < (q : Int) := by omega
          have hq0 : (0 : Int) ≤ (q : Int) := by omega
          have eq : ((q + 1 : Nat) : Int) - 1 = (q : Int) := by omega
          rw [eq]
          clear eq
          have hqk : (q : Int) < (k : Int) := by omega
          obtain ⟨ad, hA⟩ : ∃ ad, A = some ⟨ad, 0, none⟩ := by
            rcases HR.out.own.2 with ⟨_, h0⟩ | ⟨g, N', cur, a1, _⟩
            · omega
            · injection a1 with a1; exact ⟨g, a1⟩
          subst hA
          have HP := Lib.hid (pick_any r (N + 30 + (k - (q + 1))) ((q : Int) + 1) wr HR.out.rd (by omega) (by omega))
          go_wp2_with fail
          refine (HP.out).mono ?_
          rintro e w3 ⟨pp, rfl, hp0, hpn, hr3, hg3⟩
          have HR3 := Lib.hid (HR.out.grow hrl hg3 hr3); clear hr3 hg3
          obtain ⟨p, rfl⟩ := Int.eq_ofNat_of_zero_le hp0
          have hpk : (p : Int) < (k : Int) := by omega
          have hql : q < l.length := by have := HKL.out; omega
          have hpl : p < l.length := by have := HKL.out; omega
          have HR4 := Lib.hid (HR3.out.alloc (.cells #[.int .i64 l[q].1, .int .i64 l[q].2.1, .int .i64 l[q].2.2.1, .int .i64 l[q].2.2.2] 69))
          have HR5 := Lib.hid (jbdrawn_set HR4.out hrl hql l[p])
          have hpl2 : p < (l.set q l[p]).length := by rw [List.length_set]; exact hpl
          have hkl5 : k = (l.set q l[p]).length := by rw [List.length_set]; exact HKL.out
          have HR6 := Lib.hid ((jbdrawn_set HR5.out hrl hpl2 l[q]).more (by omega : N + 30 + (k - (q + 1)) + 1 ≤ N + 30 + (k - q)))
          have HL6 := Lib.hid (show k = ((l.set q l[p]).set p l[q]).length by rw [List.length_set, List.length_set]; exact HKL.out)
          have HWF6 := Lib.hid (wf_setJb (q := p) (x := l[q]) (wf_setJb (q := q) (x := l[p]) HWF.out (HWF.out _ (List.getElem_mem hpl))) (HWF.out _ (List.getElem_mem hql)))
          have A3 := Lib.hid (jbdrawn_at HR3.out HKL.out hql)
          have A4 := Lib.hid (jbdrawn_at HR4.out HKL.out hpl)
          have B4 := Lib.hid (jbdrawn_at HR4.out HKL.out hql)
          have A5 := Lib.hid (jbdrawn_at HR5.out hkl5 hpl2)
          have hads := (HR3.out.own.lt ad rfl).2
          clear hkl5
          generalize (l.set q l[p]).set p l[q] = l2 at *
          generalize (l.set q l[p])[p] = lx at *
          generalize l[q] = lq at *
          generalize l[p] = lp at *
          obtain ⟨x0, x1, x2, x3⟩ := lq
          obtain ⟨y0, y1, y2, y3⟩ := lp
          obtain ⟨z0, z1, z2, z3⟩ := lx
          simp only at HR4 HR5 HR6 A3 A4 B4 A5
          obtain ⟨⟨a0, a1, a2, a3⟩, b0, b1, b2, b3⟩ := A3.out
          clear A3
          go_upto_region 11 with fail
          clear a0 a1 a2 a3 b0 b1 b2 b3
          have X0 : (w3.alloc (.cells #[.int .i64 x0, .int .i64 x1, .int .i64 x2, .int .i64 x3] 69)).cell? ⟨w3.heap.size, 0, none⟩ = some (.int .i64 x0) := by simp
          have X1 : (w3.alloc (.cells #[.int .i64 x0, .int .i64 x1, .int .i64 x2, .int .i64 x3] 69)).cell? ⟨w3.heap.size, 1, none⟩ = some (.int .i64 x1) := by simp
          have X2 : (w3.alloc (.cells #[.int .i64 x0, .int .i64 x1, .int .i64 x2, .int .i64 x3] 69)).cell? ⟨w3.heap.size, 2, none⟩ = some (.int .i64 x2) := by simp
          have X3 : (w3.alloc (.cells #[.int .i64 x0, .int .i64 x1, .int .i64 x2, .int .i64 x3] 69)).cell? ⟨w3.heap.size, 3, none⟩ = some (.int .i64 x3) := by simp
          have hne : (⟨ad, 0, none⟩ : Addr).block ≠ w3.heap.size := by show ad ≠ w3.heap.size; omega
          generalize w3.alloc (.cells #[.int .i64 x0, .int .i64 x1, .int .i64 x2, .int .i64 x3] 69) = W4 at *
          have Y0 := Lib.hid (show ((((W4.setCell ⟨ad, q * 4, none⟩ (.int .i64 y0)).setCell ⟨ad, q * 4 + 1, none⟩ (.int .i64 y1)).setCell ⟨ad, q * 4 + 2, none⟩ (.int .i64 y2)).setCell ⟨ad, q * 4 + 3, none⟩ (.int .i64 y3)).cell? ⟨w3.heap.size, 0, none⟩ = some (.int .i64 x0) by
            rw [far4 (h := hne)]; exact X0)
          have Y1 := Lib.hid (show ((((W4.setCell ⟨ad, q * 4, none⟩ (.int .i64 y0)).setCell ⟨ad, q * 4 + 1, none⟩ (.int .i64 y1)).setCell ⟨ad, q * 4 + 2, none⟩ (.int .i64 y2)).setCell ⟨ad, q * 4 + 3, none⟩ (.int .i64 y3)).cell? ⟨w3.heap.size, 1, none⟩ = some (.int .i64 x1) by
            rw [far4 (h := hne)]; exact X1)
          have Y2 := Lib.hid (show ((((W4.setCell ⟨ad, q * 4, none⟩ (.int .i64 y0)).setCell ⟨ad, q * 4 + 1, none⟩ (.int .i64 y1)).setCell ⟨ad, q * 4 + 2, none⟩ (.int .i64 y2)).setCell ⟨ad, q * 4 + 3, none⟩ (.int .i64 y3)).cell? ⟨w3.heap.size, 2, none⟩ = some (.int .i64 x2) by
            rw [far4 (h := hne)]; exact X2)
          have Y3 := Lib.hid (show ((((W4.setCell ⟨ad, q * 4, none⟩ (.int .i64 y0)).setCell ⟨ad, q * 4 + 1, none⟩ (.int .i64 y1)).setCell ⟨ad, q * 4 + 2, none⟩ (.int .i64 y2)).setCell ⟨ad, q * 4 + 3, none⟩ (.int .i64 y3)).cell? ⟨w3.heap.size, 3, none⟩ = some (.int .i64 x3) by
            rw [far4 (h := hne)]; exact X3)
          clear hne X0 X1 X2 X3 hads HR3 HR4
          generalize w3.heap.size = bx at *
          obtain ⟨⟨c0, c1, c2, c3⟩, d0, d1, d2, d3⟩ := A4.out
          obtain ⟨⟨a0, a1, a2, a3⟩, b0, b1, b2, b3⟩ := B4.out
          clear A4 B4
          go_upto_region 12 with fail
          clear a0 a1 a2 a3 b0 b1 b2 b3 c0 c1 c2 c3 d0 d1 d2 d3
          generalize ((((W4.setCell ⟨ad, q * 4, none⟩ (.int .i64 y0)).setCell ⟨ad, q * 4 + 1, none⟩ (.int .i64 y1)).setCell ⟨ad, q * 4 + 2, none⟩ (.int .i64 y2)).setCell ⟨ad, q * 4 + 3, none⟩ (.int .i64 y3)) = W5 at *
          obtain ⟨⟨c0, c1, c2, c3⟩, d0, d1, d2, d3⟩ := A5.out
          have e0 := Y0.out
          have e1 := Y1.out
          have e2 := Y2.out
          have e3 := Y3.out
          clear A5 Y0 Y1 Y2 Y3 HR5
          go_wp2_with fail
          go_roundw
          case rel => exact ⟨l2, q, by go_num, by omega, HL6.out, HWF6.out, HR6.out⟩
          case measure => simp [intOf]
        · have hneg : ¬ ((0 : Int) < ((j : Int) - 1)) := by omega
          have HM := Lib.hid (HR.out.more (by omega : N + 30 + (k - j) ≤ N + 40)); clear HR
          by_cases hk0 : k = 0
          · have HE := Lib.hid (HM.out.more (by omega : N + 40 ≤ N + 60))
            subst hk0
            go_wp2_with fail
            go_ret
            exact ⟨l, A, 0, c, rfl, HKL.out, by omega, HWF.out, HE.out⟩
          have hkp : (0 : Int) < (k : Int) := by omega
          have HP := Lib.hid (pick_any r (N + 40) 30 wr HM.out.rd (by omega) (by omega))
          go_wp2_with fail
          refine (HP.out).mono ?_
          rintro e w3 ⟨x, rfl, hx0, hxn, hr3, hg3⟩
          have HR3 := Lib.hid (HM.out.grow hrl hg3 hr3); clear hr3 hg3
          by_cases hx : x = 0
          · subst hx
            obtain ⟨ad, hA⟩ : ∃ ad, A = some ⟨ad, 0, none⟩ := by
              rcases HR3.out.own.2 with ⟨_, h0⟩ | ⟨g, N', cur, a1, _⟩
              · exact absurd h0 hk0
              · injection a1 with a1; exact ⟨g, a1⟩
            subst hA
            have hlp : 0 < l.length := by have := HKL.out; omega
            obtain ⟨t, ht, htk⟩ : ∃ t : Nat, (k : Int) - 1 = (t : Int) ∧ t < k := ⟨k - 1, by omega, by omega⟩
            have htl : t < l.length := by have := HKL.out; omega
            have htki : (t : Int) < (k : Int) := by omega
            have ht0 : (0 : Int) ≤ (t : Int) := by omega
            have HGE := Lib.hid (HWF.out l[t] (List.getElem_mem htl)).2.1
            have HO3 := Lib.hid (fun cs m c t hm hm0 hm1 hs => oneNew_any (-9223372036854775808) 9223372036854775807 r (N + 40 + 1) m c cs t _ HR3.out.rd (by omega) hm hm0 hm1 hs)
            obtain ⟨⟨_, a1, _, _⟩, _⟩ := jbdrawn_at HR3.out HKL.out htl
            have HIN := Lib.hid (show intsIn (-9223372036854775808) 9223372036854775807 [.int .i64 0, .int .i64 21, .int .i64 l[t].2.1] = true by
              have := HGE.out
              simp [intsIn, this.1, this.2])
            clear HGE
            generalize l[t].2.1 = E2 at *
            go_wp2_with fail
            refine (HO3.out _ _ _ _ (by rfl) (by omega) (by omega) HIN.out).mono ?_
            rintro e w4 ⟨y, rfl, hy1, hy2, hr4, hg4⟩
            clear a1
            have HR4 := Lib.hid (HR3.out.grow hrl hg4 hr4); clear hr4 hg4
            obtain ⟨⟨_, c1, _, _⟩, _, f1, _, _⟩ := jbdrawn_at HR4.out HKL.out hlp
            simp only [Nat.zero_mul, Nat.zero_add] at c1 f1
            have HR5 := Lib.hid ((jbdrawn_end HR4.out hrl hlp y).more (by omega : N + 40 + 1 + 1 ≤ N + 60))
            have HWF5 := Lib.hid (wf_setJb (q := 0) (x := (l[0].1, y, l[0].2.2)) HWF.out ⟨(HWF.out l[0] (List.getElem_mem hlp)).1, ⟨hy1, hy2⟩, (HWF.out l[0] (List.getElem_mem hlp)).2.2⟩)
            have HL5 := Lib.hid (show k = (l.set 0 (l[0].1, y, l[0].2.2)).length by rw [List.length_set]; exact HKL.out)
            have hads := (HR4.out.own.lt ad rfl).2
            generalize l[0].2.1 = c00 at *
            go_wp2_with fail
            go_ret
            exact ⟨_, _, k, c, rfl, HL5.out, by omega, HWF5.out, HR5.out⟩
          · have HE := Lib.hid (HR3.out.more (by omega : N + 40 + 1 ≤ N + 60))
            have hxb : ((x : Int) == 0) = false := by simpa using hx
            go_wp2_with fail
            go_ret
            exact ⟨l, _, k, c, rfl, HKL.out, by omega, HWF.out, HE.out⟩
end Go.Proofs.Ytdpehojcoohjcab
