/- How far places are kept, as it is drawn (the model's generator someKept). Condition: the reader lies in its block. -/
import Derived.Test.YthpfijhmdeciaaaDrawL
import Derived.Test.YthpfijhmdeciaaaExInM
import Derived.Test.YthpfijhmdeciaaaOut
set_option linter.unusedVariables false
set_option linter.unusedSimpArgs false
namespace Go.Proofs.Ythpfijhmdeciaaa
open Go.RowKit Go.ChangeShapes Go.WideShapes

def KeptDrawn (r M : Nat) (w : World) (e : Ending) (w' : World) : Prop := ∃ (l : List Int) (A : Option Addr) (m c : Nat), e = .returned (.slice A m c) ∧ m = l.length ∧ m ≤ 3 ∧ WfIn l ∧ (A = none → c = 0) ∧ RowAt w' w'.heap.size A (intC l) ∧ Rdr 53 w' r M ∧ w.grownBy w' (some r)
theorem wfIn_snoc {l : List Int} {x : Int} (h : WfIn l) (hx : GoodIn x) : WfIn (l ++ [x]) := fun p hp => by
  rcases List.mem_append.1 hp with h1 | h1
  · exact h p h1
  · rw [List.mem_singleton.1 h1]; exact hx
theorem own_some3 {w : World} {B n c z : Nat} {e : TypeId} {A : Option Addr} {xs : List Value} (h : w.ownsRow B e z (.slice A n c) n xs) (h0 : 0 < n) : ∃ g, A = some ⟨g, 0, none⟩ ∧ n ≤ c ∧ c ≤ maxLen := by
  rcases h.2 with ⟨hv, hn⟩ | ⟨g, cap, cur, hv, hg, _, h1, h2, _⟩
  · omega
  · injection hv with h3 _ h4
    subst h3 h4
    exact ⟨g, rfl, h1, h2⟩
theorem kept_of {r M n c : Nat} {w W : World} {A : Option Addr} {l : List Int} (h : RowD r M 3 1 w A n c (intC l) W) (hn : n = l.length) (h3 : n ≤ 3) (h0 : 0 < n) (hw : WfIn l) {M' : Nat} (hM : M ≤ M') : KeptDrawn r M' w (.returned (.slice A n c)) W := by
  obtain ⟨g, rfl, _⟩ := own_some3 h.own h0
  exact ⟨l, _, n, c, rfl, hn, h3, hw, (fun e => by cases e), h.row, h.rd.more hM, h.gr⟩
theorem ints_set0 (x y : Int) (t : List Int) : (intC (x :: t)).set 0 (.int .i64 y) = intC (y :: t) := rfl
set_option maxRecDepth 100000 in
set_option maxHeartbeats 4000000 in
theorem someKept_any (r N n : Nat) (w : World) (h : Rdr 53 w r N) (hN : N ≤ 900000) (hn : n ≤ 1000) :
    Calls Try.prog 25 #[.pointer (some ⟨r, 0, none⟩), .int .i64 (n : Int)] w (KeptDrawn r (N + 20) w) := by
  obtain ⟨i0, hi0, hz0, hz1, hz2⟩ := info_parts intInfo
  have HI := Lib.hid (And.intro hi0 (And.intro hz0 (And.intro hz1 hz2))); clear hi0 hz0 hz1 hz2
  have hrl := h.lt
  have HS := Lib.hid (RowD.start h 3 1)
  clear h
  have hw1 : IntKind.i64.wrap ((n : Int) + 1) = (n : Int) + 1 := IntWalk.i64_in _ (by omega)
  go_enter Try.func25, Try.ntmps25
  go_wp2_with fail
  go_loopw [5] (fun q wr => ∃ (l : List Int) (A : Option Addr) (c k : Nat), q = .slice A k c ∧ k = l.length ∧ k ≤ 3 ∧ WfIn l ∧ RowD r (N + 3 * k) 3 1 w A k c (intC l) wr) (fun q _ => 3 - (match q with | .slice _ k _ => k | _ => 0))
  case atStart => exact ⟨[], _, _, 0, rfl, rfl, by omega, (fun x hx => by cases hx), HS.out⟩
  case round =>
    obtain ⟨l, A, c, k, rfl, hkl, hk3, hwf, hrel⟩ := hrel
    have HKL := Lib.hid hkl; clear hkl
    have HWF := Lib.hid hwf; clear hwf
    have HR := Lib.hid hrel; clear hrel
    by_cases hlt : k < 3
    · have hki : (k : Int) < 3 := by omega
      have HP := Lib.hid (pick_any r _ ((n : Int) + 1) wr HR.out.rd (by omega) (by omega))
      go_wp2_with fail
      refine (HP.out).mono ?_
      rintro e w2 ⟨x1, rfl, hx10, hx1n, hr2, hg2⟩
      have HR2 := Lib.hid (HR.out.grow hrl hg2 hr2); clear hr2 hg2 HP
      have HP := Lib.hid (pick_any r _ ((n : Int) + 1) w2 HR2.out.rd (by omega) (by omega))
      go_wp2_with fail
      refine (HP.out).mono ?_
      rintro e w3 ⟨x2, rfl, hx20, hx2n, hr3, hg3⟩
      have HR3 := Lib.hid (HR2.out.grow hrl hg3 hr3); clear hr3 hg3 HP
      have HO := Lib.hid (oneNew_any 0 (n : Int) r _ 4 4 #[.int .i64 x1, .int .i64 x2, .int .i64 0, .int .i64 (n : Int)] 3 w3 HR3.out.rd (by omega) (by rfl) (by omega) (by omega) (by simp [intsIn]; omega))
      go_wp2_with fail
      refine (HO.out).mono ?_
      rintro e w4 ⟨x, rfl, hx0, hxn, hr4, hg4⟩
      have HR4 := Lib.hid (HR3.out.grow hrl hg4 hr4); clear hr4 hg4 HO
      have HR5 := Lib.hid (HR4.out.alloc (.cells #[.int .i64 x] 3))
      have HW5 := Lib.hid (wfIn_snoc HWF.out (show GoodIn x from ⟨by omega, by omega⟩))
      have hL5 : (l ++ [x]).length = k + 1 := by rw [List.length_append, ← HKL.out]; rfl
      have HE5 := Lib.hid (show intC l ++ [Value.int .i64 x] = intC (l ++ [x]) by rw [intC_app]; rfl)
      go_wp2_with (at_builtin; refine wpList_append_own _ rfl _ _ 27 rfl w.heap.size 3 i0 (.int .i64 0) 1 8 Try.underlying27 HI.out.1 HI.out.2.1 HI.out.2.2.1 HI.out.2.2.2 rfl (by decide) (.slice A k c) k (intC l) rfl HR5.out.own ⟨w4.heap.size, 0, none⟩ 1 1 [.int .i64 x] rfl rfl ?c1 ?c2 ?c3 ?c4 ?c5 ?_)
      case c1 =>
        intro j u hj
        match j, hj with
        | 0, hj => simp at hj; subst hj; simp [Addr.add]
      case c2 => first | rfl | (intro u hu; simp at hu; subst hu; rfl)
      case c3 => unfold maxLen; omega
      case c4 => omega
      case c5 => exact HR5.out.gr.size
      · intro v' w6 hown' hgrow _
        obtain ⟨A', c', rfl, hr6⟩ := HR5.out.app hrl hown' hgrow
        rw [HE5.out] at hr6
        have HR6 := Lib.hid hr6; clear hr6 hown' hgrow HE5
        generalize l ++ [x] = L at *
        go_wp2_with fail
        go_roundw
        case rel => exact ⟨L, A', c', k + 1, rfl, hL5.symm, by omega, HW5.out, HR6.out.more (by omega)⟩
        case measure => simp; omega
    · obtain rfl : k = 3 := by omega
      obtain ⟨g, rfl, hcc, hcm⟩ := own_some3 HR.out.own (by omega)
      unfold maxLen at hcm
      have HP := Lib.hid (pick_any r _ 40 wr HR.out.rd (by omega) (by omega))
      go_wp2_with fail
      refine (HP.out).mono ?_
      rintro e w2 ⟨x, rfl, hx0, hxn, hr2, hg2⟩
      have HR2 := Lib.hid (HR.out.grow hrl hg2 hr2); clear hr2 hg2 HP
      by_cases h0 : x = 0
      · subst h0
        have HO := Lib.hid (oneNew_any (-1) ((n : Int) + 1) r _ 2 2 #[.int .i64 (-1), .int .i64 ((n : Int) + 1)] 3 w2 HR2.out.rd (by omega) (by rfl) (by omega) (by omega) (by simp [intsIn]; omega))
        go_wp2_with fail
        refine (HO.out).mono ?_
        rintro e w4 ⟨y, rfl, hy0, hyn, hr4, hg4⟩
        have HR4 := Lib.hid (HR2.out.grow hrl hg4 hr4); clear hr4 hg4 HO
        obtain ⟨a, t, hlt2⟩ : ∃ a t, l = a :: t := by
          cases l with
          | nil => have := HKL.out; simp at this
          | cons a t => exact ⟨a, t, rfl⟩
        subst hlt2
        have hc5 : w4.cell? ⟨g, 0, none⟩ = some (.int .i64 a) := by rw [HR4.out.own.cellAt 0 (by have := HR4.out.own.1; omega)]; rfl
        have hf5 : w4.frozen? ⟨g, 0, none⟩ = false := HR4.out.own.frozenAt _
        obtain ⟨h1, h2⟩ := World.ownsRow.stored HR4.out.own 0 (.int .i64 y)
        rw [ints_set0] at h1
        obtain ⟨A', c', e9, hR⟩ := HR4.out.app hrl h1 h2
        injection e9 with e1 e2 e3
        subst e1 e3
        have HE := Lib.hid (kept_of hR HKL.out (by omega) (by omega) (fun p hp => by
          rcases List.mem_cons.1 hp with rfl | hp
          · exact ⟨by omega, by omega⟩
          · exact HWF.out p (List.mem_cons_of_mem _ hp)) (M' := N + 20) (by omega))
        clear hR h1 h2
        go_wp2_with fail
        go_ret
        exact HE.out
      · have q0 : (x == 0) = false := by simpa using h0
        by_cases h1 : x = 1
        · subst h1
          obtain ⟨ad', hsp, hcut0, htl⟩ := cut_head (P := Try.prog) (T := 27) (z := 1) (by kernel_rfl) (fun W => by kernel_rfl) g 0 3 c 1 (by omega) (by omega)
          have hcut1 : ∀ W, (Instr.sliceAt 27 (.slice (some ⟨g, 0, none⟩) 3 c) (some (.int .i64 1)) none none).run Try.prog W = .ok (.slice (some ad') (3 - 1) (c - 1)) W := hcut0
          have hrow := htl w2 w2.heap.size (intC l) (by rw [intC_len, ← HKL.out]) HR2.out.row
          have HE := Lib.hid (show KeptDrawn r (N + 20) w (.returned (.slice (some ad') (3 - 1) (c - 1))) w2 from
            ⟨l.drop 1, some ad', 3 - 1, c - 1, rfl, by rw [List.length_drop, ← HKL.out], by omega, (fun p hp => HWF.out p (List.mem_of_mem_drop hp)), (fun e => by cases e), by
              unfold intC at hrow ⊢
              rw [List.map_drop]; exact hrow, HR2.out.rd.more (by omega), HR2.out.gr⟩)
          clear hrow
          clear hcut0 htl
          go_wp2_with fail
          go_ret
          exact HE.out
        · have q1 : (x == 1) = false := by simpa using h1
          have HE := Lib.hid (kept_of HR2.out HKL.out (by omega) (by omega) HWF.out (M' := N + 20) (by omega))
          clear h0 h1
          go_wp2_with fail
          go_ret
          exact HE.out
end Go.Proofs.Ythpfijhmdeciaaa
