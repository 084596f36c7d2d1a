/- The contract of the model's drawn traces: someTrace. No condition. -/
import Derived.Test.YtompbkphdjjpdaaDraw
import Derived.Test.YtompbkphdjjpdaaExInt
import Derived.Test.YtompbkphdjjpdaaMem
set_option linter.unusedVariables false
set_option linter.unusedSimpArgs false
namespace Go.Proofs.Ytompbkphdjjpdaa
open Go.RowKit Go.ChangeShapes Go.WideShapes

def intsIn (lo hi : Int) (xs : List Value) : Bool := xs.all fun | .int .i64 v => decide (lo ≤ v) && decide (v ≤ hi) | _ => false
theorem intsIn_out {lo hi : Int} {xs : List Value} (h : intsIn lo hi xs = true) : ∀ v ∈ xs, ∃ s, v = .int .i64 s ∧ lo ≤ s ∧ s ≤ hi := by
  intro v hv
  have := List.all_eq_true.1 h v hv
  split at this
  · rename_i s
    simp only [Bool.and_eq_true, decide_eq_true_eq] at this
    exact ⟨s, rfl, this⟩
  · cases this
/-- what a draw of a number out of a list leaves -/
def OnePost (lo hi : Int) (r N : Nat) (w : World) (e : Ending) (w' : World) : Prop := ∃ v : Int, e = .returned (.int .i64 v) ∧ lo ≤ v ∧ v ≤ hi ∧ Rdr 121 w' r (N + 1) ∧ w.grownBy w' (some r)
theorem oneNew_any (lo hi : Int) (r N m c : Nat) (cs : Array Value) (t : TypeId) (w : World) (h : Rdr 121 w r N) (hN : N ≤ 1000000) (hm : cs.size = m) (hm0 : 1 ≤ m) (hm1 : m ≤ 1000) (hs : intsIn lo hi cs.toList = true) :
    Calls Try.prog 75 #[.pointer (some ⟨r, 0, none⟩), .slice (some ⟨w.heap.size, 0, none⟩) m c] (w.alloc (.cells cs t)) (OnePost lo hi r N w) := by
  have hr := h.lt
  refine (one_any r N w.heap.size m c cs.toList (w.alloc (.cells cs t)) (h.alloc _) hN (by simpa using hm) hm0 hm1 (by simpa using ListAt.new (w := w) cs.toList t) (by omega) (fun v hv => by
    obtain ⟨s, e, _⟩ := intsIn_out hs v hv
    exact ⟨s, e⟩)).mono ?_
  rintro e w' ⟨v, rfl, hv, hr2, hg⟩
  obtain ⟨s, rfl, h1, h2⟩ := intsIn_out hs v hv
  exact ⟨s, rfl, h1, h2, hr2, (World.grownBy_alloc w _ _).trans' hg⟩

/-- a list of the call's own, the reader read on -/
def TrRel (r M : Nat) (w : World) (l : List Int) (A : Option Addr) (c : Nat) (wr : World) : Prop :=
  wr.ownsRow w.heap.size 3 1 (.slice A l.length c) l.length (intC l) ∧ Rdr 121 wr r M ∧ w.grownBy wr (some r)
theorem grown_far {w a b : World} {r : Nat} {row : Option Nat} (h : w.grownBy a (some r)) (k : a.grownBy b row) (hr : ∀ q, row = some q → w.heap.size ≤ q ∨ q = r) : w.grownBy b (some r) :=
  ⟨k.os.trans h.os, k.tape.trans h.tape, k.output.trans h.output, Nat.le_trans h.size k.size, fun i hi hn => (k.block i (Nat.lt_of_lt_of_le hi h.size) (fun e => by
    rcases hr i e.symm with h1 | h1
    · omega
    · exact hn (by rw [h1]))).trans (h.block i hi hn)⟩
theorem TrRel.grow {r M M' : Nat} {w : World} {l : List Int} {A : Option Addr} {c : Nat} {wr W : World} (h : TrRel r M w l A c wr) (hr : r < w.heap.size) (hg : wr.grownBy W (some r)) (hR : Rdr 121 W r M') : TrRel r M' w l A c W := by
  refine ⟨h.1.kept hg ?_, hR, grown_far h.2.2 hg (fun q hq => .inr (by injection hq with hq; exact hq.symm))⟩
  cases A with
  | none => exact .inl rfl
  | some a => exact .inr (fun e => by have := (h.1.lt a.block rfl).1; injection e with e; omega)
def TracePost (r M : Nat) (w : World) (e : Ending) (w' : World) : Prop := ∃ l A c, e = .returned (.slice A l.length c) ∧ l.length ≤ 31 ∧ WfI l ∧ TrRel r M w l A c w'
theorem TrRel.append {r M : Nat} {w : World} {l : List Int} {A : Option Addr} {c : Nat} {wr w' : World} {v' : Value} {x : Int} {n : Nat} (h : TrRel r M w l A c wr) (hr : r < w.heap.size)
    (ho : w'.ownsRow w.heap.size 3 1 v' n (intC l ++ [.int .i64 x])) (hn : n = l.length + 1) (hg : wr.grownBy w' (Value.slice A l.length c).ownBlock) : ∃ A' c', v' = .slice A' (l ++ [x]).length c' ∧ TrRel r M w (l ++ [x]) A' c' w' := by
  subst hn
  obtain ⟨A', c', rfl⟩ : ∃ (A' : Option Addr) (c' : Nat), v' = .slice A' (l.length + 1) c' := by
    rcases ho.2 with ⟨a1, a2⟩ | ⟨g, N, cur, a1, _⟩
    · exact ⟨none, 0, a1.trans (by rw [a2])⟩
    · exact ⟨_, _, a1⟩
  refine ⟨A', c', by simp, ⟨?_, ?_, grown_far h.2.2 hg (fun q hq => .inl (h.1.lt q hq).1)⟩⟩
  · rw [intC_app, List.length_append, List.length_singleton]; exact ho
  · refine h.2.1.keep fun k hk => hg.block k (by have := h.2.1.lt; omega) (fun e => ?_)
    have := (h.1.lt k e.symm).1
    omega

set_option maxRecDepth 100000 in
set_option maxHeartbeats 2000000 in
theorem someTrace_any (r N : Nat) (w : World) (h : Rdr 121 w r N) (hN : N ≤ 900000) :
    Calls Try.prog 81 #[.pointer (some ⟨r, 0, none⟩)] w (TracePost r (N + 40) w) := by
  obtain ⟨i0, hi0, hz0, hz1, hz2⟩ := info_parts intInfo
  have HI := Lib.hid (And.intro hi0 (And.intro hz0 (And.intro hz1 hz2))); clear hi0 hz0 hz1 hz2
  have hrl := h.lt
  have HS := Lib.hid (show TrRel r N w [] (some ⟨w.heap.size, 0, none⟩) 0 (w.alloc (.cells #[] 3)) from
    ⟨⟨by simp [intC], .inr ⟨w.heap.size, 0, #[], rfl, by omega, heap_alloc_new w _, by simp, by simp [maxLen], rfl, by simp [intC]⟩⟩, h.alloc _, World.grownBy_alloc _ _ _⟩)
  clear h
  have ho1 := fun cs m c t hm hm0 hm1 hs => oneNew_any 3 10 r N m c cs t _ HS.out.2.1 (by omega) hm hm0 hm1 hs
  simp only [World.size_alloc] at ho1
  have HO1 := Lib.hid ho1; clear ho1
  go_enter Try.func81, Try.ntmps81
  go_wp2_with fail
  refine (HO1.out _ _ _ _ (by rfl) (by omega) (by omega) (by rfl)).mono ?_
  rintro e w1 ⟨kk, rfl, hk1, hk2, hr1, hg1⟩
  have HS1 := Lib.hid (HS.out.grow hrl hg1 hr1); clear hr1 hg1
  have HO2 := Lib.hid (fun cs m c t hm hm0 hm1 hs => oneNew_any 0 30 r (N + 1) m c cs t _ HS1.out.2.1 (by omega) hm hm0 hm1 hs)
  go_wp2_with fail
  refine (HO2.out _ _ _ _ (by rfl) (by omega) (by omega) (by rfl)).mono ?_
  rintro e w2 ⟨nn, rfl, hn1, hn2, hr2, hg2⟩
  have HS2 := Lib.hid (HS1.out.grow hrl hg2 hr2); clear hr2 hg2
  obtain ⟨n, rfl⟩ := Int.eq_ofNat_of_zero_le hn1
  go_wp2_with fail
  go_loopw [3] (fun q wr => ∃ (l : List Int) (A : Option Addr) (c k : Nat), q = .slice A k c ∧ k = l.length ∧ k ≤ n ∧ (∀ x ∈ l, -9223372036854775808 ≤ x ∧ x ≤ 9223372036854775807) ∧ TrRel r (N + 2 + k) w l A c wr) (fun q _ => n - (match q with | .slice _ k _ => k | _ => 0))
  case atStart => exact ⟨[], _, _, 0, rfl, rfl, by omega, (fun x hx => by cases hx), HS2.out⟩
  case round =>
    obtain ⟨l, A, c, k, rfl, hkl, hkn, hwf, hrel⟩ := hrel
    have HKL := Lib.hid hkl; clear hkl
    have HWF := Lib.hid hwf; clear hwf
    have HR := Lib.hid hrel; clear hrel
    by_cases hlt : k < n
    · have HP := Lib.hid (pick_any r (N + 2 + k) kk wr HR.out.2.1 (by omega) (by omega))
      go_wp2_with fail
      refine (HP.out).mono ?_
      rintro e w3 ⟨x, rfl, hx0, hxn, hr3, hg3⟩
      have HR3 := Lib.hid (HR.out.grow hrl hg3 hr3); clear hr3 hg3
      have hx10 : x < 10 := by omega
      have HB4 := Lib.hid (World.grownBy_alloc w3 (.cells #[.int .i64 x] 3) (none : Option Nat))
      have HR4 := Lib.hid (show TrRel r (N + 2 + k + 1) w l A c (w3.alloc (.cells #[.int .i64 x] 3)) from
        ⟨HR3.out.1.alloc _, HR3.out.2.1.alloc _, grown_far HR3.out.2.2 HB4.out (fun q hq => by cases hq)⟩)
      go_wp2_with (at_builtin; refine wpList_append_own _ rfl _ _ 35 rfl w.heap.size 3 i0 (.int .i64 0) 1 8 Try.underlying35 HI.out.1 HI.out.2.1 HI.out.2.2.1 HI.out.2.2.2 rfl (by decide) (.slice A k c) k (intC l) rfl ?c0 ⟨w3.heap.size, 0, none⟩ 1 1 [.int .i64 x] rfl rfl ?c1 ?c2 ?c3 ?c4 ?c5 ?_)
      case c0 => have := HR4.out.1; rw [HKL.out]; exact this
      case c1 =>
        intro j u hj
        match j, hj with
        | 0, hj => simp at hj; subst hj; simp [Addr.add]
      case c2 => first | rfl | (intro u hu; simp at hu; subst hu; rfl)
      case c3 => unfold maxLen; omega
      case c4 => omega
      case c5 => have := HR4.out.2.2.size; simpa using this
      · intro v' w4 hown' hgrow _
        rw [HKL.out] at hgrow
        obtain ⟨A', c', rfl, hr5⟩ := HR4.out.append hrl hown' (by rw [HKL.out]) hgrow
        have HR5 := Lib.hid hr5
        have HWF5 := Lib.hid (show ∀ y ∈ l ++ [x], -9223372036854775808 ≤ y ∧ y ≤ 9223372036854775807 from fun y hy => by
          rcases List.mem_append.1 hy with h1 | h1
          · exact HWF.out y h1
          · simp at h1; omega)
        have hL5 : (l ++ [x]).length = k + 1 := by rw [List.length_append, ← HKL.out]; rfl
        clear hr5 hown' hgrow
        generalize l ++ [x] = L at *
        go_wp2_with fail
        go_roundw
        case rel => exact ⟨L, A', c', L.length, rfl, rfl, by omega, HWF5.out, by rw [hL5]; exact HR5.out⟩
        case measure => simp; omega
    · obtain rfl : k = n := by omega
      have HP := Lib.hid (pick_any r (N + 2 + k) 40 wr HR.out.2.1 (by omega) (by omega))
      go_wp2_with fail
      refine (HP.out).mono ?_
      rintro e w3 ⟨x, rfl, hx0, hxn, hr3, hg3⟩
      have HR3 := Lib.hid (HR.out.grow hrl hg3 hr3); clear hr3 hg3
      by_cases hx : x = 0
      · subst hx
        have HO3 := Lib.hid (fun cs m c t hm hm0 hm1 hs => oneNew_any (-1) 10 r (N + 2 + k + 1) m c cs t _ HR3.out.2.1 (by omega) hm hm0 hm1 hs)
        go_wp2_with fail
        refine (HO3.out _ _ _ _ (by rfl) (by omega) (by omega) (by rfl)).mono ?_
        rintro e w4 ⟨y, rfl, hy1, hy2, hr4, hg4⟩
        have HR4 := Lib.hid (HR3.out.grow hrl hg4 hr4); clear hr4 hg4
        have HB5 := Lib.hid (World.grownBy_alloc w4 (.cells #[.int .i64 y] 3) (none : Option Nat))
        have HR5 := Lib.hid (show TrRel r (N + 2 + k + 1 + 1) w l A c (w4.alloc (.cells #[.int .i64 y] 3)) from
          ⟨HR4.out.1.alloc _, HR4.out.2.1.alloc _, grown_far HR4.out.2.2 HB5.out (fun q hq => by cases hq)⟩)
        go_wp2_with (at_builtin; refine wpList_append_own _ rfl _ _ 35 rfl w.heap.size 3 i0 (.int .i64 0) 1 8 Try.underlying35 HI.out.1 HI.out.2.1 HI.out.2.2.1 HI.out.2.2.2 rfl (by decide) (.slice A k c) k (intC l) rfl ?c0 ⟨w4.heap.size, 0, none⟩ 1 1 [.int .i64 y] rfl rfl ?c1 ?c2 ?c3 ?c4 ?c5 ?_)
        case c0 => have := HR5.out.1; rw [HKL.out]; exact this
        case c1 =>
          intro j u hj
          match j, hj with
          | 0, hj => simp at hj; subst hj; simp [Addr.add]
        case c2 => first | rfl | (intro u hu; simp at hu; subst hu; rfl)
        case c3 => unfold maxLen; omega
        case c4 => omega
        case c5 => have := HR5.out.2.2.size; simpa using this
        · intro v' w5 hown' hgrow _
          rw [HKL.out] at hgrow
          obtain ⟨A', c', rfl, hr6⟩ := HR5.out.append hrl hown' (by rw [HKL.out]) hgrow
          have HR6 := Lib.hid hr6
          have HWF5 := Lib.hid (show ∀ z ∈ l ++ [y], -9223372036854775808 ≤ z ∧ z ≤ 9223372036854775807 from fun z hz => by
            rcases List.mem_append.1 hz with h1 | h1
            · exact HWF.out z h1
            · simp at h1; omega)
          have hL5 : (l ++ [y]).length = k + 1 := by rw [List.length_append, ← HKL.out]; rfl
          clear hr6 hown' hgrow
          generalize l ++ [y] = L at *
          go_wp2_with fail
          go_ret
          exact ⟨L, A', c', rfl, by omega, HWF5.out, HR6.out.1, HR6.out.2.1.more (by omega), HR6.out.2.2⟩
      · have q0 : (x == 0) = false := by simpa using hx
        clear hx
        go_wp2_with fail
        go_ret
        refine ⟨l, A, c, ?_, by rw [← HKL.out]; omega, HWF.out, HR3.out.1, HR3.out.2.1.more (by omega), HR3.out.2.2⟩
        rw [← HKL.out]; rfl
end Go.Proofs.Ytompbkphdjjpdaa
