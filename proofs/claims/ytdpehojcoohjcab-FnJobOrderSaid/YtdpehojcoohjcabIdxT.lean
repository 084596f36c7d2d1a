/- Contracts of slices.IndexFunc and slices.ContainsFunc at jobs, for each closure that they are handed (chapter 8). Conditions: the jobs lie in a row; they are few; the closure answers as a test. -/
import Derived.Test.YtdpehojcoohjcabSerM
import Derived.Test.YtdpehojcoohjcabIdx
set_option linter.unusedVariables false
set_option linter.unusedSimpArgs false
namespace Go.Proofs.Ytdpehojcoohjcab
open Go.RowKit Go.ChangeShapes Go.WideShapes


set_option maxRecDepth 100000 in
set_option maxHeartbeats 4000000 in
theorem iIdx_T (A : Option Addr) (n c : Nat) (l : List Jb) (p : JbT → Bool) (p0 p1 : Value) (w : World) (hr : RowAt w w.heap.size A (jbsC l)) (hn : n = l.length) (hs : n ≤ 1048576)
    (hf : ∀ W (x : Jb), x ∈ l → Below w.heap.size w W → Calls Try.prog 88 #[.agg #[.int .i64 x.1, .int .i64 x.2.1, .int .i64 x.2.2.1, .int .i64 x.2.2.2], p0, p1] W fun e w' => e = .returned (.bool (p x)) ∧ Below W.heap.size W w') :
    Calls Try.prog 76 #[.slice A n c, .func (.func 88) #[] #[p0, p1]] w fun e w' => e = .returned (.int .i64 (idxI p l)) ∧ Below w.heap.size w w' := by
  have HR := Lib.hid hr; clear hr
  have HN := Lib.hid hn; clear hn
  have HF := Lib.hid hf; clear hf
  go_enter Try.func76, Try.ntmps76
  go_wp2_with fail
  go_loopw [8] (fun i wr => ∃ k : Nat, i = .int .i64 (k : Int) ∧ k ≤ n ∧ (l.take k).any p = false ∧ Below w.heap.size w wr) (fun i _ => n - (intOf i).toNat)
  case atStart => exact ⟨0, rfl, by omega, rfl, Below.refl _ _⟩
  case round =>
    obtain ⟨k, rfl, hk, hu, hb⟩ := hrel
    have HU := Lib.hid hu; clear hu
    have HB := Lib.hid hb; clear hb
    by_cases hlt : k < n
    · have hkl : k < l.length := by have := HN.out; omega
      obtain ⟨b, off, hA, hbw, e0, e1, e2, e3⟩ := jbs_at (HR.out.below HB.out) hkl
      subst hA
      have HC := Lib.hid (HF.out wr l[k] (List.getElem_mem hkl) HB.out)
      have HY := Lib.hid (fun h => idxI_at hkl HU.out h)
      have HNX := Lib.hid (fun h => anyJ_succ hkl HU.out h)
      have hbs : b < wr.heap.size := Nat.lt_of_lt_of_le hbw HB.out.size
      generalize hq : p l[k] = q at *
      clear hq
      generalize l[k].1 = x0 at *
      generalize l[k].2.1 = x1 at *
      generalize l[k].2.2.1 = x2 at *
      generalize l[k].2.2.2 = x3 at *
      go_wp2_with fail
      refine (HC.out).mono ?_
      rintro e w3 ⟨rfl, hb3⟩
      have HB3 := Lib.hid (HB.out.trans (hb3.mono HB.out.size)); clear hb3
      cases q
      · go_wp2_with fail
        go_roundw
        case rel => exact ⟨k + 1, by go_num, by omega, HNX.out (by simp), HB3.out⟩
        case measure => simp [intOf]; omega
      · have HY2 := Lib.hid (HY.out (by simp))
        go_wp2_with fail
        go_ret
        exact ⟨by rw [HY2.out]; rfl, HB3.out⟩
    · obtain rfl : k = n := by omega
      have HF2 := Lib.hid (show idxI p l = -1 from idxI_none (by have := HU.out; rwa [HN.out, List.take_length] at this))
      go_wp2_with fail
      go_ret
      exact ⟨by rw [HF2.out]; rfl, HB.out⟩

theorem iHas_T (A : Option Addr) (n c : Nat) (l : List Jb) (p : JbT → Bool) (p0 p1 : Value) (w : World) (hr : RowAt w w.heap.size A (jbsC l)) (hn : n = l.length) (hs : n ≤ 1048576)
    (hf : ∀ W (x : Jb), x ∈ l → Below w.heap.size w W → Calls Try.prog 88 #[.agg #[.int .i64 x.1, .int .i64 x.2.1, .int .i64 x.2.2.1, .int .i64 x.2.2.2], p0, p1] W fun e w' => e = .returned (.bool (p x)) ∧ Below W.heap.size W w') :
    Calls Try.prog 65 #[.slice A n c, .func (.func 88) #[] #[p0, p1]] w fun e w' => e = .returned (.bool (l.any p)) ∧ Below w.heap.size w w' := by
  have HI := Lib.hid (iIdx_T A n c l p p0 p1 w hr hn hs hf)
  have HA := Lib.hid (idxI_any p l)
  clear hr hn hf
  generalize idxI p l = x at *
  generalize l.any p = q at *
  go_enter Try.func65, Try.ntmps65
  go_wp2_with fail
  refine (HI.out).mono ?_
  rintro e w3 ⟨rfl, hb3⟩
  have HB3 := Lib.hid hb3; clear hb3
  go_wp2_with fail
  go_ret
  exact ⟨by rw [← HA.out]; rfl, HB3.out⟩
end Go.Proofs.Ytdpehojcoohjcab
