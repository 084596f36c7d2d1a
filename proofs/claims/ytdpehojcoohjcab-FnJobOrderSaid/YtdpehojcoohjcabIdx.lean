/- Contracts of slices.IndexFunc and slices.ContainsFunc at jobs, for each closure that they are handed (chapter 8). Conditions: the jobs lie in a row; they are few; the closure answers as a test. -/
import Derived.Test.YtdpehojcoohjcabSerM
import Derived.Test.YtdpehojcoohjcabExJob
set_option linter.unusedVariables false
set_option linter.unusedSimpArgs false
namespace Go.Proofs.Ytdpehojcoohjcab
open Go.RowKit Go.ChangeShapes Go.WideShapes

/-- the place of the first job that a test finds, from k on; -1 if there is none -/
def idxI (p : JbT → Bool) (l : List JbT) : Int := match (List.range l.length).find? (fun i => p (jAt l i)) with | none => -1 | some i => (i : Int)
theorem idxI_at {p : JbT → Bool} {l : List JbT} {k : Nat} (hk : k < l.length) (hb : (l.take k).any p = false) (h : p l[k] = true) : idxI p l = (k : Int) := by
  unfold idxI
  have : (List.range l.length).find? (fun i => p (jAt l i)) = some k := by
    rw [List.find?_eq_some_iff_getElem]
    refine ⟨by simpa [jAt_get hk] using h, k, by simpa using hk, by simp, fun j hj => ?_⟩
    simp
    have hjl : j < l.length := by omega
    rw [jAt_get hjl]
    rw [List.any_eq_false] at hb
    have := hb l[j] (List.mem_take_iff_getElem.2 ⟨j, by omega, rfl⟩)
    simpa using this
  rw [this]
theorem idxI_none {p : JbT → Bool} {l : List JbT} (hb : l.any p = false) : idxI p l = -1 := by
  unfold idxI
  have : (List.range l.length).find? (fun i => p (jAt l i)) = none := by
    rw [List.find?_eq_none]
    intro j hj
    have hjl : j < l.length := by simpa using hj
    rw [jAt_get hjl]
    rw [List.any_eq_false] at hb
    exact hb l[j] (List.getElem_mem hjl)
  rw [this]
theorem idxI_any (p : JbT → Bool) (l : List JbT) : decide (0 ≤ idxI p l) = l.any p := by
  unfold idxI
  cases hf : (List.range l.length).find? (fun i => p (jAt l i)) with
  | none =>
    have h0 := List.find?_eq_none.1 hf
    have : l.any p = false := by
      rw [List.any_eq_false]
      intro x hx
      obtain ⟨i, hi, rfl⟩ := List.mem_iff_getElem.1 hx
      have := h0 i (by simpa using hi)
      rw [jAt_get hi] at this
      exact this
    rw [this]; rfl
  | some i =>
    have h1 := List.find?_some hf
    have h2 : i < l.length := by simpa using List.mem_of_find?_eq_some hf
    rw [jAt_get h2] at h1
    have : l.any p = true := List.any_eq_true.2 ⟨l[i], List.getElem_mem h2, h1⟩
    rw [this]; simp
theorem anyJ_succ {f : JbT → Bool} {l : List JbT} {k : Nat} (h : k < l.length) (h0 : (l.take k).any f = false) (h1 : f l[k] = false) : (l.take (k + 1)).any f = false := by
  rw [List.take_succ_eq_append_getElem h, List.any_append, h0]; simp [h1]

set_option maxRecDepth 100000 in
set_option maxHeartbeats 4000000 in
theorem iIdx_V (A : Option Addr) (n c : Nat) (l : List Jb) (p : JbT → Bool) (p0 : Value) (w : World) (hr : RowAt w w.heap.size A (jbsC l)) (hn : n = l.length) (hs : n ≤ 1048576)
    (hf : ∀ W (x : Jb), Below w.heap.size w W → Calls Try.prog 63 #[.agg #[.int .i64 x.1, .int .i64 x.2.1, .int .i64 x.2.2.1, .int .i64 x.2.2.2], p0] W fun e w' => e = .returned (.bool (p x)) ∧ Below W.heap.size W w') :
    Calls Try.prog 76 #[.slice A n c, .func (.func 63) #[] #[p0]] w fun e w' => e = .returned (.int .i64 (idxI p l)) ∧ Below w.heap.size w w' := by
  have HR := Lib.hid hr; clear hr
  have HN := Lib.hid hn; clear hn
  have HF := Lib.hid hf; clear hf
  go_enter Try.func76, Try.ntmps76
  go_wp2_with fail
  go_loopw [8] (fun i wr => ∃ k : Nat, i = .int .i64 (k : Int) ∧ k ≤ n ∧ (l.take k).any p = false ∧ Below w.heap.size w wr) (fun i _ => n - (intOf i).toNat)
  case atStart => exact ⟨0, rfl, by omega, rfl, Below.refl _ _⟩
  case round =>
    obtain ⟨k, rfl, hk, hu, hb⟩ := hrel
    have HU := Lib.hid hu; clear hu
    have HB := Lib.hid hb; clear hb
    by_cases hlt : k < n
    · have hkl : k < l.length := by have := HN.out; omega
      obtain ⟨b, off, hA, hbw, e0, e1, e2, e3⟩ := jbs_at (HR.out.below HB.out) hkl
      subst hA
      have HC := Lib.hid (HF.out wr l[k] HB.out)
      have HY := Lib.hid (fun h => idxI_at hkl HU.out h)
      have HNX := Lib.hid (fun h => anyJ_succ hkl HU.out h)
      have hbs : b < wr.heap.size := Nat.lt_of_lt_of_le hbw HB.out.size
      generalize hq : p l[k] = q at *
      clear hq
      generalize l[k].1 = x0 at *
      generalize l[k].2.1 = x1 at *
      generalize l[k].2.2.1 = x2 at *
      generalize l[k].2.2.2 = x3 at *
      go_wp2_with fail
      refine (HC.out).mono ?_
      rintro e w3 ⟨rfl, hb3⟩
      have HB3 := Lib.hid (HB.out.trans (hb3.mono HB.out.size)); clear hb3
      cases q
      · go_wp2_with fail
        go_roundw
        case rel => exact ⟨k + 1, by go_num, by omega, HNX.out (by simp), HB3.out⟩
        case measure => simp [intOf]; omega
      · have HY2 := Lib.hid (HY.out (by simp))
        go_wp2_with fail
        go_ret
        exact ⟨by rw [HY2.out]; rfl, HB3.out⟩
    · obtain rfl : k = n := by omega
      have HF2 := Lib.hid (show idxI p l = -1 from idxI_none (by have := HU.out; rwa [HN.out, List.take_length] at this))
      go_wp2_with fail
      go_ret
      exact ⟨by rw [HF2.out]; rfl, HB.out⟩

theorem iHas_V (A : Option Addr) (n c : Nat) (l : List Jb) (p : JbT → Bool) (p0 : Value) (w : World) (hr : RowAt w w.heap.size A (jbsC l)) (hn : n = l.length) (hs : n ≤ 1048576)
    (hf : ∀ W (x : Jb), Below w.heap.size w W → Calls Try.prog 63 #[.agg #[.int .i64 x.1, .int .i64 x.2.1, .int .i64 x.2.2.1, .int .i64 x.2.2.2], p0] W fun e w' => e = .returned (.bool (p x)) ∧ Below W.heap.size W w') :
    Calls Try.prog 65 #[.slice A n c, .func (.func 63) #[] #[p0]] w fun e w' => e = .returned (.bool (l.any p)) ∧ Below w.heap.size w w' := by
  have HI := Lib.hid (iIdx_V A n c l p p0 w hr hn hs hf)
  have HA := Lib.hid (idxI_any p l)
  clear hr hn hf
  generalize idxI p l = x at *
  generalize l.any p = q at *
  go_enter Try.func65, Try.ntmps65
  go_wp2_with fail
  refine (HI.out).mono ?_
  rintro e w3 ⟨rfl, hb3⟩
  have HB3 := Lib.hid hb3; clear hb3
  go_wp2_with fail
  go_ret
  exact ⟨by rw [← HA.out]; rfl, HB3.out⟩

set_option maxRecDepth 100000 in
set_option maxHeartbeats 4000000 in
theorem iIdx_K (A : Option Addr) (n c : Nat) (l : List Jb) (p : JbT → Bool) (p0 : Value) (w : World) (hr : RowAt w w.heap.size A (jbsC l)) (hn : n = l.length) (hs : n ≤ 1048576)
    (hf : ∀ W (x : Jb), Below w.heap.size w W → Calls Try.prog 77 #[.agg #[.int .i64 x.1, .int .i64 x.2.1, .int .i64 x.2.2.1, .int .i64 x.2.2.2], p0] W fun e w' => e = .returned (.bool (p x)) ∧ Below W.heap.size W w') :
    Calls Try.prog 76 #[.slice A n c, .func (.func 77) #[] #[p0]] w fun e w' => e = .returned (.int .i64 (idxI p l)) ∧ Below w.heap.size w w' := by
  have HR := Lib.hid hr; clear hr
  have HN := Lib.hid hn; clear hn
  have HF := Lib.hid hf; clear hf
  go_enter Try.func76, Try.ntmps76
  go_wp2_with fail
  go_loopw [8] (fun i wr => ∃ k : Nat, i = .int .i64 (k : Int) ∧ k ≤ n ∧ (l.take k).any p = false ∧ Below w.heap.size w wr) (fun i _ => n - (intOf i).toNat)
  case atStart => exact ⟨0, rfl, by omega, rfl, Below.refl _ _⟩
  case round =>
    obtain ⟨k, rfl, hk, hu, hb⟩ := hrel
    have HU := Lib.hid hu; clear hu
    have HB := Lib.hid hb; clear hb
    by_cases hlt : k < n
    · have hkl : k < l.length := by have := HN.out; omega
      obtain ⟨b, off, hA, hbw, e0, e1, e2, e3⟩ := jbs_at (HR.out.below HB.out) hkl
      subst hA
      have HC := Lib.hid (HF.out wr l[k] HB.out)
      have HY := Lib.hid (fun h => idxI_at hkl HU.out h)
      have HNX := Lib.hid (fun h => anyJ_succ hkl HU.out h)
      have hbs : b < wr.heap.size := Nat.lt_of_lt_of_le hbw HB.out.size
      generalize hq : p l[k] = q at *
      clear hq
      generalize l[k].1 = x0 at *
      generalize l[k].2.1 = x1 at *
      generalize l[k].2.2.1 = x2 at *
      generalize l[k].2.2.2 = x3 at *
      go_wp2_with fail
      refine (HC.out).mono ?_
      rintro e w3 ⟨rfl, hb3⟩
      have HB3 := Lib.hid (HB.out.trans (hb3.mono HB.out.size)); clear hb3
      cases q
      · go_wp2_with fail
        go_roundw
        case rel => exact ⟨k + 1, by go_num, by omega, HNX.out (by simp), HB3.out⟩
        case measure => simp [intOf]; omega
      · have HY2 := Lib.hid (HY.out (by simp))
        go_wp2_with fail
        go_ret
        exact ⟨by rw [HY2.out]; rfl, HB3.out⟩
    · obtain rfl : k = n := by omega
      have HF2 := Lib.hid (show idxI p l = -1 from idxI_none (by have := HU.out; rwa [HN.out, List.take_length] at this))
      go_wp2_with fail
      go_ret
      exact ⟨by rw [HF2.out]; rfl, HB.out⟩

set_option maxRecDepth 100000 in
set_option maxHeartbeats 4000000 in
theorem iIdx_S (A : Option Addr) (n c : Nat) (l : List Jb) (p : JbT → Bool) (p0 p1 : Value) (w : World) (hr : RowAt w w.heap.size A (jbsC l)) (hn : n = l.length) (hs : n ≤ 1048576)
    (hf : ∀ W (x : Jb), Below w.heap.size w W → Calls Try.prog 88 #[.agg #[.int .i64 x.1, .int .i64 x.2.1, .int .i64 x.2.2.1, .int .i64 x.2.2.2], p0, p1] W fun e w' => e = .returned (.bool (p x)) ∧ Below W.heap.size W w') :
    Calls Try.prog 76 #[.slice A n c, .func (.func 88) #[] #[p0, p1]] w fun e w' => e = .returned (.int .i64 (idxI p l)) ∧ Below w.heap.size w w' := by
  have HR := Lib.hid hr; clear hr
  have HN := Lib.hid hn; clear hn
  have HF := Lib.hid hf; clear hf
  go_enter Try.func76, Try.ntmps76
  go_wp2_with fail
  go_loopw [8] (fun i wr => ∃ k : Nat, i = .int .i64 (k : Int) ∧ k ≤ n ∧ (l.take k).any p = false ∧ Below w.heap.size w wr) (fun i _ => n - (intOf i).toNat)
  case atStart => exact ⟨0, rfl, by omega, rfl, Below.refl _ _⟩
  case round =>
    obtain ⟨k, rfl, hk, hu, hb⟩ := hrel
    have HU := Lib.hid hu; clear hu
    have HB := Lib.hid hb; clear hb
    by_cases hlt : k < n
    · have hkl : k < l.length := by have := HN.out; omega
      obtain ⟨b, off, hA, hbw, e0, e1, e2, e3⟩ := jbs_at (HR.out.below HB.out) hkl
      subst hA
      have HC := Lib.hid (HF.out wr l[k] HB.out)
      have HY := Lib.hid (fun h => idxI_at hkl HU.out h)
      have HNX := Lib.hid (fun h => anyJ_succ hkl HU.out h)
      have hbs : b < wr.heap.size := Nat.lt_of_lt_of_le hbw HB.out.size
      generalize hq : p l[k] = q at *
      clear hq
      generalize l[k].1 = x0 at *
      generalize l[k].2.1 = x1 at *
      generalize l[k].2.2.1 = x2 at *
      generalize l[k].2.2.2 = x3 at *
      go_wp2_with fail
      refine (HC.out).mono ?_
      rintro e w3 ⟨rfl, hb3⟩
      have HB3 := Lib.hid (HB.out.trans (hb3.mono HB.out.size)); clear hb3
      cases q
      · go_wp2_with fail
        go_roundw
        case rel => exact ⟨k + 1, by go_num, by omega, HNX.out (by simp), HB3.out⟩
        case measure => simp [intOf]; omega
      · have HY2 := Lib.hid (HY.out (by simp))
        go_wp2_with fail
        go_ret
        exact ⟨by rw [HY2.out]; rfl, HB3.out⟩
    · obtain rfl : k = n := by omega
      have HF2 := Lib.hid (show idxI p l = -1 from idxI_none (by have := HU.out; rwa [HN.out, List.take_length] at this))
      go_wp2_with fail
      go_ret
      exact ⟨by rw [HF2.out]; rfl, HB.out⟩

theorem iHas_S (A : Option Addr) (n c : Nat) (l : List Jb) (p : JbT → Bool) (p0 p1 : Value) (w : World) (hr : RowAt w w.heap.size A (jbsC l)) (hn : n = l.length) (hs : n ≤ 1048576)
    (hf : ∀ W (x : Jb), Below w.heap.size w W → Calls Try.prog 88 #[.agg #[.int .i64 x.1, .int .i64 x.2.1, .int .i64 x.2.2.1, .int .i64 x.2.2.2], p0, p1] W fun e w' => e = .returned (.bool (p x)) ∧ Below W.heap.size W w') :
    Calls Try.prog 65 #[.slice A n c, .func (.func 88) #[] #[p0, p1]] w fun e w' => e = .returned (.bool (l.any p)) ∧ Below w.heap.size w w' := by
  have HI := Lib.hid (iIdx_S A n c l p p0 p1 w hr hn hs hf)
  have HA := Lib.hid (idxI_any p l)
  clear hr hn hf
  generalize idxI p l = x at *
  generalize l.any p = q at *
  go_enter Try.func65, Try.ntmps65
  go_wp2_with fail
  refine (HI.out).mono ?_
  rintro e w3 ⟨rfl, hb3⟩
  have HB3 := Lib.hid hb3; clear hb3
  go_wp2_with fail
  go_ret
  exact ⟨by rw [← HA.out]; rfl, HB3.out⟩
end Go.Proofs.Ytdpehojcoohjcab
