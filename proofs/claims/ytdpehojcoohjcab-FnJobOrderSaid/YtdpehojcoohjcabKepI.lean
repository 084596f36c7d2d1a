/- Contracts of isKind, staysBy and KeptBy of the program (chapter 8). Conditions: the jobs lie in a row; they are few. -/
import Derived.Test.YtdpehojcoohjcabKepS
import Derived.Test.YtdpehojcoohjcabIdxT
import Derived.Deep.RegionHeld
set_option linter.unusedVariables false
set_option linter.unusedSimpArgs false
namespace Go.Proofs.Ytdpehojcoohjcab
open Go.RowKit Go.ChangeShapes Go.WideShapes

def kindB (k : ByteArray) : Bool := (k.toList == [119, 114, 105, 116, 101, 115]) || (k.toList == [114, 101, 97, 100, 115])
def rdB (k : ByteArray) : Bool := k.toList == [114, 101, 97, 100, 115]
theorem iKind_any (k : ByteArray) (w : World) : Calls Try.prog 53 #[.string k] w fun e w' => e = .returned (.bool (kindB k)) ∧ w' = w := by
  by_cases h1 : k.toList = [119, 114, 105, 116, 101, 115]
  · have e1 : (k.toList == [119, 114, 105, 116, 101, 115]) = true := by simpa using h1
    go_enter Try.func53, Try.ntmps53
    go_wp2
    go_ret
    exact ⟨retb (by simp [kindB, e1]), rfl⟩
  · have e1 : (k.toList == [119, 114, 105, 116, 101, 115]) = false := by simpa using h1
    by_cases h2 : k.toList = [114, 101, 97, 100, 115]
    · have e2 : (k.toList == [114, 101, 97, 100, 115]) = true := by simpa using h2
      go_enter Try.func53, Try.ntmps53
      go_wp2
      go_ret
      exact ⟨retb (by simp [kindB, e1, e2]), rfl⟩
    · have e2 : (k.toList == [114, 101, 97, 100, 115]) = false := by simpa using h2
      go_enter Try.func53, Try.ntmps53
      go_wp2
      go_ret
      exact ⟨retb (by simp [kindB, e1, e2]), rfl⟩
/-- the test of the closure of staysBy -/
def wayB (s : Int) (mi : Nat) (o : JbT) : Bool := decide (s < o.2.1) && meetB o.2.2.2 (mi : Int)
theorem stayF_any (x : Jb) (g1 g2 mi : Nat) (s : Int) (w : World) (hx : okJb x = true) (hm : mi ≤ 7) (hg1 : g1 < w.heap.size) (hc1 : w.cell? ⟨g1, 0, none⟩ = some (.int .i64 s)) (hg2 : g2 < w.heap.size) (hc2 : w.cell? ⟨g2, 0, none⟩ = some (.int .i64 (mi : Int))) :
    Calls Try.prog 88 #[.agg #[.int .i64 x.1, .int .i64 x.2.1, .int .i64 x.2.2.1, .int .i64 x.2.2.2], .pointer (some ⟨g1, 0, none⟩), .pointer (some ⟨g2, 0, none⟩)] w fun e w' => e = .returned (.bool (wayB s mi x)) ∧ Below w.heap.size w w' := by
  obtain ⟨x0, x1, x2, x3⟩ := x
  simp only
  have HX := Lib.hid ((okJb_iff x0 x1 x2 x3).1 hx)
  obtain ⟨wk, hwk⟩ := Int.eq_ofNat_of_zero_le HX.out.2.2.2.1
  have hwk7 : wk ≤ 7 := by have := HX.out.2.2.2.2; omega
  subst hwk
  clear HX hx
  have hand := and_n wk mi (by omega) (by omega)
  have HMT := Lib.hid (show wayB s mi (x0, x1, x2, (wk : Int)) = (decide (s < x1) && !decide (wk &&& mi = 0)) by simp [wayB, meetB])
  have HB := Lib.hid ((Below.refl w.heap.size w).alloc (Nat.le_refl _) (.cells #[.int .i64 x0, .int .i64 x1, .int .i64 x2, .int .i64 (wk : Int)] 69))
  have k1 : (w.alloc (.cells #[.int .i64 x0, .int .i64 x1, .int .i64 x2, .int .i64 (wk : Int)] 69)).cell? ⟨g1, 0, none⟩ = some (.int .i64 s) := (HB.out.cell (p := ⟨g1, 0, none⟩) hg1).trans hc1
  have k2 : (w.alloc (.cells #[.int .i64 x0, .int .i64 x1, .int .i64 x2, .int .i64 (wk : Int)] 69)).cell? ⟨g2, 0, none⟩ = some (.int .i64 (mi : Int)) := (HB.out.cell (p := ⟨g2, 0, none⟩) hg2).trans hc2
  generalize wk &&& mi = z at *
  by_cases h1 : s < x1
  · by_cases h2 : z = 0
    · subst h2
      go_enter Try.func88, Try.ntmps88
      go_wp2_with fail
      try go_quiet (fail)
      go_wp2_with fail
      go_ret
      exact ⟨retb (by rw [HMT.out]; simp), by first | exact HB.out | exact HB.out.trans (below_drewN _ _)⟩
    · have hz1 : ((z : Int) == 0) = false := by simp; omega
      have hz2 : ((z : Int) != 0) = true := by simp; omega
      have hz3 : ¬ ((z : Int) = 0) := by omega
      go_enter Try.func88, Try.ntmps88
      go_wp2_with fail
      try go_quiet (fail)
      go_wp2_with fail
      go_ret
      exact ⟨retb (by rw [HMT.out]; simp [h1, h2]), by first | exact HB.out | exact HB.out.trans (below_drewN _ _)⟩
  · have hd1 : decide (s < x1) = false := by simpa using h1
    go_enter Try.func88, Try.ntmps88
    go_wp2_with fail
    try go_quiet (fail)
    go_wp2_with fail
    go_ret
    exact ⟨retb (by rw [HMT.out, hd1]; rfl), by first | exact HB.out | exact HB.out.trans (below_drewN _ _)⟩
set_option maxHeartbeats 2000000 in
theorem iStay_any (x0 x1 : Int) (r2 r3 : Nat) (kind : ByteArray) (A : Option Addr) (n c : Nat) (E : List Jb) (w : World) (h2 : r2 ≤ 7) (h3 : r3 ≤ 7) (hr : RowAt w w.heap.size A (jbsC E)) (hn : n = E.length) (hs : n ≤ 1048576) (hE : ∀ x ∈ E, okJb x = true) :
    Calls Try.prog 78 #[.agg #[.int .i64 x0, .int .i64 x1, .int .i64 (r2 : Int), .int .i64 (r3 : Int)], .string kind, .slice A n c] w
      fun e w' => e = .returned (.bool (!E.any (wayB x0 (if rdB kind then r2 else r3)))) ∧ Below w.heap.size w w' := by
  have HHAS := Lib.hid (fun W g1 g2 mi (hb : Below w.heap.size w W) (hm : mi ≤ 7) (hg1 : g1 < W.heap.size) (hc1 : W.cell? ⟨g1, 0, none⟩ = some (.int .i64 x0)) (hg2 : g2 < W.heap.size) (hc2 : W.cell? ⟨g2, 0, none⟩ = some (.int .i64 ((mi : Nat) : Int))) =>
    iHas_T A n c E (wayB x0 mi) (.pointer (some ⟨g1, 0, none⟩)) (.pointer (some ⟨g2, 0, none⟩)) W ((hr.below hb).mono hb.size) hn hs (fun W' x hx hb' => stayF_any x g1 g2 mi x0 W' (hE x hx) hm (Nat.lt_of_lt_of_le hg1 hb'.size) ((hb'.cell (p := ⟨g1, 0, none⟩) hg1).trans hc1) (Nat.lt_of_lt_of_le hg2 hb'.size) ((hb'.cell (p := ⟨g2, 0, none⟩) hg2).trans hc2)))
  clear hr hn hE
  cases hk : rdB kind
  · have ek : (kind.toList == [114, 101, 97, 100, 115]) = false := hk
    have ek2 : ¬ kind.toList = [114, 101, 97, 100, 115] := by simpa using ek
    have HB := Lib.hid (((Below.refl w.heap.size w).alloc (Nat.le_refl _) (.cells #[.int .i64 x0, .int .i64 x1, .int .i64 (r2 : Int), .int .i64 (r3 : Int)] 69)).alloc (by simp) (.cells #[.int .i64 (r3 : Int)] 3))
    have HH := Lib.hid (HHAS.out _ w.heap.size (w.heap.size + 1) r3 HB.out h3 (by simp; omega) (by simp) (by simp) (by simp))
    simp only [Bool.false_eq_true, if_false]
    clear hk HHAS
    generalize E.any (wayB x0 r3) = q at *
    go_enter Try.func78, Try.ntmps78
    go_wp2_with fail
    refine (HH.out).mono ?_
    rintro e w3 ⟨rfl, hb3⟩
    have HB3 := Lib.hid (HB.out.trans (hb3.mono HB.out.size)); clear hb3
    go_wp2_with fail
    go_ret
    exact ⟨rfl, HB3.out⟩
  · have ek : (kind.toList == [114, 101, 97, 100, 115]) = true := hk
    have ek2 : kind.toList = [114, 101, 97, 100, 115] := by simpa using ek
    have HB := Lib.hid (((Below.refl w.heap.size w).alloc (Nat.le_refl _) (.cells #[.int .i64 x0, .int .i64 x1, .int .i64 (r2 : Int), .int .i64 (r3 : Int)] 69)).alloc (by simp) (.cells #[.int .i64 (r2 : Int)] 3))
    have HH := Lib.hid (HHAS.out _ w.heap.size (w.heap.size + 1) r2 HB.out h2 (by simp; omega) (by simp) (by simp) (by simp))
    simp only [if_true]
    clear hk HHAS
    generalize E.any (wayB x0 r2) = q at *
    go_enter Try.func78, Try.ntmps78
    go_wp2_with fail
    refine (HH.out).mono ?_
    rintro e w3 ⟨rfl, hb3⟩
    have HB3 := Lib.hid (HB.out.trans (hb3.mono HB.out.size)); clear hb3
    go_wp2_with fail
    go_ret
    exact ⟨rfl, HB3.out⟩
end Go.Proofs.Ytdpehojcoohjcab
