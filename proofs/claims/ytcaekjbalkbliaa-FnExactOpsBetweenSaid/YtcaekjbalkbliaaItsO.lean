/- Contracts of itemsOf of the program, and of slices.Contains at pairs (chapter 5). Conditions: the pairs lie in a row; they are few. -/
import Derived.Test.YtcaekjbalkbliaaOpfM
import Derived.Test.YtcaekjbalkbliaaExPair
import Derived.Test.YtcaekjbalkbliaaOut
import Derived.StillTailTactics
set_option linter.unusedVariables false
set_option linter.unusedSimpArgs false
namespace Go.Proofs.Ytcaekjbalkbliaa
open Go.RowKit Go.ChangeShapes Go.WideShapes

theorem pr_eql (x0 x1 y0 y1 : ByteArray) (w : World) :
    (binOp .eql 52 (.agg #[.string x0, .string x1]) (.agg #[.string y0, .string y1])).run Try.prog w = .ok (.bool (x0.toList == y0.toList && x1.toList == y1.toList)) w := by
  have hS : Try.prog.underlying 52 = some (.struct (Try.prog.fieldsOf 52)) := by kernel_rfl
  have hp : Try.prog.stoodInHeld 52 = false := by kernel_rfl
  have u1 := Try.underlying9
  rw [run_eql_struct, show (10000 : Nat) = 9999 + 1 from rfl, run_equalIn_agg w 9999 52 _ _ hS hp]
  simp only [Program.fieldsOf, Try.underlying52]
  go_simp
  cases h1 : (x0.toList == y0.toList) <;> cases h2 : (x1.toList == y1.toList) <;> simp_all
def IndexPost (F : List Pr) (x0 x1 : ByteArray) (w : World) (e : Ending) (w' : World) : Prop := (∃ v : Int, e = .returned (.int .i64 v) ∧ -1 ≤ v ∧ decide (0 ≤ v) = hasP F x0 x1) ∧ Below w.heap.size w w'
set_option maxRecDepth 100000 in
set_option maxHeartbeats 2000000 in
theorem index_any (A : Option Addr) (n c : Nat) (l : List Pr) (x0 x1 : ByteArray) (w : World) (hr : RowAt w w.heap.size A (prsC l)) (hn : n = l.length) (hs : n ≤ 1048576) :
    Calls Try.prog 60 #[.slice A n c, .agg #[.string x0, .string x1]] w (IndexPost l x0 x1 w) := by
  have HR := Lib.hid hr; clear hr
  have HN := Lib.hid hn; clear hn
  have hgd : Try.prog.eqGuardType Try.prog.depth 52 = false := by kernel_rfl
  have HB0 := Lib.hid ((Below.refl w.heap.size w).alloc (Nat.le_refl _) (.cells #[.string x0, .string x1] 52))
  have HX := Lib.hid (fun W (hb : Below (w.heap.size + 1) (w.alloc (.cells #[.string x0, .string x1] 52)) W) => (show W.cell? ⟨w.heap.size, 0, none⟩ = some (.string x0) ∧ W.cell? ⟨w.heap.size, 1, none⟩ = some (.string x1) from
    ⟨(hb.cell (p := ⟨w.heap.size, 0, none⟩) (by simp)).trans (by simp), (hb.cell (p := ⟨w.heap.size, 1, none⟩) (by simp)).trans (by simp)⟩))
  have HS := Lib.hid (Below.refl (w.heap.size + 1) (w.alloc (.cells #[.string x0, .string x1] 52)))
  go_enter Try.func60, Try.ntmps60
  go_wp2_with fail
  go_loopw [8] (fun i wr => ∃ k : Nat, k ≤ n ∧ i = .int .i64 k ∧ hasP (l.take k) x0 x1 = false ∧ Below (w.heap.size + 1) (w.alloc (.cells #[.string x0, .string x1] 52)) wr) (fun i _ => n - (intOf i).toNat)
  case atStart => exact ⟨0, by omega, rfl, rfl, HS.out⟩
  case round =>
    obtain ⟨k, hk, rfl, hno, hb⟩ := hrel
    have HNO := Lib.hid hno; clear hno
    have HB := Lib.hid hb; clear hb HS
    have HBW := Lib.hid (HB0.out.trans (HB.out.mono (by omega)))
    by_cases hlt : k < n
    · have hkl : k < l.length := by have := HN.out; omega
      obtain ⟨b, off, rfl, hbw, e0, e1⟩ := prs_at (HR.out.below HBW.out) hkl
      obtain ⟨p0, p1⟩ := HX.out _ HB.out
      have HT := Lib.hid (hasP_take hkl x0 x1)
      have HY := Lib.hid (fun h => hasP_yes hkl (a := x0) (b := x1) h)
      rw [HNO.out, Bool.false_or] at HT
      have hi1 : (k : Int) < (n : Int) := by omega
      generalize l[k].1 = y0 at *
      generalize l[k].2 = y1 at *
      have heq := pr_eql x0 x1 y0 y1
      cases hq : (x0.toList == y0.toList && x1.toList == y1.toList)
      · rw [hq] at heq HT
        clear hq HY
        go_wp2_with fail
        go_quiet (fail)
        go_wp2_with fail
        go_roundw
        case rel => exact ⟨k + 1, by omega, by go_num, HT.out, HB.out.trans (below_drewN _ _)⟩
        case measure => simp [intOf]; omega
      · have HYY := Lib.hid (HY.out hq)
        rw [hq] at heq
        clear hq HT HY
        go_wp2_with fail
        go_quiet (fail)
        go_wp2_with fail
        go_ret
        exact ⟨⟨(k : Int), rfl, by omega, by rw [HYY.out]; simp⟩, HBW.out.trans (below_drewN _ _)⟩
    · obtain rfl : k = n := by omega
      have HF := Lib.hid (show hasP l x0 x1 = false by have := HNO.out; rwa [HN.out, List.take_length] at this)
      go_wp2_with fail
      go_ret
      exact ⟨⟨-1, rfl, by omega, by rw [HF.out]; rfl⟩, HBW.out⟩
set_option maxRecDepth 100000 in
theorem contains_any (A : Option Addr) (n c : Nat) (l : List Pr) (x0 x1 : ByteArray) (w : World) (hr : RowAt w w.heap.size A (prsC l)) (hn : n = l.length) (hs : n ≤ 1048576) :
    Calls Try.prog 36 #[.slice A n c, .agg #[.string x0, .string x1]] w fun e w' => e = .returned (.bool (hasP l x0 x1)) ∧ Below w.heap.size w w' := by
  have HB0 := Lib.hid ((Below.refl w.heap.size w).alloc (Nat.le_refl _) (.cells #[.string x0, .string x1] 52))
  have HI := Lib.hid (index_any A n c l x0 x1 (w.alloc (.cells #[.string x0, .string x1] 52)) ((hr.below HB0.out).mono HB0.out.size) hn hs)
  clear hr hn
  go_enter Try.func36, Try.ntmps36
  go_wp2_with fail
  refine (HI.out).mono ?_
  rintro e w2 ⟨⟨v, rfl, hv0, hv⟩, hb⟩
  have HB := Lib.hid (HB0.out.trans (hb.mono HB0.out.size)); clear hb
  have HV := Lib.hid hv; clear hv
  by_cases h0 : 0 ≤ v
  · have HV2 := Lib.hid (show hasP l x0 x1 = true by rw [← HV.out]; exact decide_eq_true h0)
    go_wp2_with fail
    go_ret
    refine ⟨?_, HB.out⟩
    rw [HV2.out]; rfl
  · have HV2 := Lib.hid (show hasP l x0 x1 = false by rw [← HV.out]; exact decide_eq_false h0)
    go_wp2_with fail
    go_ret
    refine ⟨?_, HB.out⟩
    rw [← HV.out]; rfl
def ItemsPost (L : List It) (n : Nat) (w : World) (e : Ending) (w' : World) : Prop := ∃ A c, e = .returned (.slice A n c) ∧ OutR 60 3 w (itsC L) n A c w'
set_option maxRecDepth 100000 in
set_option maxHeartbeats 4000000 in
theorem itemsOf_any (A : Option Addr) (n c : Nat) (l : List Pr) (g : Bool) (w : World) (hr : RowAt w w.heap.size A (prsC l)) (hn : n = l.length) (hs : n ≤ 1048576) :
    Calls Try.prog 35 #[.slice A n c, .bool g] w (ItemsPost (itO g l) n w) := by
  obtain ⟨i0, hi0, hz0, hz1, hz2⟩ := info_parts itInfo
  have HI := Lib.hid (And.intro hi0 (And.intro hz0 (And.intro hz1 hz2))); clear hi0 hz0 hz1 hz2
  have HR := Lib.hid hr; clear hr
  have HN := Lib.hid hn; clear hn
  go_enter Try.func35, Try.ntmps35
  go_wp2_with fail
  go_loopw [5, 11] (fun q i wr => ∃ (k : Nat) (A' : Option Addr) (c' : Nat), k ≤ n ∧ q = .slice A' k c' ∧ i = .int .i64 k ∧ OutR 60 3 w (itsC (itO g (l.take k))) k A' c' wr) (fun _ i _ => n - (intOf i).toNat)
  case atStart => exact ⟨0, none, 0, by omega, rfl, rfl, OutR.nil _ _ _⟩
  case round =>
    obtain ⟨k, A', c', hk, rfl, rfl, ho⟩ := hrel
    have HO := Lib.hid ho; clear ho
    by_cases hlt : k < n
    · have hkl : k < l.length := by have := HN.out; omega
      obtain ⟨b, off, rfl, hbw, e0, e1⟩ := prs_at (HR.out.below HO.out.2) hkl
      have HT := Lib.hid (itO_take g hkl)
      have HOK := Lib.hid (fun W (hb : Below wr.heap.size wr W) => HO.out.keep hb)
      have HSZ := Lib.hid HO.out.2.size
      have hbs : b < wr.heap.size := by have := HSZ.out; omega
      have hi1 : (k : Int) < (n : Int) := by omega
      generalize l[k].1 = x0 at *
      generalize l[k].2 = x1 at *
      cases g
      · have HT2 := Lib.hid (show itsC (itO false (l.take k)) ++ [Value.string x0, .string x1, .bool false] = itsC (itO false (l.take (k + 1))) by rw [HT.out, itsC_snoc]; rfl)
        go_wp2_with (at_builtin; refine wpList_append_own _ rfl _ _ 57 rfl w.heap.size 60 i0 (.agg #[.string ⟨#[]⟩, .string ⟨#[]⟩, .bool false]) 3 40 Try.underlying57 HI.out.1 HI.out.2.1 HI.out.2.2.1 HI.out.2.2.2 rfl (by decide) (.slice A' k c') k (itsC (itO false (l.take k))) rfl (HOK.out _ ?c0).1 ⟨wr.heap.size + 1 + 1, 0, none⟩ 1 1 [.string x0, .string x1, .bool false] rfl rfl ?c1 ?c2 ?c3 ?c4 ?c5 ?_)
        try (case c0 => repeat (first | exact Below.refl _ _ | refine Below.alloc ?_ (by simp <;> omega) _ | refine Below.setCell ?_ (by simp <;> omega) _))
        try (case c1 =>
          intro j u hj
          have h9 := cells_at0 ((wr.alloc (.cells #[.string x0, .string x1] 52)).alloc (.cells #[.string x0, .string x1, .bool false] 60)) [.string x0, .string x1, .bool false] 60 j u hj
          simpa using h9)
        try (case c2 => first | exact ⟨rfl, rfl, rfl⟩ | (intro u hu; simp at hu; rcases hu with rfl | rfl | rfl <;> rfl))
        try (case c3 => first | omega | (unfold maxLen; omega))
        try (case c4 => omega)
        try (case c5 => have := HSZ.out; simp <;> omega)
        intro v' w4 hown' hgrow _
        obtain ⟨A4, c4, rfl, ho4⟩ := (HOK.out _ (by repeat (first | exact Below.refl _ _ | refine Below.alloc ?_ (by simp <;> omega) _ | refine Below.setCell ?_ (by simp <;> omega) _))).app hown' hgrow
        rw [HT2.out] at ho4
        have HO4 := Lib.hid ho4; clear ho4 hown' hgrow
        go_wp2_with fail
        go_roundw
        case rel => exact ⟨k + 1, A4, c4, by omega, rfl, by go_num, HO4.out⟩
        case measure => simp [intOf]; omega
      · have HT2 := Lib.hid (show itsC (itO true (l.take k)) ++ [Value.string x0, .string ⟨#[]⟩, .bool true] = itsC (itO true (l.take (k + 1))) by rw [HT.out, itsC_snoc]; rfl)
        go_wp2_with (at_builtin; refine wpList_append_own _ rfl _ _ 57 rfl w.heap.size 60 i0 (.agg #[.string ⟨#[]⟩, .string ⟨#[]⟩, .bool false]) 3 40 Try.underlying57 HI.out.1 HI.out.2.1 HI.out.2.2.1 HI.out.2.2.2 rfl (by decide) (.slice A' k c') k (itsC (itO true (l.take k))) rfl (HOK.out _ ?c0).1 ⟨wr.heap.size + 1 + 1, 0, none⟩ 1 1 [.string x0, .string ⟨#[]⟩, .bool true] rfl rfl ?c1 ?c2 ?c3 ?c4 ?c5 ?_)
        try (case c0 => repeat (first | exact Below.refl _ _ | refine Below.alloc ?_ (by simp <;> omega) _ | refine Below.setCell ?_ (by simp <;> omega) _))
        try (case c1 =>
          intro j u hj
          have h9 := cells_at0 ((wr.alloc (.cells #[.string x0, .string x1] 52)).alloc (.cells #[.string x0, .string ⟨#[]⟩, .bool true] 60)) [.string x0, .string ⟨#[]⟩, .bool true] 60 j u hj
          simpa using h9)
        try (case c2 => first | exact ⟨rfl, rfl, rfl⟩ | (intro u hu; simp at hu; rcases hu with rfl | rfl | rfl <;> rfl))
        try (case c3 => first | omega | (unfold maxLen; omega))
        try (case c4 => omega)
        try (case c5 => have := HSZ.out; simp <;> omega)
        intro v' w4 hown' hgrow _
        obtain ⟨A4, c4, rfl, ho4⟩ := (HOK.out _ (by repeat (first | exact Below.refl _ _ | refine Below.alloc ?_ (by simp <;> omega) _ | refine Below.setCell ?_ (by simp <;> omega) _))).app hown' hgrow
        rw [HT2.out] at ho4
        have HO4 := Lib.hid ho4; clear ho4 hown' hgrow
        go_wp2_with fail
        go_roundw
        case rel => exact ⟨k + 1, A4, c4, by omega, rfl, by go_num, HO4.out⟩
        case measure => simp [intOf]; omega
    · obtain rfl : k = n := by omega
      have HF := Lib.hid (show itO g (l.take k) = itO g l by rw [HN.out, List.take_length])
      go_wp2_with fail
      go_ret
      exact ⟨A', c', rfl, by rw [← HF.out]; exact HO.out⟩
end Go.Proofs.Ytcaekjbalkbliaa
