/- The contract of ValidRun of the program (chapter 4). Conditions: the items lie in a row; they are few; their texts are no longer than memory. -/
import Derived.Test.YtofpdelolniklaaRunC
import Derived.BigRegion
set_option linter.unusedVariables false
set_option linter.unusedSimpArgs false
namespace Go.Proofs.Ytofpdelolniklaa
open Go.RowKit Go.ChangeShapes Go.WideShapes

set_option maxRecDepth 100000 in
set_option maxHeartbeats 4000000 in
theorem iRun_any (A : Option Addr) (n c : Nat) (l : List It) (w : World) (hr : RowAt w w.heap.size A (itsC l)) (hn : n = l.length) (hs : n ≤ 1048576) (hw : WfIt l) :
    Calls Try.prog 15 #[.slice A n c] w fun e w' => e = .returned (.bool (runB l)) ∧ Below w.heap.size w w' := by
  have HR := Lib.hid hr; clear hr
  have HN := Lib.hid hn; clear hn
  have HW := Lib.hid hw; clear hw
  by_cases hlong : 40 < n
  · have HF := Lib.hid (runB_long (l := l) (by rw [← HN.out]; exact hlong))
    go_enter Try.func15, Try.ntmps15
    go_wp2_with fail
    go_ret
    exact ⟨ret_bool HF.out.symm, Below.refl _ _⟩
  go_enter Try.func15, Try.ntmps15
  go_wp2_with fail
  go_loopw [10] (fun i wr => ∃ k : Nat, i = .int .i64 k ∧ k ≤ n ∧ upB kIt okIt l k = true ∧ Below w.heap.size w wr) (fun i _ => n - (intOf i).toNat)
  case atStart => exact ⟨0, rfl, by omega, rfl, Below.refl _ _⟩
  case round =>
    obtain ⟨k, rfl, hk, hu, hb⟩ := hrel
    have HU := Lib.hid hu; clear hu
    have HB := Lib.hid hb; clear hb
    by_cases hlt : k < n
    · have hkl : k < l.length := by have := HN.out; omega
      obtain ⟨b, off, hA, hbw, e0, e1, e2⟩ := its_at (HR.out.below HB.out) hkl
      subst hA
      obtain ⟨g1, g2⟩ := HW.out l[k] (List.getElem_mem hkl)
      have HK := Lib.hid (fun w => iWhole_any l[k].1 l[k].2.1 l[k].2.2 w g1 g2)
      have HNO := Lib.hid (fun h => runB_no (l := l) (k := k) h hkl)
      have HYES := Lib.hid (fun (h : goodI kIt okIt l k = true) => (show upB kIt okIt l (k + 1) = true by rw [up_succ, HU.out, h]; rfl))
      have hi1 : (k : Int) < (n : Int) := by omega
      have hbs : b < wr.heap.size := Nat.lt_of_lt_of_le hbw HB.out.size
      clear g1 g2
      cases k with
      | zero =>
        have HG := Lib.hid (show goodI kIt okIt l 0 = okIt (l[0].1, l[0].2.1, l[0].2.2) from goodIt_zero hkl)
        rw [Nat.zero_mul, Nat.add_zero] at e0 e1 e2
        generalize l[0].1 = x0 at *
        generalize l[0].2.1 = x1 at *
        generalize l[0].2.2 = x2 at *
        generalize okIt (x0, x1, x2) = y0 at *
        cases y0
        · go_wp2_with fail
          refine wp_region_any (by kernel_rfl) ?_
          try (change wpAny _ _ _ _ _ _ _ (World.drew _))
          have HB2 := Lib.hid (show Below w.heap.size w (wr.alloc (.cells #[.string x0, .string x1, .bool x2] 31)).drew from (HB.out.alloc HB.out.size _).trans (below_drewN _ 1))
          have C0 := Lib.hid (show (wr.alloc (.cells #[.string x0, .string x1, .bool x2] 31)).drew.cell? ⟨wr.heap.size, 0, none⟩ = some (.string x0) by simp)
          have d0 : (wr.alloc (.cells #[.string x0, .string x1, .bool x2] 31)).drew.cell? ⟨wr.heap.size, 0, none⟩ = some (.string x0) := by simp
          have d1 : (wr.alloc (.cells #[.string x0, .string x1, .bool x2] 31)).drew.cell? ⟨wr.heap.size, 1, none⟩ = some (.string x1) := by simp
          have d2 : (wr.alloc (.cells #[.string x0, .string x1, .bool x2] 31)).drew.cell? ⟨wr.heap.size, 2, none⟩ = some (.bool x2) := by simp
          have hp : wr.heap.size < (wr.alloc (.cells #[.string x0, .string x1, .bool x2] 31)).drew.heap.size := by simp
          have hbW : b < (wr.alloc (.cells #[.string x0, .string x1, .bool x2] 31)).drew.heap.size := by first | (simp; done) | (simp; omega)
          generalize (wr.alloc (.cells #[.string x0, .string x1, .bool x2] 31)).drew = W0 at *
          generalize wr.heap.size = p at *
          have HK := Lib.hid (HK.out W0)
          refine wpAny_ready (rs := [0]) (by kernel_rfl) (by simp) ?_
          refine AllReady.cons rfl (fun K hK => ?_) AllReady.nil
          go_simp
          refine hK _ _ ?_; clear hK K
          clear d0 d1 d2
          refine wpAny_ready (rs := [1]) (by kernel_rfl) (by simp) ?_
          refine AllReady.cons rfl (fun K hK => ?_) AllReady.nil
          go_simp
          go_wp2_with (go_at_call 60; refine (HK.out).mono ?_; rintro e w3 ⟨rfl, hb3⟩)
          have c0 := (hb3.cell (p := ⟨p, 0, none⟩) hp).trans C0.out
          have HB3 := Lib.hid (HB2.out.trans (hb3.mono HB2.out.size)); clear hb3
          refine wpAny_take (i := 2) (v := ?_) rfl (by kernel_rfl) (by kernel_rfl) (by kernel_rfl) (fun _ _ _ h => h) (Or.inl ⟨by kernel_rfl, ?_⟩) ?_
          rotate_left
          · (intro w; go_simp; first | done | with_reducible rfl)
          conv => arg 7; simp [Act.put]
          refine wpAny_take (i := 3) (v := ?_) rfl (by kernel_rfl) (by kernel_rfl) (by kernel_rfl) (fun _ _ _ h => h) (Or.inl ⟨by kernel_rfl, ?_⟩) ?_
          rotate_left
          · (intro w; go_simp; first | done | with_reducible rfl)
          conv => arg 7; simp [Act.put]
          refine wpAny_take (i := 4) (v := undef) rfl (by kernel_rfl) (by kernel_rfl) (by kernel_rfl) (fun _ _ _ h => h) (Or.inr ⟨by kernel_rfl, by kernel_rfl⟩) ?_
          conv => arg 7; simp [Act.put]
          refine wpAny_take (i := 5) (v := undef) rfl (by kernel_rfl) (by kernel_rfl) (by kernel_rfl) (fun _ _ _ h => h) (Or.inr ⟨by kernel_rfl, by kernel_rfl⟩) ?_
          conv => arg 7; simp [Act.put]
          refine wpAny_take (i := 6) (v := undef) rfl (by kernel_rfl) (by kernel_rfl) (by kernel_rfl) (fun _ _ _ h => h) (Or.inr ⟨by kernel_rfl, by kernel_rfl⟩) ?_
          conv => arg 7; simp [Act.put]
          refine wpAny_take (i := 7) (v := undef) rfl (by kernel_rfl) (by kernel_rfl) (by kernel_rfl) (fun _ _ _ h => h) (Or.inr ⟨by kernel_rfl, by kernel_rfl⟩) ?_
          conv => arg 7; simp [Act.put]
          refine wpAny_take (i := 8) (v := undef) rfl (by kernel_rfl) (by kernel_rfl) (by kernel_rfl) (fun _ _ _ h => h) (Or.inr ⟨by kernel_rfl, by kernel_rfl⟩) ?_
          conv => arg 7; simp [Act.put]
          refine wpAny_take (i := 9) (v := undef) rfl (by kernel_rfl) (by kernel_rfl) (by kernel_rfl) (fun _ _ _ h => h) (Or.inr ⟨by kernel_rfl, by kernel_rfl⟩) ?_
          conv => arg 7; simp [Act.put]
          refine wpAny_take (i := 10) (v := undef) rfl (by kernel_rfl) (by kernel_rfl) (by kernel_rfl) (fun _ _ _ h => h) (Or.inr ⟨by kernel_rfl, by kernel_rfl⟩) ?_
          conv => arg 7; simp [Act.put]
          refine wpAny_take (i := 11) (v := undef) rfl (by kernel_rfl) (by kernel_rfl) (by kernel_rfl) (fun _ _ _ h => h) (Or.inr ⟨by kernel_rfl, by kernel_rfl⟩) ?_
          conv => arg 7; simp [Act.put]
          refine wpAny_take (i := 12) (v := undef) rfl (by kernel_rfl) (by kernel_rfl) (by kernel_rfl) (fun _ _ _ h => h) (Or.inr ⟨by kernel_rfl, by kernel_rfl⟩) ?_
          conv => arg 7; simp [Act.put]
          refine wpAny_take (i := 13) (v := undef) rfl (by kernel_rfl) (by kernel_rfl) (by kernel_rfl) (fun _ _ _ h => h) (Or.inr ⟨by kernel_rfl, by kernel_rfl⟩) ?_
          conv => arg 7; simp [Act.put]
          refine wpAny_take (i := 14) (v := undef) rfl (by kernel_rfl) (by kernel_rfl) (by kernel_rfl) (fun _ _ _ h => h) (Or.inr ⟨by kernel_rfl, by kernel_rfl⟩) ?_
          conv => arg 7; simp [Act.put]
          refine wpAny_take (i := 15) (v := undef) rfl (by kernel_rfl) (by kernel_rfl) (by kernel_rfl) (fun _ _ _ h => h) (Or.inr ⟨by kernel_rfl, by kernel_rfl⟩) ?_
          conv => arg 7; simp [Act.put]
          refine wpAny_take (i := 16) (v := undef) rfl (by kernel_rfl) (by kernel_rfl) (by kernel_rfl) (fun _ _ _ h => h) (Or.inr ⟨by kernel_rfl, by kernel_rfl⟩) ?_
          conv => arg 7; simp [Act.put]
          refine wpAny_take (i := 17) (v := ?_) rfl (by kernel_rfl) (by kernel_rfl) (by kernel_rfl) (fun _ _ _ h => h) (Or.inl ⟨by kernel_rfl, ?_⟩) ?_
          rotate_left
          · (intro w; go_simp; first | done | with_reducible rfl)
          conv => arg 7; simp [Act.put]
          refine wpAny_done (by kernel_rfl) ?_ _
          clear c0
          go_wp2_with fail
          go_ret
          exact ⟨ret_bool (HNO.out (by first | (rw [HG.out]; done) | (rw [HG.out]; rfl) | (rw [HG.out]; simp; done))).symm, HB3.out⟩
        · go_wp2_with fail
          refine wp_region_any (by kernel_rfl) ?_
          try (change wpAny _ _ _ _ _ _ _ (World.drew _))
          have HB2 := Lib.hid (show Below w.heap.size w (wr.alloc (.cells #[.string x0, .string x1, .bool x2] 31)).drew from (HB.out.alloc HB.out.size _).trans (below_drewN _ 1))
          have C0 := Lib.hid (show (wr.alloc (.cells #[.string x0, .string x1, .bool x2] 31)).drew.cell? ⟨wr.heap.size, 0, none⟩ = some (.string x0) by simp)
          have d0 : (wr.alloc (.cells #[.string x0, .string x1, .bool x2] 31)).drew.cell? ⟨wr.heap.size, 0, none⟩ = some (.string x0) := by simp
          have d1 : (wr.alloc (.cells #[.string x0, .string x1, .bool x2] 31)).drew.cell? ⟨wr.heap.size, 1, none⟩ = some (.string x1) := by simp
          have d2 : (wr.alloc (.cells #[.string x0, .string x1, .bool x2] 31)).drew.cell? ⟨wr.heap.size, 2, none⟩ = some (.bool x2) := by simp
          have hp : wr.heap.size < (wr.alloc (.cells #[.string x0, .string x1, .bool x2] 31)).drew.heap.size := by simp
          have hbW : b < (wr.alloc (.cells #[.string x0, .string x1, .bool x2] 31)).drew.heap.size := by first | (simp; done) | (simp; omega)
          generalize (wr.alloc (.cells #[.string x0, .string x1, .bool x2] 31)).drew = W0 at *
          generalize wr.heap.size = p at *
          have HK := Lib.hid (HK.out W0)
          refine wpAny_ready (rs := [0]) (by kernel_rfl) (by simp) ?_
          refine AllReady.cons rfl (fun K hK => ?_) AllReady.nil
          go_simp
          refine hK _ _ ?_; clear hK K
          clear d0 d1 d2
          refine wpAny_ready (rs := [1]) (by kernel_rfl) (by simp) ?_
          refine AllReady.cons rfl (fun K hK => ?_) AllReady.nil
          go_simp
          go_wp2_with (go_at_call 60; refine (HK.out).mono ?_; rintro e w3 ⟨rfl, hb3⟩)
          have c0 := (hb3.cell (p := ⟨p, 0, none⟩) hp).trans C0.out
          have HB3 := Lib.hid (HB2.out.trans (hb3.mono HB2.out.size)); clear hb3
          refine wpAny_take (i := 2) (v := ?_) rfl (by kernel_rfl) (by kernel_rfl) (by kernel_rfl) (fun _ _ _ h => h) (Or.inl ⟨by kernel_rfl, ?_⟩) ?_
          rotate_left
          · (intro w; go_simp; first | done | with_reducible rfl)
          conv => arg 7; simp [Act.put]
          refine wpAny_take (i := 3) (v := ?_) rfl (by kernel_rfl) (by kernel_rfl) (by kernel_rfl) (fun _ _ _ h => h) (Or.inl ⟨by kernel_rfl, ?_⟩) ?_
          rotate_left
          · (intro w; go_simp; first | done | with_reducible rfl)
          conv => arg 7; simp [Act.put]
          refine wpAny_take (i := 4) (v := ?_) rfl (by kernel_rfl) (by kernel_rfl) (by kernel_rfl) (fun _ _ _ h => h) (Or.inl ⟨by kernel_rfl, ?_⟩) ?_
          rotate_left
          · (intro w; go_simp; first | done | with_reducible rfl)
          conv => arg 7; simp [Act.put]
          refine wpAny_take (i := 5) (v := ?_) rfl (by kernel_rfl) (by kernel_rfl) (by kernel_rfl) (fun _ _ _ h => h) (Or.inl ⟨by kernel_rfl, ?_⟩) ?_
          rotate_left
          · (intro w; go_simp; first | done | with_reducible rfl)
          conv => arg 7; simp [Act.put]
          refine wpAny_take (i := 6) (v := ?_) rfl (by kernel_rfl) (by kernel_rfl) (by kernel_rfl) (fun _ _ _ h => h) (Or.inl ⟨by kernel_rfl, ?_⟩) ?_
          rotate_left
          · (intro w; go_simp; first | done | with_reducible rfl)
          conv => arg 7; simp [Act.put]
          refine wpAny_take (i := 7) (v := undef) rfl (by kernel_rfl) (by kernel_rfl) (by kernel_rfl) (fun _ _ _ h => h) (Or.inr ⟨by kernel_rfl, by kernel_rfl⟩) ?_
          conv => arg 7; simp [Act.put]
          refine wpAny_take (i := 8) (v := undef) rfl (by kernel_rfl) (by kernel_rfl) (by kernel_rfl) (fun _ _ _ h => h) (Or.inr ⟨by kernel_rfl, by kernel_rfl⟩) ?_
          conv => arg 7; simp [Act.put]
          refine wpAny_take (i := 9) (v := undef) rfl (by kernel_rfl) (by kernel_rfl) (by kernel_rfl) (fun _ _ _ h => h) (Or.inr ⟨by kernel_rfl, by kernel_rfl⟩) ?_
          conv => arg 7; simp [Act.put]
          refine wpAny_take (i := 10) (v := undef) rfl (by kernel_rfl) (by kernel_rfl) (by kernel_rfl) (fun _ _ _ h => h) (Or.inr ⟨by kernel_rfl, by kernel_rfl⟩) ?_
          conv => arg 7; simp [Act.put]
          refine wpAny_take (i := 11) (v := undef) rfl (by kernel_rfl) (by kernel_rfl) (by kernel_rfl) (fun _ _ _ h => h) (Or.inr ⟨by kernel_rfl, by kernel_rfl⟩) ?_
          conv => arg 7; simp [Act.put]
          refine wpAny_take (i := 12) (v := undef) rfl (by kernel_rfl) (by kernel_rfl) (by kernel_rfl) (fun _ _ _ h => h) (Or.inr ⟨by kernel_rfl, by kernel_rfl⟩) ?_
          conv => arg 7; simp [Act.put]
          refine wpAny_take (i := 13) (v := undef) rfl (by kernel_rfl) (by kernel_rfl) (by kernel_rfl) (fun _ _ _ h => h) (Or.inr ⟨by kernel_rfl, by kernel_rfl⟩) ?_
          conv => arg 7; simp [Act.put]
          refine wpAny_take (i := 14) (v := undef) rfl (by kernel_rfl) (by kernel_rfl) (by kernel_rfl) (fun _ _ _ h => h) (Or.inr ⟨by kernel_rfl, by kernel_rfl⟩) ?_
          conv => arg 7; simp [Act.put]
          refine wpAny_take (i := 15) (v := undef) rfl (by kernel_rfl) (by kernel_rfl) (by kernel_rfl) (fun _ _ _ h => h) (Or.inr ⟨by kernel_rfl, by kernel_rfl⟩) ?_
          conv => arg 7; simp [Act.put]
          refine wpAny_take (i := 16) (v := ?_) rfl (by kernel_rfl) (by kernel_rfl) (by kernel_rfl) (fun _ _ _ h => h) (Or.inl ⟨by kernel_rfl, ?_⟩) ?_
          rotate_left
          · (intro w; go_simp; first | done | with_reducible rfl)
          conv => arg 7; simp [Act.put]
          refine wpAny_take (i := 17) (v := ?_) rfl (by kernel_rfl) (by kernel_rfl) (by kernel_rfl) (fun _ _ _ h => h) (Or.inl ⟨by kernel_rfl, ?_⟩) ?_
          rotate_left
          · (intro w; go_simp; first | done | with_reducible rfl)
          conv => arg 7; simp [Act.put]
          refine wpAny_done (by kernel_rfl) ?_ _
          clear c0
          go_wp2_with fail
          go_roundw
          case rel => exact ⟨0 + 1, by go_num, by omega, HYES.out (by first | (rw [HG.out]; done) | (rw [HG.out]; rfl)), HB3.out⟩
          case measure => simp [intOf]; omega
      | succ j =>
        have HG := Lib.hid (show goodI kIt okIt l (j + 1) = (okIt (l[j + 1].1, l[j + 1].2.1, l[j + 1].2.2) && ltS l[j].1 l[j + 1].1) from goodIt_succ hkl)
        have hjl : j < l.length := by omega
        obtain ⟨b', off', hA', hbw', e3, e4, e5⟩ := its_at (HR.out.below HB.out) hjl
        injection hA' with hA'
        injection hA' with h1 h2
        subst h1 h2
        clear e4 e5 hbw'
        have hi2 : (j : Int) < (n : Int) := by omega
        have hi3 : ((j + 1 : Nat) : Int) - 1 = (j : Int) := by omega
        have hi4 : (0 : Int) < ((j + 1 : Nat) : Int) := by omega
        have hi5 : (0 : Int) ≤ (j : Int) := by omega
        have hi6 : IntKind.i64.wrap (j : Int) = (j : Int) := IntWalk.i64_in _ (by omega)
        generalize l[j].1 = y at *
        generalize l[j + 1].1 = x0 at *
        generalize l[j + 1].2.1 = x1 at *
        generalize l[j + 1].2.2 = x2 at *
        generalize okIt (x0, x1, x2) = y0 at *
        cases y0
        · go_wp2_with fail
          refine wp_region_any (by kernel_rfl) ?_
          try (change wpAny _ _ _ _ _ _ _ (World.drew _))
          have HB2 := Lib.hid (show Below w.heap.size w (wr.alloc (.cells #[.string x0, .string x1, .bool x2] 31)).drew from (HB.out.alloc HB.out.size _).trans (below_drewN _ 1))
          have C0 := Lib.hid (show (wr.alloc (.cells #[.string x0, .string x1, .bool x2] 31)).drew.cell? ⟨wr.heap.size, 0, none⟩ = some (.string x0) by simp)
          have d0 : (wr.alloc (.cells #[.string x0, .string x1, .bool x2] 31)).drew.cell? ⟨wr.heap.size, 0, none⟩ = some (.string x0) := by simp
          have d1 : (wr.alloc (.cells #[.string x0, .string x1, .bool x2] 31)).drew.cell? ⟨wr.heap.size, 1, none⟩ = some (.string x1) := by simp
          have d2 : (wr.alloc (.cells #[.string x0, .string x1, .bool x2] 31)).drew.cell? ⟨wr.heap.size, 2, none⟩ = some (.bool x2) := by simp
          have CY := Lib.hid (show (wr.alloc (.cells #[.string x0, .string x1, .bool x2] 31)).drew.cell? ⟨b, off + j * 3, none⟩ = some (.string y) from (World.cell?_alloc_lt wr _ ⟨b, off + j * 3, none⟩ hbs).trans e3)
          have hp : wr.heap.size < (wr.alloc (.cells #[.string x0, .string x1, .bool x2] 31)).drew.heap.size := by simp
          have hbW : b < (wr.alloc (.cells #[.string x0, .string x1, .bool x2] 31)).drew.heap.size := by first | (simp; done) | (simp; omega)
          generalize (wr.alloc (.cells #[.string x0, .string x1, .bool x2] 31)).drew = W0 at *
          generalize wr.heap.size = p at *
          have HK := Lib.hid (HK.out W0)
          refine wpAny_ready (rs := [0]) (by kernel_rfl) (by simp) ?_
          refine AllReady.cons rfl (fun K hK => ?_) AllReady.nil
          go_simp
          refine hK _ _ ?_; clear hK K
          clear d0 d1 d2
          refine wpAny_ready (rs := [1]) (by kernel_rfl) (by simp) ?_
          refine AllReady.cons rfl (fun K hK => ?_) AllReady.nil
          go_simp
          go_wp2_with (go_at_call 60; refine (HK.out).mono ?_; rintro e w3 ⟨rfl, hb3⟩)
          have c0 := (hb3.cell (p := ⟨p, 0, none⟩) hp).trans C0.out
          have c1 := (hb3.cell (p := ⟨b, off + j * 3, none⟩) hbW).trans CY.out
          have HB3 := Lib.hid (HB2.out.trans (hb3.mono HB2.out.size)); clear hb3
          refine wpAny_take (i := 2) (v := ?_) rfl (by kernel_rfl) (by kernel_rfl) (by kernel_rfl) (fun _ _ _ h => h) (Or.inl ⟨by kernel_rfl, ?_⟩) ?_
          rotate_left
          · (intro w; go_simp; first | done | with_reducible rfl)
          conv => arg 7; simp [Act.put]
          refine wpAny_take (i := 3) (v := ?_) rfl (by kernel_rfl) (by kernel_rfl) (by kernel_rfl) (fun _ _ _ h => h) (Or.inl ⟨by kernel_rfl, ?_⟩) ?_
          rotate_left
          · (intro w; go_simp; first | done | with_reducible rfl)
          conv => arg 7; simp [Act.put]
          refine wpAny_take (i := 4) (v := undef) rfl (by kernel_rfl) (by kernel_rfl) (by kernel_rfl) (fun _ _ _ h => h) (Or.inr ⟨by kernel_rfl, by kernel_rfl⟩) ?_
          conv => arg 7; simp [Act.put]
          refine wpAny_take (i := 5) (v := undef) rfl (by kernel_rfl) (by kernel_rfl) (by kernel_rfl) (fun _ _ _ h => h) (Or.inr ⟨by kernel_rfl, by kernel_rfl⟩) ?_
          conv => arg 7; simp [Act.put]
          refine wpAny_take (i := 6) (v := undef) rfl (by kernel_rfl) (by kernel_rfl) (by kernel_rfl) (fun _ _ _ h => h) (Or.inr ⟨by kernel_rfl, by kernel_rfl⟩) ?_
          conv => arg 7; simp [Act.put]
          refine wpAny_take (i := 7) (v := undef) rfl (by kernel_rfl) (by kernel_rfl) (by kernel_rfl) (fun _ _ _ h => h) (Or.inr ⟨by kernel_rfl, by kernel_rfl⟩) ?_
          conv => arg 7; simp [Act.put]
          refine wpAny_take (i := 8) (v := undef) rfl (by kernel_rfl) (by kernel_rfl) (by kernel_rfl) (fun _ _ _ h => h) (Or.inr ⟨by kernel_rfl, by kernel_rfl⟩) ?_
          conv => arg 7; simp [Act.put]
          refine wpAny_take (i := 9) (v := undef) rfl (by kernel_rfl) (by kernel_rfl) (by kernel_rfl) (fun _ _ _ h => h) (Or.inr ⟨by kernel_rfl, by kernel_rfl⟩) ?_
          conv => arg 7; simp [Act.put]
          refine wpAny_take (i := 10) (v := undef) rfl (by kernel_rfl) (by kernel_rfl) (by kernel_rfl) (fun _ _ _ h => h) (Or.inr ⟨by kernel_rfl, by kernel_rfl⟩) ?_
          conv => arg 7; simp [Act.put]
          refine wpAny_take (i := 11) (v := undef) rfl (by kernel_rfl) (by kernel_rfl) (by kernel_rfl) (fun _ _ _ h => h) (Or.inr ⟨by kernel_rfl, by kernel_rfl⟩) ?_
          conv => arg 7; simp [Act.put]
          refine wpAny_take (i := 12) (v := undef) rfl (by kernel_rfl) (by kernel_rfl) (by kernel_rfl) (fun _ _ _ h => h) (Or.inr ⟨by kernel_rfl, by kernel_rfl⟩) ?_
          conv => arg 7; simp [Act.put]
          refine wpAny_take (i := 13) (v := undef) rfl (by kernel_rfl) (by kernel_rfl) (by kernel_rfl) (fun _ _ _ h => h) (Or.inr ⟨by kernel_rfl, by kernel_rfl⟩) ?_
          conv => arg 7; simp [Act.put]
          refine wpAny_take (i := 14) (v := undef) rfl (by kernel_rfl) (by kernel_rfl) (by kernel_rfl) (fun _ _ _ h => h) (Or.inr ⟨by kernel_rfl, by kernel_rfl⟩) ?_
          conv => arg 7; simp [Act.put]
          refine wpAny_take (i := 15) (v := undef) rfl (by kernel_rfl) (by kernel_rfl) (by kernel_rfl) (fun _ _ _ h => h) (Or.inr ⟨by kernel_rfl, by kernel_rfl⟩) ?_
          conv => arg 7; simp [Act.put]
          refine wpAny_take (i := 16) (v := undef) rfl (by kernel_rfl) (by kernel_rfl) (by kernel_rfl) (fun _ _ _ h => h) (Or.inr ⟨by kernel_rfl, by kernel_rfl⟩) ?_
          conv => arg 7; simp [Act.put]
          refine wpAny_take (i := 17) (v := ?_) rfl (by kernel_rfl) (by kernel_rfl) (by kernel_rfl) (fun _ _ _ h => h) (Or.inl ⟨by kernel_rfl, ?_⟩) ?_
          rotate_left
          · (intro w; go_simp; first | done | with_reducible rfl)
          conv => arg 7; simp [Act.put]
          refine wpAny_done (by kernel_rfl) ?_ _
          clear c0 c1
          go_wp2_with fail
          go_ret
          exact ⟨ret_bool (HNO.out (by first | (rw [HG.out]; done) | (rw [HG.out]; rfl) | (rw [HG.out]; simp; done))).symm, HB3.out⟩
        · cases h3 : ltS y x0
          · have hc : Op.bytesLess y.toList x0.toList = false := h3
            rw [h3] at HG
            clear h3
            go_wp2_with fail
            refine wp_region_any (by kernel_rfl) ?_
            try (change wpAny _ _ _ _ _ _ _ (World.drew _))
            have HB2 := Lib.hid (show Below w.heap.size w (wr.alloc (.cells #[.string x0, .string x1, .bool x2] 31)).drew from (HB.out.alloc HB.out.size _).trans (below_drewN _ 1))
            have C0 := Lib.hid (show (wr.alloc (.cells #[.string x0, .string x1, .bool x2] 31)).drew.cell? ⟨wr.heap.size, 0, none⟩ = some (.string x0) by simp)
            have d0 : (wr.alloc (.cells #[.string x0, .string x1, .bool x2] 31)).drew.cell? ⟨wr.heap.size, 0, none⟩ = some (.string x0) := by simp
            have d1 : (wr.alloc (.cells #[.string x0, .string x1, .bool x2] 31)).drew.cell? ⟨wr.heap.size, 1, none⟩ = some (.string x1) := by simp
            have d2 : (wr.alloc (.cells #[.string x0, .string x1, .bool x2] 31)).drew.cell? ⟨wr.heap.size, 2, none⟩ = some (.bool x2) := by simp
            have CY := Lib.hid (show (wr.alloc (.cells #[.string x0, .string x1, .bool x2] 31)).drew.cell? ⟨b, off + j * 3, none⟩ = some (.string y) from (World.cell?_alloc_lt wr _ ⟨b, off + j * 3, none⟩ hbs).trans e3)
            have hp : wr.heap.size < (wr.alloc (.cells #[.string x0, .string x1, .bool x2] 31)).drew.heap.size := by simp
            have hbW : b < (wr.alloc (.cells #[.string x0, .string x1, .bool x2] 31)).drew.heap.size := by first | (simp; done) | (simp; omega)
            generalize (wr.alloc (.cells #[.string x0, .string x1, .bool x2] 31)).drew = W0 at *
            generalize wr.heap.size = p at *
            have HK := Lib.hid (HK.out W0)
            refine wpAny_ready (rs := [0]) (by kernel_rfl) (by simp) ?_
            refine AllReady.cons rfl (fun K hK => ?_) AllReady.nil
            go_simp
            refine hK _ _ ?_; clear hK K
            clear d0 d1 d2
            refine wpAny_ready (rs := [1]) (by kernel_rfl) (by simp) ?_
            refine AllReady.cons rfl (fun K hK => ?_) AllReady.nil
            go_simp
            go_wp2_with (go_at_call 60; refine (HK.out).mono ?_; rintro e w3 ⟨rfl, hb3⟩)
            have c0 := (hb3.cell (p := ⟨p, 0, none⟩) hp).trans C0.out
            have c1 := (hb3.cell (p := ⟨b, off + j * 3, none⟩) hbW).trans CY.out
            have HB3 := Lib.hid (HB2.out.trans (hb3.mono HB2.out.size)); clear hb3
            refine wpAny_take (i := 2) (v := ?_) rfl (by kernel_rfl) (by kernel_rfl) (by kernel_rfl) (fun _ _ _ h => h) (Or.inl ⟨by kernel_rfl, ?_⟩) ?_
            rotate_left
            · (intro w; go_simp; first | done | with_reducible rfl)
            conv => arg 7; simp [Act.put]
            refine wpAny_take (i := 3) (v := ?_) rfl (by kernel_rfl) (by kernel_rfl) (by kernel_rfl) (fun _ _ _ h => h) (Or.inl ⟨by kernel_rfl, ?_⟩) ?_
            rotate_left
            · (intro w; go_simp; first | done | with_reducible rfl)
            conv => arg 7; simp [Act.put]
            refine wpAny_take (i := 4) (v := ?_) rfl (by kernel_rfl) (by kernel_rfl) (by kernel_rfl) (fun _ _ _ h => h) (Or.inl ⟨by kernel_rfl, ?_⟩) ?_
            rotate_left
            · (intro w; go_simp; first | done | with_reducible rfl)
            conv => arg 7; simp [Act.put]
            refine wpAny_take (i := 5) (v := ?_) rfl (by kernel_rfl) (by kernel_rfl) (by kernel_rfl) (fun _ _ _ h => h) (Or.inl ⟨by kernel_rfl, ?_⟩) ?_
            rotate_left
            · (intro w; go_simp; first | done | with_reducible rfl)
            conv => arg 7; simp [Act.put]
            refine wpAny_take (i := 6) (v := ?_) rfl (by kernel_rfl) (by kernel_rfl) (by kernel_rfl) (fun _ _ _ h => h) (Or.inl ⟨by kernel_rfl, ?_⟩) ?_
            rotate_left
            · (intro w; go_simp; first | done | with_reducible rfl)
            conv => arg 7; simp [Act.put]
            refine wpAny_take (i := 7) (v := ?_) rfl (by kernel_rfl) (by kernel_rfl) (by kernel_rfl) (fun _ _ _ h => h) (Or.inl ⟨by kernel_rfl, ?_⟩) ?_
            rotate_left
            · (intro w; go_simp; first | done | with_reducible rfl)
            conv => arg 7; simp [Act.put]
            refine wpAny_take (i := 8) (v := ?_) rfl (by kernel_rfl) (by kernel_rfl) (by kernel_rfl) (fun _ _ _ h => h) (Or.inl ⟨by kernel_rfl, ?_⟩) ?_
            rotate_left
            · (intro w; go_simp; first | done | with_reducible rfl)
            conv => arg 7; simp [Act.put]
            refine wpAny_take (i := 9) (v := ?_) rfl (by kernel_rfl) (by kernel_rfl) (by kernel_rfl) (fun _ _ _ h => h) (Or.inl ⟨by kernel_rfl, ?_⟩) ?_
            rotate_left
            · (intro w; go_simp; first | done | with_reducible rfl)
            conv => arg 7; simp [Act.put]
            refine wpAny_take (i := 10) (v := ?_) rfl (by kernel_rfl) (by kernel_rfl) (by kernel_rfl) (fun _ _ _ h => h) (Or.inl ⟨by kernel_rfl, ?_⟩) ?_
            rotate_left
            · (intro w; go_simp; first | done | with_reducible rfl)
            conv => arg 7; simp [Act.put]
            refine wpAny_take (i := 11) (v := ?_) rfl (by kernel_rfl) (by kernel_rfl) (by kernel_rfl) (fun _ _ _ h => h) (Or.inl ⟨by kernel_rfl, ?_⟩) ?_
            rotate_left
            · (intro w; go_simp; first | done | with_reducible rfl)
            conv => arg 7; simp [Act.put]
            refine wpAny_take (i := 13) (v := ?_) rfl (by kernel_rfl) (by kernel_rfl) (by kernel_rfl) (fun _ _ _ h => h) (Or.inl ⟨by kernel_rfl, ?_⟩) ?_
            rotate_left
            · (intro w; go_simp; first | done | with_reducible rfl)
            conv => arg 7; simp [Act.put]
            refine wpAny_ready (rs := [12, 14]) (by kernel_rfl) (by simp) ?_
            refine AllReady.cons rfl (fun K hK => ?_) (AllReady.cons rfl (fun K hK => ?_) AllReady.nil)
            focus
              go_simp
              refine hK _ _ ?_; clear hK K
              refine wpAny_ready (rs := [14]) (by kernel_rfl) (by simp) ?_
              refine AllReady.cons rfl (fun K hK => ?_) AllReady.nil
              go_simp
              refine hK _ _ ?_; clear hK K
            rotate_left 1
            focus
              go_simp
              refine hK _ _ ?_; clear hK K
              refine wpAny_ready (rs := [12]) (by kernel_rfl) (by simp) ?_
              refine AllReady.cons rfl (fun K hK => ?_) AllReady.nil
              go_simp
              refine hK _ _ ?_; clear hK K
            focus
              refine wpAny_take (i := 15) (v := ?_) rfl (by kernel_rfl) (by kernel_rfl) (by kernel_rfl) (fun _ _ _ h => h) (Or.inl ⟨by kernel_rfl, ?_⟩) ?_
              rotate_left
              · (intro w; go_simp; first | done | with_reducible rfl)
              conv => arg 7; simp [Act.put]
              refine wpAny_take (i := 16) (v := ?_) rfl (by kernel_rfl) (by kernel_rfl) (by kernel_rfl) (fun _ _ _ h => h) (Or.inl ⟨by kernel_rfl, ?_⟩) ?_
              rotate_left
              · (intro w; go_simp; first | done | with_reducible rfl)
              conv => arg 7; simp [Act.put]
              refine wpAny_take (i := 17) (v := ?_) rfl (by kernel_rfl) (by kernel_rfl) (by kernel_rfl) (fun _ _ _ h => h) (Or.inl ⟨by kernel_rfl, ?_⟩) ?_
              rotate_left
              · (intro w; go_simp; first | done | with_reducible rfl)
              conv => arg 7; simp [Act.put]
              refine wpAny_done (by kernel_rfl) ?_ _
              clear c0 c1
              go_wp2_with fail
              go_ret
              exact ⟨ret_bool (HNO.out (by first | (rw [HG.out]; done) | (rw [HG.out]; rfl) | (rw [HG.out]; simp; done))).symm, HB3.out⟩
            focus
              refine wpAny_take (i := 15) (v := ?_) rfl (by kernel_rfl) (by kernel_rfl) (by kernel_rfl) (fun _ _ _ h => h) (Or.inl ⟨by kernel_rfl, ?_⟩) ?_
              rotate_left
              · (intro w; go_simp; first | done | with_reducible rfl)
              conv => arg 7; simp [Act.put]
              refine wpAny_take (i := 16) (v := ?_) rfl (by kernel_rfl) (by kernel_rfl) (by kernel_rfl) (fun _ _ _ h => h) (Or.inl ⟨by kernel_rfl, ?_⟩) ?_
              rotate_left
              · (intro w; go_simp; first | done | with_reducible rfl)
              conv => arg 7; simp [Act.put]
              refine wpAny_take (i := 17) (v := ?_) rfl (by kernel_rfl) (by kernel_rfl) (by kernel_rfl) (fun _ _ _ h => h) (Or.inl ⟨by kernel_rfl, ?_⟩) ?_
              rotate_left
              · (intro w; go_simp; first | done | with_reducible rfl)
              conv => arg 7; simp [Act.put]
              refine wpAny_done (by kernel_rfl) ?_ _
              clear c0 c1
              go_wp2_with fail
              go_ret
              exact ⟨ret_bool (HNO.out (by first | (rw [HG.out]; done) | (rw [HG.out]; rfl) | (rw [HG.out]; simp; done))).symm, HB3.out⟩
          · have hc : Op.bytesLess y.toList x0.toList = true := h3
            rw [h3] at HG
            clear h3
            go_wp2_with fail
            refine wp_region_any (by kernel_rfl) ?_
            try (change wpAny _ _ _ _ _ _ _ (World.drew _))
            have HB2 := Lib.hid (show Below w.heap.size w (wr.alloc (.cells #[.string x0, .string x1, .bool x2] 31)).drew from (HB.out.alloc HB.out.size _).trans (below_drewN _ 1))
            have C0 := Lib.hid (show (wr.alloc (.cells #[.string x0, .string x1, .bool x2] 31)).drew.cell? ⟨wr.heap.size, 0, none⟩ = some (.string x0) by simp)
            have d0 : (wr.alloc (.cells #[.string x0, .string x1, .bool x2] 31)).drew.cell? ⟨wr.heap.size, 0, none⟩ = some (.string x0) := by simp
            have d1 : (wr.alloc (.cells #[.string x0, .string x1, .bool x2] 31)).drew.cell? ⟨wr.heap.size, 1, none⟩ = some (.string x1) := by simp
            have d2 : (wr.alloc (.cells #[.string x0, .string x1, .bool x2] 31)).drew.cell? ⟨wr.heap.size, 2, none⟩ = some (.bool x2) := by simp
            have CY := Lib.hid (show (wr.alloc (.cells #[.string x0, .string x1, .bool x2] 31)).drew.cell? ⟨b, off + j * 3, none⟩ = some (.string y) from (World.cell?_alloc_lt wr _ ⟨b, off + j * 3, none⟩ hbs).trans e3)
            have hp : wr.heap.size < (wr.alloc (.cells #[.string x0, .string x1, .bool x2] 31)).drew.heap.size := by simp
            have hbW : b < (wr.alloc (.cells #[.string x0, .string x1, .bool x2] 31)).drew.heap.size := by first | (simp; done) | (simp; omega)
            generalize (wr.alloc (.cells #[.string x0, .string x1, .bool x2] 31)).drew = W0 at *
            generalize wr.heap.size = p at *
            have HK := Lib.hid (HK.out W0)
            refine wpAny_ready (rs := [0]) (by kernel_rfl) (by simp) ?_
            refine AllReady.cons rfl (fun K hK => ?_) AllReady.nil
            go_simp
            refine hK _ _ ?_; clear hK K
            clear d0 d1 d2
            refine wpAny_ready (rs := [1]) (by kernel_rfl) (by simp) ?_
            refine AllReady.cons rfl (fun K hK => ?_) AllReady.nil
            go_simp
            go_wp2_with (go_at_call 60; refine (HK.out).mono ?_; rintro e w3 ⟨rfl, hb3⟩)
            have c0 := (hb3.cell (p := ⟨p, 0, none⟩) hp).trans C0.out
            have c1 := (hb3.cell (p := ⟨b, off + j * 3, none⟩) hbW).trans CY.out
            have HB3 := Lib.hid (HB2.out.trans (hb3.mono HB2.out.size)); clear hb3
            refine wpAny_take (i := 2) (v := ?_) rfl (by kernel_rfl) (by kernel_rfl) (by kernel_rfl) (fun _ _ _ h => h) (Or.inl ⟨by kernel_rfl, ?_⟩) ?_
            rotate_left
            · (intro w; go_simp; first | done | with_reducible rfl)
            conv => arg 7; simp [Act.put]
            refine wpAny_take (i := 3) (v := ?_) rfl (by kernel_rfl) (by kernel_rfl) (by kernel_rfl) (fun _ _ _ h => h) (Or.inl ⟨by kernel_rfl, ?_⟩) ?_
            rotate_left
            · (intro w; go_simp; first | done | with_reducible rfl)
            conv => arg 7; simp [Act.put]
            refine wpAny_take (i := 4) (v := ?_) rfl (by kernel_rfl) (by kernel_rfl) (by kernel_rfl) (fun _ _ _ h => h) (Or.inl ⟨by kernel_rfl, ?_⟩) ?_
            rotate_left
            · (intro w; go_simp; first | done | with_reducible rfl)
            conv => arg 7; simp [Act.put]
            refine wpAny_take (i := 5) (v := ?_) rfl (by kernel_rfl) (by kernel_rfl) (by kernel_rfl) (fun _ _ _ h => h) (Or.inl ⟨by kernel_rfl, ?_⟩) ?_
            rotate_left
            · (intro w; go_simp; first | done | with_reducible rfl)
            conv => arg 7; simp [Act.put]
            refine wpAny_take (i := 6) (v := ?_) rfl (by kernel_rfl) (by kernel_rfl) (by kernel_rfl) (fun _ _ _ h => h) (Or.inl ⟨by kernel_rfl, ?_⟩) ?_
            rotate_left
            · (intro w; go_simp; first | done | with_reducible rfl)
            conv => arg 7; simp [Act.put]
            refine wpAny_take (i := 7) (v := ?_) rfl (by kernel_rfl) (by kernel_rfl) (by kernel_rfl) (fun _ _ _ h => h) (Or.inl ⟨by kernel_rfl, ?_⟩) ?_
            rotate_left
            · (intro w; go_simp; first | done | with_reducible rfl)
            conv => arg 7; simp [Act.put]
            refine wpAny_take (i := 8) (v := ?_) rfl (by kernel_rfl) (by kernel_rfl) (by kernel_rfl) (fun _ _ _ h => h) (Or.inl ⟨by kernel_rfl, ?_⟩) ?_
            rotate_left
            · (intro w; go_simp; first | done | with_reducible rfl)
            conv => arg 7; simp [Act.put]
            refine wpAny_take (i := 9) (v := ?_) rfl (by kernel_rfl) (by kernel_rfl) (by kernel_rfl) (fun _ _ _ h => h) (Or.inl ⟨by kernel_rfl, ?_⟩) ?_
            rotate_left
            · (intro w; go_simp; first | done | with_reducible rfl)
            conv => arg 7; simp [Act.put]
            refine wpAny_take (i := 10) (v := ?_) rfl (by kernel_rfl) (by kernel_rfl) (by kernel_rfl) (fun _ _ _ h => h) (Or.inl ⟨by kernel_rfl, ?_⟩) ?_
            rotate_left
            · (intro w; go_simp; first | done | with_reducible rfl)
            conv => arg 7; simp [Act.put]
            refine wpAny_take (i := 11) (v := ?_) rfl (by kernel_rfl) (by kernel_rfl) (by kernel_rfl) (fun _ _ _ h => h) (Or.inl ⟨by kernel_rfl, ?_⟩) ?_
            rotate_left
            · (intro w; go_simp; first | done | with_reducible rfl)
            conv => arg 7; simp [Act.put]
            refine wpAny_take (i := 13) (v := ?_) rfl (by kernel_rfl) (by kernel_rfl) (by kernel_rfl) (fun _ _ _ h => h) (Or.inl ⟨by kernel_rfl, ?_⟩) ?_
            rotate_left
            · (intro w; go_simp; first | done | with_reducible rfl)
            conv => arg 7; simp [Act.put]
            refine wpAny_ready (rs := [12, 14]) (by kernel_rfl) (by simp) ?_
            refine AllReady.cons rfl (fun K hK => ?_) (AllReady.cons rfl (fun K hK => ?_) AllReady.nil)
            focus
              go_simp
              refine hK _ _ ?_; clear hK K
              refine wpAny_ready (rs := [14]) (by kernel_rfl) (by simp) ?_
              refine AllReady.cons rfl (fun K hK => ?_) AllReady.nil
              go_simp
              refine hK _ _ ?_; clear hK K
            rotate_left 1
            focus
              go_simp
              refine hK _ _ ?_; clear hK K
              refine wpAny_ready (rs := [12]) (by kernel_rfl) (by simp) ?_
              refine AllReady.cons rfl (fun K hK => ?_) AllReady.nil
              go_simp
              refine hK _ _ ?_; clear hK K
            focus
              refine wpAny_take (i := 15) (v := ?_) rfl (by kernel_rfl) (by kernel_rfl) (by kernel_rfl) (fun _ _ _ h => h) (Or.inl ⟨by kernel_rfl, ?_⟩) ?_
              rotate_left
              · (intro w; go_simp; first | done | with_reducible rfl)
              conv => arg 7; simp [Act.put]
              refine wpAny_take (i := 16) (v := ?_) rfl (by kernel_rfl) (by kernel_rfl) (by kernel_rfl) (fun _ _ _ h => h) (Or.inl ⟨by kernel_rfl, ?_⟩) ?_
              rotate_left
              · (intro w; go_simp; first | done | with_reducible rfl)
              conv => arg 7; simp [Act.put]
              refine wpAny_take (i := 17) (v := ?_) rfl (by kernel_rfl) (by kernel_rfl) (by kernel_rfl) (fun _ _ _ h => h) (Or.inl ⟨by kernel_rfl, ?_⟩) ?_
              rotate_left
              · (intro w; go_simp; first | done | with_reducible rfl)
              conv => arg 7; simp [Act.put]
              refine wpAny_done (by kernel_rfl) ?_ _
              clear c0 c1
              go_wp2_with fail
              go_roundw
              case rel => exact ⟨j + 1 + 1, by go_num, by omega, HYES.out (by first | (rw [HG.out]; done) | (rw [HG.out]; rfl)), HB3.out⟩
              case measure => simp [intOf]; omega
            focus
              refine wpAny_take (i := 15) (v := ?_) rfl (by kernel_rfl) (by kernel_rfl) (by kernel_rfl) (fun _ _ _ h => h) (Or.inl ⟨by kernel_rfl, ?_⟩) ?_
              rotate_left
              · (intro w; go_simp; first | done | with_reducible rfl)
              conv => arg 7; simp [Act.put]
              refine wpAny_take (i := 16) (v := ?_) rfl (by kernel_rfl) (by kernel_rfl) (by kernel_rfl) (fun _ _ _ h => h) (Or.inl ⟨by kernel_rfl, ?_⟩) ?_
              rotate_left
              · (intro w; go_simp; first | done | with_reducible rfl)
              conv => arg 7; simp [Act.put]
              refine wpAny_take (i := 17) (v := ?_) rfl (by kernel_rfl) (by kernel_rfl) (by kernel_rfl) (fun _ _ _ h => h) (Or.inl ⟨by kernel_rfl, ?_⟩) ?_
              rotate_left
              · (intro w; go_simp; first | done | with_reducible rfl)
              conv => arg 7; simp [Act.put]
              refine wpAny_done (by kernel_rfl) ?_ _
              clear c0 c1
              go_wp2_with fail
              go_roundw
              case rel => exact ⟨j + 1 + 1, by go_num, by omega, HYES.out (by first | (rw [HG.out]; done) | (rw [HG.out]; rfl)), HB3.out⟩
              case measure => simp [intOf]; omega
    · obtain rfl : k = n := by omega
      have HF := Lib.hid (runB_all (l := l) (by rw [← HN.out]; exact HU.out))
      go_wp2_with fail
      go_ret
      refine ⟨ret_bool ?_, HB.out⟩
      rw [HF.out, ← HN.out, decide_eq_true (by omega)]
end Go.Proofs.Ytofpdelolniklaa
