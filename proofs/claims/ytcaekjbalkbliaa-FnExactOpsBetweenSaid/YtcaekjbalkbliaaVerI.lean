/- Contracts of isTime, isWhole, mayFollow and ValidVersions of the program (chapter 7). Conditions: the versions lie in a row; they are few; their texts are no longer than memory. -/
import Derived.Test.YtcaekjbalkbliaaVerA
import Derived.BigRegion
import Derived.Deep.RegionWith
set_option linter.unusedVariables false
set_option linter.unusedSimpArgs false
namespace Go.Proofs.Ytcaekjbalkbliaa
open Go.RowKit Go.ChangeShapes Go.WideShapes

theorem row_takeVr {w : World} {B : Nat} {A : Option Addr} {l : List Vr} (h : RowAt w B A (vrsC l)) (k : Nat) : RowAt w B A (vrsC (l.take k)) := fun h0 => by
  have e : vrsC l = vrsC (l.take k) ++ vrsC (l.drop k) := by rw [← vrsC_app, List.take_append_drop]
  obtain ⟨b, off, rfl, hb, hc⟩ := h (by rw [e]; intro h1; exact h0 (List.append_eq_nil_iff.1 h1).1)
  refine ⟨b, off, rfl, hb, fun i v hi => hc i v ?_⟩
  rw [e, List.getElem?_append_left (by
    rcases Nat.lt_or_ge i (vrsC (l.take k)).length with h1 | h1
    · exact h1
    · rw [List.getElem?_eq_none h1] at hi; cases hi)]
  exact hi
theorem iTime_any (x : Int) (w : World) : Calls Try.prog 62 #[.int .i64 x] w fun e w' => e = .returned (.bool (timeB x)) ∧ w' = w := by
  go_enter Try.func62, Try.ntmps62
  by_cases h1 : 1 ≤ x
  · by_cases h2 : x ≤ 20
    · go_wp2
      go_ret
      exact ⟨ret_bool (by simp [timeB, h1, h2]), rfl⟩
    · go_wp2
      go_ret
      exact ⟨ret_bool (by simp [timeB, h1, h2]), rfl⟩
  · go_wp2
    go_ret
    exact ⟨ret_bool (by simp [timeB]; omega), rfl⟩
theorem iWholeV_any (x0 x1 : ByteArray) (x2 : Bool) (x3 : Int) (w : World) (h0 : x0.size ≤ maxLen) (h1 : x1.size ≤ maxLen) :
    Calls Try.prog 74 #[.agg #[.string x0, .string x1, .bool x2, .int .i64 x3]] w fun e w' => e = .returned (.bool (okVr (x0, x1, x2, x3))) ∧ Below w.heap.size w w' := by
  have HK := Lib.hid (fun W => iWhole_any x0 x1 x2 W h0 h1)
  have HT := Lib.hid (fun W => iTime_any x3 W)
  have HO := Lib.hid (show okVr (x0, x1, x2, x3) = (okIt (x0, x1, x2) && timeB x3) from rfl)
  clear h0 h1
  generalize okVr (x0, x1, x2, x3) = r at *
  cases hk : okIt (x0, x1, x2)
  · rw [hk] at HK HO
    clear hk
    go_enter Try.func74, Try.ntmps74
    go_wp2_with fail
    refine (HK.out _).mono ?_
    rintro e w2 ⟨rfl, hb2⟩
    have HB2 := Lib.hid ((((Below.refl w.heap.size w).alloc (Nat.le_refl _) _).alloc (by simp) _).trans (hb2.mono (by simp; omega))); clear hb2
    go_wp2_with fail
    go_ret
    exact ⟨ret_bool (by rw [HO.out]; rfl), HB2.out⟩
  · rw [hk] at HK HO
    clear hk
    go_enter Try.func74, Try.ntmps74
    go_wp2_with fail
    refine (HK.out _).mono ?_
    rintro e w2 ⟨rfl, hb2⟩
    have c3 : w2.cell? ⟨w.heap.size, 3, none⟩ = some (.int .i64 x3) := (hb2.cell (p := ⟨w.heap.size, 3, none⟩) (by simp; omega)).trans (by simp)
    have HB2 := Lib.hid ((((Below.refl w.heap.size w).alloc (Nat.le_refl _) _).alloc (by simp) _).trans (hb2.mono (by simp; omega))); clear hb2
    go_wp2_with fail
    refine (HT.out _).mono ?_
    rintro e w3 ⟨rfl, hw3⟩
    obtain rfl := hw3.symm
    go_wp2_with fail
    go_ret
    exact ⟨ret_bool (by rw [HO.out]; rfl), HB2.out⟩

set_option maxRecDepth 100000 in
set_option maxHeartbeats 2000000 in
theorem iFollow_any (x0 x1 : ByteArray) (x2 : Bool) (x3 : Int) (A : Option Addr) (n c : Nat) (l : List Vr) (w : World) (hr : RowAt w w.heap.size A (vrsC l)) (hn : n = l.length) (hs : n ≤ 1048576) :
    Calls Try.prog 75 #[.agg #[.string x0, .string x1, .bool x2, .int .i64 x3], .slice A n c] w fun e w' => e = .returned (.bool (followB l (x0, x1, x2, x3))) ∧ Below w.heap.size w w' := by
  have HR := Lib.hid hr; clear hr
  have HN := Lib.hid hn; clear hn
  have HZ := Lib.hid (followB_zero (l := l) (x0, x1, x2, x3))
  have HNO := Lib.hid (fun j (hj : j < l.length) (h : clash (x0, x1, x2, x3) l[j] = true) => (show followB l (x0, x1, x2, x3) = false by have := followB_no (l := l) (k := l.length) (x0, x1, x2, x3) hj (Nat.le_refl _) h; rw [List.take_length] at this; exact this))
  have HYES := Lib.hid (fun j (hj : j < l.length) (hq : followB (l.take j) (x0, x1, x2, x3) = true) (h : clash (x0, x1, x2, x3) l[j] = false) => (show followB (l.take (j + 1)) (x0, x1, x2, x3) = true by rw [followB_succ _ hj, hq, h]; rfl))
  have HFULL := Lib.hid (fun (hq : followB (l.take l.length) (x0, x1, x2, x3) = true) => (show followB l (x0, x1, x2, x3) = true by rw [List.take_length] at hq; exact hq))
  go_enter Try.func75, Try.ntmps75
  go_wp2_with fail
  go_loopw [9] (fun i wr => ∃ k : Nat, i = .int .i64 k ∧ k ≤ n ∧ followB (l.take k) (x0, x1, x2, x3) = true ∧ Below (w.heap.size + 1) (w.alloc (.cells #[.string x0, .string x1, .bool x2, .int .i64 x3] 71)) wr) (fun i _ => n - (intOf i).toNat)
  case atStart => exact ⟨0, rfl, by omega, HZ.out, Below.refl _ _⟩
  case round =>
    obtain ⟨k, rfl, hk, hu, hb⟩ := hrel
    have HU := Lib.hid hu; clear hu
    have HB := Lib.hid hb; clear hb
    have c0 : wr.cell? ⟨w.heap.size, 0, none⟩ = some (.string x0) := (HB.out.cell (p := ⟨w.heap.size, 0, none⟩) (by simp)).trans (by simp)
    have c3 : wr.cell? ⟨w.heap.size, 3, none⟩ = some (.int .i64 x3) := (HB.out.cell (p := ⟨w.heap.size, 3, none⟩) (by simp)).trans (by simp)
    have HW := Lib.hid (show Below w.heap.size w wr from ((Below.refl w.heap.size w).alloc (Nat.le_refl _) _).trans (HB.out.mono (by omega)))
    have hws : w.heap.size + 1 ≤ wr.heap.size := by have := HB.out.size; simpa using this
    have hws2 : w.heap.size < wr.heap.size := by omega
    by_cases hlt : k < n
    · have hkl : k < l.length := by have := HN.out; omega
      obtain ⟨b, off, hA, hbw, e0, e1, e2, e3⟩ := vrs_at (HR.out.below HW.out) hkl
      subst hA
      have HNO1 := Lib.hid (HNO.out k hkl)
      have HYES1 := Lib.hid (HYES.out k hkl HU.out)
      have HC := Lib.hid (show clash (x0, x1, x2, x3) l[k] = (decide (x3 < l[k].2.2.2) || (l[k].2.2.2 == x3 && l[k].1.toList == x0.toList)) from rfl)
      have hi1 : (k : Int) < (n : Int) := by omega
      have hbs : b < wr.heap.size := by omega
      clear HNO HYES HZ HFULL
      generalize clash (x0, x1, x2, x3) l[k] = r at *
      generalize l[k].1 = y0 at *
      generalize l[k].2.1 = y1 at *
      generalize l[k].2.2.1 = y2 at *
      generalize l[k].2.2.2 = y3 at *
      by_cases h1 : x3 < y3
      · have hr1 := HC.out
        rw [decide_eq_true h1, Bool.true_or] at hr1
        go_wp2_with fail
        go_ret
        exact ⟨ret_bool (HNO1.out hr1).symm, HW.out.alloc (by omega) _⟩
      · by_cases h2 : y3 = x3
        · have h2b : (y3 == x3) = true := by simpa using h2
          cases h3 : (y0.toList == x0.toList)
          · have hr1 := HC.out
            rw [decide_eq_false h1, h2b, h3] at hr1
            have HB5 := Lib.hid (fun o => HB.out.alloc (by omega) o)
            clear HC
            go_wp2_with fail
            go_roundw
            case rel => exact ⟨k + 1, by go_num, by omega, HYES1.out hr1, HB5.out _⟩
            case measure => simp [intOf]; omega
          · have hr1 := HC.out
            rw [decide_eq_false h1, h2b, h3] at hr1
            clear HC
            go_wp2_with fail
            go_ret
            exact ⟨ret_bool (HNO1.out hr1).symm, HW.out.alloc (by omega) _⟩
        · have h2b : (y3 == x3) = false := by simpa using h2
          have hr1 := HC.out
          rw [decide_eq_false h1, h2b] at hr1
          have HB5 := Lib.hid (fun o => HB.out.alloc (by omega) o)
          clear HC
          go_wp2_with fail
          go_roundw
          case rel => exact ⟨k + 1, by go_num, by omega, HYES1.out hr1, HB5.out _⟩
          case measure => simp [intOf]; omega
    · obtain rfl : k = n := by omega
      have HF := Lib.hid (HFULL.out (by rw [← HN.out]; exact HU.out))
      go_wp2_with fail
      go_ret
      exact ⟨ret_bool HF.out.symm, HW.out⟩

set_option maxRecDepth 100000 in
set_option maxHeartbeats 2000000 in
theorem iVers_any (A : Option Addr) (n c : Nat) (l : List Vr) (w : World) (hr : RowAt w w.heap.size A (vrsC l)) (hn : n = l.length) (hs : n ≤ 1048576) (hw : WfVr l) (hc1 : n ≤ c) (hc2 : c ≤ maxLen) :
    Calls Try.prog 63 #[.slice A n c] w fun e w' => e = .returned (.bool (versB l)) ∧ Below w.heap.size w w' := by
  have HR := Lib.hid hr; clear hr
  have HN := Lib.hid hn; clear hn
  have HW := Lib.hid hw; clear hw
  unfold maxLen at hc2
  by_cases hlong : 30 < n
  · have HF := Lib.hid (show versB l = false from versK_long (l := l) (by rw [← HN.out]; exact hlong))
    go_enter Try.func63, Try.ntmps63
    go_wp2_with fail
    go_ret
    exact ⟨ret_bool HF.out.symm, Below.refl _ _⟩
  go_enter Try.func63, Try.ntmps63
  go_wp2_with fail
  go_loopw [10] (fun i wr => ∃ k : Nat, i = .int .i64 k ∧ k ≤ n ∧ upV okVr l k = true ∧ Below w.heap.size w wr) (fun i _ => n - (intOf i).toNat)
  case atStart => exact ⟨0, rfl, by omega, upV_zero, Below.refl _ _⟩
  case round =>
    obtain ⟨k, rfl, hk, hu, hb⟩ := hrel
    have HU := Lib.hid hu; clear hu
    have HB := Lib.hid hb; clear hb
    by_cases hlt : k < n
    · have hkl : k < l.length := by have := HN.out; omega
      obtain ⟨b, off, hA, hbw, e0, e1, e2, e3⟩ := vrs_at (HR.out.below HB.out) hkl
      subst hA
      obtain ⟨g1, g2, _⟩ := HW.out l[k] (List.getElem_mem hkl)
      have HK := Lib.hid (fun w => iWholeV_any l[k].1 l[k].2.1 l[k].2.2.1 l[k].2.2.2 w g1 g2)
      have HFW := Lib.hid (fun W (hb : Below w.heap.size w W) => iFollow_any l[k].1 l[k].2.1 l[k].2.2.1 l[k].2.2.2 (some ⟨b, off, none⟩) k c (l.take k) W ((row_takeVr (HR.out.below hb) k).mono hb.size) (by rw [List.length_take]; omega) (by omega))
      have HG := Lib.hid (goodV_at (ok := okVr) hkl)
      have HNO := Lib.hid (fun (h : goodV okVr l k = false) => (show versB l = false from versK_no h hkl))
      have HYES := Lib.hid (fun (h : goodV okVr l k = true) => (show upV okVr l (k + 1) = true by rw [upV_succ, HU.out, h]; rfl))
      rw [show l[k] = (l[k].1, l[k].2.1, l[k].2.2.1, l[k].2.2.2) from rfl] at HG
      have hbs : b < wr.heap.size := Nat.lt_of_lt_of_le hbw HB.out.size
      have hi3 : ¬ (c : Int) < (k : Int) := by omega
      have hi4 : (k : Int) ≤ (c : Int) := by omega
      have hi5 : k ≤ c := by omega
      clear g1 g2
      generalize l[k].1 = x0 at *
      generalize l[k].2.1 = x1 at *
      generalize l[k].2.2.1 = x2 at *
      generalize l[k].2.2.2 = x3 at *
      generalize okVr (x0, x1, x2, x3) = r at *
      generalize followB (l.take k) (x0, x1, x2, x3) = r2 at *
      go_wp2_with fail
      -- REGION6
      cases r
      · refine wp_region_any (by kernel_rfl) ?_
        try (change wpAny _ _ _ _ _ _ _ (World.drew _))
        have HB2 := Lib.hid (show Below w.heap.size w (wr.alloc (.cells #[.string x0, .string x1, .bool x2, .int .i64 x3] 71)).drew from (HB.out.alloc HB.out.size _).trans (below_drewN _ 1))
        have d0 : (wr.alloc (.cells #[.string x0, .string x1, .bool x2, .int .i64 x3] 71)).drew.cell? ⟨wr.heap.size, 0, none⟩ = some (.string x0) := by simp
        have d1 : (wr.alloc (.cells #[.string x0, .string x1, .bool x2, .int .i64 x3] 71)).drew.cell? ⟨wr.heap.size, 1, none⟩ = some (.string x1) := by simp
        have d2 : (wr.alloc (.cells #[.string x0, .string x1, .bool x2, .int .i64 x3] 71)).drew.cell? ⟨wr.heap.size, 2, none⟩ = some (.bool x2) := by simp
        have d3 : (wr.alloc (.cells #[.string x0, .string x1, .bool x2, .int .i64 x3] 71)).drew.cell? ⟨wr.heap.size, 3, none⟩ = some (.int .i64 x3) := by simp
        have D0 := Lib.hid d0
        have D1 := Lib.hid d1
        have D2 := Lib.hid d2
        have D3 := Lib.hid d3
        have hp : wr.heap.size < (wr.alloc (.cells #[.string x0, .string x1, .bool x2, .int .i64 x3] 71)).drew.heap.size := by simp
        generalize (wr.alloc (.cells #[.string x0, .string x1, .bool x2, .int .i64 x3] 71)).drew = W0 at *
        generalize wr.heap.size = p at *
        refine wpAny_ready (rs := [0]) (by kernel_rfl) (by simp) ?_
        refine AllReady.cons rfl (fun K hK => ?_) AllReady.nil
        go_simp
        refine hK _ _ ?_; clear hK K
        clear d0 d1 d2 d3
        refine wpAny_ready (rs := [1]) (by kernel_rfl) (by simp) ?_
        refine AllReady.cons rfl (fun K hK => ?_) AllReady.nil
        go_simp
        go_wp2_with (go_at_call 74; refine (HK.out _).mono ?_; rintro e w3 ⟨rfl, hb3⟩)
        have c0 := (hb3.cell (p := ⟨p, 0, none⟩) hp).trans D0.out
        have c1 := (hb3.cell (p := ⟨p, 1, none⟩) hp).trans D1.out
        have c2 := (hb3.cell (p := ⟨p, 2, none⟩) hp).trans D2.out
        have c3 := (hb3.cell (p := ⟨p, 3, none⟩) hp).trans D3.out
        have HB3 := Lib.hid (HB2.out.trans (hb3.mono HB2.out.size)); clear hb3
        refine wpAny_take (i := 2) (v := ?_) rfl (by kernel_rfl) (by kernel_rfl) (by kernel_rfl) (fun _ _ _ h => h) (Or.inl ⟨by kernel_rfl, ?_⟩) ?_
        rotate_left
        · (intro w; go_simp; first | done | with_reducible rfl)
        conv => arg 7; simp [Act.put]
        refine wpAny_take (i := 3) (v := ?_) rfl (by kernel_rfl) (by kernel_rfl) (by kernel_rfl) (fun _ _ _ h => h) (Or.inl ⟨by kernel_rfl, ?_⟩) ?_
        rotate_left
        · (intro w; go_simp; first | done | with_reducible rfl)
        conv => arg 7; simp [Act.put]
        refine wpAny_take (i := 4) (v := undef) rfl (by kernel_rfl) (by kernel_rfl) (by kernel_rfl) (fun _ _ _ h => h) (Or.inr ⟨by kernel_rfl, by kernel_rfl⟩) ?_
        conv => arg 7; simp [Act.put]
        refine wpAny_take (i := 5) (v := undef) rfl (by kernel_rfl) (by kernel_rfl) (by kernel_rfl) (fun _ _ _ h => h) (Or.inr ⟨by kernel_rfl, by kernel_rfl⟩) ?_
        conv => arg 7; simp [Act.put]
        refine wpAny_take (i := 6) (v := undef) rfl (by kernel_rfl) (by kernel_rfl) (by kernel_rfl) (fun _ _ _ h => h) (Or.inr ⟨by kernel_rfl, by kernel_rfl⟩) ?_
        conv => arg 7; simp [Act.put]
        refine wpAny_take (i := 7) (v := undef) rfl (by kernel_rfl) (by kernel_rfl) (by kernel_rfl) (fun _ _ _ h => h) (Or.inr ⟨by kernel_rfl, by kernel_rfl⟩) ?_
        conv => arg 7; simp [Act.put]
        refine wpAny_take (i := 8) (v := undef) rfl (by kernel_rfl) (by kernel_rfl) (by kernel_rfl) (fun _ _ _ h => h) (Or.inr ⟨by kernel_rfl, by kernel_rfl⟩) ?_
        conv => arg 7; simp [Act.put]
        refine wpAny_take (i := 9) (v := undef) rfl (by kernel_rfl) (by kernel_rfl) (by kernel_rfl) (fun _ _ _ h => h) (Or.inr ⟨by kernel_rfl, by kernel_rfl⟩) ?_
        conv => arg 7; simp [Act.put]
        refine wpAny_take (i := 10) (v := ?_) rfl (by kernel_rfl) (by kernel_rfl) (by kernel_rfl) (fun _ _ _ h => h) (Or.inl ⟨by kernel_rfl, ?_⟩) ?_
        rotate_left
        · (intro w; go_simp; first | done | with_reducible rfl)
        conv => arg 7; simp [Act.put]
        refine wpAny_done (by kernel_rfl) ?_ _
        go_wp2_with fail
        go_ret
        exact ⟨ret_bool (HNO.out (by rw [HG.out]; rfl)).symm, HB3.out⟩
      · cases r2
        · refine wp_region_any (by kernel_rfl) ?_
          try (change wpAny _ _ _ _ _ _ _ (World.drew _))
          have HB2 := Lib.hid (show Below w.heap.size w (wr.alloc (.cells #[.string x0, .string x1, .bool x2, .int .i64 x3] 71)).drew from (HB.out.alloc HB.out.size _).trans (below_drewN _ 1))
          have d0 : (wr.alloc (.cells #[.string x0, .string x1, .bool x2, .int .i64 x3] 71)).drew.cell? ⟨wr.heap.size, 0, none⟩ = some (.string x0) := by simp
          have d1 : (wr.alloc (.cells #[.string x0, .string x1, .bool x2, .int .i64 x3] 71)).drew.cell? ⟨wr.heap.size, 1, none⟩ = some (.string x1) := by simp
          have d2 : (wr.alloc (.cells #[.string x0, .string x1, .bool x2, .int .i64 x3] 71)).drew.cell? ⟨wr.heap.size, 2, none⟩ = some (.bool x2) := by simp
          have d3 : (wr.alloc (.cells #[.string x0, .string x1, .bool x2, .int .i64 x3] 71)).drew.cell? ⟨wr.heap.size, 3, none⟩ = some (.int .i64 x3) := by simp
          have D0 := Lib.hid d0
          have D1 := Lib.hid d1
          have D2 := Lib.hid d2
          have D3 := Lib.hid d3
          have hp : wr.heap.size < (wr.alloc (.cells #[.string x0, .string x1, .bool x2, .int .i64 x3] 71)).drew.heap.size := by simp
          generalize (wr.alloc (.cells #[.string x0, .string x1, .bool x2, .int .i64 x3] 71)).drew = W0 at *
          generalize wr.heap.size = p at *
          refine wpAny_ready (rs := [0]) (by kernel_rfl) (by simp) ?_
          refine AllReady.cons rfl (fun K hK => ?_) AllReady.nil
          go_simp
          refine hK _ _ ?_; clear hK K
          clear d0 d1 d2 d3
          refine wpAny_ready (rs := [1]) (by kernel_rfl) (by simp) ?_
          refine AllReady.cons rfl (fun K hK => ?_) AllReady.nil
          go_simp
          go_wp2_with (go_at_call 74; refine (HK.out _).mono ?_; rintro e w3 ⟨rfl, hb3⟩)
          have c0 := (hb3.cell (p := ⟨p, 0, none⟩) hp).trans D0.out
          have c1 := (hb3.cell (p := ⟨p, 1, none⟩) hp).trans D1.out
          have c2 := (hb3.cell (p := ⟨p, 2, none⟩) hp).trans D2.out
          have c3 := (hb3.cell (p := ⟨p, 3, none⟩) hp).trans D3.out
          have HB3 := Lib.hid (HB2.out.trans (hb3.mono HB2.out.size)); clear hb3
          refine wpAny_take (i := 2) (v := ?_) rfl (by kernel_rfl) (by kernel_rfl) (by kernel_rfl) (fun _ _ _ h => h) (Or.inl ⟨by kernel_rfl, ?_⟩) ?_
          rotate_left
          · (intro w; go_simp; first | done | with_reducible rfl)
          conv => arg 7; simp [Act.put]
          refine wpAny_take (i := 3) (v := ?_) rfl (by kernel_rfl) (by kernel_rfl) (by kernel_rfl) (fun _ _ _ h => h) (Or.inl ⟨by kernel_rfl, ?_⟩) ?_
          rotate_left
          · (intro w; go_simp; first | done | with_reducible rfl)
          conv => arg 7; simp [Act.put]
          refine wpAny_take (i := 5) (v := ?_) rfl (by kernel_rfl) (by kernel_rfl) (by kernel_rfl) (fun _ _ _ h => h) (Or.inl ⟨by kernel_rfl, ?_⟩) ?_
          rotate_left
          · (intro w; go_simp; first | done | with_reducible rfl)
          conv => arg 7; simp [Act.put]
          refine wpAny_take (i := 6) (v := ?_) rfl (by kernel_rfl) (by kernel_rfl) (by kernel_rfl) (fun _ _ _ h => h) (Or.inl ⟨by kernel_rfl, ?_⟩) ?_
          rotate_left
          · (intro w; go_simp; first | done | with_reducible rfl)
          conv => arg 7; simp [Act.put]
          refine wpAny_take (i := 7) (v := ?_) rfl (by kernel_rfl) (by kernel_rfl) (by kernel_rfl) (fun _ _ _ h => h) (Or.inl ⟨by kernel_rfl, ?_⟩) ?_
          rotate_left
          · (intro w; go_simp; first | done | with_reducible rfl)
          conv => arg 7; simp [Act.put]
          refine wpAny_ready (rs := [4]) (by kernel_rfl) (by simp) ?_
          refine AllReady.cons rfl (fun K hK => ?_) AllReady.nil
          go_simp
          refine hK _ _ ?_; clear hK K
          clear c0 c1 c2 c3
          refine wpAny_ready (rs := [8]) (by kernel_rfl) (by simp) ?_
          refine AllReady.cons rfl (fun K hK => ?_) AllReady.nil
          go_simp
          go_wp2_with (go_at_call 75; refine (HFW.out _ HB3.out).mono ?_; rintro e w4 ⟨rfl, hb4⟩)
          have HB4 := Lib.hid (HB3.out.trans (hb4.mono HB3.out.size)); clear hb4
          refine wpAny_take (i := 9) (v := ?_) rfl (by kernel_rfl) (by kernel_rfl) (by kernel_rfl) (fun _ _ _ h => h) (Or.inl ⟨by kernel_rfl, ?_⟩) ?_
          rotate_left
          · (intro w; go_simp; first | done | with_reducible rfl)
          conv => arg 7; simp [Act.put]
          refine wpAny_take (i := 10) (v := ?_) rfl (by kernel_rfl) (by kernel_rfl) (by kernel_rfl) (fun _ _ _ h => h) (Or.inl ⟨by kernel_rfl, ?_⟩) ?_
          rotate_left
          · (intro w; go_simp; first | done | with_reducible rfl)
          conv => arg 7; simp [Act.put]
          refine wpAny_done (by kernel_rfl) ?_ _
          go_wp2_with fail
          go_ret
          exact ⟨ret_bool (HNO.out (by rw [HG.out]; rfl)).symm, HB4.out⟩
        · refine wp_region_any (by kernel_rfl) ?_
          try (change wpAny _ _ _ _ _ _ _ (World.drew _))
          have HB2 := Lib.hid (show Below w.heap.size w (wr.alloc (.cells #[.string x0, .string x1, .bool x2, .int .i64 x3] 71)).drew from (HB.out.alloc HB.out.size _).trans (below_drewN _ 1))
          have d0 : (wr.alloc (.cells #[.string x0, .string x1, .bool x2, .int .i64 x3] 71)).drew.cell? ⟨wr.heap.size, 0, none⟩ = some (.string x0) := by simp
          have d1 : (wr.alloc (.cells #[.string x0, .string x1, .bool x2, .int .i64 x3] 71)).drew.cell? ⟨wr.heap.size, 1, none⟩ = some (.string x1) := by simp
          have d2 : (wr.alloc (.cells #[.string x0, .string x1, .bool x2, .int .i64 x3] 71)).drew.cell? ⟨wr.heap.size, 2, none⟩ = some (.bool x2) := by simp
          have d3 : (wr.alloc (.cells #[.string x0, .string x1, .bool x2, .int .i64 x3] 71)).drew.cell? ⟨wr.heap.size, 3, none⟩ = some (.int .i64 x3) := by simp
          have D0 := Lib.hid d0
          have D1 := Lib.hid d1
          have D2 := Lib.hid d2
          have D3 := Lib.hid d3
          have hp : wr.heap.size < (wr.alloc (.cells #[.string x0, .string x1, .bool x2, .int .i64 x3] 71)).drew.heap.size := by simp
          generalize (wr.alloc (.cells #[.string x0, .string x1, .bool x2, .int .i64 x3] 71)).drew = W0 at *
          generalize wr.heap.size = p at *
          refine wpAny_ready (rs := [0]) (by kernel_rfl) (by simp) ?_
          refine AllReady.cons rfl (fun K hK => ?_) AllReady.nil
          go_simp
          refine hK _ _ ?_; clear hK K
          clear d0 d1 d2 d3
          refine wpAny_ready (rs := [1]) (by kernel_rfl) (by simp) ?_
          refine AllReady.cons rfl (fun K hK => ?_) AllReady.nil
          go_simp
          go_wp2_with (go_at_call 74; refine (HK.out _).mono ?_; rintro e w3 ⟨rfl, hb3⟩)
          have c0 := (hb3.cell (p := ⟨p, 0, none⟩) hp).trans D0.out
          have c1 := (hb3.cell (p := ⟨p, 1, none⟩) hp).trans D1.out
          have c2 := (hb3.cell (p := ⟨p, 2, none⟩) hp).trans D2.out
          have c3 := (hb3.cell (p := ⟨p, 3, none⟩) hp).trans D3.out
          have HB3 := Lib.hid (HB2.out.trans (hb3.mono HB2.out.size)); clear hb3
          refine wpAny_take (i := 2) (v := ?_) rfl (by kernel_rfl) (by kernel_rfl) (by kernel_rfl) (fun _ _ _ h => h) (Or.inl ⟨by kernel_rfl, ?_⟩) ?_
          rotate_left
          · (intro w; go_simp; first | done | with_reducible rfl)
          conv => arg 7; simp [Act.put]
          refine wpAny_take (i := 3) (v := ?_) rfl (by kernel_rfl) (by kernel_rfl) (by kernel_rfl) (fun _ _ _ h => h) (Or.inl ⟨by kernel_rfl, ?_⟩) ?_
          rotate_left
          · (intro w; go_simp; first | done | with_reducible rfl)
          conv => arg 7; simp [Act.put]
          refine wpAny_take (i := 5) (v := ?_) rfl (by kernel_rfl) (by kernel_rfl) (by kernel_rfl) (fun _ _ _ h => h) (Or.inl ⟨by kernel_rfl, ?_⟩) ?_
          rotate_left
          · (intro w; go_simp; first | done | with_reducible rfl)
          conv => arg 7; simp [Act.put]
          refine wpAny_take (i := 6) (v := ?_) rfl (by kernel_rfl) (by kernel_rfl) (by kernel_rfl) (fun _ _ _ h => h) (Or.inl ⟨by kernel_rfl, ?_⟩) ?_
          rotate_left
          · (intro w; go_simp; first | done | with_reducible rfl)
          conv => arg 7; simp [Act.put]
          refine wpAny_take (i := 7) (v := ?_) rfl (by kernel_rfl) (by kernel_rfl) (by kernel_rfl) (fun _ _ _ h => h) (Or.inl ⟨by kernel_rfl, ?_⟩) ?_
          rotate_left
          · (intro w; go_simp; first | done | with_reducible rfl)
          conv => arg 7; simp [Act.put]
          refine wpAny_ready (rs := [4]) (by kernel_rfl) (by simp) ?_
          refine AllReady.cons rfl (fun K hK => ?_) AllReady.nil
          go_simp
          refine hK _ _ ?_; clear hK K
          clear c0 c1 c2 c3
          refine wpAny_ready (rs := [8]) (by kernel_rfl) (by simp) ?_
          refine AllReady.cons rfl (fun K hK => ?_) AllReady.nil
          go_simp
          go_wp2_with (go_at_call 75; refine (HFW.out _ HB3.out).mono ?_; rintro e w4 ⟨rfl, hb4⟩)
          have HB4 := Lib.hid (HB3.out.trans (hb4.mono HB3.out.size)); clear hb4
          refine wpAny_take (i := 9) (v := ?_) rfl (by kernel_rfl) (by kernel_rfl) (by kernel_rfl) (fun _ _ _ h => h) (Or.inl ⟨by kernel_rfl, ?_⟩) ?_
          rotate_left
          · (intro w; go_simp; first | done | with_reducible rfl)
          conv => arg 7; simp [Act.put]
          refine wpAny_take (i := 10) (v := ?_) rfl (by kernel_rfl) (by kernel_rfl) (by kernel_rfl) (fun _ _ _ h => h) (Or.inl ⟨by kernel_rfl, ?_⟩) ?_
          rotate_left
          · (intro w; go_simp; first | done | with_reducible rfl)
          conv => arg 7; simp [Act.put]
          refine wpAny_done (by kernel_rfl) ?_ _
          go_wp2_with fail
          go_roundw
          case rel => exact ⟨k + 1, by go_num, by omega, HYES.out (by rw [HG.out]; rfl), HB4.out⟩
          case measure => simp [intOf]; omega
      -- END6
    · obtain rfl : k = n := by omega
      have HF := Lib.hid (show versB l = decide (l.length ≤ 30) from versK_all (l := l) (by rw [← HN.out]; exact HU.out))
      go_wp2_with fail
      go_ret
      refine ⟨ret_bool ?_, HB.out⟩
      rw [HF.out, ← HN.out, decide_eq_true (by omega)]
end Go.Proofs.Ytcaekjbalkbliaa
