/- The walk of the law FnShortOps. Condition: the code lies in a row. -/
import Derived.Test.YtpjepcfdlinfdaaDrawOp
import Derived.Test.YtpjepcfdlinfdaaShortI
import Derived.Test.YtpjepcfdlinfdaaEqOp
import Derived.BigRegion
set_option linter.unusedVariables false
set_option linter.unusedSimpArgs false
namespace Go.Proofs.Ytpjepcfdlinfdaa
open Go.RowKit Go.ChangeShapes Go.WideShapes

/-! plain: keys once each -/
theorem laterB_short (x : ByteArray) : ∀ (l : List Cg), laterB x (shortK l) = laterB x l
  | [] => rfl
  | p :: l => by
    have ih := laterB_short x l
    unfold shortK
    split
    · rename_i h
      rw [ih]
      show laterB x l = (p.1.toList == x.toList || laterB x l)
      cases hq : (p.1.toList == x.toList)
      · rfl
      · have e : p.1.toList = x.toList := by simpa using hq
        unfold laterB at h ⊢
        rw [← e, h]; rfl
    · show (p.1.toList == x.toList || laterB x (shortK l)) = (p.1.toList == x.toList || laterB x l)
      rw [ih]
def OnceC (l : List Cg) : Prop := l.Pairwise (fun p q => (q.1.toList == p.1.toList) = false)
theorem short_once : ∀ (l : List Cg), OnceC (shortK l)
  | [] => List.Pairwise.nil
  | p :: l => by
    unfold shortK
    split
    · exact short_once l
    · rename_i h
      refine List.Pairwise.cons (fun q hq => ?_) (short_once l)
      have h2 : laterB p.1 (shortK l) = false := by rw [laterB_short]; simpa using h
      have := List.any_eq_false.1 h2 q hq
      simpa using this
theorem short_same : ∀ {l : List Cg}, OnceC l → shortK l = l
  | [], _ => rfl
  | p :: l, h => by
    obtain ⟨h1, h2⟩ := List.pairwise_cons.1 h
    have h3 : laterB p.1 l = false := List.any_eq_false.2 (fun q hq => by rw [h1 q hq]; simp)
    rw [shortK, h3, short_same h2]; rfl
theorem short_last : ∀ (l : List Cg), (shortK l).getLast? = l.getLast?
  | [] => rfl
  | [p] => rfl
  | p :: q :: t => by
    have ih := short_last (q :: t)
    have h0 : (shortK (q :: t)) ≠ [] := by
      intro h; rw [h, List.getLast?_cons] at ih; cases ih
    rw [List.getLast?_cons_cons, ← ih]
    conv => lhs; rw [shortK]
    split
    · rfl
    · obtain ⟨a, s, hs⟩ := List.exists_cons_of_ne_nil h0
      rw [hs, List.getLast?_cons_cons]
theorem opsB_short {l : List Cg} (h : opsB l = true) : opsB (shortK l) = true := by
  obtain ⟨h1, h2⟩ := opsB_ok h
  have := shortK_len l
  unfold opsB
  rw [Bool.and_eq_true, List.all_eq_true]
  exact ⟨decide_eq_true (by omega), fun p hp => h2 p (shortK_mem hp)⟩
theorem once_at {l : List Cg} (h : OnceC l) {i k : Nat} (hi : i < l.length) (hk : k < i) : (l[i].1.toList == (l[k]'(by omega)).1.toList) = false :=
  List.pairwise_iff_getElem.1 h k i (by omega) hi hk
theorem last_at {l : List Cg} {k : Nat} (h : l.length = k + 1) : ∃ j, (shortK l).length = j + 1 ∧ ∃ (h1 : j < (shortK l).length) (h2 : k < l.length), (shortK l)[j] = l[k] := by
  have hl := short_last l
  rw [List.getLast?_eq_getElem?, List.getLast?_eq_getElem?, h, Nat.add_sub_cancel, List.getElem?_eq_getElem (show k < l.length by omega)] at hl
  obtain ⟨h1, h2⟩ := List.getElem?_eq_some_iff.1 hl
  refine ⟨(shortK l).length - 1, by omega, h1, by omega, h2⟩

set_option maxRecDepth 100000 in
set_option maxHeartbeats 8000000 in
theorem walk_FnShortOps (A : Option Addr) (n c : Nat) (w : World) (h : BytesIn w A n c) :
    Calls Try.prog 8 #[.slice A n c] w fun e w' => e = .returned (.bool true) ∧ Below w.heap.size w w' := by
  have HD := Lib.hid (drawShortOps_any A n c w h)
  obtain ⟨hc, hm, _⟩ := h
  unfold maxLen at hm
  by_cases hb : n ≤ 1048576
  · go_enter Try.func8, Try.ntmps8
    go_wp2_with fail
    refine (HD.out).mono ?_
    rintro e w1 ⟨l, A1, m, c1, rfl, hml, hm13, hf, ho, hb1⟩
    have HB1 := Lib.hid hb1; clear hb1
    have hwf := hf.wf
    obtain ⟨hx1, hx2⟩ := own_caps ho
    have HR1 := Lib.hid (RowAt.of_own ho)
    have HRW := Lib.hid (fun W (hb : Below w1.heap.size w1 W) => ((RowAt.of_own ho).below hb).mono hb.size)
    have HSI := Lib.hid (iShort_any A1 m c1 l w1 (RowAt.of_own ho) hml (by omega) hwf hx1 hx2)
    have HSS := Lib.hid (fun W (hb : Below w1.heap.size w1 W) => sShortV_any A1 m c1 l W (((RowAt.of_own ho).below hb).mono hb.size) hml (by omega) hwf)
    have HVI := Lib.hid (fun W (hb : Below w1.heap.size w1 W) => iOps_any A1 m c1 l W (((RowAt.of_own ho).below hb).mono hb.size) hml (by omega) hwf)
    have HML := Lib.hid hml
    have HFW := Lib.hid hf
    clear ho hf hml
    obtain ⟨L, hL⟩ : ∃ L, shortR l = L := ⟨_, rfl⟩
    have HLE := Lib.hid hL
    have hL13 : L.length ≤ 13 := by
      rw [← hL]; unfold shortR
      split
      · have := shortK_len l; have := HML.out; omega
      · simp
    have HLW := Lib.hid (show WfCg L by
      rw [← hL]; unfold shortR
      split
      · exact fun p hp => hwf p (shortK_mem hp)
      · exact fun p hp => by cases hp)
    rw [hL] at HSI HSS
    clear hL hwf
    go_wp2_with fail
    refine (HSI.out).mono ?_
    rintro e w2 ⟨_, rfl, ⟨A2, c2, rfl, ho2⟩, hb2⟩
    have HB2 := Lib.hid hb2; clear hb2
    have HO2 := Lib.hid (fun W (hb : Below w2.heap.size w2 W) => ((RowAt.of_own ho2).below hb).mono hb.size)
    obtain ⟨hy1, hy2⟩ := own_caps ho2
    have HAT := Lib.hid (fun (h0 : 0 < L.length) => own_atCg ho2 h0)
    clear ho2
    go_wp2_with fail
    refine (HSS.out _ HB2.out).mono ?_
    rintro e w3 ⟨_, rfl, ⟨A3, c3, rfl, ho3⟩, hb3⟩
    have HE3 := Lib.hid (equalOps_same A2 A3 L.length c2 c3 L w3 (HO2.out _ hb3) (RowAt.of_own ho3) rfl (by omega) HLW.out)
    have HB3 := Lib.hid (HB2.out.trans (hb3.mono HB2.out.size))
    have HB23 := Lib.hid hb3; clear hb3 ho3
    go_wp2_with fail
    refine (HE3.out).mono ?_
    rintro e w4 ⟨rfl, hb4⟩
    have HB4 := Lib.hid (HB3.out.trans (hb4.mono HB3.out.size))
    have HB24 := Lib.hid (HB23.out.trans (hb4.mono HB23.out.size)); clear hb4
    go_wp2_with fail
    refine (HVI.out _ HB4.out).mono ?_
    rintro e w5 ⟨rfl, hb5⟩
    have HB5 := Lib.hid (HB4.out.trans (hb5.mono HB4.out.size))
    have HB25 := Lib.hid (HB24.out.trans (hb5.mono HB24.out.size)); clear hb5
    cases hq : opsB l
    · clear hq
      go_wp2_with fail
      refine (HSS.out _ HB5.out).mono ?_
      rintro e w6 ⟨_, rfl, ⟨A6, c6, rfl, ho6⟩, hb6⟩
      have HE6 := Lib.hid (equalOps_same A2 A6 L.length c2 c6 L w6 (HO2.out _ (HB25.out.trans (hb6.mono HB25.out.size))) (RowAt.of_own ho6) rfl (by omega) HLW.out)
      have HB6 := Lib.hid (HB5.out.trans (hb6.mono HB5.out.size)); clear hb6 ho6
      go_wp2_with fail
      refine (HE6.out).mono ?_
      rintro e w7 ⟨rfl, hb7⟩
      have HB7 := Lib.hid (HB6.out.trans (hb7.mono HB6.out.size)); clear hb7
      go_wp2_with fail
      go_ret
      exact ⟨rfl, HB1.out.trans (HB7.out.mono HB1.out.size)⟩
    · have HLK := Lib.hid (show L = shortK l by rw [← HLE.out]; unfold shortR; rw [hq]; rfl)
      have HON := Lib.hid (show OnceC L by rw [HLK.out]; exact short_once l)
      have HLS := Lib.hid (show shortR L = L by
        unfold shortR
        rw [HLK.out, opsB_short hq, if_pos rfl, short_same (short_once l)])
      have HLA := Lib.hid (fun k (h : l.length = k + 1) => (show ∃ j, L.length = j + 1 ∧ ∃ (h1 : j < L.length) (h2 : k < l.length), L[j] = l[k] by rw [HLK.out]; exact last_at h))
      have HNI := Lib.hid (show m = 0 → L.length = 0 by
        intro h; have := shortK_len l; rw [HLK.out]; have := HML.out; omega)
      clear hq
      go_wp2_with fail
      go_loopw [5] (fun i wr => ∃ (i' : Nat), i = .int .i64 i' ∧ i' ≤ L.length ∧ Below w5.heap.size w5 wr) (fun i _ => L.length - (intOf i).toNat)
      case atStart => exact ⟨0, rfl, by omega, Below.refl _ _⟩
      case round =>
        obtain ⟨i, rfl, hi, hbr⟩ := hrel
        have HBR := Lib.hid hbr; clear hbr
        by_cases hlt : i < L.length
        · go_wp2_with fail
          go_loopw [6] (fun k wr2 => ∃ (k' : Nat), k = .int .i64 k' ∧ k' ≤ i ∧ Below w5.heap.size w5 wr2) (fun k _ => i - (intOf k).toNat)
          case atStart => exact ⟨0, rfl, by omega, HBR.out⟩
          case round =>
            obtain ⟨k, rfl, hk, hbr2⟩ := hrel
            have HBR2 := Lib.hid hbr2; clear hbr2
            by_cases hlt2 : k < i
            · have HQ := Lib.hid (once_at HON.out hlt hlt2)
              have HRR := Lib.hid (HO2.out _ (HB25.out.trans (HBR2.out.mono HB25.out.size)))
              obtain ⟨b, off, hA, hbw, e0, _, _⟩ := cgs_at HRR.out hlt
              subst hA
              obtain ⟨b', off', hA', _, f0, _, _⟩ := cgs_at HRR.out (show k < L.length by omega)
              injection hA' with hA'
              injection hA' with h1 h2
              subst h1 h2
              have hq := HQ.out
              clear HQ HRR
              generalize L[i].1 = x0 at *
              generalize L[k].1 = y0 at *
              have hi1 : (i : Int) < (L.length : Int) := by omega
              have hi2 : (k : Int) < (L.length : Int) := by omega
              go_wp2_with fail
              go_quiet (fail)
              go_wp2_with fail
              go_roundw
              case rel => exact ⟨k + 1, by go_num, by omega, HBR2.out.trans (below_drewN _ _)⟩
              case measure => simp [intOf]; omega
            · obtain rfl : k = i := by omega
              go_wp2_with fail
              go_roundw
              case rel => exact ⟨k + 1, by go_num, by omega, HBR2.out⟩
              case measure => simp [intOf]; omega
        · obtain rfl : i = L.length := by omega
          rename World => wx
          have HBX := Lib.hid (HB25.out.trans (HBR.out.mono HB25.out.size))
          have HB1X := Lib.hid (HB5.out.trans (HBR.out.mono HB5.out.size))
          have HSL := Lib.hid (fun W (hb : Below w2.heap.size w2 W) => iShort_any _ L.length c2 L W (HO2.out _ hb) rfl (by omega) HLW.out hy1 hy2)
          rw [HLS.out] at HSL
          cases m with
          | zero =>
            go_wp2_with fail
            refine wp_region_any (by kernel_rfl) ?_
            try (change wpAny _ _ _ _ _ _ _ (World.drew _))
            have HBXD := Lib.hid (show Below w2.heap.size w2 wx.drew from HBX.out.trans (below_drewN _ 1))
            have HB1D := Lib.hid (show Below w1.heap.size w1 wx.drew from HB1X.out.trans (below_drewN _ 1))
            have HSLD := Lib.hid (HSL.out _ HBXD.out)
            clear HSL
            generalize wx.drew = W0 at *
            refine wpAny_take (i := 0) (v := ?_) rfl (by kernel_rfl) (by kernel_rfl) (by kernel_rfl) (fun _ _ _ h => h) (Or.inl ⟨by kernel_rfl, ?_⟩) ?_
            rotate_left
            · (intro w; go_simp; first | done | with_reducible rfl)
            conv => arg 7; simp [Act.put]
            refine wpAny_take (i := 2) (v := ?_) rfl (by kernel_rfl) (by kernel_rfl) (by kernel_rfl) (fun _ _ _ h => h) (Or.inl ⟨by kernel_rfl, ?_⟩) ?_
            rotate_left
            · (intro w; go_simp; first | done | with_reducible rfl)
            conv => arg 7; simp [Act.put]
            refine wpAny_ready (rs := [1]) (by kernel_rfl) (by simp) ?_
            refine AllReady.cons rfl (fun K hK => ?_) AllReady.nil
            go_simp
            refine (HSLD.out).mono ?_
            rintro e w6 ⟨_, rfl, ⟨A6, c6, rfl, ho6⟩, hb6⟩
            refine hK _ _ ?_; clear hK K
            have HE6 := Lib.hid (equalOps_same A6 _ L.length c6 c2 L w6 (RowAt.of_own ho6) (HO2.out _ (HBXD.out.trans (hb6.mono HBXD.out.size))) rfl (by omega) HLW.out)
            have HB6 := Lib.hid (HB1D.out.trans (hb6.mono HB1D.out.size))
            have HB26 := Lib.hid (HBXD.out.trans (hb6.mono HBXD.out.size)); clear hb6 ho6
            conv => arg 7; simp [Act.put]
            refine wpAny_ready (rs := [3]) (by kernel_rfl) (by simp) ?_
            refine AllReady.cons rfl (fun K hK => ?_) AllReady.nil
            go_simp
            refine (HE6.out).mono ?_
            rintro e w7 ⟨rfl, hb7⟩
            refine hK _ _ ?_; clear hK K
            conv => arg 7; simp [Act.put]
            have HB7 := Lib.hid (HB6.out.trans (hb7.mono HB6.out.size))
            have HB27 := Lib.hid (HB26.out.trans (hb7.mono HB26.out.size)); clear hb7
            refine wpAny_take (i := 4) (v := ?_) rfl (by kernel_rfl) (by kernel_rfl) (by kernel_rfl) (fun _ _ _ h => h) (Or.inl ⟨by kernel_rfl, ?_⟩) ?_
            rotate_left
            · (intro w; go_simp; first | done | with_reducible rfl)
            conv => arg 7; simp [Act.put]
            refine wpAny_take (i := 5) (v := ?_) rfl (by kernel_rfl) (by kernel_rfl) (by kernel_rfl) (fun _ _ _ h => h) (Or.inl ⟨by kernel_rfl, ?_⟩) ?_
            rotate_left
            · (intro w; go_simp; first | done | with_reducible rfl)
            conv => arg 7; simp [Act.put]
            refine wpAny_take (i := 6) (v := ?_) rfl (by kernel_rfl) (by kernel_rfl) (by kernel_rfl) (fun _ _ _ h => h) (Or.inl ⟨by kernel_rfl, ?_⟩) ?_
            rotate_left
            · (intro w; go_simp; first | done | with_reducible rfl)
            conv => arg 7; simp [Act.put]
            refine wpAny_take (i := 7) (v := ?_) rfl (by kernel_rfl) (by kernel_rfl) (by kernel_rfl) (fun _ _ _ h => h) (Or.inl ⟨by kernel_rfl, ?_⟩) ?_
            rotate_left
            · (intro w; go_simp; first | done | with_reducible rfl)
            conv => arg 7; simp [Act.put]
            refine wpAny_take (i := 8) (v := ?_) rfl (by kernel_rfl) (by kernel_rfl) (by kernel_rfl) (fun _ _ _ h => h) (Or.inl ⟨by kernel_rfl, ?_⟩) ?_
            rotate_left
            · (intro w; go_simp; first | done | with_reducible rfl)
            conv => arg 7; simp [Act.put]
            refine wpAny_take (i := 9) (v := undef) rfl (by kernel_rfl) (by kernel_rfl) (by kernel_rfl) (fun _ _ _ h => h) (Or.inr ⟨by kernel_rfl, by kernel_rfl⟩) ?_
            conv => arg 7; simp [Act.put]
            refine wpAny_take (i := 10) (v := undef) rfl (by kernel_rfl) (by kernel_rfl) (by kernel_rfl) (fun _ _ _ h => h) (Or.inr ⟨by kernel_rfl, by kernel_rfl⟩) ?_
            conv => arg 7; simp [Act.put]
            refine wpAny_take (i := 11) (v := undef) rfl (by kernel_rfl) (by kernel_rfl) (by kernel_rfl) (fun _ _ _ h => h) (Or.inr ⟨by kernel_rfl, by kernel_rfl⟩) ?_
            conv => arg 7; simp [Act.put]
            refine wpAny_take (i := 12) (v := undef) rfl (by kernel_rfl) (by kernel_rfl) (by kernel_rfl) (fun _ _ _ h => h) (Or.inr ⟨by kernel_rfl, by kernel_rfl⟩) ?_
            conv => arg 7; simp [Act.put]
            refine wpAny_take (i := 13) (v := undef) rfl (by kernel_rfl) (by kernel_rfl) (by kernel_rfl) (fun _ _ _ h => h) (Or.inr ⟨by kernel_rfl, by kernel_rfl⟩) ?_
            conv => arg 7; simp [Act.put]
            refine wpAny_take (i := 14) (v := undef) rfl (by kernel_rfl) (by kernel_rfl) (by kernel_rfl) (fun _ _ _ h => h) (Or.inr ⟨by kernel_rfl, by kernel_rfl⟩) ?_
            conv => arg 7; simp [Act.put]
            refine wpAny_take (i := 15) (v := undef) rfl (by kernel_rfl) (by kernel_rfl) (by kernel_rfl) (fun _ _ _ h => h) (Or.inr ⟨by kernel_rfl, by kernel_rfl⟩) ?_
            conv => arg 7; simp [Act.put]
            refine wpAny_take (i := 16) (v := undef) rfl (by kernel_rfl) (by kernel_rfl) (by kernel_rfl) (fun _ _ _ h => h) (Or.inr ⟨by kernel_rfl, by kernel_rfl⟩) ?_
            conv => arg 7; simp [Act.put]
            refine wpAny_take (i := 17) (v := undef) rfl (by kernel_rfl) (by kernel_rfl) (by kernel_rfl) (fun _ _ _ h => h) (Or.inr ⟨by kernel_rfl, by kernel_rfl⟩) ?_
            conv => arg 7; simp [Act.put]
            refine wpAny_take (i := 18) (v := undef) rfl (by kernel_rfl) (by kernel_rfl) (by kernel_rfl) (fun _ _ _ h => h) (Or.inr ⟨by kernel_rfl, by kernel_rfl⟩) ?_
            conv => arg 7; simp [Act.put]
            refine wpAny_take (i := 19) (v := undef) rfl (by kernel_rfl) (by kernel_rfl) (by kernel_rfl) (fun _ _ _ h => h) (Or.inr ⟨by kernel_rfl, by kernel_rfl⟩) ?_
            conv => arg 7; simp [Act.put]
            refine wpAny_take (i := 20) (v := undef) rfl (by kernel_rfl) (by kernel_rfl) (by kernel_rfl) (fun _ _ _ h => h) (Or.inr ⟨by kernel_rfl, by kernel_rfl⟩) ?_
            conv => arg 7; simp [Act.put]
            refine wpAny_take (i := 21) (v := undef) rfl (by kernel_rfl) (by kernel_rfl) (by kernel_rfl) (fun _ _ _ h => h) (Or.inr ⟨by kernel_rfl, by kernel_rfl⟩) ?_
            conv => arg 7; simp [Act.put]
            refine wpAny_take (i := 22) (v := undef) rfl (by kernel_rfl) (by kernel_rfl) (by kernel_rfl) (fun _ _ _ h => h) (Or.inr ⟨by kernel_rfl, by kernel_rfl⟩) ?_
            conv => arg 7; simp [Act.put]
            refine wpAny_take (i := 23) (v := undef) rfl (by kernel_rfl) (by kernel_rfl) (by kernel_rfl) (fun _ _ _ h => h) (Or.inr ⟨by kernel_rfl, by kernel_rfl⟩) ?_
            conv => arg 7; simp [Act.put]
            refine wpAny_take (i := 24) (v := undef) rfl (by kernel_rfl) (by kernel_rfl) (by kernel_rfl) (fun _ _ _ h => h) (Or.inr ⟨by kernel_rfl, by kernel_rfl⟩) ?_
            conv => arg 7; simp [Act.put]
            refine wpAny_take (i := 25) (v := undef) rfl (by kernel_rfl) (by kernel_rfl) (by kernel_rfl) (fun _ _ _ h => h) (Or.inr ⟨by kernel_rfl, by kernel_rfl⟩) ?_
            conv => arg 7; simp [Act.put]
            refine wpAny_take (i := 26) (v := undef) rfl (by kernel_rfl) (by kernel_rfl) (by kernel_rfl) (fun _ _ _ h => h) (Or.inr ⟨by kernel_rfl, by kernel_rfl⟩) ?_
            conv => arg 7; simp [Act.put]
            refine wpAny_take (i := 27) (v := ?_) rfl (by kernel_rfl) (by kernel_rfl) (by kernel_rfl) (fun _ _ _ h => h) (Or.inl ⟨by kernel_rfl, ?_⟩) ?_
            rotate_left
            · (intro w; go_simp; first | done | with_reducible rfl)
            conv => arg 7; simp [Act.put]
            refine wpAny_take (i := 28) (v := ?_) rfl (by kernel_rfl) (by kernel_rfl) (by kernel_rfl) (fun _ _ _ h => h) (Or.inl ⟨by kernel_rfl, ?_⟩) ?_
            rotate_left
            · (intro w; go_simp; first | done | with_reducible rfl)
            conv => arg 7; simp [Act.put]
            refine wpAny_take (i := 29) (v := ?_) rfl (by kernel_rfl) (by kernel_rfl) (by kernel_rfl) (fun _ _ _ h => h) (Or.inl ⟨by kernel_rfl, ?_⟩) ?_
            rotate_left
            · (intro w; go_simp; first | done | with_reducible rfl)
            conv => arg 7; simp [Act.put]
            refine wpAny_done (by kernel_rfl) ?_ _
            go_wp2_with fail
            go_ret
            exact ⟨rfl, HB1.out.trans (HB7.out.mono HB1.out.size)⟩
          | succ k =>
            obtain ⟨j, hj, hj1, hk1, hlast⟩ := HLA.out k HML.out.symm
            have HJL := Lib.hid hj
            have HLAST := Lib.hid hlast; clear hlast
            obtain ⟨g, hA, hkc, hcm, _⟩ := HAT.out (by omega)
            subst hA
            have HAC := Lib.hid (fun W (hb : Below w2.heap.size w2 W) => cgs_at (HO2.out _ hb) hj1)
            have HAO := Lib.hid (fun W (hb : Below w1.heap.size w1 W) => cgs_at (HRW.out _ hb) hk1)
            rw [HLAST.out] at HAC
            generalize l[k].1 = x0 at *
            generalize l[k].2.1 = x1 at *
            generalize l[k].2.2 = x2 at *
            have hq1 : (x0.toList == x0.toList) = true := by simp
            have hq2 : (x1.toList == x1.toList) = true := by simp
            have hq3 : (x2 == x2) = true := by simp
            have h1 : (((k + 1 : Nat) : Int) - 1) = (k : Int) := by omega
            have h2 : (((k + 1 : Nat) : Int) == 0) = false := by simp; omega
            have h3 : ((k : Int) + 1 - 1) = (k : Int) := by omega
            have h4 : ((k : Int) + 1 == 0) = false := by simp; omega
            have h5 : ((L.length : Int) - 1) = (j : Int) := by omega
            have h6 : (0 : Int) < (L.length : Int) := by omega
            have h7 : (j : Int) < (L.length : Int) := by omega
            have h8 : (k : Int) < ((k + 1 : Nat) : Int) := by omega
            have h9 : IntKind.i64.wrap (j : Int) = (j : Int) := IntWalk.i64_in _ (by omega)
            have h10 : IntKind.i64.wrap (k : Int) = (k : Int) := IntWalk.i64_in _ (by omega)
            have h11 : (0 : Int) ≤ (j : Int) := by omega
            have h12 : (0 : Int) ≤ (k : Int) := by omega
            have h13 : (k : Int) < (k : Int) + 1 := by omega
            have h14 : 0 < L.length := by omega
            clear hj
            go_wp2_with fail
            refine wp_region_any (by kernel_rfl) ?_
            try (change wpAny _ _ _ _ _ _ _ (World.drew _))
            have HBXD := Lib.hid (show Below w2.heap.size w2 wx.drew from HBX.out.trans (below_drewN _ 1))
            have HB1D := Lib.hid (show Below w1.heap.size w1 wx.drew from HB1X.out.trans (below_drewN _ 1))
            have HSLD := Lib.hid (HSL.out _ HBXD.out)
            clear HSL
            generalize wx.drew = W0 at *
            refine wpAny_take (i := 0) (v := ?_) rfl (by kernel_rfl) (by kernel_rfl) (by kernel_rfl) (fun _ _ _ h => h) (Or.inl ⟨by kernel_rfl, ?_⟩) ?_
            rotate_left
            · (intro w; go_simp; first | done | with_reducible rfl)
            conv => arg 7; simp [Act.put]
            refine wpAny_take (i := 2) (v := ?_) rfl (by kernel_rfl) (by kernel_rfl) (by kernel_rfl) (fun _ _ _ h => h) (Or.inl ⟨by kernel_rfl, ?_⟩) ?_
            rotate_left
            · (intro w; go_simp; first | done | with_reducible rfl)
            conv => arg 7; simp [Act.put]
            refine wpAny_ready (rs := [1]) (by kernel_rfl) (by simp) ?_
            refine AllReady.cons rfl (fun K hK => ?_) AllReady.nil
            go_simp
            refine (HSLD.out).mono ?_
            rintro e w6 ⟨_, rfl, ⟨A6, c6, rfl, ho6⟩, hb6⟩
            refine hK _ _ ?_; clear hK K
            have HE6 := Lib.hid (equalOps_same A6 _ L.length c6 c2 L w6 (RowAt.of_own ho6) (HO2.out _ (HBXD.out.trans (hb6.mono HBXD.out.size))) rfl (by omega) HLW.out)
            have HB6 := Lib.hid (HB1D.out.trans (hb6.mono HB1D.out.size))
            have HB26 := Lib.hid (HBXD.out.trans (hb6.mono HBXD.out.size)); clear hb6 ho6
            conv => arg 7; simp [Act.put]
            refine wpAny_ready (rs := [3]) (by kernel_rfl) (by simp) ?_
            refine AllReady.cons rfl (fun K hK => ?_) AllReady.nil
            go_simp
            refine (HE6.out).mono ?_
            rintro e w7 ⟨rfl, hb7⟩
            refine hK _ _ ?_; clear hK K
            conv => arg 7; simp [Act.put]
            have HB7 := Lib.hid (HB6.out.trans (hb7.mono HB6.out.size))
            have HB27 := Lib.hid (HB26.out.trans (hb7.mono HB26.out.size)); clear hb7
            obtain ⟨ba, oa, hAa, _, a0, a1, a2⟩ := HAC.out _ HB27.out
            injection hAa with hAa
            injection hAa with hz1 hz2
            subst hz1 hz2
            rw [Nat.zero_add] at a0 a1 a2
            obtain ⟨bo, oo, hAo, _, d0, d1, d2⟩ := HAO.out _ HB7.out
            subst hAo
            refine wpAny_take (i := 4) (v := ?_) rfl (by kernel_rfl) (by kernel_rfl) (by kernel_rfl) (fun _ _ _ h => h) (Or.inl ⟨by kernel_rfl, ?_⟩) ?_
            rotate_left
            · (intro w; go_simp; first | done | with_reducible rfl)
            conv => arg 7; simp [Act.put]
            refine wpAny_take (i := 5) (v := ?_) rfl (by kernel_rfl) (by kernel_rfl) (by kernel_rfl) (fun _ _ _ h => h) (Or.inl ⟨by kernel_rfl, ?_⟩) ?_
            rotate_left
            · (intro w; go_simp; first | done | with_reducible rfl)
            conv => arg 7; simp [Act.put]
            refine wpAny_take (i := 6) (v := ?_) rfl (by kernel_rfl) (by kernel_rfl) (by kernel_rfl) (fun _ _ _ h => h) (Or.inl ⟨by kernel_rfl, ?_⟩) ?_
            rotate_left
            · (intro w; go_simp; first | done | with_reducible rfl)
            conv => arg 7; simp [Act.put]
            refine wpAny_take (i := 7) (v := ?_) rfl (by kernel_rfl) (by kernel_rfl) (by kernel_rfl) (fun _ _ _ h => h) (Or.inl ⟨by kernel_rfl, ?_⟩) ?_
            rotate_left
            · (intro w; go_simp; first | done | with_reducible rfl)
            conv => arg 7; simp [Act.put]
            refine wpAny_take (i := 8) (v := ?_) rfl (by kernel_rfl) (by kernel_rfl) (by kernel_rfl) (fun _ _ _ h => h) (Or.inl ⟨by kernel_rfl, ?_⟩) ?_
            rotate_left
            · (intro w; go_simp; first | done | with_reducible rfl)
            conv => arg 7; simp [Act.put]
            refine wpAny_take (i := 9) (v := ?_) rfl (by kernel_rfl) (by kernel_rfl) (by kernel_rfl) (fun _ _ _ h => h) (Or.inl ⟨by kernel_rfl, ?_⟩) ?_
            rotate_left
            · (intro w; go_simp; first | done | with_reducible rfl)
            conv => arg 7; simp [Act.put]
            refine wpAny_take (i := 10) (v := ?_) rfl (by kernel_rfl) (by kernel_rfl) (by kernel_rfl) (fun _ _ _ h => h) (Or.inl ⟨by kernel_rfl, ?_⟩) ?_
            rotate_left
            · (intro w; go_simp; first | done | with_reducible rfl)
            conv => arg 7; simp [Act.put]
            refine wpAny_take (i := 11) (v := ?_) rfl (by kernel_rfl) (by kernel_rfl) (by kernel_rfl) (fun _ _ _ h => h) (Or.inl ⟨by kernel_rfl, ?_⟩) ?_
            rotate_left
            · (intro w; go_simp; first | done | with_reducible rfl)
            conv => arg 7; simp [Act.put]
            refine wpAny_take (i := 12) (v := ?_) rfl (by kernel_rfl) (by kernel_rfl) (by kernel_rfl) (fun _ _ _ h => h) (Or.inl ⟨by kernel_rfl, ?_⟩) ?_
            rotate_left
            · (intro w; go_simp; first | done | with_reducible rfl)
            conv => arg 7; simp [Act.put]
            refine wpAny_take (i := 13) (v := ?_) rfl (by kernel_rfl) (by kernel_rfl) (by kernel_rfl) (fun _ _ _ h => h) (Or.inl ⟨by kernel_rfl, ?_⟩) ?_
            rotate_left
            · (intro w; go_simp; first | done | with_reducible rfl)
            conv => arg 7; simp [Act.put]
            refine wpAny_take (i := 14) (v := ?_) rfl (by kernel_rfl) (by kernel_rfl) (by kernel_rfl) (fun _ _ _ h => h) (Or.inl ⟨by kernel_rfl, ?_⟩) ?_
            rotate_left
            · (intro w; go_simp; first | done | with_reducible rfl)
            conv => arg 7; simp [Act.put]
            refine wpAny_take (i := 15) (v := ?_) rfl (by kernel_rfl) (by kernel_rfl) (by kernel_rfl) (fun _ _ _ h => h) (Or.inl ⟨by kernel_rfl, ?_⟩) ?_
            rotate_left
            · (intro w; go_simp; first | done | with_reducible rfl)
            conv => arg 7; simp [Act.put]
            refine wpAny_take (i := 16) (v := ?_) rfl (by kernel_rfl) (by kernel_rfl) (by kernel_rfl) (fun _ _ _ h => h) (Or.inl ⟨by kernel_rfl, ?_⟩) ?_
            rotate_left
            · (intro w; go_simp; first | done | with_reducible rfl)
            conv => arg 7; simp [Act.put]
            refine wpAny_take (i := 17) (v := ?_) rfl (by kernel_rfl) (by kernel_rfl) (by kernel_rfl) (fun _ _ _ h => h) (Or.inl ⟨by kernel_rfl, ?_⟩) ?_
            rotate_left
            · (intro w; go_simp; first | done | with_reducible rfl)
            conv => arg 7; simp [Act.put]
            refine wpAny_take (i := 19) (v := ?_) rfl (by kernel_rfl) (by kernel_rfl) (by kernel_rfl) (fun _ _ _ h => h) (Or.inl ⟨by kernel_rfl, ?_⟩) ?_
            rotate_left
            · (intro w; go_simp; first | done | with_reducible rfl)
            conv => arg 7; simp [Act.put]
            refine wpAny_take (i := 20) (v := ?_) rfl (by kernel_rfl) (by kernel_rfl) (by kernel_rfl) (fun _ _ _ h => h) (Or.inl ⟨by kernel_rfl, ?_⟩) ?_
            rotate_left
            · (intro w; go_simp; first | done | with_reducible rfl)
            conv => arg 7; simp [Act.put]
            refine wpAny_take (i := 21) (v := ?_) rfl (by kernel_rfl) (by kernel_rfl) (by kernel_rfl) (fun _ _ _ h => h) (Or.inl ⟨by kernel_rfl, ?_⟩) ?_
            rotate_left
            · (intro w; go_simp; first | done | with_reducible rfl)
            conv => arg 7; simp [Act.put]
            refine wpAny_take (i := 22) (v := ?_) rfl (by kernel_rfl) (by kernel_rfl) (by kernel_rfl) (fun _ _ _ h => h) (Or.inl ⟨by kernel_rfl, ?_⟩) ?_
            rotate_left
            · (intro w; go_simp; first | done | with_reducible rfl)
            conv => arg 7; simp [Act.put]
            refine wpAny_take (i := 23) (v := ?_) rfl (by kernel_rfl) (by kernel_rfl) (by kernel_rfl) (fun _ _ _ h => h) (Or.inl ⟨by kernel_rfl, ?_⟩) ?_
            rotate_left
            · (intro w; go_simp; first | done | with_reducible rfl)
            conv => arg 7; simp [Act.put]
            refine wpAny_ready (rs := [18, 24]) (by kernel_rfl) (by simp) ?_
            refine AllReady.cons rfl (fun K hK => ?_) (AllReady.cons rfl (fun K hK => ?_) AllReady.nil)
            · go_simp
              refine hK _ _ ?_; clear hK K
              refine wpAny_ready (rs := [24]) (by kernel_rfl) (by simp) ?_
              refine AllReady.cons rfl (fun K hK => ?_) AllReady.nil
              go_simp
              refine hK _ _ ?_; clear hK K
              refine wpAny_take (i := 25) (v := ?_) rfl (by kernel_rfl) (by kernel_rfl) (by kernel_rfl) (fun _ _ _ h => h) (Or.inl ⟨by kernel_rfl, ?_⟩) ?_
              rotate_left
              · (intro w; go_simp; first | done | with_reducible rfl)
              conv => arg 7; simp [Act.put]
              refine wpAny_take (i := 26) (v := ?_) rfl (by kernel_rfl) (by kernel_rfl) (by kernel_rfl) (fun _ _ _ h => h) (Or.inl ⟨by kernel_rfl, ?_⟩) ?_
              rotate_left
              · (intro w; go_simp; first | done | with_reducible rfl)
              conv => arg 7; simp [Act.put]
              refine wpAny_take (i := 27) (v := ?_) rfl (by kernel_rfl) (by kernel_rfl) (by kernel_rfl) (fun _ _ _ h => h) (Or.inl ⟨by kernel_rfl, ?_⟩) ?_
              rotate_left
              · (intro w; go_simp; first | done | with_reducible rfl)
              conv => arg 7; simp [Act.put]
              refine wpAny_take (i := 28) (v := ?_) rfl (by kernel_rfl) (by kernel_rfl) (by kernel_rfl) (fun _ _ _ h => h) (Or.inl ⟨by kernel_rfl, ?_⟩) ?_
              rotate_left
              · (intro w; go_simp; first | done | with_reducible rfl)
              conv => arg 7; simp [Act.put]
              refine wpAny_take (i := 29) (v := ?_) rfl (by kernel_rfl) (by kernel_rfl) (by kernel_rfl) (fun _ _ _ h => h) (Or.inl ⟨by kernel_rfl, ?_⟩) ?_
              rotate_left
              · (intro w; go_simp; first | done | with_reducible rfl)
              conv => arg 7; simp [Act.put]
              refine wpAny_done (by kernel_rfl) ?_ _
              go_wp2_with fail
              go_ret
              exact ⟨rfl, HB1.out.trans (HB7.out.mono HB1.out.size)⟩
            · go_simp
              refine hK _ _ ?_; clear hK K
              refine wpAny_ready (rs := [18]) (by kernel_rfl) (by simp) ?_
              refine AllReady.cons rfl (fun K hK => ?_) AllReady.nil
              go_simp
              refine hK _ _ ?_; clear hK K
              refine wpAny_take (i := 25) (v := ?_) rfl (by kernel_rfl) (by kernel_rfl) (by kernel_rfl) (fun _ _ _ h => h) (Or.inl ⟨by kernel_rfl, ?_⟩) ?_
              rotate_left
              · (intro w; go_simp; first | done | with_reducible rfl)
              conv => arg 7; simp [Act.put]
              refine wpAny_take (i := 26) (v := ?_) rfl (by kernel_rfl) (by kernel_rfl) (by kernel_rfl) (fun _ _ _ h => h) (Or.inl ⟨by kernel_rfl, ?_⟩) ?_
              rotate_left
              · (intro w; go_simp; first | done | with_reducible rfl)
              conv => arg 7; simp [Act.put]
              refine wpAny_take (i := 27) (v := ?_) rfl (by kernel_rfl) (by kernel_rfl) (by kernel_rfl) (fun _ _ _ h => h) (Or.inl ⟨by kernel_rfl, ?_⟩) ?_
              rotate_left
              · (intro w; go_simp; first | done | with_reducible rfl)
              conv => arg 7; simp [Act.put]
              refine wpAny_take (i := 28) (v := ?_) rfl (by kernel_rfl) (by kernel_rfl) (by kernel_rfl) (fun _ _ _ h => h) (Or.inl ⟨by kernel_rfl, ?_⟩) ?_
              rotate_left
              · (intro w; go_simp; first | done | with_reducible rfl)
              conv => arg 7; simp [Act.put]
              refine wpAny_take (i := 29) (v := ?_) rfl (by kernel_rfl) (by kernel_rfl) (by kernel_rfl) (fun _ _ _ h => h) (Or.inl ⟨by kernel_rfl, ?_⟩) ?_
              rotate_left
              · (intro w; go_simp; first | done | with_reducible rfl)
              conv => arg 7; simp [Act.put]
              refine wpAny_done (by kernel_rfl) ?_ _
              go_wp2_with fail
              go_ret
              exact ⟨rfl, HB1.out.trans (HB7.out.mono HB1.out.size)⟩
  · go_enter Try.func8, Try.ntmps8
    go_wp2
    go_ret
    exact ⟨rfl, Below.refl _ _⟩
end Go.Proofs.Ytpjepcfdlinfdaa
