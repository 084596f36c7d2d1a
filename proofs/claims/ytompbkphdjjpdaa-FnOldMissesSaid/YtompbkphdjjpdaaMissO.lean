/- The contract of the model's OldMisses (chapter 2). Conditions: the trace lies in a row; it is short. -/
import Derived.Test.YtompbkphdjjpdaaMissE
set_option linter.unusedVariables false
set_option linter.unusedSimpArgs false
namespace Go.Proofs.Ytompbkphdjjpdaa
open Go.RowKit Go.ChangeShapes Go.WideShapes

theorem below_new2 {a : World} (o : Obj) : Below a.heap.size a (a.alloc o) := (Below.refl _ _).alloc (Nat.le_refl _) o
theorem below_cell2 {w W : World} {g o : Nat} (hb : Below w.heap.size w W) (hg : g < w.heap.size) : W.cell? ⟨g, o, none⟩ = w.cell? ⟨g, o, none⟩ := hb.cell (p := ⟨g, o, none⟩) hg

theorem NwAt.of_own {w : World} {t : List Int} {B mm c : Nat} {T : Option Addr} {W : World} (ho : W.ownsRow B 3 1 (.slice T mm c) mm (intC t)) (hl : mm = t.length) (h0 : 0 < mm) (hb : Below w.heap.size w W) :
    ∃ ad : Addr, T = some ad ∧ ad.spot = none ∧ NwAt w t ad mm c W := by
  obtain ⟨g, rfl, hnc, _⟩ := own_ptr ho h0
  exact ⟨⟨g, 0, none⟩, rfl, rfl, hl, hnc, RowAt.of_own ho, hb⟩
theorem slice_form {w : World} {B n z : Nat} {e : TypeId} {v : Value} {xs : List Value} (h : w.ownsRow B e z v n xs) (h0 : 0 < n) : ∃ T c, v = .slice T n c := by
  rcases h.2 with ⟨_, h2⟩ | ⟨g, N, cur, a1, _⟩
  · omega
  · exact ⟨_, _, a1⟩
theorem oldS_hit {n : Nat} {l : List Int} {k a : Nat} (h : lastIx (oldS n l k).1 (l.getD k 0) (oldS n l k).1.length = (a : Int)) : oldS n l (k + 1) = ((oldS n l k).1.eraseIdx a ++ [l.getD k 0], (oldS n l k).2) := by
  rw [oldS, if_pos (by omega), h, Int.toNat_natCast]
theorem oldS_miss {n : Nat} {l : List Int} {k : Nat} (h : lastIx (oldS n l k).1 (l.getD k 0) (oldS n l k).1.length < 0) : oldS n l (k + 1) = ((if (oldS n l k).1.length = n then (oldS n l k).1.drop 1 else (oldS n l k).1) ++ [l.getD k 0], (oldS n l k).2 + 1) := by
  rw [oldS, if_neg (by omega)]
theorem oldS_len (n : Nat) (l : List Int) (h1 : 1 ≤ n) (k : Nat) : (oldS n l k).1.length ≤ n ∧ (oldS n l k).2 ≤ k := by
  have := (oldI_all n l h1 k)
  have h2 := missS_len (oldCh l) n l h1 (oldIn l) k
  rw [← this.2, ← this.1.perm.length_eq]
  exact ⟨h2.1, h2.2.2⟩

set_option maxRecDepth 100000 in
set_option maxHeartbeats 1000000 in
theorem sOld_any (m : Int) (A : Option Addr) (n c : Nat) (l : List Int) (w : World) (hr : RowAt w w.heap.size A (intC l)) (hn : n = l.length) (hs : n ≤ 1048576) :
    Calls Try.prog 22 #[.int .i64 m, .slice A n c] w fun e w' => e = .returned (.int .i64 (missR oldCh m l)) ∧ Below w.heap.size w w' := by
  have HT := Lib.hid (sTrace_any m A n c l w hr hn hs)
  cases hct : countB m && traceB l
  · rw [hct] at HT
    have HF := Lib.hid (show missR oldCh m l = -1 by unfold missR; rw [hct]; rfl)
    rw [HF.out]
    clear hr hn hct
    go_enter Try.func22, Try.ntmps22
    go_wp2_with fail
    refine (HT.out).mono ?_
    rintro e w3 ⟨rfl, hw3⟩
    obtain rfl := hw3.symm
    go_wp2_with fail
    go_ret
    exact ⟨rfl, Below.refl _ _⟩
  · rw [hct] at HT
    have HF0 := Lib.hid (show missR oldCh m l = (missI oldCh m.toNat l : Int) by unfold missR; rw [hct]; rfl)
    rw [Bool.and_eq_true] at hct
    obtain ⟨hc, ht⟩ := hct
    obtain ⟨h1, h5⟩ : 1 ≤ m ∧ m ≤ 5 := by
      unfold countB at hc
      simpa only [Bool.and_eq_true, decide_eq_true_eq] using hc
    have hn30 : n ≤ 30 := by
      unfold traceB at ht
      simp only [Bool.and_eq_true, decide_eq_true_eq] at ht
      rw [hn]; exact ht.1
    obtain ⟨M, rfl⟩ := Int.eq_ofNat_of_zero_le (show 0 ≤ m by omega)
    have hM1 : 1 ≤ M := by omega
    have hM5 : M ≤ 5 := by omega
    rw [HF0.out, Int.toNat_natCast]
    rw [← old_same M l hM1]
    clear HF0 hc ht
    obtain ⟨i0, hi0, hz0, hz1, hz2⟩ := info_parts intInfo
    have HI := Lib.hid (And.intro hi0 (And.intro hz0 (And.intro hz1 hz2))); clear hi0 hz0 hz1 hz2
    have HR := Lib.hid hr; clear hr
    have HN := Lib.hid hn; clear hn
    have HLN := Lib.hid (fun k => oldS_len M l hM1 k)
    have HS0 := Lib.hid (show NwAt w (oldS M l 0).1 ⟨w.heap.size, 0, none⟩ 0 0 (w.alloc (.cells #[] 3)) from ⟨rfl, Nat.le_refl _, RowAt.nil _ _ _, (Below.refl _ _).alloc (Nat.le_refl _) _⟩)
    go_enter Try.func22, Try.ntmps22
    go_wp2_with fail
    refine (HT.out).mono ?_
    rintro e w3 ⟨rfl, hw3⟩
    obtain rfl := hw3.symm
    go_wp2_with fail
    go_loopw [5, 6, 7] (fun tv mv i wr => ∃ (k mm : Nat) (ad : Addr) (c' : Nat), k ≤ n ∧ i = .int .i64 k ∧ mv = .int .i64 ((oldS M l k).2 : Int) ∧ tv = .slice (some ad) mm c' ∧ ad.spot = none ∧ NwAt w (oldS M l k).1 ad mm c' wr) (fun _ _ i _ => n - (intOf i).toNat)
    case atStart => exact ⟨0, 0, _, 0, by omega, rfl, rfl, rfl, rfl, HS0.out⟩
    case round =>
      obtain ⟨k, mm, ad, c', hk, rfl, rfl, rfl, hsp, hms⟩ := hrel
      have HNW := Lib.hid hms; clear hms
      have HSP := Lib.hid hsp; clear hsp
      obtain ⟨hl1, hl3⟩ := HLN.out k
      have hmm : mm ≤ M := by rw [HNW.out.len]; exact hl1
      have hmc := HNW.out.le
      by_cases hlt : k < n
      · have hkl : k < l.length := by have := HN.out; omega
        obtain ⟨b, off, rfl, hbw, e0⟩ := ints_at HR.out hkl
        have HCE := Lib.hid (fun W (hb : Below w.heap.size w W) => (show W.cell? ⟨b, off + k, none⟩ = some (.int .i64 l[k]) from (hb.cell (p := ⟨b, off + k, none⟩) hbw).trans e0))
        clear e0
        have hget : l.getD k 0 = l[k] := getD_int hkl
        have HST := Lib.hid (fun a (h : lastIx (oldS M l k).1 l[k] (oldS M l k).1.length = ((a : Nat) : Int)) => (show oldS M l (k + 1) = ((oldS M l k).1.eraseIdx a ++ [l[k]], (oldS M l k).2) by rw [← hget]; exact oldS_hit (by rw [hget]; exact h)))
        have HSM := Lib.hid (fun (h : lastIx (oldS M l k).1 l[k] (oldS M l k).1.length < 0) => (show oldS M l (k + 1) = ((if (oldS M l k).1.length = M then (oldS M l k).1.drop 1 else (oldS M l k).1) ++ [l[k]], (oldS M l k).2 + 1) by rw [← hget]; exact oldS_miss (by rw [hget]; exact h)))
        clear hget
        generalize hS : oldS M l k = S at *
        obtain ⟨t, mc⟩ := S
        simp only at HNW HST HSM hl1 hl3
        clear hS
        generalize l[k] = x at *
        have i0' : (0 : Int) ≤ (k : Int) := by omega
        have i1' : (k : Int) < (n : Int) := by omega
        have i2' : k < n := hlt
        have hbwr := HNW.out.hb.size
        obtain ⟨wo, hwo⟩ : ∃ wo : World, wo = wr := ⟨_, rfl⟩
        rw [← hwo] at HNW hbwr ⊢
        clear hwo
        go_wp2_with fail
        go_loopw [8, 9] (fun a j wq => ∃ jj : Nat, jj ≤ mm ∧ j = .int .i64 jj ∧ a = .int .i64 (lastIx t x jj) ∧ Below wo.heap.size wo wq) (fun _ j _ => mm - (intOf j).toNat)
        case atStart => exact ⟨0, by omega, rfl, rfl, Below.refl _ _⟩
        case round =>
          obtain ⟨jj, hj, rfl, rfl, hbq⟩ := hrel
          have HBQ := Lib.hid hbq; clear hbq
          have HNQ := Lib.hid (HNW.out.keep HBQ.out)
          by_cases hjl : jj < mm
          · have hjt : jj < t.length := by have := HNW.out.len; omega
            have HSL := Lib.hid (show lastIx t x (jj + 1) = if t[jj] = x then (jj : Int) else lastIx t x jj by rw [lastIx, getD_int hjt])
            obtain ⟨tb, toff, hta, htb, e1⟩ := ints_at HNQ.out.row hjt
            obtain rfl : ad = ⟨tb, toff, none⟩ := by injection hta
            have e0 := HCE.out _ HNQ.out.hb
            generalize t[jj] = y at *
            generalize hv : lastIx t x jj = v at *
            clear hv hta
            have j0 : (0 : Int) ≤ (jj : Int) := by omega
            have j1 : (jj : Int) < (mm : Int) := by omega
            by_cases he : y = x
            · have q0 : (y == x) = true := by simpa using he
              have HF := Lib.hid (show (jj : Int) = lastIx t x (jj + 1) by rw [HSL.out, if_pos he])
              clear he
              go_wp2_with fail
              go_quiet (fail)
              go_wp2_with fail
              go_roundw
              case rel => exact ⟨jj + 1, by omega, by go_num, by rw [← HF.out], HBQ.out.trans (below_drewN _ _)⟩
              case measure => simp [intOf]; omega
            · have q0 : (y == x) = false := by simpa using he
              have HF := Lib.hid (show v = lastIx t x (jj + 1) by rw [HSL.out, if_neg he])
              clear he
              go_wp2_with fail
              go_quiet (fail)
              go_wp2_with fail
              go_roundw
              case rel => exact ⟨jj + 1, by omega, by go_num, by rw [← HF.out], HBQ.out.trans (below_drewN _ _)⟩
              case measure => simp [intOf]; omega
          · obtain rfl : jj = mm := by omega
            clear hjl
            have hll : lastIx t x jj = lastIx t x t.length := by rw [← HNW.out.len]
            have hlast := lastIx_lt t x jj
            have HST2 := Lib.hid (fun a (h : lastIx t x jj = ((a : Nat) : Int)) => HST.out a (by rw [← hll]; exact h))
            have HSM2 := Lib.hid (fun (h : lastIx t x jj < 0) => HSM.out (by rw [← hll]; exact h))
            clear hll HST HSM
            generalize hv : lastIx t x jj = v at *
            clear hv
            by_cases hv0 : 0 ≤ v
            · obtain ⟨a, rfl⟩ := Int.eq_ofNat_of_zero_le hv0
              have HSE := Lib.hid (HST2.out a rfl); clear HST2 HSM2
              have hajj : a < jj := by omega
              have hcut := fun W => cutHead_any ad jj c' a W (by omega) HSP.out
              obtain ⟨ad2, hsp2, hcut2, hrw2⟩ := cutTail1_any ad jj c' (a + 1) ((a : Int) + 1) (by omega) (by omega) hmc HSP.out
              have HRW2 := Lib.hid hrw2; clear hrw2
              have e1 : IntKind.i64.wrap ((a : Int) + 1) = (a : Int) + 1 := IntWalk.i64_in _ (by omega)
              have HSP2 := Lib.hid hsp2; clear hsp2
              go_wp2_with fail
              have HND := Lib.hid (HNQ.out.keep (Below.drew (Below.refl _ _)))
              refine wp_region_any (by kernel_rfl) ?_
              try (change wpAny _ _ _ _ _ _ _ (World.drew _))
              refine wpAny_take (i := 1) (v := ?_) rfl (by kernel_rfl) (by kernel_rfl) (by kernel_rfl) (fun _ _ _ h => h) (Or.inl ⟨by kernel_rfl, ?_⟩) ?_
              rotate_left
              · (intro w; go_simp; first | done | with_reducible rfl)
              conv => arg 7; simp [Act.put]
              refine wpAny_take (i := 2) (v := ?_) rfl (by kernel_rfl) (by kernel_rfl) (by kernel_rfl) (fun _ _ _ h => h) (Or.inl ⟨by kernel_rfl, ?_⟩) ?_
              rotate_left
              · (intro w; go_simp; first | done | with_reducible rfl)
              conv => arg 7; simp [Act.put]
              refine wpAny_take (i := 3) (v := ?_) rfl (by kernel_rfl) (by kernel_rfl) (by kernel_rfl) (fun _ _ _ h => h) (Or.inl ⟨by kernel_rfl, ?_⟩) ?_
              rotate_left
              · (intro w; go_simp; first | done | with_reducible rfl)
              conv => arg 7; simp [Act.put]
              refine wpAny_take (i := 5) (v := ?_) rfl (by kernel_rfl) (by kernel_rfl) (by kernel_rfl) (fun _ _ _ h => h) (Or.inl ⟨by kernel_rfl, ?_⟩) ?_
              rotate_left
              · (intro w; go_simp; first | done | with_reducible rfl)
              conv => arg 7; simp [Act.put]
              refine wpAny_take (i := 6) (v := ?_) rfl (by kernel_rfl) (by kernel_rfl) (by kernel_rfl) (fun _ _ _ h => h) (Or.inl ⟨by kernel_rfl, ?_⟩) ?_
              rotate_left
              · (intro w; go_simp; first | done | with_reducible rfl)
              conv => arg 7; simp [Act.put]
              refine wpAny_take (i := 7) (v := ?_) rfl (by kernel_rfl) (by kernel_rfl) (by kernel_rfl) (fun _ _ _ h => h) (Or.inl ⟨by kernel_rfl, ?_⟩) ?_
              rotate_left
              · (intro w; go_simp; first | done | with_reducible rfl)
              conv => arg 7; simp [Act.put]
              refine wpAny_take (i := 8) (v := ?_) rfl (by kernel_rfl) (by kernel_rfl) (by kernel_rfl) (fun _ _ _ h => h) (Or.inl ⟨by kernel_rfl, ?_⟩) ?_
              rotate_left
              · (intro w; go_simp; first | done | with_reducible rfl)
              conv => arg 7; simp [Act.put]
              generalize wr.drew = X0 at *
              refine wpAny_ready (rs := [0]) (by kernel_rfl) (by simp) ?_
              refine AllReady.cons rfl (fun K hK => ?_) AllReady.nil
              go_simp
              refine hK _ _ ?_; clear hK K
              have HB1 := Lib.hid (below_step2 HND.out.hb (below_new2 (.cells #[] 3)))
              have HR1 := Lib.hid (HND.out.row.below (below_new2 (.cells #[] 3)))
              have HO1 := Lib.hid (World.ownsRow_made (base := X0.heap.size) (e := 3) (size := 1) X0 #[] 0 (Nat.le_refl _) (by simp [maxLen]) rfl)
              have hwB : w.heap.size ≤ X0.heap.size := HND.out.hb.size
              have hB1 : X0.heap.size ≤ (X0.alloc (.cells #[] 3)).heap.size := (below_new2 _).size
              generalize X0.alloc (.cells #[] 3) = X1 at *
              generalize X0.heap.size = B at *
              have hjl := HNW.out.len
              have HJL := Lib.hid hjl; clear hjl
              refine wpAny_ready (rs := [4]) (by kernel_rfl) (by simp) ?_
              refine AllReady.cons rfl (fun K hK => ?_) (AllReady.nil)
              refine step_append_own (by rfl) _ _ 35 (by rfl) B 3 i0 (.int .i64 0) 1 8 Try.underlying35 HI.out.1 HI.out.2.1 HI.out.2.2.1 HI.out.2.2.2 rfl (by decide) (.slice (some ⟨B, 0, none⟩) 0 0) 0 [] (by rfl) HO1.out ad a c' (intC (t.take a)) (by rfl) (by rw [intC_len, List.length_take, ← HJL.out]; omega) (HR1.out.takeA a).news (intC_one _) (by unfold maxLen; omega) (by omega) hB1 ?_
              intro v2 X2 hown2 hgr2 hnil2
              rw [List.nil_append, Nat.zero_add] at hown2
              have HO2 := Lib.hid hown2
              have hv2 : v2 ≠ .slice none 0 0 := fun e => by have := (hnil2.1 e).1; cases this
              have HV2 := Lib.hid hv2
              have hgr3 : X1.grownBy X2 (some B) := hgr2
              have HB2 := Lib.hid (HB1.out.grown hgr3 (by have := HB1.out.size; omega) (fun q hq => by injection hq with hq; omega))
              have HR2 := Lib.hid (HR1.out.keep (fun i hi => hgr3.block i (by omega) (fun e => by injection e; omega)))
              have hB2 : B ≤ X2.heap.size := Nat.le_trans hB1 hgr3.size
              clear hown2 hgr2 hgr3 hnil2 hv2
              refine hK _ _ ?_; clear hK K
              conv => arg 7; simp [Act.put]
              refine wpAny_ready (rs := [9]) (by kernel_rfl) (by simp) ?_
              refine AllReady.cons rfl (fun K hK => ?_) (AllReady.nil)
              refine step_append_own (by rfl) _ _ 35 (by rfl) B 3 i0 (.int .i64 0) 1 8 Try.underlying35 HI.out.1 HI.out.2.1 HI.out.2.2.1 HI.out.2.2.2 rfl (by decide) v2 a (intC (t.take a)) (by rfl) HO2.out ad2 (jj - (a + 1)) (c' - (a + 1)) (intC (t.drop (a + 1))) (by rfl) (by rw [intC_len, List.length_drop, ← HJL.out]; omega) (HRW2.out _ _ _ HR2.out HJL.out).news (intC_one _) (by unfold maxLen; omega) (by omega) hB2 ?_
              intro v3 X3 hown3 hgr3 hnil3
              have hv3 : v3 ≠ .slice none 0 0 := fun e => HV2.out (hnil3.1 e).1
              obtain ⟨g9, c9, rfl, hgc9, hgB9, hgl9⟩ := slice_ptr hown3 hv3
              have HB3 := Lib.hid (HB2.out.grown hgr3 (by have := HB2.out.size; omega) (fun q hq => by have := (HO2.out.lt q hq).1; omega))
              have e9 : intC (t.take a) ++ intC (t.drop (a + 1)) = intC (t.eraseIdx a) := by rw [← intC_app, List.eraseIdx_eq_take_drop_succ]
              rw [e9] at hown3
              have hle9 : a + (jj - (a + 1)) = (t.eraseIdx a).length := by have := HJL.out; rw [List.length_eraseIdx, if_pos (by omega)]; omega
              have hn9 : NwAt w (t.eraseIdx a) ⟨g9, 0, none⟩ (a + (jj - (a + 1))) c9 X3 := ⟨hle9, hgc9, RowAt.of_own hown3, HB3.out⟩
              have hs9 : a + (jj - (a + 1)) ≤ 5 := by omega
              have HN9 := Lib.hid hn9; clear hn9 hle9 e9 hown3 hgr3 hnil3 hv3
              refine hK _ _ ?_; clear hK K
              conv => arg 7; simp [Act.put]
              refine wpAny_take (i := 10) (v := ?_) rfl (by kernel_rfl) (by kernel_rfl) (by kernel_rfl) (fun _ _ _ h => h) (Or.inl ⟨by kernel_rfl, ?_⟩) ?_
              rotate_left
              · (intro w; go_simp; first | done | with_reducible rfl)
              conv => arg 7; simp [Act.put]
              refine wpAny_done (by kernel_rfl) ?_ _
              generalize t.eraseIdx a = t9 at *
              generalize a + (jj - (a + 1)) = mm9 at *
              obtain ⟨ad9, had9⟩ : ∃ ad9 : Addr, ad9 = ⟨g9, 0, none⟩ := ⟨_, rfl⟩
              rw [← had9] at HN9 ⊢
              clear had9
              generalize X3 = WX at *
              clear HND HB1 HR1 HO1 HO2 HB2 HR2 HB3 HV2 hB1 hB2 hwB hgc9 hgB9 hgl9 hcut hcut2 HRW2 HSP2
              have HSE9 := Lib.hid HSE.out; clear HSE
              have HN0 := Lib.hid (HN9.out.keep (Below.drew (Below.refl _ _)))
              have HLEN := Lib.hid HN9.out.len
              have hwx := HN9.out.hb.size
              have hmm9 : mm9 ≤ 5 := by omega
              go_wp2_with fail
              refine wp_region_any (by kernel_rfl) ?_
              try (change wpAny _ _ _ _ _ _ _ (World.drew _))
              generalize WX.drew = W0 at *
              have HB0 := Lib.hid HN0.out.hb
              have HR0 := Lib.hid HN0.out.row
              obtain ⟨B, hBe⟩ : ∃ B, B = W0.heap.size := ⟨_, rfl⟩
              have hB0 : B ≤ W0.heap.size := by omega
              have hwB : w.heap.size ≤ B := by have := HB0.out.size; omega
              clear hBe
              refine wpAny_take (i := 1) (v := ?_) rfl (by kernel_rfl) (by kernel_rfl) (by kernel_rfl) (fun _ _ _ h => h) (Or.inl ⟨by kernel_rfl, ?_⟩) ?_
              rotate_left
              · (intro w; go_simp; first | done | with_reducible rfl)
              conv => arg 7; simp [Act.put]
              refine wpAny_take (i := 3) (v := ?_) rfl (by kernel_rfl) (by kernel_rfl) (by kernel_rfl) (fun _ _ _ h => h) (Or.inl ⟨by kernel_rfl, ?_⟩) ?_
              rotate_left
              · (intro w; go_simp; first | done | with_reducible rfl)
              conv => arg 7; simp [Act.put]
              refine wpAny_take (i := 4) (v := ?_) rfl (by kernel_rfl) (by kernel_rfl) (by kernel_rfl) (fun _ _ _ h => h) (Or.inl ⟨by kernel_rfl, ?_⟩) ?_
              rotate_left
              · (intro w; go_simp; first | done | with_reducible rfl)
              conv => arg 7; simp [Act.put]
              refine wpAny_take (i := 5) (v := ?_) rfl (by kernel_rfl) (by kernel_rfl) (by kernel_rfl) (fun _ _ _ h => h) (Or.inl ⟨by kernel_rfl, ?_⟩) ?_
              rotate_left
              · (intro w; go_simp; first | done | with_reducible rfl)
              conv => arg 7; simp [Act.put]
              refine wpAny_ready (rs := [0, 6]) (by kernel_rfl) (by simp) ?_
              refine AllReady.cons rfl (fun K hK => ?_) (AllReady.cons rfl (fun K hK => ?_) (AllReady.nil))
              focus
                go_simp
                refine hK _ _ ?_; clear hK K
                have HB1 := Lib.hid (below_step2 HB0.out (below_new2 (.cells #[] 3)))
                have HR1 := Lib.hid ((HR0.out.below (below_new2 (a := W0) (.cells #[] 3))).mono (below_new2 (a := W0) (.cells #[] 3)).size)
                have hB1 : B ≤ (W0.alloc (.cells #[] 3)).heap.size := Nat.le_trans hB0 (below_new2 (.cells #[] 3)).size
                have HO1 := Lib.hid (World.ownsRow_made (base := B) (e := 3) (size := 1) W0 #[] 0 hB0 (by simp [maxLen]) rfl)
                have hg0 : W0.heap.size < (W0.alloc (.cells #[] 3)).heap.size := by simp
                generalize hg0e : W0.heap.size = g0 at *
                clear hg0e
                generalize W0.alloc (.cells #[] 3) = W1 at *
                refine wpAny_ready (rs := [2, 6]) (by kernel_rfl) (by simp) ?_
                refine AllReady.cons rfl (fun K hK => ?_) (AllReady.cons rfl (fun K hK => ?_) (AllReady.nil))
                focus
                  refine step_append_own (by rfl) _ _ 35 (by rfl) B 3 i0 (.int .i64 0) 1 8 Try.underlying35 HI.out.1 HI.out.2.1 HI.out.2.2.1 HI.out.2.2.2 rfl (by decide) (.slice (some ⟨g0, 0, none⟩) 0 0) 0 [] (by rfl) HO1.out ad9 mm9 c9 (intC t9) (by rfl) (by rw [intC_len, ← HLEN.out]; omega) HR1.out.news (intC_one t9) (by unfold maxLen; omega) (by omega) hB1 ?_
                  intro v2 W2 hown2 hgr2 hnil2
                  rw [List.nil_append, Nat.zero_add] at hown2
                  have HO2 := Lib.hid hown2
                  have hgr3 : W1.grownBy W2 (some g0) := hgr2
                  have HB2 := Lib.hid (HB1.out.grown hgr3 (by have := HB1.out.size; omega) (fun q hq => by injection hq with hq; have := (HO1.out.lt g0 rfl).1; omega))
                  have hB2 : B ≤ W2.heap.size := Nat.le_trans hB1 hgr3.size
                  clear hown2 hgr2 hgr3 hnil2
                  refine hK _ _ ?_; clear hK K
                  conv => arg 7; simp [Act.put]
                  refine wpAny_ready (rs := [6]) (by kernel_rfl) (by simp) ?_
                  refine AllReady.cons rfl (fun K hK => ?_) (AllReady.nil)
                  have e6 := HCE.out _ HB2.out
                  go_simp
                  refine hK _ _ ?_; clear hK K
                  clear e6
                  refine wpAny_ready (rs := [7]) (by kernel_rfl) (by simp) ?_
                  refine AllReady.cons rfl (fun K hK => ?_) (AllReady.nil)
                  go_simp
                  refine hK _ _ ?_; clear hK K
                  have HB3 := Lib.hid (below_step2 HB2.out (below_new2 (.cells #[.int .i64 x] 3)))
                  have hB3 : B ≤ (W2.alloc (.cells #[.int .i64 x] 3)).heap.size := Nat.le_trans hB2 (below_new2 (.cells #[.int .i64 x] 3)).size
                  have HX3 := Lib.hid (show (W2.alloc (.cells #[.int .i64 x] 3)).cell? ⟨W2.heap.size, 0, none⟩ = some (.int .i64 x) by simp)
                  have hgx : W2.heap.size < (W2.alloc (.cells #[.int .i64 x] 3)).heap.size := by simp
                  have HO3 := Lib.hid (HO2.out.alloc (.cells #[.int .i64 x] 3))
                  have hxv : v2.ownBlock ≠ some W2.heap.size := fun e => by have := (HO2.out.lt _ e).2; omega
                  generalize hgxe : W2.heap.size = gx at *
                  clear hgxe
                  generalize W2.alloc (.cells #[.int .i64 x] 3) = W3 at *
                  refine wpAny_ready (rs := [8]) (by kernel_rfl) (by simp) ?_
                  refine AllReady.cons rfl (fun K hK => ?_) (AllReady.nil)
                  refine step_append_own (by rfl) _ _ 35 (by rfl) B 3 i0 (.int .i64 0) 1 8 Try.underlying35 HI.out.1 HI.out.2.1 HI.out.2.2.1 HI.out.2.2.2 rfl (by decide) v2 mm9 (intC t9) (by rfl) HO3.out ⟨gx, 0, none⟩ 1 1 [.int .i64 x] (by rfl) (by rfl) (by intro j u hj; match j, hj with | 0, hj => simp at hj; subst hj; simpa [Addr.add] using HX3.out) (by intro u hu; simp at hu; subst hu; rfl) (by unfold maxLen; omega) (by omega) hB3 ?_
                  intro v3 W4 hown3 hgr3 hnil3
                  have HOV := Lib.hid hown3
                  have HBV := Lib.hid (HB3.out.grown hgr3 (by have := HB3.out.size; omega) (fun q hq => by have := (HO3.out.lt q hq).1; omega))
                  clear hown3 hgr3 hnil3
                  generalize W4 = WV at *
                  refine hK _ _ ?_; clear hK K
                  conv => arg 7; simp [Act.put]
                  refine wpAny_take (i := 9) (v := ?_) rfl (by kernel_rfl) (by kernel_rfl) (by kernel_rfl) (fun _ _ _ h => h) (Or.inl ⟨by kernel_rfl, ?_⟩) ?_
                  rotate_left
                  · (intro w; go_simp; first | done | with_reducible rfl)
                  conv => arg 7; simp [Act.put]
                  refine wpAny_done (by kernel_rfl) ?_ _
                rotate_left 1
                focus
                  have e6 := HCE.out _ HB1.out
                  go_simp
                  refine hK _ _ ?_; clear hK K
                  clear e6
                  refine wpAny_ready (rs := [2, 7]) (by kernel_rfl) (by simp) ?_
                  refine AllReady.cons rfl (fun K hK => ?_) (AllReady.cons rfl (fun K hK => ?_) (AllReady.nil))
                  focus
                    refine step_append_own (by rfl) _ _ 35 (by rfl) B 3 i0 (.int .i64 0) 1 8 Try.underlying35 HI.out.1 HI.out.2.1 HI.out.2.2.1 HI.out.2.2.2 rfl (by decide) (.slice (some ⟨g0, 0, none⟩) 0 0) 0 [] (by rfl) HO1.out ad9 mm9 c9 (intC t9) (by rfl) (by rw [intC_len, ← HLEN.out]; omega) HR1.out.news (intC_one t9) (by unfold maxLen; omega) (by omega) hB1 ?_
                    intro v2 W2 hown2 hgr2 hnil2
                    rw [List.nil_append, Nat.zero_add] at hown2
                    have HO2 := Lib.hid hown2
                    have hgr3 : W1.grownBy W2 (some g0) := hgr2
                    have HB2 := Lib.hid (HB1.out.grown hgr3 (by have := HB1.out.size; omega) (fun q hq => by injection hq with hq; have := (HO1.out.lt g0 rfl).1; omega))
                    have hB2 : B ≤ W2.heap.size := Nat.le_trans hB1 hgr3.size
                    clear hown2 hgr2 hgr3 hnil2
                    refine hK _ _ ?_; clear hK K
                    conv => arg 7; simp [Act.put]
                    refine wpAny_ready (rs := [7]) (by kernel_rfl) (by simp) ?_
                    refine AllReady.cons rfl (fun K hK => ?_) (AllReady.nil)
                    go_simp
                    refine hK _ _ ?_; clear hK K
                    have HB3 := Lib.hid (below_step2 HB2.out (below_new2 (.cells #[.int .i64 x] 3)))
                    have hB3 : B ≤ (W2.alloc (.cells #[.int .i64 x] 3)).heap.size := Nat.le_trans hB2 (below_new2 (.cells #[.int .i64 x] 3)).size
                    have HX3 := Lib.hid (show (W2.alloc (.cells #[.int .i64 x] 3)).cell? ⟨W2.heap.size, 0, none⟩ = some (.int .i64 x) by simp)
                    have hgx : W2.heap.size < (W2.alloc (.cells #[.int .i64 x] 3)).heap.size := by simp
                    have HO3 := Lib.hid (HO2.out.alloc (.cells #[.int .i64 x] 3))
                    have hxv : v2.ownBlock ≠ some W2.heap.size := fun e => by have := (HO2.out.lt _ e).2; omega
                    generalize hgxe : W2.heap.size = gx at *
                    clear hgxe
                    generalize W2.alloc (.cells #[.int .i64 x] 3) = W3 at *
                    refine wpAny_ready (rs := [8]) (by kernel_rfl) (by simp) ?_
                    refine AllReady.cons rfl (fun K hK => ?_) (AllReady.nil)
                    refine step_append_own (by rfl) _ _ 35 (by rfl) B 3 i0 (.int .i64 0) 1 8 Try.underlying35 HI.out.1 HI.out.2.1 HI.out.2.2.1 HI.out.2.2.2 rfl (by decide) v2 mm9 (intC t9) (by rfl) HO3.out ⟨gx, 0, none⟩ 1 1 [.int .i64 x] (by rfl) (by rfl) (by intro j u hj; match j, hj with | 0, hj => simp at hj; subst hj; simpa [Addr.add] using HX3.out) (by intro u hu; simp at hu; subst hu; rfl) (by unfold maxLen; omega) (by omega) hB3 ?_
                    intro v3 W4 hown3 hgr3 hnil3
                    have HOV := Lib.hid hown3
                    have HBV := Lib.hid (HB3.out.grown hgr3 (by have := HB3.out.size; omega) (fun q hq => by have := (HO3.out.lt q hq).1; omega))
                    clear hown3 hgr3 hnil3
                    generalize W4 = WV at *
                    refine hK _ _ ?_; clear hK K
                    conv => arg 7; simp [Act.put]
                    refine wpAny_take (i := 9) (v := ?_) rfl (by kernel_rfl) (by kernel_rfl) (by kernel_rfl) (fun _ _ _ h => h) (Or.inl ⟨by kernel_rfl, ?_⟩) ?_
                    rotate_left
                    · (intro w; go_simp; first | done | with_reducible rfl)
                    conv => arg 7; simp [Act.put]
                    refine wpAny_done (by kernel_rfl) ?_ _
                  rotate_left 1
                  focus
                    go_simp
                    refine hK _ _ ?_; clear hK K
                    have HB2 := Lib.hid (below_step2 HB1.out (below_new2 (.cells #[.int .i64 x] 3)))
                    have HR2 := Lib.hid ((HR1.out.below (below_new2 (a := W1) (.cells #[.int .i64 x] 3))).mono (below_new2 (a := W1) (.cells #[.int .i64 x] 3)).size)
                    have hB2 : B ≤ (W1.alloc (.cells #[.int .i64 x] 3)).heap.size := Nat.le_trans hB1 (below_new2 (.cells #[.int .i64 x] 3)).size
                    have HX2 := Lib.hid (show (W1.alloc (.cells #[.int .i64 x] 3)).cell? ⟨W1.heap.size, 0, none⟩ = some (.int .i64 x) by simp)
                    have hgx : W1.heap.size < (W1.alloc (.cells #[.int .i64 x] 3)).heap.size := by simp
                    have HO2 := Lib.hid (HO1.out.alloc (.cells #[.int .i64 x] 3))
                    have hxg : W1.heap.size ≠ g0 := by omega
                    have hg0' := Nat.lt_of_lt_of_le hg0 (below_new2 (a := W1) (.cells #[.int .i64 x] 3)).size
                    clear hg0
                    have hg0 := hg0'
                    clear hg0'
                    generalize hgxe : W1.heap.size = gx at *
                    clear hgxe
                    generalize W1.alloc (.cells #[.int .i64 x] 3) = W2 at *
                    refine wpAny_ready (rs := [2]) (by kernel_rfl) (by simp) ?_
                    refine AllReady.cons rfl (fun K hK => ?_) (AllReady.nil)
                    refine step_append_own (by rfl) _ _ 35 (by rfl) B 3 i0 (.int .i64 0) 1 8 Try.underlying35 HI.out.1 HI.out.2.1 HI.out.2.2.1 HI.out.2.2.2 rfl (by decide) (.slice (some ⟨g0, 0, none⟩) 0 0) 0 [] (by rfl) HO2.out ad9 mm9 c9 (intC t9) (by rfl) (by rw [intC_len, ← HLEN.out]; omega) HR2.out.news (intC_one t9) (by unfold maxLen; omega) (by omega) hB2 ?_
                    intro v2 W3 hown2 hgr2 hnil2
                    rw [List.nil_append, Nat.zero_add] at hown2
                    have HO3 := Lib.hid hown2
                    have hgr3 : W2.grownBy W3 (some g0) := hgr2
                    have HB3 := Lib.hid (HB2.out.grown hgr3 (by have := HB2.out.size; omega) (fun q hq => by injection hq with hq; have := (HO2.out.lt g0 rfl).1; omega))
                    have hB3 : B ≤ W3.heap.size := Nat.le_trans hB2 hgr3.size
                    have HX3 := Lib.hid (hgr3.cell HX2.out (fun e => hxg (by injection e)))
                    clear hown2 hgr2 hgr3 hnil2
                    refine hK _ _ ?_; clear hK K
                    conv => arg 7; simp [Act.put]
                    refine wpAny_ready (rs := [8]) (by kernel_rfl) (by simp) ?_
                    refine AllReady.cons rfl (fun K hK => ?_) (AllReady.nil)
                    refine step_append_own (by rfl) _ _ 35 (by rfl) B 3 i0 (.int .i64 0) 1 8 Try.underlying35 HI.out.1 HI.out.2.1 HI.out.2.2.1 HI.out.2.2.2 rfl (by decide) v2 mm9 (intC t9) (by rfl) HO3.out ⟨gx, 0, none⟩ 1 1 [.int .i64 x] (by rfl) (by rfl) (by intro j u hj; match j, hj with | 0, hj => simp at hj; subst hj; simpa [Addr.add] using HX3.out) (by intro u hu; simp at hu; subst hu; rfl) (by unfold maxLen; omega) (by omega) hB3 ?_
                    intro v3 W4 hown3 hgr3 hnil3
                    have HOV := Lib.hid hown3
                    have HBV := Lib.hid (HB3.out.grown hgr3 (by have := HB3.out.size; omega) (fun q hq => by have := (HO3.out.lt q hq).1; omega))
                    clear hown3 hgr3 hnil3
                    generalize W4 = WV at *
                    refine hK _ _ ?_; clear hK K
                    conv => arg 7; simp [Act.put]
                    refine wpAny_take (i := 9) (v := ?_) rfl (by kernel_rfl) (by kernel_rfl) (by kernel_rfl) (fun _ _ _ h => h) (Or.inl ⟨by kernel_rfl, ?_⟩) ?_
                    rotate_left
                    · (intro w; go_simp; first | done | with_reducible rfl)
                    conv => arg 7; simp [Act.put]
                    refine wpAny_done (by kernel_rfl) ?_ _
                  rotate_left 1
                rotate_left 2
              rotate_left 3
              focus
                have e6 := HCE.out _ HB0.out
                go_simp
                refine hK _ _ ?_; clear hK K
                clear e6
                refine wpAny_ready (rs := [0, 7]) (by kernel_rfl) (by simp) ?_
                refine AllReady.cons rfl (fun K hK => ?_) (AllReady.cons rfl (fun K hK => ?_) (AllReady.nil))
                focus
                  go_simp
                  refine hK _ _ ?_; clear hK K
                  have HB1 := Lib.hid (below_step2 HB0.out (below_new2 (.cells #[] 3)))
                  have HR1 := Lib.hid ((HR0.out.below (below_new2 (a := W0) (.cells #[] 3))).mono (below_new2 (a := W0) (.cells #[] 3)).size)
                  have hB1 : B ≤ (W0.alloc (.cells #[] 3)).heap.size := Nat.le_trans hB0 (below_new2 (.cells #[] 3)).size
                  have HO1 := Lib.hid (World.ownsRow_made (base := B) (e := 3) (size := 1) W0 #[] 0 hB0 (by simp [maxLen]) rfl)
                  have hg0 : W0.heap.size < (W0.alloc (.cells #[] 3)).heap.size := by simp
                  generalize hg0e : W0.heap.size = g0 at *
                  clear hg0e
                  generalize W0.alloc (.cells #[] 3) = W1 at *
                  refine wpAny_ready (rs := [2, 7]) (by kernel_rfl) (by simp) ?_
                  refine AllReady.cons rfl (fun K hK => ?_) (AllReady.cons rfl (fun K hK => ?_) (AllReady.nil))
                  focus
                    refine step_append_own (by rfl) _ _ 35 (by rfl) B 3 i0 (.int .i64 0) 1 8 Try.underlying35 HI.out.1 HI.out.2.1 HI.out.2.2.1 HI.out.2.2.2 rfl (by decide) (.slice (some ⟨g0, 0, none⟩) 0 0) 0 [] (by rfl) HO1.out ad9 mm9 c9 (intC t9) (by rfl) (by rw [intC_len, ← HLEN.out]; omega) HR1.out.news (intC_one t9) (by unfold maxLen; omega) (by omega) hB1 ?_
                    intro v2 W2 hown2 hgr2 hnil2
                    rw [List.nil_append, Nat.zero_add] at hown2
                    have HO2 := Lib.hid hown2
                    have hgr3 : W1.grownBy W2 (some g0) := hgr2
                    have HB2 := Lib.hid (HB1.out.grown hgr3 (by have := HB1.out.size; omega) (fun q hq => by injection hq with hq; have := (HO1.out.lt g0 rfl).1; omega))
                    have hB2 : B ≤ W2.heap.size := Nat.le_trans hB1 hgr3.size
                    clear hown2 hgr2 hgr3 hnil2
                    refine hK _ _ ?_; clear hK K
                    conv => arg 7; simp [Act.put]
                    refine wpAny_ready (rs := [7]) (by kernel_rfl) (by simp) ?_
                    refine AllReady.cons rfl (fun K hK => ?_) (AllReady.nil)
                    go_simp
                    refine hK _ _ ?_; clear hK K
                    have HB3 := Lib.hid (below_step2 HB2.out (below_new2 (.cells #[.int .i64 x] 3)))
                    have hB3 : B ≤ (W2.alloc (.cells #[.int .i64 x] 3)).heap.size := Nat.le_trans hB2 (below_new2 (.cells #[.int .i64 x] 3)).size
                    have HX3 := Lib.hid (show (W2.alloc (.cells #[.int .i64 x] 3)).cell? ⟨W2.heap.size, 0, none⟩ = some (.int .i64 x) by simp)
                    have hgx : W2.heap.size < (W2.alloc (.cells #[.int .i64 x] 3)).heap.size := by simp
                    have HO3 := Lib.hid (HO2.out.alloc (.cells #[.int .i64 x] 3))
                    have hxv : v2.ownBlock ≠ some W2.heap.size := fun e => by have := (HO2.out.lt _ e).2; omega
                    generalize hgxe : W2.heap.size = gx at *
                    clear hgxe
                    generalize W2.alloc (.cells #[.int .i64 x] 3) = W3 at *
                    refine wpAny_ready (rs := [8]) (by kernel_rfl) (by simp) ?_
                    refine AllReady.cons rfl (fun K hK => ?_) (AllReady.nil)
                    refine step_append_own (by rfl) _ _ 35 (by rfl) B 3 i0 (.int .i64 0) 1 8 Try.underlying35 HI.out.1 HI.out.2.1 HI.out.2.2.1 HI.out.2.2.2 rfl (by decide) v2 mm9 (intC t9) (by rfl) HO3.out ⟨gx, 0, none⟩ 1 1 [.int .i64 x] (by rfl) (by rfl) (by intro j u hj; match j, hj with | 0, hj => simp at hj; subst hj; simpa [Addr.add] using HX3.out) (by intro u hu; simp at hu; subst hu; rfl) (by unfold maxLen; omega) (by omega) hB3 ?_
                    intro v3 W4 hown3 hgr3 hnil3
                    have HOV := Lib.hid hown3
                    have HBV := Lib.hid (HB3.out.grown hgr3 (by have := HB3.out.size; omega) (fun q hq => by have := (HO3.out.lt q hq).1; omega))
                    clear hown3 hgr3 hnil3
                    generalize W4 = WV at *
                    refine hK _ _ ?_; clear hK K
                    conv => arg 7; simp [Act.put]
                    refine wpAny_take (i := 9) (v := ?_) rfl (by kernel_rfl) (by kernel_rfl) (by kernel_rfl) (fun _ _ _ h => h) (Or.inl ⟨by kernel_rfl, ?_⟩) ?_
                    rotate_left
                    · (intro w; go_simp; first | done | with_reducible rfl)
                    conv => arg 7; simp [Act.put]
                    refine wpAny_done (by kernel_rfl) ?_ _
                  rotate_left 1
                  focus
                    go_simp
                    refine hK _ _ ?_; clear hK K
                    have HB2 := Lib.hid (below_step2 HB1.out (below_new2 (.cells #[.int .i64 x] 3)))
                    have HR2 := Lib.hid ((HR1.out.below (below_new2 (a := W1) (.cells #[.int .i64 x] 3))).mono (below_new2 (a := W1) (.cells #[.int .i64 x] 3)).size)
                    have hB2 : B ≤ (W1.alloc (.cells #[.int .i64 x] 3)).heap.size := Nat.le_trans hB1 (below_new2 (.cells #[.int .i64 x] 3)).size
                    have HX2 := Lib.hid (show (W1.alloc (.cells #[.int .i64 x] 3)).cell? ⟨W1.heap.size, 0, none⟩ = some (.int .i64 x) by simp)
                    have hgx : W1.heap.size < (W1.alloc (.cells #[.int .i64 x] 3)).heap.size := by simp
                    have HO2 := Lib.hid (HO1.out.alloc (.cells #[.int .i64 x] 3))
                    have hxg : W1.heap.size ≠ g0 := by omega
                    have hg0' := Nat.lt_of_lt_of_le hg0 (below_new2 (a := W1) (.cells #[.int .i64 x] 3)).size
                    clear hg0
                    have hg0 := hg0'
                    clear hg0'
                    generalize hgxe : W1.heap.size = gx at *
                    clear hgxe
                    generalize W1.alloc (.cells #[.int .i64 x] 3) = W2 at *
                    refine wpAny_ready (rs := [2]) (by kernel_rfl) (by simp) ?_
                    refine AllReady.cons rfl (fun K hK => ?_) (AllReady.nil)
                    refine step_append_own (by rfl) _ _ 35 (by rfl) B 3 i0 (.int .i64 0) 1 8 Try.underlying35 HI.out.1 HI.out.2.1 HI.out.2.2.1 HI.out.2.2.2 rfl (by decide) (.slice (some ⟨g0, 0, none⟩) 0 0) 0 [] (by rfl) HO2.out ad9 mm9 c9 (intC t9) (by rfl) (by rw [intC_len, ← HLEN.out]; omega) HR2.out.news (intC_one t9) (by unfold maxLen; omega) (by omega) hB2 ?_
                    intro v2 W3 hown2 hgr2 hnil2
                    rw [List.nil_append, Nat.zero_add] at hown2
                    have HO3 := Lib.hid hown2
                    have hgr3 : W2.grownBy W3 (some g0) := hgr2
                    have HB3 := Lib.hid (HB2.out.grown hgr3 (by have := HB2.out.size; omega) (fun q hq => by injection hq with hq; have := (HO2.out.lt g0 rfl).1; omega))
                    have hB3 : B ≤ W3.heap.size := Nat.le_trans hB2 hgr3.size
                    have HX3 := Lib.hid (hgr3.cell HX2.out (fun e => hxg (by injection e)))
                    clear hown2 hgr2 hgr3 hnil2
                    refine hK _ _ ?_; clear hK K
                    conv => arg 7; simp [Act.put]
                    refine wpAny_ready (rs := [8]) (by kernel_rfl) (by simp) ?_
                    refine AllReady.cons rfl (fun K hK => ?_) (AllReady.nil)
                    refine step_append_own (by rfl) _ _ 35 (by rfl) B 3 i0 (.int .i64 0) 1 8 Try.underlying35 HI.out.1 HI.out.2.1 HI.out.2.2.1 HI.out.2.2.2 rfl (by decide) v2 mm9 (intC t9) (by rfl) HO3.out ⟨gx, 0, none⟩ 1 1 [.int .i64 x] (by rfl) (by rfl) (by intro j u hj; match j, hj with | 0, hj => simp at hj; subst hj; simpa [Addr.add] using HX3.out) (by intro u hu; simp at hu; subst hu; rfl) (by unfold maxLen; omega) (by omega) hB3 ?_
                    intro v3 W4 hown3 hgr3 hnil3
                    have HOV := Lib.hid hown3
                    have HBV := Lib.hid (HB3.out.grown hgr3 (by have := HB3.out.size; omega) (fun q hq => by have := (HO3.out.lt q hq).1; omega))
                    clear hown3 hgr3 hnil3
                    generalize W4 = WV at *
                    refine hK _ _ ?_; clear hK K
                    conv => arg 7; simp [Act.put]
                    refine wpAny_take (i := 9) (v := ?_) rfl (by kernel_rfl) (by kernel_rfl) (by kernel_rfl) (fun _ _ _ h => h) (Or.inl ⟨by kernel_rfl, ?_⟩) ?_
                    rotate_left
                    · (intro w; go_simp; first | done | with_reducible rfl)
                    conv => arg 7; simp [Act.put]
                    refine wpAny_done (by kernel_rfl) ?_ _
                  rotate_left 1
                rotate_left 2
                focus
                  go_simp
                  refine hK _ _ ?_; clear hK K
                  have HB1 := Lib.hid (below_step2 HB0.out (below_new2 (.cells #[.int .i64 x] 3)))
                  have HR1 := Lib.hid ((HR0.out.below (below_new2 (a := W0) (.cells #[.int .i64 x] 3))).mono (below_new2 (a := W0) (.cells #[.int .i64 x] 3)).size)
                  have hB1 : B ≤ (W0.alloc (.cells #[.int .i64 x] 3)).heap.size := Nat.le_trans hB0 (below_new2 (.cells #[.int .i64 x] 3)).size
                  have HX1 := Lib.hid (show (W0.alloc (.cells #[.int .i64 x] 3)).cell? ⟨W0.heap.size, 0, none⟩ = some (.int .i64 x) by simp)
                  have hgx : W0.heap.size < (W0.alloc (.cells #[.int .i64 x] 3)).heap.size := by simp
                  generalize hgxe : W0.heap.size = gx at *
                  clear hgxe
                  generalize W0.alloc (.cells #[.int .i64 x] 3) = W1 at *
                  refine wpAny_ready (rs := [0]) (by kernel_rfl) (by simp) ?_
                  refine AllReady.cons rfl (fun K hK => ?_) (AllReady.nil)
                  go_simp
                  refine hK _ _ ?_; clear hK K
                  have HB2 := Lib.hid (below_step2 HB1.out (below_new2 (.cells #[] 3)))
                  have HR2 := Lib.hid ((HR1.out.below (below_new2 (a := W1) (.cells #[] 3))).mono (below_new2 (a := W1) (.cells #[] 3)).size)
                  have hB2 : B ≤ (W1.alloc (.cells #[] 3)).heap.size := Nat.le_trans hB1 (below_new2 (.cells #[] 3)).size
                  have HO2 := Lib.hid (World.ownsRow_made (base := B) (e := 3) (size := 1) W1 #[] 0 hB1 (by simp [maxLen]) rfl)
                  have hg0 : W1.heap.size < (W1.alloc (.cells #[] 3)).heap.size := by simp
                  have HX2 := Lib.hid ((below_cell2 (below_new2 (a := W1) (.cells #[] 3)) hgx).trans HX1.out)
                  have hxg : gx ≠ W1.heap.size := by omega
                  have hgx' := Nat.lt_of_lt_of_le hgx (below_new2 (a := W1) (.cells #[] 3)).size
                  clear hgx
                  have hgx := hgx'
                  clear hgx'
                  generalize hg0e : W1.heap.size = g0 at *
                  clear hg0e
                  generalize W1.alloc (.cells #[] 3) = W2 at *
                  refine wpAny_ready (rs := [2]) (by kernel_rfl) (by simp) ?_
                  refine AllReady.cons rfl (fun K hK => ?_) (AllReady.nil)
                  refine step_append_own (by rfl) _ _ 35 (by rfl) B 3 i0 (.int .i64 0) 1 8 Try.underlying35 HI.out.1 HI.out.2.1 HI.out.2.2.1 HI.out.2.2.2 rfl (by decide) (.slice (some ⟨g0, 0, none⟩) 0 0) 0 [] (by rfl) HO2.out ad9 mm9 c9 (intC t9) (by rfl) (by rw [intC_len, ← HLEN.out]; omega) HR2.out.news (intC_one t9) (by unfold maxLen; omega) (by omega) hB2 ?_
                  intro v2 W3 hown2 hgr2 hnil2
                  rw [List.nil_append, Nat.zero_add] at hown2
                  have HO3 := Lib.hid hown2
                  have hgr3 : W2.grownBy W3 (some g0) := hgr2
                  have HB3 := Lib.hid (HB2.out.grown hgr3 (by have := HB2.out.size; omega) (fun q hq => by injection hq with hq; have := (HO2.out.lt g0 rfl).1; omega))
                  have hB3 : B ≤ W3.heap.size := Nat.le_trans hB2 hgr3.size
                  have HX3 := Lib.hid (hgr3.cell HX2.out (fun e => hxg (by injection e)))
                  clear hown2 hgr2 hgr3 hnil2
                  refine hK _ _ ?_; clear hK K
                  conv => arg 7; simp [Act.put]
                  refine wpAny_ready (rs := [8]) (by kernel_rfl) (by simp) ?_
                  refine AllReady.cons rfl (fun K hK => ?_) (AllReady.nil)
                  refine step_append_own (by rfl) _ _ 35 (by rfl) B 3 i0 (.int .i64 0) 1 8 Try.underlying35 HI.out.1 HI.out.2.1 HI.out.2.2.1 HI.out.2.2.2 rfl (by decide) v2 mm9 (intC t9) (by rfl) HO3.out ⟨gx, 0, none⟩ 1 1 [.int .i64 x] (by rfl) (by rfl) (by intro j u hj; match j, hj with | 0, hj => simp at hj; subst hj; simpa [Addr.add] using HX3.out) (by intro u hu; simp at hu; subst hu; rfl) (by unfold maxLen; omega) (by omega) hB3 ?_
                  intro v3 W4 hown3 hgr3 hnil3
                  have HOV := Lib.hid hown3
                  have HBV := Lib.hid (HB3.out.grown hgr3 (by have := HB3.out.size; omega) (fun q hq => by have := (HO3.out.lt q hq).1; omega))
                  clear hown3 hgr3 hnil3
                  generalize W4 = WV at *
                  refine hK _ _ ?_; clear hK K
                  conv => arg 7; simp [Act.put]
                  refine wpAny_take (i := 9) (v := ?_) rfl (by kernel_rfl) (by kernel_rfl) (by kernel_rfl) (fun _ _ _ h => h) (Or.inl ⟨by kernel_rfl, ?_⟩) ?_
                  rotate_left
                  · (intro w; go_simp; first | done | with_reducible rfl)
                  conv => arg 7; simp [Act.put]
                  refine wpAny_done (by kernel_rfl) ?_ _
                rotate_left 1
              rotate_left 3
              all_goals
                obtain ⟨T9, cc9, hv9⟩ := slice_form HOV.out (by omega)
                subst hv9
                obtain ⟨adz, hadz, hspz, hnz⟩ := NwAt.of_own (w := w) (t := t9 ++ [x]) (by rw [intC_app]; exact HOV.out) (by have := HLEN.out; simp; omega) (by omega) HBV.out
                subst hadz
                have HNZ := Lib.hid hnz; have HSPZ := Lib.hid hspz; clear hnz hspz HOV
                go_wp2_with fail
                go_roundw
                case rel => exact ⟨k + 1, mm9 + 1, adz, cc9, by omega, by go_num, by rw [HSE9.out]; try first | rfl | go_num, rfl, HSPZ.out, by rw [HSE9.out]; exact HNZ.out⟩
                case measure => simp [intOf]; omega
            · have hvn : v < 0 := by omega
              have HSE := Lib.hid (HSM2.out hvn); clear HST2 HSM2 hv0
              by_cases hf : jj = M
              · have HSE9 := Lib.hid (show oldS M l (k + 1) = (t.drop 1 ++ [x], mc + 1) by rw [HSE.out, if_pos (by rw [← HNW.out.len]; exact hf)])
                have qf : ((jj : Int) == (M : Int)) = true := by simp; omega
                obtain ⟨ad9, hsp9, hcut9, hrw9⟩ := cutTail1_any ad jj c' 1 (1 : Int) (by omega) (by omega) hmc HSP.out
                have HN9 := Lib.hid (show NwAt w (t.drop 1) ad9 (jj - 1) (c' - 1) wr from ⟨by rw [List.length_drop, ← HNW.out.len], by omega, hrw9 _ _ _ HNQ.out.row HNW.out.len, HNQ.out.hb⟩)
                clear hrw9 hsp9 hf
                go_wp2_with fail
                clear hcut9
                generalize t.drop 1 = t9 at *
                have hjm : jj - 1 ≤ 5 := by omega
                generalize jj - 1 = mm9 at *
                generalize c' - 1 = c9 at *
                generalize wr = WX at *
                have HN0 := Lib.hid (HN9.out.keep (Below.drew (Below.refl _ _)))
                have HLEN := Lib.hid HN9.out.len
                have hwx := HN9.out.hb.size
                have hmm9 : mm9 ≤ 5 := by omega
                go_wp2_with fail
                refine wp_region_any (by kernel_rfl) ?_
                try (change wpAny _ _ _ _ _ _ _ (World.drew _))
                generalize WX.drew = W0 at *
                have HB0 := Lib.hid HN0.out.hb
                have HR0 := Lib.hid HN0.out.row
                obtain ⟨B, hBe⟩ : ∃ B, B = W0.heap.size := ⟨_, rfl⟩
                have hB0 : B ≤ W0.heap.size := by omega
                have hwB : w.heap.size ≤ B := by have := HB0.out.size; omega
                clear hBe
                refine wpAny_take (i := 1) (v := ?_) rfl (by kernel_rfl) (by kernel_rfl) (by kernel_rfl) (fun _ _ _ h => h) (Or.inl ⟨by kernel_rfl, ?_⟩) ?_
                rotate_left
                · (intro w; go_simp; first | done | with_reducible rfl)
                conv => arg 7; simp [Act.put]
                refine wpAny_take (i := 3) (v := ?_) rfl (by kernel_rfl) (by kernel_rfl) (by kernel_rfl) (fun _ _ _ h => h) (Or.inl ⟨by kernel_rfl, ?_⟩) ?_
                rotate_left
                · (intro w; go_simp; first | done | with_reducible rfl)
                conv => arg 7; simp [Act.put]
                refine wpAny_take (i := 4) (v := ?_) rfl (by kernel_rfl) (by kernel_rfl) (by kernel_rfl) (fun _ _ _ h => h) (Or.inl ⟨by kernel_rfl, ?_⟩) ?_
                rotate_left
                · (intro w; go_simp; first | done | with_reducible rfl)
                conv => arg 7; simp [Act.put]
                refine wpAny_take (i := 5) (v := ?_) rfl (by kernel_rfl) (by kernel_rfl) (by kernel_rfl) (fun _ _ _ h => h) (Or.inl ⟨by kernel_rfl, ?_⟩) ?_
                rotate_left
                · (intro w; go_simp; first | done | with_reducible rfl)
                conv => arg 7; simp [Act.put]
                refine wpAny_ready (rs := [0, 6]) (by kernel_rfl) (by simp) ?_
                refine AllReady.cons rfl (fun K hK => ?_) (AllReady.cons rfl (fun K hK => ?_) (AllReady.nil))
                focus
                  go_simp
                  refine hK _ _ ?_; clear hK K
                  have HB1 := Lib.hid (below_step2 HB0.out (below_new2 (.cells #[] 3)))
                  have HR1 := Lib.hid ((HR0.out.below (below_new2 (a := W0) (.cells #[] 3))).mono (below_new2 (a := W0) (.cells #[] 3)).size)
                  have hB1 : B ≤ (W0.alloc (.cells #[] 3)).heap.size := Nat.le_trans hB0 (below_new2 (.cells #[] 3)).size
                  have HO1 := Lib.hid (World.ownsRow_made (base := B) (e := 3) (size := 1) W0 #[] 0 hB0 (by simp [maxLen]) rfl)
                  have hg0 : W0.heap.size < (W0.alloc (.cells #[] 3)).heap.size := by simp
                  generalize hg0e : W0.heap.size = g0 at *
                  clear hg0e
                  generalize W0.alloc (.cells #[] 3) = W1 at *
                  refine wpAny_ready (rs := [2, 6]) (by kernel_rfl) (by simp) ?_
                  refine AllReady.cons rfl (fun K hK => ?_) (AllReady.cons rfl (fun K hK => ?_) (AllReady.nil))
                  focus
                    refine step_append_own (by rfl) _ _ 35 (by rfl) B 3 i0 (.int .i64 0) 1 8 Try.underlying35 HI.out.1 HI.out.2.1 HI.out.2.2.1 HI.out.2.2.2 rfl (by decide) (.slice (some ⟨g0, 0, none⟩) 0 0) 0 [] (by rfl) HO1.out ad9 mm9 c9 (intC t9) (by rfl) (by rw [intC_len, ← HLEN.out]; omega) HR1.out.news (intC_one t9) (by unfold maxLen; omega) (by omega) hB1 ?_
                    intro v2 W2 hown2 hgr2 hnil2
                    rw [List.nil_append, Nat.zero_add] at hown2
                    have HO2 := Lib.hid hown2
                    have hgr3 : W1.grownBy W2 (some g0) := hgr2
                    have HB2 := Lib.hid (HB1.out.grown hgr3 (by have := HB1.out.size; omega) (fun q hq => by injection hq with hq; have := (HO1.out.lt g0 rfl).1; omega))
                    have hB2 : B ≤ W2.heap.size := Nat.le_trans hB1 hgr3.size
                    clear hown2 hgr2 hgr3 hnil2
                    refine hK _ _ ?_; clear hK K
                    conv => arg 7; simp [Act.put]
                    refine wpAny_ready (rs := [6]) (by kernel_rfl) (by simp) ?_
                    refine AllReady.cons rfl (fun K hK => ?_) (AllReady.nil)
                    have e6 := HCE.out _ HB2.out
                    go_simp
                    refine hK _ _ ?_; clear hK K
                    clear e6
                    refine wpAny_ready (rs := [7]) (by kernel_rfl) (by simp) ?_
                    refine AllReady.cons rfl (fun K hK => ?_) (AllReady.nil)
                    go_simp
                    refine hK _ _ ?_; clear hK K
                    have HB3 := Lib.hid (below_step2 HB2.out (below_new2 (.cells #[.int .i64 x] 3)))
                    have hB3 : B ≤ (W2.alloc (.cells #[.int .i64 x] 3)).heap.size := Nat.le_trans hB2 (below_new2 (.cells #[.int .i64 x] 3)).size
                    have HX3 := Lib.hid (show (W2.alloc (.cells #[.int .i64 x] 3)).cell? ⟨W2.heap.size, 0, none⟩ = some (.int .i64 x) by simp)
                    have hgx : W2.heap.size < (W2.alloc (.cells #[.int .i64 x] 3)).heap.size := by simp
                    have HO3 := Lib.hid (HO2.out.alloc (.cells #[.int .i64 x] 3))
                    have hxv : v2.ownBlock ≠ some W2.heap.size := fun e => by have := (HO2.out.lt _ e).2; omega
                    generalize hgxe : W2.heap.size = gx at *
                    clear hgxe
                    generalize W2.alloc (.cells #[.int .i64 x] 3) = W3 at *
                    refine wpAny_ready (rs := [8]) (by kernel_rfl) (by simp) ?_
                    refine AllReady.cons rfl (fun K hK => ?_) (AllReady.nil)
                    refine step_append_own (by rfl) _ _ 35 (by rfl) B 3 i0 (.int .i64 0) 1 8 Try.underlying35 HI.out.1 HI.out.2.1 HI.out.2.2.1 HI.out.2.2.2 rfl (by decide) v2 mm9 (intC t9) (by rfl) HO3.out ⟨gx, 0, none⟩ 1 1 [.int .i64 x] (by rfl) (by rfl) (by intro j u hj; match j, hj with | 0, hj => simp at hj; subst hj; simpa [Addr.add] using HX3.out) (by intro u hu; simp at hu; subst hu; rfl) (by unfold maxLen; omega) (by omega) hB3 ?_
                    intro v3 W4 hown3 hgr3 hnil3
                    have HOV := Lib.hid hown3
                    have HBV := Lib.hid (HB3.out.grown hgr3 (by have := HB3.out.size; omega) (fun q hq => by have := (HO3.out.lt q hq).1; omega))
                    clear hown3 hgr3 hnil3
                    generalize W4 = WV at *
                    refine hK _ _ ?_; clear hK K
                    conv => arg 7; simp [Act.put]
                    refine wpAny_take (i := 9) (v := ?_) rfl (by kernel_rfl) (by kernel_rfl) (by kernel_rfl) (fun _ _ _ h => h) (Or.inl ⟨by kernel_rfl, ?_⟩) ?_
                    rotate_left
                    · (intro w; go_simp; first | done | with_reducible rfl)
                    conv => arg 7; simp [Act.put]
                    refine wpAny_done (by kernel_rfl) ?_ _
                  rotate_left 1
                  focus
                    have e6 := HCE.out _ HB1.out
                    go_simp
                    refine hK _ _ ?_; clear hK K
                    clear e6
                    refine wpAny_ready (rs := [2, 7]) (by kernel_rfl) (by simp) ?_
                    refine AllReady.cons rfl (fun K hK => ?_) (AllReady.cons rfl (fun K hK => ?_) (AllReady.nil))
                    focus
                      refine step_append_own (by rfl) _ _ 35 (by rfl) B 3 i0 (.int .i64 0) 1 8 Try.underlying35 HI.out.1 HI.out.2.1 HI.out.2.2.1 HI.out.2.2.2 rfl (by decide) (.slice (some ⟨g0, 0, none⟩) 0 0) 0 [] (by rfl) HO1.out ad9 mm9 c9 (intC t9) (by rfl) (by rw [intC_len, ← HLEN.out]; omega) HR1.out.news (intC_one t9) (by unfold maxLen; omega) (by omega) hB1 ?_
                      intro v2 W2 hown2 hgr2 hnil2
                      rw [List.nil_append, Nat.zero_add] at hown2
                      have HO2 := Lib.hid hown2
                      have hgr3 : W1.grownBy W2 (some g0) := hgr2
                      have HB2 := Lib.hid (HB1.out.grown hgr3 (by have := HB1.out.size; omega) (fun q hq => by injection hq with hq; have := (HO1.out.lt g0 rfl).1; omega))
                      have hB2 : B ≤ W2.heap.size := Nat.le_trans hB1 hgr3.size
                      clear hown2 hgr2 hgr3 hnil2
                      refine hK _ _ ?_; clear hK K
                      conv => arg 7; simp [Act.put]
                      refine wpAny_ready (rs := [7]) (by kernel_rfl) (by simp) ?_
                      refine AllReady.cons rfl (fun K hK => ?_) (AllReady.nil)
                      go_simp
                      refine hK _ _ ?_; clear hK K
                      have HB3 := Lib.hid (below_step2 HB2.out (below_new2 (.cells #[.int .i64 x] 3)))
                      have hB3 : B ≤ (W2.alloc (.cells #[.int .i64 x] 3)).heap.size := Nat.le_trans hB2 (below_new2 (.cells #[.int .i64 x] 3)).size
                      have HX3 := Lib.hid (show (W2.alloc (.cells #[.int .i64 x] 3)).cell? ⟨W2.heap.size, 0, none⟩ = some (.int .i64 x) by simp)
                      have hgx : W2.heap.size < (W2.alloc (.cells #[.int .i64 x] 3)).heap.size := by simp
                      have HO3 := Lib.hid (HO2.out.alloc (.cells #[.int .i64 x] 3))
                      have hxv : v2.ownBlock ≠ some W2.heap.size := fun e => by have := (HO2.out.lt _ e).2; omega
                      generalize hgxe : W2.heap.size = gx at *
                      clear hgxe
                      generalize W2.alloc (.cells #[.int .i64 x] 3) = W3 at *
                      refine wpAny_ready (rs := [8]) (by kernel_rfl) (by simp) ?_
                      refine AllReady.cons rfl (fun K hK => ?_) (AllReady.nil)
                      refine step_append_own (by rfl) _ _ 35 (by rfl) B 3 i0 (.int .i64 0) 1 8 Try.underlying35 HI.out.1 HI.out.2.1 HI.out.2.2.1 HI.out.2.2.2 rfl (by decide) v2 mm9 (intC t9) (by rfl) HO3.out ⟨gx, 0, none⟩ 1 1 [.int .i64 x] (by rfl) (by rfl) (by intro j u hj; match j, hj with | 0, hj => simp at hj; subst hj; simpa [Addr.add] using HX3.out) (by intro u hu; simp at hu; subst hu; rfl) (by unfold maxLen; omega) (by omega) hB3 ?_
                      intro v3 W4 hown3 hgr3 hnil3
                      have HOV := Lib.hid hown3
                      have HBV := Lib.hid (HB3.out.grown hgr3 (by have := HB3.out.size; omega) (fun q hq => by have := (HO3.out.lt q hq).1; omega))
                      clear hown3 hgr3 hnil3
                      generalize W4 = WV at *
                      refine hK _ _ ?_; clear hK K
                      conv => arg 7; simp [Act.put]
                      refine wpAny_take (i := 9) (v := ?_) rfl (by kernel_rfl) (by kernel_rfl) (by kernel_rfl) (fun _ _ _ h => h) (Or.inl ⟨by kernel_rfl, ?_⟩) ?_
                      rotate_left
                      · (intro w; go_simp; first | done | with_reducible rfl)
                      conv => arg 7; simp [Act.put]
                      refine wpAny_done (by kernel_rfl) ?_ _
                    rotate_left 1
                    focus
                      go_simp
                      refine hK _ _ ?_; clear hK K
                      have HB2 := Lib.hid (below_step2 HB1.out (below_new2 (.cells #[.int .i64 x] 3)))
                      have HR2 := Lib.hid ((HR1.out.below (below_new2 (a := W1) (.cells #[.int .i64 x] 3))).mono (below_new2 (a := W1) (.cells #[.int .i64 x] 3)).size)
                      have hB2 : B ≤ (W1.alloc (.cells #[.int .i64 x] 3)).heap.size := Nat.le_trans hB1 (below_new2 (.cells #[.int .i64 x] 3)).size
                      have HX2 := Lib.hid (show (W1.alloc (.cells #[.int .i64 x] 3)).cell? ⟨W1.heap.size, 0, none⟩ = some (.int .i64 x) by simp)
                      have hgx : W1.heap.size < (W1.alloc (.cells #[.int .i64 x] 3)).heap.size := by simp
                      have HO2 := Lib.hid (HO1.out.alloc (.cells #[.int .i64 x] 3))
                      have hxg : W1.heap.size ≠ g0 := by omega
                      have hg0' := Nat.lt_of_lt_of_le hg0 (below_new2 (a := W1) (.cells #[.int .i64 x] 3)).size
                      clear hg0
                      have hg0 := hg0'
                      clear hg0'
                      generalize hgxe : W1.heap.size = gx at *
                      clear hgxe
                      generalize W1.alloc (.cells #[.int .i64 x] 3) = W2 at *
                      refine wpAny_ready (rs := [2]) (by kernel_rfl) (by simp) ?_
                      refine AllReady.cons rfl (fun K hK => ?_) (AllReady.nil)
                      refine step_append_own (by rfl) _ _ 35 (by rfl) B 3 i0 (.int .i64 0) 1 8 Try.underlying35 HI.out.1 HI.out.2.1 HI.out.2.2.1 HI.out.2.2.2 rfl (by decide) (.slice (some ⟨g0, 0, none⟩) 0 0) 0 [] (by rfl) HO2.out ad9 mm9 c9 (intC t9) (by rfl) (by rw [intC_len, ← HLEN.out]; omega) HR2.out.news (intC_one t9) (by unfold maxLen; omega) (by omega) hB2 ?_
                      intro v2 W3 hown2 hgr2 hnil2
                      rw [List.nil_append, Nat.zero_add] at hown2
                      have HO3 := Lib.hid hown2
                      have hgr3 : W2.grownBy W3 (some g0) := hgr2
                      have HB3 := Lib.hid (HB2.out.grown hgr3 (by have := HB2.out.size; omega) (fun q hq => by injection hq with hq; have := (HO2.out.lt g0 rfl).1; omega))
                      have hB3 : B ≤ W3.heap.size := Nat.le_trans hB2 hgr3.size
                      have HX3 := Lib.hid (hgr3.cell HX2.out (fun e => hxg (by injection e)))
                      clear hown2 hgr2 hgr3 hnil2
                      refine hK _ _ ?_; clear hK K
                      conv => arg 7; simp [Act.put]
                      refine wpAny_ready (rs := [8]) (by kernel_rfl) (by simp) ?_
                      refine AllReady.cons rfl (fun K hK => ?_) (AllReady.nil)
                      refine step_append_own (by rfl) _ _ 35 (by rfl) B 3 i0 (.int .i64 0) 1 8 Try.underlying35 HI.out.1 HI.out.2.1 HI.out.2.2.1 HI.out.2.2.2 rfl (by decide) v2 mm9 (intC t9) (by rfl) HO3.out ⟨gx, 0, none⟩ 1 1 [.int .i64 x] (by rfl) (by rfl) (by intro j u hj; match j, hj with | 0, hj => simp at hj; subst hj; simpa [Addr.add] using HX3.out) (by intro u hu; simp at hu; subst hu; rfl) (by unfold maxLen; omega) (by omega) hB3 ?_
                      intro v3 W4 hown3 hgr3 hnil3
                      have HOV := Lib.hid hown3
                      have HBV := Lib.hid (HB3.out.grown hgr3 (by have := HB3.out.size; omega) (fun q hq => by have := (HO3.out.lt q hq).1; omega))
                      clear hown3 hgr3 hnil3
                      generalize W4 = WV at *
                      refine hK _ _ ?_; clear hK K
                      conv => arg 7; simp [Act.put]
                      refine wpAny_take (i := 9) (v := ?_) rfl (by kernel_rfl) (by kernel_rfl) (by kernel_rfl) (fun _ _ _ h => h) (Or.inl ⟨by kernel_rfl, ?_⟩) ?_
                      rotate_left
                      · (intro w; go_simp; first | done | with_reducible rfl)
                      conv => arg 7; simp [Act.put]
                      refine wpAny_done (by kernel_rfl) ?_ _
                    rotate_left 1
                  rotate_left 2
                rotate_left 3
                focus
                  have e6 := HCE.out _ HB0.out
                  go_simp
                  refine hK _ _ ?_; clear hK K
                  clear e6
                  refine wpAny_ready (rs := [0, 7]) (by kernel_rfl) (by simp) ?_
                  refine AllReady.cons rfl (fun K hK => ?_) (AllReady.cons rfl (fun K hK => ?_) (AllReady.nil))
                  focus
                    go_simp
                    refine hK _ _ ?_; clear hK K
                    have HB1 := Lib.hid (below_step2 HB0.out (below_new2 (.cells #[] 3)))
                    have HR1 := Lib.hid ((HR0.out.below (below_new2 (a := W0) (.cells #[] 3))).mono (below_new2 (a := W0) (.cells #[] 3)).size)
                    have hB1 : B ≤ (W0.alloc (.cells #[] 3)).heap.size := Nat.le_trans hB0 (below_new2 (.cells #[] 3)).size
                    have HO1 := Lib.hid (World.ownsRow_made (base := B) (e := 3) (size := 1) W0 #[] 0 hB0 (by simp [maxLen]) rfl)
                    have hg0 : W0.heap.size < (W0.alloc (.cells #[] 3)).heap.size := by simp
                    generalize hg0e : W0.heap.size = g0 at *
                    clear hg0e
                    generalize W0.alloc (.cells #[] 3) = W1 at *
                    refine wpAny_ready (rs := [2, 7]) (by kernel_rfl) (by simp) ?_
                    refine AllReady.cons rfl (fun K hK => ?_) (AllReady.cons rfl (fun K hK => ?_) (AllReady.nil))
                    focus
                      refine step_append_own (by rfl) _ _ 35 (by rfl) B 3 i0 (.int .i64 0) 1 8 Try.underlying35 HI.out.1 HI.out.2.1 HI.out.2.2.1 HI.out.2.2.2 rfl (by decide) (.slice (some ⟨g0, 0, none⟩) 0 0) 0 [] (by rfl) HO1.out ad9 mm9 c9 (intC t9) (by rfl) (by rw [intC_len, ← HLEN.out]; omega) HR1.out.news (intC_one t9) (by unfold maxLen; omega) (by omega) hB1 ?_
                      intro v2 W2 hown2 hgr2 hnil2
                      rw [List.nil_append, Nat.zero_add] at hown2
                      have HO2 := Lib.hid hown2
                      have hgr3 : W1.grownBy W2 (some g0) := hgr2
                      have HB2 := Lib.hid (HB1.out.grown hgr3 (by have := HB1.out.size; omega) (fun q hq => by injection hq with hq; have := (HO1.out.lt g0 rfl).1; omega))
                      have hB2 : B ≤ W2.heap.size := Nat.le_trans hB1 hgr3.size
                      clear hown2 hgr2 hgr3 hnil2
                      refine hK _ _ ?_; clear hK K
                      conv => arg 7; simp [Act.put]
                      refine wpAny_ready (rs := [7]) (by kernel_rfl) (by simp) ?_
                      refine AllReady.cons rfl (fun K hK => ?_) (AllReady.nil)
                      go_simp
                      refine hK _ _ ?_; clear hK K
                      have HB3 := Lib.hid (below_step2 HB2.out (below_new2 (.cells #[.int .i64 x] 3)))
                      have hB3 : B ≤ (W2.alloc (.cells #[.int .i64 x] 3)).heap.size := Nat.le_trans hB2 (below_new2 (.cells #[.int .i64 x] 3)).size
                      have HX3 := Lib.hid (show (W2.alloc (.cells #[.int .i64 x] 3)).cell? ⟨W2.heap.size, 0, none⟩ = some (.int .i64 x) by simp)
                      have hgx : W2.heap.size < (W2.alloc (.cells #[.int .i64 x] 3)).heap.size := by simp
                      have HO3 := Lib.hid (HO2.out.alloc (.cells #[.int .i64 x] 3))
                      have hxv : v2.ownBlock ≠ some W2.heap.size := fun e => by have := (HO2.out.lt _ e).2; omega
                      generalize hgxe : W2.heap.size = gx at *
                      clear hgxe
                      generalize W2.alloc (.cells #[.int .i64 x] 3) = W3 at *
                      refine wpAny_ready (rs := [8]) (by kernel_rfl) (by simp) ?_
                      refine AllReady.cons rfl (fun K hK => ?_) (AllReady.nil)
                      refine step_append_own (by rfl) _ _ 35 (by rfl) B 3 i0 (.int .i64 0) 1 8 Try.underlying35 HI.out.1 HI.out.2.1 HI.out.2.2.1 HI.out.2.2.2 rfl (by decide) v2 mm9 (intC t9) (by rfl) HO3.out ⟨gx, 0, none⟩ 1 1 [.int .i64 x] (by rfl) (by rfl) (by intro j u hj; match j, hj with | 0, hj => simp at hj; subst hj; simpa [Addr.add] using HX3.out) (by intro u hu; simp at hu; subst hu; rfl) (by unfold maxLen; omega) (by omega) hB3 ?_
                      intro v3 W4 hown3 hgr3 hnil3
                      have HOV := Lib.hid hown3
                      have HBV := Lib.hid (HB3.out.grown hgr3 (by have := HB3.out.size; omega) (fun q hq => by have := (HO3.out.lt q hq).1; omega))
                      clear hown3 hgr3 hnil3
                      generalize W4 = WV at *
                      refine hK _ _ ?_; clear hK K
                      conv => arg 7; simp [Act.put]
                      refine wpAny_take (i := 9) (v := ?_) rfl (by kernel_rfl) (by kernel_rfl) (by kernel_rfl) (fun _ _ _ h => h) (Or.inl ⟨by kernel_rfl, ?_⟩) ?_
                      rotate_left
                      · (intro w; go_simp; first | done | with_reducible rfl)
                      conv => arg 7; simp [Act.put]
                      refine wpAny_done (by kernel_rfl) ?_ _
                    rotate_left 1
                    focus
                      go_simp
                      refine hK _ _ ?_; clear hK K
                      have HB2 := Lib.hid (below_step2 HB1.out (below_new2 (.cells #[.int .i64 x] 3)))
                      have HR2 := Lib.hid ((HR1.out.below (below_new2 (a := W1) (.cells #[.int .i64 x] 3))).mono (below_new2 (a := W1) (.cells #[.int .i64 x] 3)).size)
                      have hB2 : B ≤ (W1.alloc (.cells #[.int .i64 x] 3)).heap.size := Nat.le_trans hB1 (below_new2 (.cells #[.int .i64 x] 3)).size
                      have HX2 := Lib.hid (show (W1.alloc (.cells #[.int .i64 x] 3)).cell? ⟨W1.heap.size, 0, none⟩ = some (.int .i64 x) by simp)
                      have hgx : W1.heap.size < (W1.alloc (.cells #[.int .i64 x] 3)).heap.size := by simp
                      have HO2 := Lib.hid (HO1.out.alloc (.cells #[.int .i64 x] 3))
                      have hxg : W1.heap.size ≠ g0 := by omega
                      have hg0' := Nat.lt_of_lt_of_le hg0 (below_new2 (a := W1) (.cells #[.int .i64 x] 3)).size
                      clear hg0
                      have hg0 := hg0'
                      clear hg0'
                      generalize hgxe : W1.heap.size = gx at *
                      clear hgxe
                      generalize W1.alloc (.cells #[.int .i64 x] 3) = W2 at *
                      refine wpAny_ready (rs := [2]) (by kernel_rfl) (by simp) ?_
                      refine AllReady.cons rfl (fun K hK => ?_) (AllReady.nil)
                      refine step_append_own (by rfl) _ _ 35 (by rfl) B 3 i0 (.int .i64 0) 1 8 Try.underlying35 HI.out.1 HI.out.2.1 HI.out.2.2.1 HI.out.2.2.2 rfl (by decide) (.slice (some ⟨g0, 0, none⟩) 0 0) 0 [] (by rfl) HO2.out ad9 mm9 c9 (intC t9) (by rfl) (by rw [intC_len, ← HLEN.out]; omega) HR2.out.news (intC_one t9) (by unfold maxLen; omega) (by omega) hB2 ?_
                      intro v2 W3 hown2 hgr2 hnil2
                      rw [List.nil_append, Nat.zero_add] at hown2
                      have HO3 := Lib.hid hown2
                      have hgr3 : W2.grownBy W3 (some g0) := hgr2
                      have HB3 := Lib.hid (HB2.out.grown hgr3 (by have := HB2.out.size; omega) (fun q hq => by injection hq with hq; have := (HO2.out.lt g0 rfl).1; omega))
                      have hB3 : B ≤ W3.heap.size := Nat.le_trans hB2 hgr3.size
                      have HX3 := Lib.hid (hgr3.cell HX2.out (fun e => hxg (by injection e)))
                      clear hown2 hgr2 hgr3 hnil2
                      refine hK _ _ ?_; clear hK K
                      conv => arg 7; simp [Act.put]
                      refine wpAny_ready (rs := [8]) (by kernel_rfl) (by simp) ?_
                      refine AllReady.cons rfl (fun K hK => ?_) (AllReady.nil)
                      refine step_append_own (by rfl) _ _ 35 (by rfl) B 3 i0 (.int .i64 0) 1 8 Try.underlying35 HI.out.1 HI.out.2.1 HI.out.2.2.1 HI.out.2.2.2 rfl (by decide) v2 mm9 (intC t9) (by rfl) HO3.out ⟨gx, 0, none⟩ 1 1 [.int .i64 x] (by rfl) (by rfl) (by intro j u hj; match j, hj with | 0, hj => simp at hj; subst hj; simpa [Addr.add] using HX3.out) (by intro u hu; simp at hu; subst hu; rfl) (by unfold maxLen; omega) (by omega) hB3 ?_
                      intro v3 W4 hown3 hgr3 hnil3
                      have HOV := Lib.hid hown3
                      have HBV := Lib.hid (HB3.out.grown hgr3 (by have := HB3.out.size; omega) (fun q hq => by have := (HO3.out.lt q hq).1; omega))
                      clear hown3 hgr3 hnil3
                      generalize W4 = WV at *
                      refine hK _ _ ?_; clear hK K
                      conv => arg 7; simp [Act.put]
                      refine wpAny_take (i := 9) (v := ?_) rfl (by kernel_rfl) (by kernel_rfl) (by kernel_rfl) (fun _ _ _ h => h) (Or.inl ⟨by kernel_rfl, ?_⟩) ?_
                      rotate_left
                      · (intro w; go_simp; first | done | with_reducible rfl)
                      conv => arg 7; simp [Act.put]
                      refine wpAny_done (by kernel_rfl) ?_ _
                    rotate_left 1
                  rotate_left 2
                  focus
                    go_simp
                    refine hK _ _ ?_; clear hK K
                    have HB1 := Lib.hid (below_step2 HB0.out (below_new2 (.cells #[.int .i64 x] 3)))
                    have HR1 := Lib.hid ((HR0.out.below (below_new2 (a := W0) (.cells #[.int .i64 x] 3))).mono (below_new2 (a := W0) (.cells #[.int .i64 x] 3)).size)
                    have hB1 : B ≤ (W0.alloc (.cells #[.int .i64 x] 3)).heap.size := Nat.le_trans hB0 (below_new2 (.cells #[.int .i64 x] 3)).size
                    have HX1 := Lib.hid (show (W0.alloc (.cells #[.int .i64 x] 3)).cell? ⟨W0.heap.size, 0, none⟩ = some (.int .i64 x) by simp)
                    have hgx : W0.heap.size < (W0.alloc (.cells #[.int .i64 x] 3)).heap.size := by simp
                    generalize hgxe : W0.heap.size = gx at *
                    clear hgxe
                    generalize W0.alloc (.cells #[.int .i64 x] 3) = W1 at *
                    refine wpAny_ready (rs := [0]) (by kernel_rfl) (by simp) ?_
                    refine AllReady.cons rfl (fun K hK => ?_) (AllReady.nil)
                    go_simp
                    refine hK _ _ ?_; clear hK K
                    have HB2 := Lib.hid (below_step2 HB1.out (below_new2 (.cells #[] 3)))
                    have HR2 := Lib.hid ((HR1.out.below (below_new2 (a := W1) (.cells #[] 3))).mono (below_new2 (a := W1) (.cells #[] 3)).size)
                    have hB2 : B ≤ (W1.alloc (.cells #[] 3)).heap.size := Nat.le_trans hB1 (below_new2 (.cells #[] 3)).size
                    have HO2 := Lib.hid (World.ownsRow_made (base := B) (e := 3) (size := 1) W1 #[] 0 hB1 (by simp [maxLen]) rfl)
                    have hg0 : W1.heap.size < (W1.alloc (.cells #[] 3)).heap.size := by simp
                    have HX2 := Lib.hid ((below_cell2 (below_new2 (a := W1) (.cells #[] 3)) hgx).trans HX1.out)
                    have hxg : gx ≠ W1.heap.size := by omega
                    have hgx' := Nat.lt_of_lt_of_le hgx (below_new2 (a := W1) (.cells #[] 3)).size
                    clear hgx
                    have hgx := hgx'
                    clear hgx'
                    generalize hg0e : W1.heap.size = g0 at *
                    clear hg0e
                    generalize W1.alloc (.cells #[] 3) = W2 at *
                    refine wpAny_ready (rs := [2]) (by kernel_rfl) (by simp) ?_
                    refine AllReady.cons rfl (fun K hK => ?_) (AllReady.nil)
                    refine step_append_own (by rfl) _ _ 35 (by rfl) B 3 i0 (.int .i64 0) 1 8 Try.underlying35 HI.out.1 HI.out.2.1 HI.out.2.2.1 HI.out.2.2.2 rfl (by decide) (.slice (some ⟨g0, 0, none⟩) 0 0) 0 [] (by rfl) HO2.out ad9 mm9 c9 (intC t9) (by rfl) (by rw [intC_len, ← HLEN.out]; omega) HR2.out.news (intC_one t9) (by unfold maxLen; omega) (by omega) hB2 ?_
                    intro v2 W3 hown2 hgr2 hnil2
                    rw [List.nil_append, Nat.zero_add] at hown2
                    have HO3 := Lib.hid hown2
                    have hgr3 : W2.grownBy W3 (some g0) := hgr2
                    have HB3 := Lib.hid (HB2.out.grown hgr3 (by have := HB2.out.size; omega) (fun q hq => by injection hq with hq; have := (HO2.out.lt g0 rfl).1; omega))
                    have hB3 : B ≤ W3.heap.size := Nat.le_trans hB2 hgr3.size
                    have HX3 := Lib.hid (hgr3.cell HX2.out (fun e => hxg (by injection e)))
                    clear hown2 hgr2 hgr3 hnil2
                    refine hK _ _ ?_; clear hK K
                    conv => arg 7; simp [Act.put]
                    refine wpAny_ready (rs := [8]) (by kernel_rfl) (by simp) ?_
                    refine AllReady.cons rfl (fun K hK => ?_) (AllReady.nil)
                    refine step_append_own (by rfl) _ _ 35 (by rfl) B 3 i0 (.int .i64 0) 1 8 Try.underlying35 HI.out.1 HI.out.2.1 HI.out.2.2.1 HI.out.2.2.2 rfl (by decide) v2 mm9 (intC t9) (by rfl) HO3.out ⟨gx, 0, none⟩ 1 1 [.int .i64 x] (by rfl) (by rfl) (by intro j u hj; match j, hj with | 0, hj => simp at hj; subst hj; simpa [Addr.add] using HX3.out) (by intro u hu; simp at hu; subst hu; rfl) (by unfold maxLen; omega) (by omega) hB3 ?_
                    intro v3 W4 hown3 hgr3 hnil3
                    have HOV := Lib.hid hown3
                    have HBV := Lib.hid (HB3.out.grown hgr3 (by have := HB3.out.size; omega) (fun q hq => by have := (HO3.out.lt q hq).1; omega))
                    clear hown3 hgr3 hnil3
                    generalize W4 = WV at *
                    refine hK _ _ ?_; clear hK K
                    conv => arg 7; simp [Act.put]
                    refine wpAny_take (i := 9) (v := ?_) rfl (by kernel_rfl) (by kernel_rfl) (by kernel_rfl) (fun _ _ _ h => h) (Or.inl ⟨by kernel_rfl, ?_⟩) ?_
                    rotate_left
                    · (intro w; go_simp; first | done | with_reducible rfl)
                    conv => arg 7; simp [Act.put]
                    refine wpAny_done (by kernel_rfl) ?_ _
                  rotate_left 1
                rotate_left 3
                all_goals
                  obtain ⟨T9, cc9, hv9⟩ := slice_form HOV.out (by omega)
                  subst hv9
                  obtain ⟨adz, hadz, hspz, hnz⟩ := NwAt.of_own (w := w) (t := t9 ++ [x]) (by rw [intC_app]; exact HOV.out) (by have := HLEN.out; simp; omega) (by omega) HBV.out
                  subst hadz
                  have HNZ := Lib.hid hnz; have HSPZ := Lib.hid hspz; clear hnz hspz HOV
                  go_wp2_with fail
                  go_roundw
                  case rel => exact ⟨k + 1, mm9 + 1, adz, cc9, by omega, by go_num, by rw [HSE9.out]; try first | rfl | go_num, rfl, HSPZ.out, by rw [HSE9.out]; exact HNZ.out⟩
                  case measure => simp [intOf]; omega
              · have HSE9 := Lib.hid (show oldS M l (k + 1) = (t ++ [x], mc + 1) by rw [HSE.out, if_neg (by rw [← HNW.out.len]; exact hf)])
                have qf : ((jj : Int) == (M : Int)) = false := by simp; omega
                have HN9 := Lib.hid HNQ.out
                have hjm : jj ≤ 5 := by omega
                clear hf
                go_wp2_with fail
                generalize wr = WX at *
                obtain ⟨t9, ht9⟩ : ∃ t9, t9 = t := ⟨_, rfl⟩
                obtain ⟨ad9, had9⟩ : ∃ a, a = ad := ⟨_, rfl⟩
                obtain ⟨c9, hc9⟩ : ∃ a, a = c' := ⟨_, rfl⟩
                obtain ⟨mm9, hmm9e⟩ : ∃ a, a = jj := ⟨_, rfl⟩
                rw [← ht9, ← had9, ← hc9, ← hmm9e] at HN9
                rw [← ht9] at HSE9
                rw [← had9, ← hc9, ← hmm9e]
                rw [← hmm9e] at hjm
                clear ht9 had9 hc9 hmm9e
                have HN0 := Lib.hid (HN9.out.keep (Below.drew (Below.refl _ _)))
                have HLEN := Lib.hid HN9.out.len
                have hwx := HN9.out.hb.size
                have hmm9 : mm9 ≤ 5 := by omega
                go_wp2_with fail
                refine wp_region_any (by kernel_rfl) ?_
                try (change wpAny _ _ _ _ _ _ _ (World.drew _))
                generalize WX.drew = W0 at *
                have HB0 := Lib.hid HN0.out.hb
                have HR0 := Lib.hid HN0.out.row
                obtain ⟨B, hBe⟩ : ∃ B, B = W0.heap.size := ⟨_, rfl⟩
                have hB0 : B ≤ W0.heap.size := by omega
                have hwB : w.heap.size ≤ B := by have := HB0.out.size; omega
                clear hBe
                refine wpAny_take (i := 1) (v := ?_) rfl (by kernel_rfl) (by kernel_rfl) (by kernel_rfl) (fun _ _ _ h => h) (Or.inl ⟨by kernel_rfl, ?_⟩) ?_
                rotate_left
                · (intro w; go_simp; first | done | with_reducible rfl)
                conv => arg 7; simp [Act.put]
                refine wpAny_take (i := 3) (v := ?_) rfl (by kernel_rfl) (by kernel_rfl) (by kernel_rfl) (fun _ _ _ h => h) (Or.inl ⟨by kernel_rfl, ?_⟩) ?_
                rotate_left
                · (intro w; go_simp; first | done | with_reducible rfl)
                conv => arg 7; simp [Act.put]
                refine wpAny_take (i := 4) (v := ?_) rfl (by kernel_rfl) (by kernel_rfl) (by kernel_rfl) (fun _ _ _ h => h) (Or.inl ⟨by kernel_rfl, ?_⟩) ?_
                rotate_left
                · (intro w; go_simp; first | done | with_reducible rfl)
                conv => arg 7; simp [Act.put]
                refine wpAny_take (i := 5) (v := ?_) rfl (by kernel_rfl) (by kernel_rfl) (by kernel_rfl) (fun _ _ _ h => h) (Or.inl ⟨by kernel_rfl, ?_⟩) ?_
                rotate_left
                · (intro w; go_simp; first | done | with_reducible rfl)
                conv => arg 7; simp [Act.put]
                refine wpAny_ready (rs := [0, 6]) (by kernel_rfl) (by simp) ?_
                refine AllReady.cons rfl (fun K hK => ?_) (AllReady.cons rfl (fun K hK => ?_) (AllReady.nil))
                focus
                  go_simp
                  refine hK _ _ ?_; clear hK K
                  have HB1 := Lib.hid (below_step2 HB0.out (below_new2 (.cells #[] 3)))
                  have HR1 := Lib.hid ((HR0.out.below (below_new2 (a := W0) (.cells #[] 3))).mono (below_new2 (a := W0) (.cells #[] 3)).size)
                  have hB1 : B ≤ (W0.alloc (.cells #[] 3)).heap.size := Nat.le_trans hB0 (below_new2 (.cells #[] 3)).size
                  have HO1 := Lib.hid (World.ownsRow_made (base := B) (e := 3) (size := 1) W0 #[] 0 hB0 (by simp [maxLen]) rfl)
                  have hg0 : W0.heap.size < (W0.alloc (.cells #[] 3)).heap.size := by simp
                  generalize hg0e : W0.heap.size = g0 at *
                  clear hg0e
                  generalize W0.alloc (.cells #[] 3) = W1 at *
                  refine wpAny_ready (rs := [2, 6]) (by kernel_rfl) (by simp) ?_
                  refine AllReady.cons rfl (fun K hK => ?_) (AllReady.cons rfl (fun K hK => ?_) (AllReady.nil))
                  focus
                    refine step_append_own (by rfl) _ _ 35 (by rfl) B 3 i0 (.int .i64 0) 1 8 Try.underlying35 HI.out.1 HI.out.2.1 HI.out.2.2.1 HI.out.2.2.2 rfl (by decide) (.slice (some ⟨g0, 0, none⟩) 0 0) 0 [] (by rfl) HO1.out ad9 mm9 c9 (intC t9) (by rfl) (by rw [intC_len, ← HLEN.out]; omega) HR1.out.news (intC_one t9) (by unfold maxLen; omega) (by omega) hB1 ?_
                    intro v2 W2 hown2 hgr2 hnil2
                    rw [List.nil_append, Nat.zero_add] at hown2
                    have HO2 := Lib.hid hown2
                    have hgr3 : W1.grownBy W2 (some g0) := hgr2
                    have HB2 := Lib.hid (HB1.out.grown hgr3 (by have := HB1.out.size; omega) (fun q hq => by injection hq with hq; have := (HO1.out.lt g0 rfl).1; omega))
                    have hB2 : B ≤ W2.heap.size := Nat.le_trans hB1 hgr3.size
                    clear hown2 hgr2 hgr3 hnil2
                    refine hK _ _ ?_; clear hK K
                    conv => arg 7; simp [Act.put]
                    refine wpAny_ready (rs := [6]) (by kernel_rfl) (by simp) ?_
                    refine AllReady.cons rfl (fun K hK => ?_) (AllReady.nil)
                    have e6 := HCE.out _ HB2.out
                    go_simp
                    refine hK _ _ ?_; clear hK K
                    clear e6
                    refine wpAny_ready (rs := [7]) (by kernel_rfl) (by simp) ?_
                    refine AllReady.cons rfl (fun K hK => ?_) (AllReady.nil)
                    go_simp
                    refine hK _ _ ?_; clear hK K
                    have HB3 := Lib.hid (below_step2 HB2.out (below_new2 (.cells #[.int .i64 x] 3)))
                    have hB3 : B ≤ (W2.alloc (.cells #[.int .i64 x] 3)).heap.size := Nat.le_trans hB2 (below_new2 (.cells #[.int .i64 x] 3)).size
                    have HX3 := Lib.hid (show (W2.alloc (.cells #[.int .i64 x] 3)).cell? ⟨W2.heap.size, 0, none⟩ = some (.int .i64 x) by simp)
                    have hgx : W2.heap.size < (W2.alloc (.cells #[.int .i64 x] 3)).heap.size := by simp
                    have HO3 := Lib.hid (HO2.out.alloc (.cells #[.int .i64 x] 3))
                    have hxv : v2.ownBlock ≠ some W2.heap.size := fun e => by have := (HO2.out.lt _ e).2; omega
                    generalize hgxe : W2.heap.size = gx at *
                    clear hgxe
                    generalize W2.alloc (.cells #[.int .i64 x] 3) = W3 at *
                    refine wpAny_ready (rs := [8]) (by kernel_rfl) (by simp) ?_
                    refine AllReady.cons rfl (fun K hK => ?_) (AllReady.nil)
                    refine step_append_own (by rfl) _ _ 35 (by rfl) B 3 i0 (.int .i64 0) 1 8 Try.underlying35 HI.out.1 HI.out.2.1 HI.out.2.2.1 HI.out.2.2.2 rfl (by decide) v2 mm9 (intC t9) (by rfl) HO3.out ⟨gx, 0, none⟩ 1 1 [.int .i64 x] (by rfl) (by rfl) (by intro j u hj; match j, hj with | 0, hj => simp at hj; subst hj; simpa [Addr.add] using HX3.out) (by intro u hu; simp at hu; subst hu; rfl) (by unfold maxLen; omega) (by omega) hB3 ?_
                    intro v3 W4 hown3 hgr3 hnil3
                    have HOV := Lib.hid hown3
                    have HBV := Lib.hid (HB3.out.grown hgr3 (by have := HB3.out.size; omega) (fun q hq => by have := (HO3.out.lt q hq).1; omega))
                    clear hown3 hgr3 hnil3
                    generalize W4 = WV at *
                    refine hK _ _ ?_; clear hK K
                    conv => arg 7; simp [Act.put]
                    refine wpAny_take (i := 9) (v := ?_) rfl (by kernel_rfl) (by kernel_rfl) (by kernel_rfl) (fun _ _ _ h => h) (Or.inl ⟨by kernel_rfl, ?_⟩) ?_
                    rotate_left
                    · (intro w; go_simp; first | done | with_reducible rfl)
                    conv => arg 7; simp [Act.put]
                    refine wpAny_done (by kernel_rfl) ?_ _
                  rotate_left 1
                  focus
                    have e6 := HCE.out _ HB1.out
                    go_simp
                    refine hK _ _ ?_; clear hK K
                    clear e6
                    refine wpAny_ready (rs := [2, 7]) (by kernel_rfl) (by simp) ?_
                    refine AllReady.cons rfl (fun K hK => ?_) (AllReady.cons rfl (fun K hK => ?_) (AllReady.nil))
                    focus
                      refine step_append_own (by rfl) _ _ 35 (by rfl) B 3 i0 (.int .i64 0) 1 8 Try.underlying35 HI.out.1 HI.out.2.1 HI.out.2.2.1 HI.out.2.2.2 rfl (by decide) (.slice (some ⟨g0, 0, none⟩) 0 0) 0 [] (by rfl) HO1.out ad9 mm9 c9 (intC t9) (by rfl) (by rw [intC_len, ← HLEN.out]; omega) HR1.out.news (intC_one t9) (by unfold maxLen; omega) (by omega) hB1 ?_
                      intro v2 W2 hown2 hgr2 hnil2
                      rw [List.nil_append, Nat.zero_add] at hown2
                      have HO2 := Lib.hid hown2
                      have hgr3 : W1.grownBy W2 (some g0) := hgr2
                      have HB2 := Lib.hid (HB1.out.grown hgr3 (by have := HB1.out.size; omega) (fun q hq => by injection hq with hq; have := (HO1.out.lt g0 rfl).1; omega))
                      have hB2 : B ≤ W2.heap.size := Nat.le_trans hB1 hgr3.size
                      clear hown2 hgr2 hgr3 hnil2
                      refine hK _ _ ?_; clear hK K
                      conv => arg 7; simp [Act.put]
                      refine wpAny_ready (rs := [7]) (by kernel_rfl) (by simp) ?_
                      refine AllReady.cons rfl (fun K hK => ?_) (AllReady.nil)
                      go_simp
                      refine hK _ _ ?_; clear hK K
                      have HB3 := Lib.hid (below_step2 HB2.out (below_new2 (.cells #[.int .i64 x] 3)))
                      have hB3 : B ≤ (W2.alloc (.cells #[.int .i64 x] 3)).heap.size := Nat.le_trans hB2 (below_new2 (.cells #[.int .i64 x] 3)).size
                      have HX3 := Lib.hid (show (W2.alloc (.cells #[.int .i64 x] 3)).cell? ⟨W2.heap.size, 0, none⟩ = some (.int .i64 x) by simp)
                      have hgx : W2.heap.size < (W2.alloc (.cells #[.int .i64 x] 3)).heap.size := by simp
                      have HO3 := Lib.hid (HO2.out.alloc (.cells #[.int .i64 x] 3))
                      have hxv : v2.ownBlock ≠ some W2.heap.size := fun e => by have := (HO2.out.lt _ e).2; omega
                      generalize hgxe : W2.heap.size = gx at *
                      clear hgxe
                      generalize W2.alloc (.cells #[.int .i64 x] 3) = W3 at *
                      refine wpAny_ready (rs := [8]) (by kernel_rfl) (by simp) ?_
                      refine AllReady.cons rfl (fun K hK => ?_) (AllReady.nil)
                      refine step_append_own (by rfl) _ _ 35 (by rfl) B 3 i0 (.int .i64 0) 1 8 Try.underlying35 HI.out.1 HI.out.2.1 HI.out.2.2.1 HI.out.2.2.2 rfl (by decide) v2 mm9 (intC t9) (by rfl) HO3.out ⟨gx, 0, none⟩ 1 1 [.int .i64 x] (by rfl) (by rfl) (by intro j u hj; match j, hj with | 0, hj => simp at hj; subst hj; simpa [Addr.add] using HX3.out) (by intro u hu; simp at hu; subst hu; rfl) (by unfold maxLen; omega) (by omega) hB3 ?_
                      intro v3 W4 hown3 hgr3 hnil3
                      have HOV := Lib.hid hown3
                      have HBV := Lib.hid (HB3.out.grown hgr3 (by have := HB3.out.size; omega) (fun q hq => by have := (HO3.out.lt q hq).1; omega))
                      clear hown3 hgr3 hnil3
                      generalize W4 = WV at *
                      refine hK _ _ ?_; clear hK K
                      conv => arg 7; simp [Act.put]
                      refine wpAny_take (i := 9) (v := ?_) rfl (by kernel_rfl) (by kernel_rfl) (by kernel_rfl) (fun _ _ _ h => h) (Or.inl ⟨by kernel_rfl, ?_⟩) ?_
                      rotate_left
                      · (intro w; go_simp; first | done | with_reducible rfl)
                      conv => arg 7; simp [Act.put]
                      refine wpAny_done (by kernel_rfl) ?_ _
                    rotate_left 1
                    focus
                      go_simp
                      refine hK _ _ ?_; clear hK K
                      have HB2 := Lib.hid (below_step2 HB1.out (below_new2 (.cells #[.int .i64 x] 3)))
                      have HR2 := Lib.hid ((HR1.out.below (below_new2 (a := W1) (.cells #[.int .i64 x] 3))).mono (below_new2 (a := W1) (.cells #[.int .i64 x] 3)).size)
                      have hB2 : B ≤ (W1.alloc (.cells #[.int .i64 x] 3)).heap.size := Nat.le_trans hB1 (below_new2 (.cells #[.int .i64 x] 3)).size
                      have HX2 := Lib.hid (show (W1.alloc (.cells #[.int .i64 x] 3)).cell? ⟨W1.heap.size, 0, none⟩ = some (.int .i64 x) by simp)
                      have hgx : W1.heap.size < (W1.alloc (.cells #[.int .i64 x] 3)).heap.size := by simp
                      have HO2 := Lib.hid (HO1.out.alloc (.cells #[.int .i64 x] 3))
                      have hxg : W1.heap.size ≠ g0 := by omega
                      have hg0' := Nat.lt_of_lt_of_le hg0 (below_new2 (a := W1) (.cells #[.int .i64 x] 3)).size
                      clear hg0
                      have hg0 := hg0'
                      clear hg0'
                      generalize hgxe : W1.heap.size = gx at *
                      clear hgxe
                      generalize W1.alloc (.cells #[.int .i64 x] 3) = W2 at *
                      refine wpAny_ready (rs := [2]) (by kernel_rfl) (by simp) ?_
                      refine AllReady.cons rfl (fun K hK => ?_) (AllReady.nil)
                      refine step_append_own (by rfl) _ _ 35 (by rfl) B 3 i0 (.int .i64 0) 1 8 Try.underlying35 HI.out.1 HI.out.2.1 HI.out.2.2.1 HI.out.2.2.2 rfl (by decide) (.slice (some ⟨g0, 0, none⟩) 0 0) 0 [] (by rfl) HO2.out ad9 mm9 c9 (intC t9) (by rfl) (by rw [intC_len, ← HLEN.out]; omega) HR2.out.news (intC_one t9) (by unfold maxLen; omega) (by omega) hB2 ?_
                      intro v2 W3 hown2 hgr2 hnil2
                      rw [List.nil_append, Nat.zero_add] at hown2
                      have HO3 := Lib.hid hown2
                      have hgr3 : W2.grownBy W3 (some g0) := hgr2
                      have HB3 := Lib.hid (HB2.out.grown hgr3 (by have := HB2.out.size; omega) (fun q hq => by injection hq with hq; have := (HO2.out.lt g0 rfl).1; omega))
                      have hB3 : B ≤ W3.heap.size := Nat.le_trans hB2 hgr3.size
                      have HX3 := Lib.hid (hgr3.cell HX2.out (fun e => hxg (by injection e)))
                      clear hown2 hgr2 hgr3 hnil2
                      refine hK _ _ ?_; clear hK K
                      conv => arg 7; simp [Act.put]
                      refine wpAny_ready (rs := [8]) (by kernel_rfl) (by simp) ?_
                      refine AllReady.cons rfl (fun K hK => ?_) (AllReady.nil)
                      refine step_append_own (by rfl) _ _ 35 (by rfl) B 3 i0 (.int .i64 0) 1 8 Try.underlying35 HI.out.1 HI.out.2.1 HI.out.2.2.1 HI.out.2.2.2 rfl (by decide) v2 mm9 (intC t9) (by rfl) HO3.out ⟨gx, 0, none⟩ 1 1 [.int .i64 x] (by rfl) (by rfl) (by intro j u hj; match j, hj with | 0, hj => simp at hj; subst hj; simpa [Addr.add] using HX3.out) (by intro u hu; simp at hu; subst hu; rfl) (by unfold maxLen; omega) (by omega) hB3 ?_
                      intro v3 W4 hown3 hgr3 hnil3
                      have HOV := Lib.hid hown3
                      have HBV := Lib.hid (HB3.out.grown hgr3 (by have := HB3.out.size; omega) (fun q hq => by have := (HO3.out.lt q hq).1; omega))
                      clear hown3 hgr3 hnil3
                      generalize W4 = WV at *
                      refine hK _ _ ?_; clear hK K
                      conv => arg 7; simp [Act.put]
                      refine wpAny_take (i := 9) (v := ?_) rfl (by kernel_rfl) (by kernel_rfl) (by kernel_rfl) (fun _ _ _ h => h) (Or.inl ⟨by kernel_rfl, ?_⟩) ?_
                      rotate_left
                      · (intro w; go_simp; first | done | with_reducible rfl)
                      conv => arg 7; simp [Act.put]
                      refine wpAny_done (by kernel_rfl) ?_ _
                    rotate_left 1
                  rotate_left 2
                rotate_left 3
                focus
                  have e6 := HCE.out _ HB0.out
                  go_simp
                  refine hK _ _ ?_; clear hK K
                  clear e6
                  refine wpAny_ready (rs := [0, 7]) (by kernel_rfl) (by simp) ?_
                  refine AllReady.cons rfl (fun K hK => ?_) (AllReady.cons rfl (fun K hK => ?_) (AllReady.nil))
                  focus
                    go_simp
                    refine hK _ _ ?_; clear hK K
                    have HB1 := Lib.hid (below_step2 HB0.out (below_new2 (.cells #[] 3)))
                    have HR1 := Lib.hid ((HR0.out.below (below_new2 (a := W0) (.cells #[] 3))).mono (below_new2 (a := W0) (.cells #[] 3)).size)
                    have hB1 : B ≤ (W0.alloc (.cells #[] 3)).heap.size := Nat.le_trans hB0 (below_new2 (.cells #[] 3)).size
                    have HO1 := Lib.hid (World.ownsRow_made (base := B) (e := 3) (size := 1) W0 #[] 0 hB0 (by simp [maxLen]) rfl)
                    have hg0 : W0.heap.size < (W0.alloc (.cells #[] 3)).heap.size := by simp
                    generalize hg0e : W0.heap.size = g0 at *
                    clear hg0e
                    generalize W0.alloc (.cells #[] 3) = W1 at *
                    refine wpAny_ready (rs := [2, 7]) (by kernel_rfl) (by simp) ?_
                    refine AllReady.cons rfl (fun K hK => ?_) (AllReady.cons rfl (fun K hK => ?_) (AllReady.nil))
                    focus
                      refine step_append_own (by rfl) _ _ 35 (by rfl) B 3 i0 (.int .i64 0) 1 8 Try.underlying35 HI.out.1 HI.out.2.1 HI.out.2.2.1 HI.out.2.2.2 rfl (by decide) (.slice (some ⟨g0, 0, none⟩) 0 0) 0 [] (by rfl) HO1.out ad9 mm9 c9 (intC t9) (by rfl) (by rw [intC_len, ← HLEN.out]; omega) HR1.out.news (intC_one t9) (by unfold maxLen; omega) (by omega) hB1 ?_
                      intro v2 W2 hown2 hgr2 hnil2
                      rw [List.nil_append, Nat.zero_add] at hown2
                      have HO2 := Lib.hid hown2
                      have hgr3 : W1.grownBy W2 (some g0) := hgr2
                      have HB2 := Lib.hid (HB1.out.grown hgr3 (by have := HB1.out.size; omega) (fun q hq => by injection hq with hq; have := (HO1.out.lt g0 rfl).1; omega))
                      have hB2 : B ≤ W2.heap.size := Nat.le_trans hB1 hgr3.size
                      clear hown2 hgr2 hgr3 hnil2
                      refine hK _ _ ?_; clear hK K
                      conv => arg 7; simp [Act.put]
                      refine wpAny_ready (rs := [7]) (by kernel_rfl) (by simp) ?_
                      refine AllReady.cons rfl (fun K hK => ?_) (AllReady.nil)
                      go_simp
                      refine hK _ _ ?_; clear hK K
                      have HB3 := Lib.hid (below_step2 HB2.out (below_new2 (.cells #[.int .i64 x] 3)))
                      have hB3 : B ≤ (W2.alloc (.cells #[.int .i64 x] 3)).heap.size := Nat.le_trans hB2 (below_new2 (.cells #[.int .i64 x] 3)).size
                      have HX3 := Lib.hid (show (W2.alloc (.cells #[.int .i64 x] 3)).cell? ⟨W2.heap.size, 0, none⟩ = some (.int .i64 x) by simp)
                      have hgx : W2.heap.size < (W2.alloc (.cells #[.int .i64 x] 3)).heap.size := by simp
                      have HO3 := Lib.hid (HO2.out.alloc (.cells #[.int .i64 x] 3))
                      have hxv : v2.ownBlock ≠ some W2.heap.size := fun e => by have := (HO2.out.lt _ e).2; omega
                      generalize hgxe : W2.heap.size = gx at *
                      clear hgxe
                      generalize W2.alloc (.cells #[.int .i64 x] 3) = W3 at *
                      refine wpAny_ready (rs := [8]) (by kernel_rfl) (by simp) ?_
                      refine AllReady.cons rfl (fun K hK => ?_) (AllReady.nil)
                      refine step_append_own (by rfl) _ _ 35 (by rfl) B 3 i0 (.int .i64 0) 1 8 Try.underlying35 HI.out.1 HI.out.2.1 HI.out.2.2.1 HI.out.2.2.2 rfl (by decide) v2 mm9 (intC t9) (by rfl) HO3.out ⟨gx, 0, none⟩ 1 1 [.int .i64 x] (by rfl) (by rfl) (by intro j u hj; match j, hj with | 0, hj => simp at hj; subst hj; simpa [Addr.add] using HX3.out) (by intro u hu; simp at hu; subst hu; rfl) (by unfold maxLen; omega) (by omega) hB3 ?_
                      intro v3 W4 hown3 hgr3 hnil3
                      have HOV := Lib.hid hown3
                      have HBV := Lib.hid (HB3.out.grown hgr3 (by have := HB3.out.size; omega) (fun q hq => by have := (HO3.out.lt q hq).1; omega))
                      clear hown3 hgr3 hnil3
                      generalize W4 = WV at *
                      refine hK _ _ ?_; clear hK K
                      conv => arg 7; simp [Act.put]
                      refine wpAny_take (i := 9) (v := ?_) rfl (by kernel_rfl) (by kernel_rfl) (by kernel_rfl) (fun _ _ _ h => h) (Or.inl ⟨by kernel_rfl, ?_⟩) ?_
                      rotate_left
                      · (intro w; go_simp; first | done | with_reducible rfl)
                      conv => arg 7; simp [Act.put]
                      refine wpAny_done (by kernel_rfl) ?_ _
                    rotate_left 1
                    focus
                      go_simp
                      refine hK _ _ ?_; clear hK K
                      have HB2 := Lib.hid (below_step2 HB1.out (below_new2 (.cells #[.int .i64 x] 3)))
                      have HR2 := Lib.hid ((HR1.out.below (below_new2 (a := W1) (.cells #[.int .i64 x] 3))).mono (below_new2 (a := W1) (.cells #[.int .i64 x] 3)).size)
                      have hB2 : B ≤ (W1.alloc (.cells #[.int .i64 x] 3)).heap.size := Nat.le_trans hB1 (below_new2 (.cells #[.int .i64 x] 3)).size
                      have HX2 := Lib.hid (show (W1.alloc (.cells #[.int .i64 x] 3)).cell? ⟨W1.heap.size, 0, none⟩ = some (.int .i64 x) by simp)
                      have hgx : W1.heap.size < (W1.alloc (.cells #[.int .i64 x] 3)).heap.size := by simp
                      have HO2 := Lib.hid (HO1.out.alloc (.cells #[.int .i64 x] 3))
                      have hxg : W1.heap.size ≠ g0 := by omega
                      have hg0' := Nat.lt_of_lt_of_le hg0 (below_new2 (a := W1) (.cells #[.int .i64 x] 3)).size
                      clear hg0
                      have hg0 := hg0'
                      clear hg0'
                      generalize hgxe : W1.heap.size = gx at *
                      clear hgxe
                      generalize W1.alloc (.cells #[.int .i64 x] 3) = W2 at *
                      refine wpAny_ready (rs := [2]) (by kernel_rfl) (by simp) ?_
                      refine AllReady.cons rfl (fun K hK => ?_) (AllReady.nil)
                      refine step_append_own (by rfl) _ _ 35 (by rfl) B 3 i0 (.int .i64 0) 1 8 Try.underlying35 HI.out.1 HI.out.2.1 HI.out.2.2.1 HI.out.2.2.2 rfl (by decide) (.slice (some ⟨g0, 0, none⟩) 0 0) 0 [] (by rfl) HO2.out ad9 mm9 c9 (intC t9) (by rfl) (by rw [intC_len, ← HLEN.out]; omega) HR2.out.news (intC_one t9) (by unfold maxLen; omega) (by omega) hB2 ?_
                      intro v2 W3 hown2 hgr2 hnil2
                      rw [List.nil_append, Nat.zero_add] at hown2
                      have HO3 := Lib.hid hown2
                      have hgr3 : W2.grownBy W3 (some g0) := hgr2
                      have HB3 := Lib.hid (HB2.out.grown hgr3 (by have := HB2.out.size; omega) (fun q hq => by injection hq with hq; have := (HO2.out.lt g0 rfl).1; omega))
                      have hB3 : B ≤ W3.heap.size := Nat.le_trans hB2 hgr3.size
                      have HX3 := Lib.hid (hgr3.cell HX2.out (fun e => hxg (by injection e)))
                      clear hown2 hgr2 hgr3 hnil2
                      refine hK _ _ ?_; clear hK K
                      conv => arg 7; simp [Act.put]
                      refine wpAny_ready (rs := [8]) (by kernel_rfl) (by simp) ?_
                      refine AllReady.cons rfl (fun K hK => ?_) (AllReady.nil)
                      refine step_append_own (by rfl) _ _ 35 (by rfl) B 3 i0 (.int .i64 0) 1 8 Try.underlying35 HI.out.1 HI.out.2.1 HI.out.2.2.1 HI.out.2.2.2 rfl (by decide) v2 mm9 (intC t9) (by rfl) HO3.out ⟨gx, 0, none⟩ 1 1 [.int .i64 x] (by rfl) (by rfl) (by intro j u hj; match j, hj with | 0, hj => simp at hj; subst hj; simpa [Addr.add] using HX3.out) (by intro u hu; simp at hu; subst hu; rfl) (by unfold maxLen; omega) (by omega) hB3 ?_
                      intro v3 W4 hown3 hgr3 hnil3
                      have HOV := Lib.hid hown3
                      have HBV := Lib.hid (HB3.out.grown hgr3 (by have := HB3.out.size; omega) (fun q hq => by have := (HO3.out.lt q hq).1; omega))
                      clear hown3 hgr3 hnil3
                      generalize W4 = WV at *
                      refine hK _ _ ?_; clear hK K
                      conv => arg 7; simp [Act.put]
                      refine wpAny_take (i := 9) (v := ?_) rfl (by kernel_rfl) (by kernel_rfl) (by kernel_rfl) (fun _ _ _ h => h) (Or.inl ⟨by kernel_rfl, ?_⟩) ?_
                      rotate_left
                      · (intro w; go_simp; first | done | with_reducible rfl)
                      conv => arg 7; simp [Act.put]
                      refine wpAny_done (by kernel_rfl) ?_ _
                    rotate_left 1
                  rotate_left 2
                  focus
                    go_simp
                    refine hK _ _ ?_; clear hK K
                    have HB1 := Lib.hid (below_step2 HB0.out (below_new2 (.cells #[.int .i64 x] 3)))
                    have HR1 := Lib.hid ((HR0.out.below (below_new2 (a := W0) (.cells #[.int .i64 x] 3))).mono (below_new2 (a := W0) (.cells #[.int .i64 x] 3)).size)
                    have hB1 : B ≤ (W0.alloc (.cells #[.int .i64 x] 3)).heap.size := Nat.le_trans hB0 (below_new2 (.cells #[.int .i64 x] 3)).size
                    have HX1 := Lib.hid (show (W0.alloc (.cells #[.int .i64 x] 3)).cell? ⟨W0.heap.size, 0, none⟩ = some (.int .i64 x) by simp)
                    have hgx : W0.heap.size < (W0.alloc (.cells #[.int .i64 x] 3)).heap.size := by simp
                    generalize hgxe : W0.heap.size = gx at *
                    clear hgxe
                    generalize W0.alloc (.cells #[.int .i64 x] 3) = W1 at *
                    refine wpAny_ready (rs := [0]) (by kernel_rfl) (by simp) ?_
                    refine AllReady.cons rfl (fun K hK => ?_) (AllReady.nil)
                    go_simp
                    refine hK _ _ ?_; clear hK K
                    have HB2 := Lib.hid (below_step2 HB1.out (below_new2 (.cells #[] 3)))
                    have HR2 := Lib.hid ((HR1.out.below (below_new2 (a := W1) (.cells #[] 3))).mono (below_new2 (a := W1) (.cells #[] 3)).size)
                    have hB2 : B ≤ (W1.alloc (.cells #[] 3)).heap.size := Nat.le_trans hB1 (below_new2 (.cells #[] 3)).size
                    have HO2 := Lib.hid (World.ownsRow_made (base := B) (e := 3) (size := 1) W1 #[] 0 hB1 (by simp [maxLen]) rfl)
                    have hg0 : W1.heap.size < (W1.alloc (.cells #[] 3)).heap.size := by simp
                    have HX2 := Lib.hid ((below_cell2 (below_new2 (a := W1) (.cells #[] 3)) hgx).trans HX1.out)
                    have hxg : gx ≠ W1.heap.size := by omega
                    have hgx' := Nat.lt_of_lt_of_le hgx (below_new2 (a := W1) (.cells #[] 3)).size
                    clear hgx
                    have hgx := hgx'
                    clear hgx'
                    generalize hg0e : W1.heap.size = g0 at *
                    clear hg0e
                    generalize W1.alloc (.cells #[] 3) = W2 at *
                    refine wpAny_ready (rs := [2]) (by kernel_rfl) (by simp) ?_
                    refine AllReady.cons rfl (fun K hK => ?_) (AllReady.nil)
                    refine step_append_own (by rfl) _ _ 35 (by rfl) B 3 i0 (.int .i64 0) 1 8 Try.underlying35 HI.out.1 HI.out.2.1 HI.out.2.2.1 HI.out.2.2.2 rfl (by decide) (.slice (some ⟨g0, 0, none⟩) 0 0) 0 [] (by rfl) HO2.out ad9 mm9 c9 (intC t9) (by rfl) (by rw [intC_len, ← HLEN.out]; omega) HR2.out.news (intC_one t9) (by unfold maxLen; omega) (by omega) hB2 ?_
                    intro v2 W3 hown2 hgr2 hnil2
                    rw [List.nil_append, Nat.zero_add] at hown2
                    have HO3 := Lib.hid hown2
                    have hgr3 : W2.grownBy W3 (some g0) := hgr2
                    have HB3 := Lib.hid (HB2.out.grown hgr3 (by have := HB2.out.size; omega) (fun q hq => by injection hq with hq; have := (HO2.out.lt g0 rfl).1; omega))
                    have hB3 : B ≤ W3.heap.size := Nat.le_trans hB2 hgr3.size
                    have HX3 := Lib.hid (hgr3.cell HX2.out (fun e => hxg (by injection e)))
                    clear hown2 hgr2 hgr3 hnil2
                    refine hK _ _ ?_; clear hK K
                    conv => arg 7; simp [Act.put]
                    refine wpAny_ready (rs := [8]) (by kernel_rfl) (by simp) ?_
                    refine AllReady.cons rfl (fun K hK => ?_) (AllReady.nil)
                    refine step_append_own (by rfl) _ _ 35 (by rfl) B 3 i0 (.int .i64 0) 1 8 Try.underlying35 HI.out.1 HI.out.2.1 HI.out.2.2.1 HI.out.2.2.2 rfl (by decide) v2 mm9 (intC t9) (by rfl) HO3.out ⟨gx, 0, none⟩ 1 1 [.int .i64 x] (by rfl) (by rfl) (by intro j u hj; match j, hj with | 0, hj => simp at hj; subst hj; simpa [Addr.add] using HX3.out) (by intro u hu; simp at hu; subst hu; rfl) (by unfold maxLen; omega) (by omega) hB3 ?_
                    intro v3 W4 hown3 hgr3 hnil3
                    have HOV := Lib.hid hown3
                    have HBV := Lib.hid (HB3.out.grown hgr3 (by have := HB3.out.size; omega) (fun q hq => by have := (HO3.out.lt q hq).1; omega))
                    clear hown3 hgr3 hnil3
                    generalize W4 = WV at *
                    refine hK _ _ ?_; clear hK K
                    conv => arg 7; simp [Act.put]
                    refine wpAny_take (i := 9) (v := ?_) rfl (by kernel_rfl) (by kernel_rfl) (by kernel_rfl) (fun _ _ _ h => h) (Or.inl ⟨by kernel_rfl, ?_⟩) ?_
                    rotate_left
                    · (intro w; go_simp; first | done | with_reducible rfl)
                    conv => arg 7; simp [Act.put]
                    refine wpAny_done (by kernel_rfl) ?_ _
                  rotate_left 1
                rotate_left 3
                all_goals
                  obtain ⟨T9, cc9, hv9⟩ := slice_form HOV.out (by omega)
                  subst hv9
                  obtain ⟨adz, hadz, hspz, hnz⟩ := NwAt.of_own (w := w) (t := t9 ++ [x]) (by rw [intC_app]; exact HOV.out) (by have := HLEN.out; simp; omega) (by omega) HBV.out
                  subst hadz
                  have HNZ := Lib.hid hnz; have HSPZ := Lib.hid hspz; clear hnz hspz HOV
                  go_wp2_with fail
                  go_roundw
                  case rel => exact ⟨k + 1, mm9 + 1, adz, cc9, by omega, by go_num, by rw [HSE9.out]; try first | rfl | go_num, rfl, HSPZ.out, by rw [HSE9.out]; exact HNZ.out⟩
                  case measure => simp [intOf]; omega
      · obtain rfl : k = n := by omega
        have HE := Lib.hid (show (oldS M l k).2 = (oldS M l l.length).2 by rw [HN.out])
        generalize (oldS M l k).2 = z at *
        go_wp2_with fail
        go_ret
        exact ⟨by rw [← HE.out]; rfl, HNW.out.hb⟩
end Go.Proofs.Ytompbkphdjjpdaa
