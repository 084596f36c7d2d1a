/- Contracts of dropPair, applyOp, seenAt and SeenAt of the model (chapters 3, 5 and 7). Conditions: the lists lie in rows; they are few; their texts are no longer than memory. -/
import Derived.Test.YtcaekjbalkbliaaSeenP
import Derived.Test.YtcaekjbalkbliaaVerW
import Derived.Test.YtcaekjbalkbliaaOut
import Derived.BigRegion
import Derived.Deep.RegionWith
set_option linter.unusedVariables false
set_option linter.unusedSimpArgs false
namespace Go.Proofs.Ytcaekjbalkbliaa
open Go.RowKit Go.ChangeShapes Go.WideShapes

theorem filt_stepP {l : List Pr} {p : Pr → Bool} {k : Nat} (h : k < l.length) : (l.take (k + 1)).filter p = (l.take k).filter p ++ (if p l[k] then [l[k]] else []) := by
  rw [List.take_succ_eq_append_getElem h, List.filter_append]
  cases hp : p l[k] <;> simp [hp]
set_option maxRecDepth 100000 in
set_option maxHeartbeats 2000000 in
theorem sDropP_any (A : Option Addr) (n c : Nat) (l : List Pr) (key : ByteArray) (w : World) (hr : RowAt w w.heap.size A (prsC l)) (hn : n = l.length) (hs : n ≤ 1048576) :
    Calls Try.prog 72 #[.slice A n c, .string key] w (PutPrPost (dropP key l) w) := by
  obtain ⟨i0, hi0, hz0, hz1, hz2⟩ := info_parts prInfo
  have HI := Lib.hid (And.intro hi0 (And.intro hz0 (And.intro hz1 hz2))); clear hi0 hz0 hz1 hz2
  have HR := Lib.hid hr; clear hr
  have HN := Lib.hid hn; clear hn
  have HO0 := Lib.hid (OutR.empty 52 2 w)
  have HFF := Lib.hid (fun k (h : k < l.length) => filt_stepP (l := l) (p := fun p => !(p.1.toList == key.toList)) h)
  go_enter Try.func72, Try.ntmps72
  go_wp2_with fail
  go_loopw [5, 6] (fun q i wr => ∃ (k m : Nat) (out : List Pr) (A' : Option Addr) (c' : Nat), q = .slice A' m c' ∧ i = .int .i64 k ∧ k ≤ n ∧ (l.take k).filter (fun p => !(p.1.toList == key.toList)) = out ∧ m = out.length ∧ m ≤ k ∧ OutR 52 2 w (prsC out) m A' c' wr) (fun _ i _ => n - (intOf i).toNat)
  case atStart => exact ⟨0, 0, [], _, _, rfl, rfl, by omega, rfl, rfl, by omega, HO0.out⟩
  case round =>
    obtain ⟨k, m, out, A', c', rfl, rfl, hk, hf, hm, hmk, ho⟩ := hrel
    clear HO0
    have HM := Lib.hid hm; clear hm
    have HF := Lib.hid hf; clear hf
    have HO := Lib.hid ho; clear ho
    by_cases hlt : k < n
    · have hkl : k < l.length := by have := HN.out; omega
      obtain ⟨b, off, hA, hbw, e0, e1⟩ := prs_at (HR.out.below HO.out.2) hkl
      subst hA
      have HSZ := Lib.hid HO.out.2.size
      have HFS := Lib.hid (HFF.out k hkl)
      have HOK := Lib.hid (fun o => HO.out.keep ((Below.refl wr.heap.size wr).alloc (Nat.le_refl _) o))
      rw [show l[k] = (l[k].1, l[k].2) from rfl] at HFS
      dsimp only at HFS
      have hi1 : (k : Int) < (n : Int) := by omega
      clear HFF
      generalize l[k].1 = x0 at *
      generalize l[k].2 = x1 at *
      cases hq : (x0.toList == key.toList)
      · rw [hq] at HFS
        have HKY := Lib.hid (show (if (!false) = true then [(x0, x1)] else []) = [(x0, x1)] from rfl)
        go_wp2_with (at_builtin; refine wpList_append_own _ rfl _ _ 26 rfl w.heap.size 52 i0 (.agg #[.string ⟨#[]⟩, .string ⟨#[]⟩]) 2 32 Try.underlying26 HI.out.1 HI.out.2.1 HI.out.2.2.1 HI.out.2.2.2 rfl (by decide) (.slice A' m c') m (prsC out) rfl (HOK.out _).1 ⟨wr.heap.size, 0, none⟩ 1 1 [.string x0, .string x1] rfl rfl ?c1 ?c2 ?c3 ?c4 ?c5 ?_)
        try (case c1 => exact fun j u hj => cells_at0 _ _ _ j u hj)
        try (case c2 => first | exact ⟨rfl, rfl⟩ | (intro u hu; simp at hu; rcases hu with rfl | rfl <;> rfl))
        try (case c3 => first | omega | (unfold maxLen; omega))
        try (case c4 => omega)
        try (case c5 => first | omega | (have := HSZ.out; simp; omega))
        intro v' w4 hown' hgrow _
        obtain ⟨A4, c4, rfl, ho4⟩ := (HOK.out _).app hown' hgrow
        have HO4 := Lib.hid ho4; clear ho4 hown' hgrow
        go_wp2_with fail
        go_roundw
        case rel => exact ⟨k + 1, m + 1, out ++ [(x0, x1)], A4, c4, rfl, by go_num, by omega, by rw [HFS.out, HKY.out, HF.out], by rw [List.length_append, ← HM.out]; rfl, by omega, by rw [prsC_snoc]; exact HO4.out⟩
        case measure => simp [intOf]; omega
      · rw [hq] at HFS
        have HKY := Lib.hid (show (if (!true) = true then [(x0, x1)] else []) = [] from rfl)
        go_wp2_with fail
        go_roundw
        case rel => exact ⟨k + 1, m, out, A', c', rfl, by go_num, by omega, by rw [HFS.out, HKY.out, HF.out]; exact List.append_nil _, HM.out, by omega, HO.out⟩
        case measure => simp [intOf]; omega
    · obtain rfl : k = n := by omega
      have HE := Lib.hid (show out = dropP key l by rw [← HF.out, HN.out, List.take_length]; rfl)
      go_wp2_with fail
      go_ret
      rw [← HE.out]
      have hM := HM.out
      subst hM
      exact ⟨_, rfl, ⟨A', c', rfl, HO.out.1⟩, HO.out.2⟩
set_option maxHeartbeats 1000000 in
theorem sAppOp_any (A : Option Addr) (n c : Nat) (l : List Pr) (x0 x1 : ByteArray) (x2 : Bool) (w : World) (hr : RowAt w w.heap.size A (prsC l)) (hn : n = l.length) (hs : n ≤ 1048576) :
    Calls Try.prog 61 #[.slice A n c, .agg #[.string x0, .string x1, .bool x2]] w (PutPrPost (if x2 = true then dropP x0 l else putK keyPr (x0, x1) l) w) := by
  have HD := Lib.hid (fun W (hb : Below w.heap.size w W) => sDropP_any A n c l x0 W ((hr.below hb).mono hb.size) hn hs)
  have HP := Lib.hid (fun W (hb : Below w.heap.size w W) => sPutPr_any A n c l x0 x1 W ((hr.below hb).mono hb.size) hn hs)
  have HB := Lib.hid (fun o => (Below.refl w.heap.size w).alloc (Nat.le_refl _) o)
  clear hr hn hs
  cases x2
  · go_enter Try.func61, Try.ntmps61
    go_wp2_with fail
    refine (HP.out _ (HB.out _)).mono ?_
    rintro e w2 ⟨_, rfl, ⟨A2, c2, rfl, ho⟩, hb⟩
    have HO := Lib.hid (own_leV ho (HB.out _).size)
    have HB2 := Lib.hid ((HB.out _).trans (hb.mono (HB.out _).size)); clear hb ho
    go_wp2_with fail
    go_ret
    exact ⟨_, rfl, ⟨A2, c2, rfl, HO.out⟩, HB2.out⟩
  · go_enter Try.func61, Try.ntmps61
    go_wp2_with fail
    refine (HD.out _ (HB.out _)).mono ?_
    rintro e w2 ⟨_, rfl, ⟨A2, c2, rfl, ho⟩, hb⟩
    have HO := Lib.hid (own_leV ho (HB.out _).size)
    have HB2 := Lib.hid ((HB.out _).trans (hb.mono (HB.out _).size)); clear hb ho
    go_wp2_with fail
    go_ret
    exact ⟨_, rfl, ⟨A2, c2, rfl, HO.out⟩, HB2.out⟩
set_option maxRecDepth 100000 in
set_option maxHeartbeats 4000000 in
theorem sSeenL_any (A : Option Addr) (n c : Nat) (l : List Vr) (at_ : Int) (w : World) (hr : RowAt w w.heap.size A (vrsC l)) (hn : n = l.length) (hs : n ≤ 1000) :
    Calls Try.prog 43 #[.slice A n c, .int .i64 at_] w (PutPrPost (seenA l at_) w) := by
  have HR := Lib.hid hr; clear hr
  have HN := Lib.hid hn; clear hn
  have HO0 := Lib.hid (OutR.empty 52 2 w)
  have HZ := Lib.hid (seenA_zero l at_)
  have HLEN := Lib.hid (fun k (h : k ≤ l.length) => seenA_len (l := l) (at_ := at_) k h)
  have HST := Lib.hid (fun k (h : k < l.length) (ht : l[k].2.2.2 ≤ at_) => seenA_step h ht)
  have HSK := Lib.hid (fun k (h : k < l.length) (ht : ¬ l[k].2.2.2 ≤ at_) => seenA_skip h ht)
  go_enter Try.func43, Try.ntmps43
  go_wp2_with fail
  go_loopw [5, 6] (fun q i wr => ∃ (k m : Nat) (out : List Pr) (A' : Option Addr) (c' : Nat), q = .slice A' m c' ∧ i = .int .i64 k ∧ k ≤ n ∧ seenA (l.take k) at_ = out ∧ m = out.length ∧ m ≤ k ∧ OutR 52 2 w (prsC out) m A' c' wr) (fun _ i _ => n - (intOf i).toNat)
  case atStart => exact ⟨0, 0, [], _, _, rfl, rfl, by omega, HZ.out, rfl, by omega, HO0.out⟩
  case round =>
    obtain ⟨k, m, out, A', c', rfl, rfl, hk, hf, hm, hmk, ho⟩ := hrel
    clear HO0 HZ
    have HM := Lib.hid hm; clear hm
    have HF := Lib.hid hf; clear hf
    have HO := Lib.hid ho; clear ho
    have hm78 : m ≤ 1048576 := by omega
    by_cases hlt : k < n
    · have hkl : k < l.length := by have := HN.out; omega
      obtain ⟨b, off, hA, hbw, e0, e1, e2, e3⟩ := vrs_at (HR.out.below HO.out.2) hkl
      subst hA
      have hi1 : (k : Int) < (n : Int) := by omega
      by_cases ht : l[k].2.2.2 ≤ at_
      · have HFS0 := Lib.hid (HST.out k hkl ht)
        have HL90 := Lib.hid (HLEN.out (k + 1) (by omega))
        clear HST HSK HLEN
        rw [HF.out, show l[k] = (l[k].1, l[k].2.1, l[k].2.2.1, l[k].2.2.2) from rfl] at HFS0
        generalize l[k].1 = x0 at *
        generalize l[k].2.1 = x1 at *
        generalize l[k].2.2.1 = x2 at *
        generalize l[k].2.2.2 = x3 at *
        have HFS := Lib.hid (show seenA (l.take (k + 1)) at_ = (if x2 = true then dropP x0 out else putK keyPr (x0, x1) out) from HFS0.out)
        rw [HFS.out] at HL90
        have HL9 := HL90
        clear HFS0 HL90
        have HAPX := Lib.hid (fun W (hr : RowAt W W.heap.size A' (prsC out)) => sAppOp_any A' m c' out x0 x1 x2 W hr HM.out hm78)
        generalize (if x2 = true then dropP x0 out else putK keyPr (x0, x1) out) = L9 at *
        go_wp2_with fail
        refine wp_region_any (by kernel_rfl) ?_
        try (change wpAny _ _ _ _ _ _ _ (World.drew _))
        have HO1 := Lib.hid (show OutR 52 2 w (prsC out) m A' c' wr.drew from HO.out.keep (Below.drew (Below.refl _ _)))
        have d0 : wr.drew.cell? ⟨b, off + k * 4, none⟩ = some (.string x0) := e0
        have d1 : wr.drew.cell? ⟨b, off + k * 4 + 1, none⟩ = some (.string x1) := e1
        have d2 : wr.drew.cell? ⟨b, off + k * 4 + 2, none⟩ = some (.bool x2) := e2
        have HAP := Lib.hid (HAPX.out wr.drew (RowAt.of_own HO1.out.1))
        generalize wr.drew = W0 at *
        refine wpAny_take (i := 0) (v := ?_) rfl (by kernel_rfl) (by kernel_rfl) (by kernel_rfl) (fun _ _ _ h => h) (Or.inl ⟨by kernel_rfl, ?_⟩) ?_
        rotate_left
        · (intro w; go_simp; first | done | with_reducible rfl)
        conv => arg 7; simp [Act.put]
        refine wpAny_take (i := 1) (v := ?_) rfl (by kernel_rfl) (by kernel_rfl) (by kernel_rfl) (fun _ _ _ h => h) (Or.inl ⟨by kernel_rfl, ?_⟩) ?_
        rotate_left
        · (intro w; go_simp; first | done | with_reducible rfl)
        conv => arg 7; simp [Act.put]
        refine wpAny_take (i := 2) (v := ?_) rfl (by kernel_rfl) (by kernel_rfl) (by kernel_rfl) (fun _ _ _ h => h) (Or.inl ⟨by kernel_rfl, ?_⟩) ?_
        rotate_left
        · (intro w; go_simp; first | done | with_reducible rfl)
        conv => arg 7; simp [Act.put]
        refine wpAny_take (i := 3) (v := ?_) rfl (by kernel_rfl) (by kernel_rfl) (by kernel_rfl) (fun _ _ _ h => h) (Or.inl ⟨by kernel_rfl, ?_⟩) ?_
        rotate_left
        · (intro w; go_simp; first | done | with_reducible rfl)
        conv => arg 7; simp [Act.put]
        refine wpAny_take (i := 4) (v := ?_) rfl (by kernel_rfl) (by kernel_rfl) (by kernel_rfl) (fun _ _ _ h => h) (Or.inl ⟨by kernel_rfl, ?_⟩) ?_
        rotate_left
        · (intro w; go_simp; first | done | with_reducible rfl)
        conv => arg 7; simp [Act.put]
        refine wpAny_take (i := 6) (v := ?_) rfl (by kernel_rfl) (by kernel_rfl) (by kernel_rfl) (fun _ _ _ h => h) (Or.inl ⟨by kernel_rfl, ?_⟩) ?_
        rotate_left
        · (intro w; go_simp; first | done | with_reducible rfl)
        conv => arg 7; simp [Act.put]
        refine wpAny_take (i := 7) (v := ?_) rfl (by kernel_rfl) (by kernel_rfl) (by kernel_rfl) (fun _ _ _ h => h) (Or.inl ⟨by kernel_rfl, ?_⟩) ?_
        rotate_left
        · (intro w; go_simp; first | done | with_reducible rfl)
        conv => arg 7; simp [Act.put]
        refine wpAny_take (i := 8) (v := ?_) rfl (by kernel_rfl) (by kernel_rfl) (by kernel_rfl) (fun _ _ _ h => h) (Or.inl ⟨by kernel_rfl, ?_⟩) ?_
        rotate_left
        · (intro w; go_simp; first | done | with_reducible rfl)
        conv => arg 7; simp [Act.put]
        refine wpAny_take (i := 9) (v := ?_) rfl (by kernel_rfl) (by kernel_rfl) (by kernel_rfl) (fun _ _ _ h => h) (Or.inl ⟨by kernel_rfl, ?_⟩) ?_
        rotate_left
        · (intro w; go_simp; first | done | with_reducible rfl)
        conv => arg 7; simp [Act.put]
        refine wpAny_take (i := 11) (v := ?_) rfl (by kernel_rfl) (by kernel_rfl) (by kernel_rfl) (fun _ _ _ h => h) (Or.inl ⟨by kernel_rfl, ?_⟩) ?_
        rotate_left
        · (intro w; go_simp; first | done | with_reducible rfl)
        conv => arg 7; simp [Act.put]
        refine wpAny_take (i := 12) (v := ?_) rfl (by kernel_rfl) (by kernel_rfl) (by kernel_rfl) (fun _ _ _ h => h) (Or.inl ⟨by kernel_rfl, ?_⟩) ?_
        rotate_left
        · (intro w; go_simp; first | done | with_reducible rfl)
        conv => arg 7; simp [Act.put]
        refine wpAny_take (i := 13) (v := ?_) rfl (by kernel_rfl) (by kernel_rfl) (by kernel_rfl) (fun _ _ _ h => h) (Or.inl ⟨by kernel_rfl, ?_⟩) ?_
        rotate_left
        · (intro w; go_simp; first | done | with_reducible rfl)
        conv => arg 7; simp [Act.put]
        refine wpAny_take (i := 14) (v := ?_) rfl (by kernel_rfl) (by kernel_rfl) (by kernel_rfl) (fun _ _ _ h => h) (Or.inl ⟨by kernel_rfl, ?_⟩) ?_
        rotate_left
        · (intro w; go_simp; first | done | with_reducible rfl)
        conv => arg 7; simp [Act.put]
        refine wpAny_ready (rs := [5, 10, 15]) (by kernel_rfl) (by simp) ?_
        refine AllReady.cons rfl (fun K hK => ?_) (AllReady.cons rfl (fun K hK => ?_) (AllReady.cons rfl (fun K hK => ?_) AllReady.nil))
        · go_simp
          refine hK _ _ ?_; clear hK K
          refine wpAny_ready (rs := [10, 15]) (by kernel_rfl) (by simp) ?_
          refine AllReady.cons rfl (fun K hK => ?_) (AllReady.cons rfl (fun K hK => ?_) AllReady.nil)
          · go_simp
            refine hK _ _ ?_; clear hK K
            refine wpAny_ready (rs := [15]) (by kernel_rfl) (by simp) ?_
            refine AllReady.cons rfl (fun K hK => ?_) AllReady.nil
            go_simp
            refine hK _ _ ?_; clear hK K
            refine wpAny_take (i := 16) (v := ?_) rfl (by kernel_rfl) (by kernel_rfl) (by kernel_rfl) (fun _ _ _ h => h) (Or.inl ⟨by kernel_rfl, ?_⟩) ?_
            rotate_left
            · (intro w; go_simp; first | done | with_reducible rfl)
            conv => arg 7; simp [Act.put]
            refine wpAny_ready (rs := [17]) (by kernel_rfl) (by simp) ?_
            refine AllReady.cons rfl (fun K hK => ?_) AllReady.nil
            go_simp
            go_wp2_with (go_at_call 61; refine (HAP.out).mono ?_; rintro e w4 ⟨_, rfl, ⟨A4, c4, rfl, ho4⟩, hb4⟩)
            have HO4 := Lib.hid (show OutR 52 2 w (prsC L9) L9.length A4 c4 w4 from ⟨own_leV ho4 HO1.out.2.size, HO1.out.2.trans (hb4.mono HO1.out.2.size)⟩)
            clear ho4 hb4
            refine wpAny_take (i := 18) (v := ?_) rfl (by kernel_rfl) (by kernel_rfl) (by kernel_rfl) (fun _ _ _ h => h) (Or.inl ⟨by kernel_rfl, ?_⟩) ?_
            rotate_left
            · (intro w; go_simp; first | done | with_reducible rfl)
            conv => arg 7; simp [Act.put]
            refine wpAny_done (by kernel_rfl) ?_ _
            go_wp2_with fail
            go_roundw
            case rel => exact ⟨k + 1, L9.length, L9, A4, c4, rfl, by go_num, by omega, HFS.out, rfl, HL9.out, HO4.out⟩
            case measure => simp [intOf]; omega
          · go_simp
            refine hK _ _ ?_; clear hK K
            refine wpAny_ready (rs := [10]) (by kernel_rfl) (by simp) ?_
            refine AllReady.cons rfl (fun K hK => ?_) AllReady.nil
            go_simp
            refine hK _ _ ?_; clear hK K
            refine wpAny_take (i := 16) (v := ?_) rfl (by kernel_rfl) (by kernel_rfl) (by kernel_rfl) (fun _ _ _ h => h) (Or.inl ⟨by kernel_rfl, ?_⟩) ?_
            rotate_left
            · (intro w; go_simp; first | done | with_reducible rfl)
            conv => arg 7; simp [Act.put]
            refine wpAny_ready (rs := [17]) (by kernel_rfl) (by simp) ?_
            refine AllReady.cons rfl (fun K hK => ?_) AllReady.nil
            go_simp
            go_wp2_with (go_at_call 61; refine (HAP.out).mono ?_; rintro e w4 ⟨_, rfl, ⟨A4, c4, rfl, ho4⟩, hb4⟩)
            have HO4 := Lib.hid (show OutR 52 2 w (prsC L9) L9.length A4 c4 w4 from ⟨own_leV ho4 HO1.out.2.size, HO1.out.2.trans (hb4.mono HO1.out.2.size)⟩)
            clear ho4 hb4
            refine wpAny_take (i := 18) (v := ?_) rfl (by kernel_rfl) (by kernel_rfl) (by kernel_rfl) (fun _ _ _ h => h) (Or.inl ⟨by kernel_rfl, ?_⟩) ?_
            rotate_left
            · (intro w; go_simp; first | done | with_reducible rfl)
            conv => arg 7; simp [Act.put]
            refine wpAny_done (by kernel_rfl) ?_ _
            go_wp2_with fail
            go_roundw
            case rel => exact ⟨k + 1, L9.length, L9, A4, c4, rfl, by go_num, by omega, HFS.out, rfl, HL9.out, HO4.out⟩
            case measure => simp [intOf]; omega
        · go_simp
          refine hK _ _ ?_; clear hK K
          refine wpAny_ready (rs := [5, 15]) (by kernel_rfl) (by simp) ?_
          refine AllReady.cons rfl (fun K hK => ?_) (AllReady.cons rfl (fun K hK => ?_) AllReady.nil)
          · go_simp
            refine hK _ _ ?_; clear hK K
            refine wpAny_ready (rs := [15]) (by kernel_rfl) (by simp) ?_
            refine AllReady.cons rfl (fun K hK => ?_) AllReady.nil
            go_simp
            refine hK _ _ ?_; clear hK K
            refine wpAny_take (i := 16) (v := ?_) rfl (by kernel_rfl) (by kernel_rfl) (by kernel_rfl) (fun _ _ _ h => h) (Or.inl ⟨by kernel_rfl, ?_⟩) ?_
            rotate_left
            · (intro w; go_simp; first | done | with_reducible rfl)
            conv => arg 7; simp [Act.put]
            refine wpAny_ready (rs := [17]) (by kernel_rfl) (by simp) ?_
            refine AllReady.cons rfl (fun K hK => ?_) AllReady.nil
            go_simp
            go_wp2_with (go_at_call 61; refine (HAP.out).mono ?_; rintro e w4 ⟨_, rfl, ⟨A4, c4, rfl, ho4⟩, hb4⟩)
            have HO4 := Lib.hid (show OutR 52 2 w (prsC L9) L9.length A4 c4 w4 from ⟨own_leV ho4 HO1.out.2.size, HO1.out.2.trans (hb4.mono HO1.out.2.size)⟩)
            clear ho4 hb4
            refine wpAny_take (i := 18) (v := ?_) rfl (by kernel_rfl) (by kernel_rfl) (by kernel_rfl) (fun _ _ _ h => h) (Or.inl ⟨by kernel_rfl, ?_⟩) ?_
            rotate_left
            · (intro w; go_simp; first | done | with_reducible rfl)
            conv => arg 7; simp [Act.put]
            refine wpAny_done (by kernel_rfl) ?_ _
            go_wp2_with fail
            go_roundw
            case rel => exact ⟨k + 1, L9.length, L9, A4, c4, rfl, by go_num, by omega, HFS.out, rfl, HL9.out, HO4.out⟩
            case measure => simp [intOf]; omega
          · go_simp
            refine hK _ _ ?_; clear hK K
            refine wpAny_ready (rs := [5]) (by kernel_rfl) (by simp) ?_
            refine AllReady.cons rfl (fun K hK => ?_) AllReady.nil
            go_simp
            refine hK _ _ ?_; clear hK K
            refine wpAny_take (i := 16) (v := ?_) rfl (by kernel_rfl) (by kernel_rfl) (by kernel_rfl) (fun _ _ _ h => h) (Or.inl ⟨by kernel_rfl, ?_⟩) ?_
            rotate_left
            · (intro w; go_simp; first | done | with_reducible rfl)
            conv => arg 7; simp [Act.put]
            refine wpAny_ready (rs := [17]) (by kernel_rfl) (by simp) ?_
            refine AllReady.cons rfl (fun K hK => ?_) AllReady.nil
            go_simp
            go_wp2_with (go_at_call 61; refine (HAP.out).mono ?_; rintro e w4 ⟨_, rfl, ⟨A4, c4, rfl, ho4⟩, hb4⟩)
            have HO4 := Lib.hid (show OutR 52 2 w (prsC L9) L9.length A4 c4 w4 from ⟨own_leV ho4 HO1.out.2.size, HO1.out.2.trans (hb4.mono HO1.out.2.size)⟩)
            clear ho4 hb4
            refine wpAny_take (i := 18) (v := ?_) rfl (by kernel_rfl) (by kernel_rfl) (by kernel_rfl) (fun _ _ _ h => h) (Or.inl ⟨by kernel_rfl, ?_⟩) ?_
            rotate_left
            · (intro w; go_simp; first | done | with_reducible rfl)
            conv => arg 7; simp [Act.put]
            refine wpAny_done (by kernel_rfl) ?_ _
            go_wp2_with fail
            go_roundw
            case rel => exact ⟨k + 1, L9.length, L9, A4, c4, rfl, by go_num, by omega, HFS.out, rfl, HL9.out, HO4.out⟩
            case measure => simp [intOf]; omega
        · go_simp
          refine hK _ _ ?_; clear hK K
          refine wpAny_ready (rs := [5, 10]) (by kernel_rfl) (by simp) ?_
          refine AllReady.cons rfl (fun K hK => ?_) (AllReady.cons rfl (fun K hK => ?_) AllReady.nil)
          · go_simp
            refine hK _ _ ?_; clear hK K
            refine wpAny_ready (rs := [10]) (by kernel_rfl) (by simp) ?_
            refine AllReady.cons rfl (fun K hK => ?_) AllReady.nil
            go_simp
            refine hK _ _ ?_; clear hK K
            refine wpAny_take (i := 16) (v := ?_) rfl (by kernel_rfl) (by kernel_rfl) (by kernel_rfl) (fun _ _ _ h => h) (Or.inl ⟨by kernel_rfl, ?_⟩) ?_
            rotate_left
            · (intro w; go_simp; first | done | with_reducible rfl)
            conv => arg 7; simp [Act.put]
            refine wpAny_ready (rs := [17]) (by kernel_rfl) (by simp) ?_
            refine AllReady.cons rfl (fun K hK => ?_) AllReady.nil
            go_simp
            go_wp2_with (go_at_call 61; refine (HAP.out).mono ?_; rintro e w4 ⟨_, rfl, ⟨A4, c4, rfl, ho4⟩, hb4⟩)
            have HO4 := Lib.hid (show OutR 52 2 w (prsC L9) L9.length A4 c4 w4 from ⟨own_leV ho4 HO1.out.2.size, HO1.out.2.trans (hb4.mono HO1.out.2.size)⟩)
            clear ho4 hb4
            refine wpAny_take (i := 18) (v := ?_) rfl (by kernel_rfl) (by kernel_rfl) (by kernel_rfl) (fun _ _ _ h => h) (Or.inl ⟨by kernel_rfl, ?_⟩) ?_
            rotate_left
            · (intro w; go_simp; first | done | with_reducible rfl)
            conv => arg 7; simp [Act.put]
            refine wpAny_done (by kernel_rfl) ?_ _
            go_wp2_with fail
            go_roundw
            case rel => exact ⟨k + 1, L9.length, L9, A4, c4, rfl, by go_num, by omega, HFS.out, rfl, HL9.out, HO4.out⟩
            case measure => simp [intOf]; omega
          · go_simp
            refine hK _ _ ?_; clear hK K
            refine wpAny_ready (rs := [5]) (by kernel_rfl) (by simp) ?_
            refine AllReady.cons rfl (fun K hK => ?_) AllReady.nil
            go_simp
            refine hK _ _ ?_; clear hK K
            refine wpAny_take (i := 16) (v := ?_) rfl (by kernel_rfl) (by kernel_rfl) (by kernel_rfl) (fun _ _ _ h => h) (Or.inl ⟨by kernel_rfl, ?_⟩) ?_
            rotate_left
            · (intro w; go_simp; first | done | with_reducible rfl)
            conv => arg 7; simp [Act.put]
            refine wpAny_ready (rs := [17]) (by kernel_rfl) (by simp) ?_
            refine AllReady.cons rfl (fun K hK => ?_) AllReady.nil
            go_simp
            go_wp2_with (go_at_call 61; refine (HAP.out).mono ?_; rintro e w4 ⟨_, rfl, ⟨A4, c4, rfl, ho4⟩, hb4⟩)
            have HO4 := Lib.hid (show OutR 52 2 w (prsC L9) L9.length A4 c4 w4 from ⟨own_leV ho4 HO1.out.2.size, HO1.out.2.trans (hb4.mono HO1.out.2.size)⟩)
            clear ho4 hb4
            refine wpAny_take (i := 18) (v := ?_) rfl (by kernel_rfl) (by kernel_rfl) (by kernel_rfl) (fun _ _ _ h => h) (Or.inl ⟨by kernel_rfl, ?_⟩) ?_
            rotate_left
            · (intro w; go_simp; first | done | with_reducible rfl)
            conv => arg 7; simp [Act.put]
            refine wpAny_done (by kernel_rfl) ?_ _
            go_wp2_with fail
            go_roundw
            case rel => exact ⟨k + 1, L9.length, L9, A4, c4, rfl, by go_num, by omega, HFS.out, rfl, HL9.out, HO4.out⟩
            case measure => simp [intOf]; omega
      · have HFS := Lib.hid (HSK.out k hkl (by omega))
        clear HST HSK HLEN
        generalize l[k].2.2.2 = x3 at *
        go_wp2_with fail
        go_roundw
        case rel => exact ⟨k + 1, m, out, A', c', rfl, by go_num, by omega, by rw [HFS.out, HF.out], HM.out, by omega, HO.out⟩
        case measure => simp [intOf]; omega
    · obtain rfl : k = n := by omega
      have HE := Lib.hid (show out = seenA l at_ by rw [← HF.out, HN.out, List.take_length])
      go_wp2_with fail
      go_ret
      rw [← HE.out]
      have hM := HM.out
      subst hM
      exact ⟨_, rfl, ⟨A', c', rfl, HO.out.1⟩, HO.out.2⟩
theorem sweepB_len {l : List Vr} {at_ : Int} (h : sweepB okVr l at_ = true) : l.length ≤ 30 := by
  unfold sweepB at h; simp only [Bool.and_eq_true] at h; exact (versK_iff.1 h.1.1).1
set_option maxRecDepth 100000 in
set_option maxHeartbeats 2000000 in
theorem sSeen_any (A : Option Addr) (n c : Nat) (l : List Vr) (from_ : Int) (w : World) (hr : RowAt w w.heap.size A (vrsC l)) (hn : n = l.length) (hs : n ≤ 1048576) (hw : WfVr l) :
    Calls Try.prog 26 #[.slice A n c, .int .i64 from_] w (PutPrPost (seenR l from_) w) := by
  have HV := Lib.hid (sVers_any A n c l w hr hn hs hw)
  have HI := Lib.hid (fun W => inRange_any from_ 0 20 W)
  have HL := Lib.hid (fun (h : sweepB okVr l from_ = true) W (hb : Below w.heap.size w W) => sSeenL_any A n c l from_ W ((hr.below hb).mono hb.size) hn (by have := sweepB_len h; omega))
  have HB := Lib.hid (show sweepB okVr l from_ = (versB l && decide (0 ≤ from_) && decide (from_ ≤ 20)) from rfl)
  have HNO := Lib.hid (fun h => seenR_no (l := l) (at_ := from_) h)
  have HYY := Lib.hid (fun h => seenR_yes (l := l) (at_ := from_) h)
  clear hr hn hs hw
  generalize seenR l from_ = rk at *
  generalize sweepB okVr l from_ = rb at *
  cases h1 : versB l
  · rw [h1] at HV HB
    clear h1 HL HYY
    have HE := Lib.hid (HNO.out (by rw [HB.out]; rfl))
    go_enter Try.func26, Try.ntmps26
    go_wp2_with fail
    refine (HV.out).mono ?_
    rintro e w2 ⟨rfl, hb2⟩
    have HB2 := Lib.hid hb2; clear hb2
    go_wp2_with fail
    go_ret
    rw [HE.out]
    exact ⟨_, rfl, ⟨none, 0, rfl, World.ownsRow_nil _ _ _ _⟩, HB2.out⟩
  rw [h1] at HV HB
  clear h1
  by_cases h3 : 0 ≤ from_ ∧ from_ ≤ 20
  · have hT : (decide ((0 : Int) ≤ from_) && decide (from_ ≤ 20)) = true := by simp; omega
    rw [Bool.and_assoc, hT] at HB
    rw [hT] at HI
    clear h3 hT HNO
    have HE := Lib.hid (HYY.out (by rw [HB.out]; rfl))
    have HL1 := Lib.hid (HL.out (by rw [HB.out]; rfl))
    go_enter Try.func26, Try.ntmps26
    go_wp2_with fail
    refine (HV.out).mono ?_
    rintro e w2 ⟨rfl, hb2⟩
    have HB2 := Lib.hid hb2; clear hb2
    go_wp2_with (go_at_call 42; refine (HI.out _).mono ?_; rintro e w' ⟨rfl, rfl⟩)
    refine (HL1.out _ HB2.out).mono ?_
    rintro e w3 ⟨_, rfl, ⟨A3, c3, rfl, ho3⟩, hb3⟩
    have HO3 := Lib.hid (own_leV ho3 HB2.out.size); clear ho3
    have HB3 := Lib.hid (HB2.out.trans (hb3.mono HB2.out.size)); clear hb3
    go_wp2_with fail
    go_ret
    rw [HE.out]
    exact ⟨_, rfl, ⟨A3, c3, rfl, HO3.out⟩, HB3.out⟩
  · have hT : (decide ((0 : Int) ≤ from_) && decide (from_ ≤ 20)) = false := by simp; omega
    rw [Bool.and_assoc, hT] at HB
    rw [hT] at HI
    clear h3 hT HL HYY
    have HE := Lib.hid (HNO.out (by rw [HB.out]; rfl))
    go_enter Try.func26, Try.ntmps26
    go_wp2_with fail
    refine (HV.out).mono ?_
    rintro e w2 ⟨rfl, hb2⟩
    have HB2 := Lib.hid hb2; clear hb2
    go_wp2_with (go_at_call 42; refine (HI.out _).mono ?_; rintro e w' ⟨rfl, rfl⟩)
    go_ret
    rw [HE.out]
    exact ⟨_, rfl, ⟨none, 0, rfl, World.ownsRow_nil _ _ _ _⟩, HB2.out⟩
end Go.Proofs.Ytcaekjbalkbliaa
