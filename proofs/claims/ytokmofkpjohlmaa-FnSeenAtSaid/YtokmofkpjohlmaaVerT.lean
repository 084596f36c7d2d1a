/- Contracts of TimesOf, in the model and in the program (chapter 7). Conditions: the versions lie in a row; they are few; their texts are no longer than memory. -/
import Derived.Test.YtokmofkpjohlmaaVerS
import Derived.Test.YtokmofkpjohlmaaShelf
import Derived.Test.YtokmofkpjohlmaaExInt
import Derived.Test.YtokmofkpjohlmaaOut
import Derived.Lib.SlicesCompact
import Derived.Lib.RowBridge
set_option linter.unusedVariables false
set_option linter.unusedSimpArgs false
namespace Go.Proofs.Ytokmofkpjohlmaa
open Go.RowKit Go.ChangeShapes Go.WideShapes

def overV {α : Type} : List α → Nat → List α → List α
  | xs, _, [] => xs
  | xs, o, v :: vs => overV (xs.set o v) (o + 1) vs
theorem over_eqV {α : Type} : ∀ (vs xs : List α) (o : Nat), o + vs.length = xs.length → overV xs o vs = xs.take o ++ vs
  | [], xs, o, h => by simp at h; rw [overV, List.append_nil, List.take_of_length_le (by omega)]
  | v :: vs, xs, o, h => by
    rw [overV, over_eqV vs _ _ (by rw [List.length_set]; simp at h; omega)]
    simp at h
    rw [List.take_succ_eq_append_getElem (by rw [List.length_set]; omega)]
    rw [List.take_set, List.set_eq_of_length_le (by rw [List.length_take]; omega)]
    simp
theorem ownsRow_setCellsV {B g n c : Nat} {e : TypeId} : ∀ (vs : List Value) (o : Nat) (xs : List Value) (w : World), w.ownsRow B e 1 (.slice (some ⟨g, 0, none⟩) n c) n xs →
    (w.setCells g o vs).ownsRow B e 1 (.slice (some ⟨g, 0, none⟩) n c) n (overV xs o vs) ∧ w.grownBy (w.setCells g o vs) (some g)
  | [], o, xs, w, h => ⟨h, ⟨rfl, rfl, rfl, Nat.le_refl _, fun _ _ _ => rfl⟩⟩
  | v :: vs, o, xs, w, h => by
    have h1 := h.stored o v
    have h2 := ownsRow_setCellsV vs (o + 1) _ _ h1.1
    exact ⟨h2.1, h1.2.trans' h2.2⟩
theorem ownsRow_lessV {w : World} {B g n c k : Nat} {e : TypeId} {xs : List Value} (h : w.ownsRow B e 1 (.slice (some ⟨g, 0, none⟩) n c) n xs) (hk : k ≤ n) : w.ownsRow B e 1 (.slice (some ⟨g, 0, none⟩) k c) k (xs.take k) := by
  have hl := h.1
  refine ⟨by rw [List.length_take]; omega, ?_⟩
  rcases h.2 with ⟨h1, _⟩ | ⟨g', cap, cur, h1, h2, h3, h4, h5, h6, h7⟩
  · cases h1
  · injection h1 with a1 a2 a3
    injection a1 with a1
    injection a1 with a1
    subst a1 a3
    refine .inr ⟨g, c, cur, rfl, h2, h3, by omega, h5, h6, ?_⟩
    rw [← h7, List.take_take]
    congr 1
    omega
theorem own_ptrV {w : World} {B n c z : Nat} {e : TypeId} {T : Option Addr} {xs : List Value} (h : w.ownsRow B e z (.slice T n c) n xs) (hn : 0 < n) : ∃ g, T = some ⟨g, 0, none⟩ ∧ n ≤ c ∧ c ≤ maxLen := by
  rcases h.2 with ⟨h1, h2⟩ | ⟨g', cap, cur, h1, h2, h3, h4, h5, h6, h7⟩
  · omega
  · injection h1 with a1 a2 a3
    subst a1 a3
    exact ⟨_, rfl, h4, h5⟩
theorem own_leT {w : World} {B B' n z : Nat} {e : TypeId} {v : Value} {xs : List Value} (h : w.ownsRow B e z v n xs) (hB : B' ≤ B) : w.ownsRow B' e z v n xs := by
  refine ⟨h.1, ?_⟩
  rcases h.2 with h | ⟨g, cap, cur, hv, hg, r⟩
  · exact .inl h
  · exact .inr ⟨g, cap, cur, hv, by omega, r⟩
theorem grown_drewNV {w : World} (q : Nat) {row : Option Nat} : w.grownBy (w.drewN q) row := ⟨rfl, rfl, rfl, Nat.le_refl _, fun _ _ _ => rfl⟩
def timL (l : List Vr) : List Int := l.map (fun v => v.2.2.2)
def timK (l : List Vr) (k : Nat) : List Int := Lib.compactUpTo (timL l).toArray k
def timesR (l : List Vr) : List Int := if versB l then Lib.compact (timL l) else []
theorem timL_len (l : List Vr) : (timL l).length = l.length := by simp [timL]
theorem timL_at {l : List Vr} {k : Nat} (h : k < l.length) : (timL l).toArray[k]! = l[k].2.2.2 := by
  have : k < (timL l).toArray.size := by simp [timL]; exact h
  rw [getElem!_pos (timL l).toArray k this]; simp [timL]
theorem timK_zero (l : List Vr) : timK l 0 = [] := by simp [timK, Lib.compactUpTo]
theorem timK_full (l : List Vr) : timK l l.length = Lib.compact (timL l) := by unfold timK Lib.compact; rw [timL_len]
theorem timK_first {l : List Vr} (h : 0 < l.length) : timK l (0 + 1) = timK l 0 ++ [l[0].2.2.2] := by
  unfold timK; rw [Lib.compactUpTo_succ, Lib.keeps_lt_one _ 0 (by omega), timL_at h]; rfl
theorem timK_new {l : List Vr} {k : Nat} (h : k + 1 < l.length) (hne : ¬ l[k + 1].2.2.2 = (l[k]'(by omega)).2.2.2) : timK l (k + 1 + 1) = timK l (k + 1) ++ [l[k + 1].2.2.2] := by
  unfold timK; rw [Lib.compactUpTo_succ, Lib.keeps_pos (by rw [timL_at h, Nat.add_sub_cancel, timL_at (by omega)]; exact hne), timL_at h]; rfl
theorem timK_old {l : List Vr} {k : Nat} (h : k + 1 < l.length) (he : l[k + 1].2.2.2 = (l[k]'(by omega)).2.2.2) : timK l (k + 1 + 1) = timK l (k + 1) := by
  unfold timK; rw [Lib.compactUpTo_succ, Lib.keeps_neg (by omega) (by rw [timL_at h, Nat.add_sub_cancel, timL_at (by omega)]; exact he)]; exact List.append_nil _
theorem timesR_no {l : List Vr} (h : versB l = false) : timesR l = [] := by unfold timesR; rw [if_neg (by rw [h]; simp)]
theorem timesR_yes {l : List Vr} (h : versB l = true) : timesR l = Lib.compact (timL l) := by unfold timesR; rw [if_pos h]
theorem timesR_good {l : List Vr} (h : WfVr l) (hl : l.length ≤ 1048576) : (timesR l).length ≤ 1048576 ∧ ∀ p ∈ timesR l, (-9223372036854775808 ≤ p ∧ p ≤ 9223372036854775807) := by
  have hc : ∀ p ∈ Lib.compact (timL l), p ∈ timL l := fun p hp => by
    unfold Lib.compact Lib.compactUpTo at hp
    obtain ⟨j, hj, rfl⟩ := List.mem_map.1 hp
    have hjl := List.mem_range.1 (List.mem_filter.1 hj).1
    rw [timL_len] at hjl
    rw [timL_at hjl]
    exact List.mem_map.2 ⟨l[j], List.getElem_mem hjl, rfl⟩
  unfold timesR
  split
  · refine ⟨Nat.le_trans (Lib.compact_length_le _) (by rw [timL_len]; exact hl), fun p hp => ?_⟩
    obtain ⟨v, hv, rfl⟩ := List.mem_map.1 (hc p hp)
    exact (h v hv).2.2
  · exact ⟨by simp, fun p hp => by cases hp⟩
theorem intC_snocV (a : List Int) (x : Int) : intC (a ++ [x]) = intC a ++ [.int .i64 x] := by simp [intC]
theorem intC_lenV (a : List Int) : (intC a).length = a.length := by simp [intC]
set_option maxRecDepth 100000 in
set_option maxHeartbeats 4000000 in
theorem sTimes_any (A : Option Addr) (n c : Nat) (l : List Vr) (w0 : World) (hr0 : RowAt w0 w0.heap.size A (vrsC l)) (hn : n = l.length) (hs : n ≤ 1048576) (hw : WfVr l) :
    Calls Try.prog 20 #[.slice A n c] w0 (IntsPost (timesR l) w0) := by
  obtain ⟨i0, hi0, hz0, hz1, hz2⟩ := info_parts intInfo
  have HI := Lib.hid (And.intro hi0 (And.intro hz0 (And.intro hz1 hz2))); clear hi0 hz0 hz1 hz2
  have HV := Lib.hid (sVers_any A n c l w0 hr0 hn hs hw)
  have HR := Lib.hid hr0; clear hr0
  have HN := Lib.hid hn; clear hn
  clear hw
  cases hv : versB l
  · have HE := Lib.hid (timesR_no hv)
    rw [hv] at HV
    clear hv
    go_enter Try.func20, Try.ntmps20
    go_wp2_with fail
    refine (HV.out).mono ?_
    rintro e w ⟨rfl, hb⟩
    have HB := Lib.hid hb; clear hb
    go_wp2_with fail
    go_ret
    rw [HE.out]
    exact ⟨_, rfl, ⟨none, 0, rfl, World.ownsRow_nil _ _ _ _⟩, HB.out⟩
  have HE := Lib.hid (timesR_yes hv)
  rw [hv] at HV
  clear hv
  go_enter Try.func20, Try.ntmps20
  go_wp2_with fail
  refine (HV.out).mono ?_
  rintro e w ⟨rfl, hb⟩
  have HB := Lib.hid hb; clear hb HV
  have HO0 := Lib.hid (OutR.empty 3 1 w)
  have HZ := Lib.hid (timK_zero l)
  go_wp2_with fail
  go_loopw [3, 4] (fun q i wr => ∃ (k m : Nat) (out : List Int) (A' : Option Addr) (c' : Nat), q = .slice A' m c' ∧ i = .int .i64 k ∧ k ≤ n ∧ timK l k = out ∧ m = out.length ∧ m ≤ k ∧ OutR 3 1 w (intC out) m A' c' wr) (fun _ i _ => n - (intOf i).toNat)
  case atStart => exact ⟨0, 0, [], _, _, rfl, rfl, by omega, HZ.out, rfl, by omega, HO0.out⟩
  case round =>
    obtain ⟨k, m, out, A', c', rfl, rfl, hk, hf, hm, hmk, ho⟩ := hrel
    clear HO0 HZ
    have HM := Lib.hid hm; clear hm
    have HF := Lib.hid hf; clear hf
    have HO := Lib.hid ho; clear ho
    have HBW := Lib.hid (HB.out.trans (HO.out.2.mono HB.out.size))
    by_cases hlt : k < n
    · have hkl : k < l.length := by have := HN.out; omega
      have HSZ := Lib.hid HO.out.2.size
      have hi1 : (k : Int) < (n : Int) := by omega
      cases k with
      | zero =>
        obtain ⟨b, off, hA, hbw, e0, e1, e2, e3⟩ := vrs_at (HR.out.below HBW.out) hkl
        subst hA
        rw [Nat.zero_mul, Nat.add_zero] at e3
        clear e0 e1 e2
        have HFS := Lib.hid (timK_first hkl)
        generalize l[0].2.2.2 = x3 at *
        go_wp2_with fail
        go_quiet (fail)
        generalize hW1 : wr.drewN _ = W1
        have HO1 := Lib.hid (show OutR 3 1 w (intC out) m A' c' W1 by rw [← hW1]; exact HO.out.keep (below_drewN _ _))
        have HE3 := Lib.hid (show W1.cell? ⟨b, off + 3, none⟩ = some (.int .i64 x3) by rw [← hW1]; exact e3)
        have HSZ1 := Lib.hid (show w.heap.size ≤ W1.heap.size by rw [← hW1]; exact HSZ.out)
        have f3 := HE3.out
        have HOK := Lib.hid (fun o => HO1.out.keep ((Below.refl W1.heap.size W1).alloc (Nat.le_refl _) o))
        clear hW1 e3
        go_wp2_with (at_builtin; refine wpList_append_own _ rfl _ _ 29 rfl w.heap.size 3 i0 (.int .i64 0) 1 8 Try.underlying29 HI.out.1 HI.out.2.1 HI.out.2.2.1 HI.out.2.2.2 rfl (by decide) (.slice A' m c') m (intC out) rfl (HOK.out _).1 ⟨W1.heap.size, 0, none⟩ 1 1 [.int .i64 x3] rfl rfl ?c1 ?c2 ?c3 ?c4 ?c5 ?_)
        try (case c1 => exact fun j u hj => cells_at0 _ _ _ j u hj)
        try (case c2 => first | rfl | (intro u hu; simp at hu; subst hu; rfl))
        try (case c3 => first | omega | (unfold maxLen; omega))
        try (case c4 => omega)
        try (case c5 => first | omega | (have := HSZ1.out; simp; omega))
        intro v' w4 hown' hgrow _
        obtain ⟨A4, c4, rfl, ho4⟩ := (HOK.out _).app hown' hgrow
        have HO4 := Lib.hid ho4; clear ho4 hown' hgrow
        go_wp2_with fail
        go_roundw
        case rel => exact ⟨0 + 1, m + 1, out ++ [x3], A4, c4, rfl, by go_num, by omega, by rw [HFS.out, HF.out], by rw [List.length_append, ← HM.out]; rfl, by omega, by rw [intC_snocV]; exact HO4.out⟩
        case measure => simp [intOf]; omega
      | succ j =>
        have hjl : j < l.length := by omega
        obtain ⟨b, off, hA, hbw, e0, e1, e2, e3⟩ := vrs_at (HR.out.below HBW.out) hkl
        obtain ⟨b', off', hA', hbw', z0, z1, z2, e4⟩ := vrs_at (HR.out.below HBW.out) hjl
        subst hA
        injection hA' with hA'
        injection hA' with h1 h2
        subst h1 h2
        clear e0 e1 e2 z0 z1 z2 hbw'
        have hi2 : (j : Int) < (n : Int) := by omega
        have hi3 : (j : Int) + 1 - 1 = (j : Int) := by omega
        have hi8 : (j : Int) + 1 < (n : Int) := by omega
        have hi9 : (0 : Int) ≤ (j : Int) + 1 := by omega
        have hi4 : ((j : Int) + 1 == 0) = false := by simp; omega
        have hi5 : (0 : Int) ≤ (j : Int) := by omega
        have hi7 : IntKind.i64.wrap (j : Int) = (j : Int) := IntWalk.i64_in _ (by omega)
        have HFN := Lib.hid (fun h => timK_new (l := l) (k := j) hkl h)
        have HFO := Lib.hid (fun h => timK_old (l := l) (k := j) hkl h)
        generalize l[j].2.2.2 = y3 at *
        generalize l[j + 1].2.2.2 = x3 at *
        by_cases hq : x3 = y3
        · have hqb : (x3 == y3) = true := by simpa using hq
          have hqb2 : (x3 != y3) = false := by simpa using hq
          have HFS := Lib.hid (HFO.out hq)
          have HO2 := Lib.hid (fun nq => HO.out.keep (show Below wr.heap.size wr (wr.drewN nq) from below_drewN _ _))
          clear HFN HFO hq
          go_wp2_with fail
          go_quiet (fail)
          go_wp2_with fail
          go_roundw
          case rel => exact ⟨(j + 1) + 1, m, out, A', c', rfl, by go_num, by omega, by rw [HFS.out, HF.out], HM.out, by omega, HO2.out _⟩
          case measure => simp [intOf]; omega
        · have hqb : (x3 == y3) = false := by simpa using hq
          have hqb2 : (x3 != y3) = true := by simpa using hq
          have HFS := Lib.hid (HFN.out hq)
          clear HFN HFO hq
          go_wp2_with fail
          go_quiet (fail)
          generalize hW1 : wr.drewN _ = W1
          have HO1 := Lib.hid (show OutR 3 1 w (intC out) m A' c' W1 by rw [← hW1]; exact HO.out.keep (below_drewN _ _))
          have HE3 := Lib.hid (show W1.cell? ⟨b, off + (j + 1) * 4 + 3, none⟩ = some (.int .i64 x3) by rw [← hW1]; exact e3)
          have HSZ1 := Lib.hid (show w.heap.size ≤ W1.heap.size by rw [← hW1]; exact HSZ.out)
          have f3 := HE3.out
          have HOK := Lib.hid (fun o => HO1.out.keep ((Below.refl W1.heap.size W1).alloc (Nat.le_refl _) o))
          clear hW1 e3
          go_wp2_with (at_builtin; refine wpList_append_own _ rfl _ _ 29 rfl w.heap.size 3 i0 (.int .i64 0) 1 8 Try.underlying29 HI.out.1 HI.out.2.1 HI.out.2.2.1 HI.out.2.2.2 rfl (by decide) (.slice A' m c') m (intC out) rfl (HOK.out _).1 ⟨W1.heap.size, 0, none⟩ 1 1 [.int .i64 x3] rfl rfl ?c1 ?c2 ?c3 ?c4 ?c5 ?_)
          try (case c1 => exact fun j u hj => cells_at0 _ _ _ j u hj)
          try (case c2 => first | rfl | (intro u hu; simp at hu; subst hu; rfl))
          try (case c3 => first | omega | (unfold maxLen; omega))
          try (case c4 => omega)
          try (case c5 => first | omega | (have := HSZ1.out; simp; omega))
          intro v' w4 hown' hgrow _
          obtain ⟨A4, c4, rfl, ho4⟩ := (HOK.out _).app hown' hgrow
          have HO4 := Lib.hid ho4; clear ho4 hown' hgrow
          go_wp2_with fail
          go_roundw
          case rel => exact ⟨(j + 1) + 1, m + 1, out ++ [x3], A4, c4, rfl, by go_num, by omega, by rw [HFS.out, HF.out], by rw [List.length_append, ← HM.out]; rfl, by omega, by rw [intC_snocV]; exact HO4.out⟩
          case measure => simp [intOf]; omega
    · obtain rfl : k = n := by omega
      have HE2 := Lib.hid (show timesR l = out by rw [HE.out, ← HF.out, HN.out, timK_full])
      go_wp2_with fail
      go_ret
      rw [HE2.out]
      have hM := HM.out
      subst hM
      exact ⟨_, rfl, ⟨A', c', rfl, own_leT HO.out.1 HB.out.size⟩, HBW.out⟩
/-- slices.Compact at a row of the call's own -/
theorem compact_own (B n c : Nat) (t : List Int) (T : Option Addr) (w : World) (h : w.ownsRow B 3 1 (.slice T n c) n (intC t)) (hn : n = t.length) (hs : n ≤ 1048576) :
    Calls Try.prog 62 #[.slice T n c] w fun e w' => e = .returned (.slice T (Lib.compact t).length c) ∧ w'.ownsRow B 3 1 (.slice T (Lib.compact t).length c) (Lib.compact t).length (intC (Lib.compact t)) ∧ w.grownBy w' (Value.slice T n c).ownBlock := by
  by_cases h0 : n = 0
  · have ht : t = [] := List.eq_nil_of_length_eq_zero (by omega)
    subst h0 ht
    refine (Try.slices_Compact_int_empty T c w).mono ?_
    rintro e w' ⟨rfl, rfl⟩
    exact ⟨rfl, h, World.grownBy.refl _ _⟩
  · obtain ⟨g, rfl, hnc, hcm⟩ := own_ptrV h (by omega)
    unfold maxLen at hcm
    have hcl := Lib.compact_length_le t
    have hc : ∀ j, j < t.length → w.cell? ⟨g, 0 + j, none⟩ = some (.int .i64 (t.getD j 0)) := fun j hj => by
      rw [Nat.zero_add, h.cellAt j (by omega)]
      simp [intC, List.getD_eq_getElem?_getD, hj]
    have := Try.slices_Compact_int_cells g 0 n c t w (by omega) (by omega) hnc hc (fun j hj => by rw [Nat.zero_add]; exact h.frozenAt _)
    refine Calls.mono this ?_
    have e1 : t.take n = t := List.take_of_length_le (by omega)
    rw [e1]
    rintro e w' ⟨he, q, rfl⟩
    have hq : (w.drewN q).ownsRow B 3 1 (.slice (some ⟨g, 0, none⟩) n c) n (intC t) := h
    have hsc := ownsRow_setCellsV ((Lib.compact t ++ List.replicate (n - (Lib.compact t).length) 0).map (Value.int .i64)) 0 _ _ hq
    have hl : (Lib.compact t ++ List.replicate (n - (Lib.compact t).length) (0 : Int)).length = t.length := by simp; omega
    rw [over_eqV _ _ _ (by rw [List.length_map, hl, intC_lenV]; omega)] at hsc
    have hd := ownsRow_lessV hsc.1 (k := (Lib.compact t).length) (by omega)
    refine ⟨he, ?_, (grown_drewNV q).trans' hsc.2⟩
    have e2 : (List.take 0 (intC t) ++ (Lib.compact t ++ List.replicate (n - (Lib.compact t).length) (0 : Int)).map (Value.int .i64)).take (Lib.compact t).length = intC (Lib.compact t) := by
      rw [List.take_zero, List.nil_append, List.map_append, List.take_append_of_le_length (by simp), List.take_of_length_le (by simp)]
      rfl
    rw [e2] at hd
    exact hd
theorem timL_succ {l : List Vr} {k : Nat} (h : k < l.length) : timL (l.take (k + 1)) = timL (l.take k) ++ [l[k].2.2.2] := by
  unfold timL; rw [List.take_succ_eq_append_getElem h, List.map_append]; rfl

set_option maxRecDepth 100000 in
set_option maxHeartbeats 4000000 in
theorem iTimes_any (A : Option Addr) (n c : Nat) (l : List Vr) (w0 : World) (hr0 : RowAt w0 w0.heap.size A (vrsC l)) (hn : n = l.length) (hs : n ≤ 1048576) (hw : WfVr l) (hc1 : n ≤ c) (hc2 : c ≤ maxLen) :
    Calls Try.prog 21 #[.slice A n c] w0 (IntsPost (timesR l) w0) := by
  obtain ⟨i0, hi0, hz0, hz1, hz2⟩ := info_parts intInfo
  have HI := Lib.hid (And.intro hi0 (And.intro hz0 (And.intro hz1 hz2))); clear hi0 hz0 hz1 hz2
  have HV := Lib.hid (iVers_any A n c l w0 hr0 hn hs hw hc1 hc2)
  have HR := Lib.hid hr0; clear hr0
  have HN := Lib.hid hn; clear hn
  clear hw hc1 hc2
  cases hv : versB l
  · have HE := Lib.hid (timesR_no hv)
    rw [hv] at HV
    clear hv
    go_enter Try.func21, Try.ntmps21
    go_wp2_with fail
    refine (HV.out).mono ?_
    rintro e w ⟨rfl, hb⟩
    have HB := Lib.hid hb; clear hb
    go_wp2_with fail
    go_ret
    rw [HE.out]
    exact ⟨_, rfl, ⟨none, 0, rfl, World.ownsRow_nil _ _ _ _⟩, HB.out⟩
  have HE := Lib.hid (timesR_yes hv)
  rw [hv] at HV
  clear hv
  go_enter Try.func21, Try.ntmps21
  go_wp2_with fail
  refine (HV.out).mono ?_
  rintro e w ⟨rfl, hb⟩
  have HB := Lib.hid hb; clear hb HV
  have HO0 := Lib.hid (OutR.nil 3 1 w)
  go_wp2_with fail
  go_loopw [3, 11] (fun q i wr => ∃ (k m : Nat) (out : List Int) (A' : Option Addr) (c' : Nat), q = .slice A' m c' ∧ i = .int .i64 k ∧ k ≤ n ∧ timL (l.take k) = out ∧ m = out.length ∧ m = k ∧ OutR 3 1 w (intC out) m A' c' wr) (fun _ i _ => n - (intOf i).toNat)
  case atStart => exact ⟨0, 0, [], _, _, rfl, rfl, by omega, rfl, rfl, by omega, HO0.out⟩
  case round =>
    obtain ⟨k, m, out, A', c', rfl, rfl, hk, hf, hm, hmk, ho⟩ := hrel
    clear HO0
    have HM := Lib.hid hm; clear hm
    have HF := Lib.hid hf; clear hf
    have HO := Lib.hid ho; clear ho
    have HMK := Lib.hid hmk; clear hmk
    have HBW := Lib.hid (HB.out.trans (HO.out.2.mono HB.out.size))
    by_cases hlt : k < n
    · have hkl : k < l.length := by have := HN.out; omega
      have HSZ := Lib.hid HO.out.2.size
      have hi1 : (k : Int) < (n : Int) := by omega
      obtain ⟨b, off, hA, hbw, e0, e1, e2, e3⟩ := vrs_at (HR.out.below HBW.out) hkl
      subst hA
      have hbs : b < wr.heap.size := by have := HBW.out.size; omega
      have HFS := Lib.hid (timL_succ hkl)
      have hmb : m ≤ 1048576 := by have := HMK.out; omega
      have HOK := Lib.hid (fun o o' => (HO.out.keep ((Below.refl wr.heap.size wr).alloc (Nat.le_refl _) o)).keep ((Below.refl (wr.alloc o).heap.size (wr.alloc o)).alloc (Nat.le_refl _) o'))
      generalize l[k].1 = x0 at *
      generalize l[k].2.1 = x1 at *
      generalize l[k].2.2.1 = x2 at *
      generalize l[k].2.2.2 = x3 at *
      go_wp2_with (at_builtin; refine wpList_append_own _ rfl _ _ 29 rfl w.heap.size 3 i0 (.int .i64 0) 1 8 Try.underlying29 HI.out.1 HI.out.2.1 HI.out.2.2.1 HI.out.2.2.2 rfl (by decide) (.slice A' m c') m (intC out) rfl (HOK.out _ _).1 ⟨wr.heap.size + 1, 0, none⟩ 1 1 [.int .i64 x3] rfl rfl ?c1 ?c2 ?c3 ?c4 ?c5 ?_)
      try (case c1 => exact fun j u hj => by simpa using cells_at0 (wr.alloc (.cells #[.string x0, .string x1, .bool x2, .int .i64 x3] 57)) [.int .i64 x3] 3 j u hj)
      try (case c2 => first | rfl | (intro u hu; simp at hu; subst hu; rfl))
      try (case c3 => first | omega | (unfold maxLen; omega))
      try (case c4 => omega)
      try (case c5 => first | omega | (have := HSZ.out; simp; omega))
      intro v' w4 hown' hgrow _
      obtain ⟨A4, c4, rfl, ho4⟩ := (HOK.out _ _).app hown' hgrow
      have HO4 := Lib.hid ho4; clear ho4 hown' hgrow
      go_wp2_with fail
      go_roundw
      case rel => exact ⟨k + 1, m + 1, out ++ [x3], A4, c4, rfl, by go_num, by omega, by rw [HFS.out, HF.out], by rw [List.length_append, ← HM.out]; rfl, by have := HMK.out; omega, by rw [intC_snocV]; exact HO4.out⟩
      case measure => simp [intOf]; omega
    · obtain rfl : k = n := by omega
      have HFT := Lib.hid (show timL l = out by rw [← HF.out, HN.out, List.take_length])
      have hmb : m ≤ 1048576 := by have := HMK.out; omega
      have HCO := Lib.hid (compact_own w.heap.size m c' out A' wr HO.out.1 HM.out hmb)
      have HLT := Lib.hid (fun q hq => (HO.out.1.lt q hq).1)
      have HSZ := Lib.hid HO.out.2.size
      go_wp2_with fail
      refine (HCO.out).mono ?_
      rintro e w4 ⟨rfl, ho4, hg4⟩
      have HB4 := Lib.hid (HO.out.2.grown hg4 HSZ.out HLT.out)
      have HO4 := Lib.hid ho4; clear ho4 hg4
      go_wp2_with fail
      go_ret
      rw [HE.out, HFT.out]
      exact ⟨_, rfl, ⟨A', c', rfl, own_leT HO4.out HB.out.size⟩, HB.out.trans (HB4.out.mono HB.out.size)⟩
end Go.Proofs.Ytokmofkpjohlmaa
