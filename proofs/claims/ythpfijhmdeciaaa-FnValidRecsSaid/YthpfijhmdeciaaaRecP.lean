/- Contracts of DiskAfter and RedoRecs of the model (chapter 6). Conditions: the records and the numbers lie in rows; they are few. -/
import Derived.Test.YthpfijhmdeciaaaRecD
set_option linter.unusedVariables false
set_option linter.unusedSimpArgs false
namespace Go.Proofs.Ythpfijhmdeciaaa
open Go.RowKit Go.ChangeShapes Go.WideShapes

def keptB (n : Nat) (ks : List Int) : Bool := ks.all (fun x => decide (0 ≤ x) && decide (x ≤ (n : Int))) && ks.length == 3
def kp (ks : List Int) (p : Nat) : Nat := (ks.getD p 0).toNat
def diskP (l : List Rc) (ks : List Int) (p : Nat) : Int := (runW l (kp ks p)).getD p 0
def diskL (l : List Rc) (ks : List Int) : List Int := (List.range 3).map (diskP l ks)
def redoW (l : List Rc) (ks : List Int) : Nat → List Int
  | 0 => diskL l ks
  | k + 1 => if (kd l k = 1 ∨ kd l k = 2) ∧ kp ks (pl l k).toNat ≤ k then (redoW l ks k).set (pl l k).toNat (af l k) else redoW l ks k
theorem redoW_len (l : List Rc) (ks : List Int) : ∀ k, (redoW l ks k).length = 3
  | 0 => rfl
  | k + 1 => by
    unfold redoW
    split
    · rw [List.length_set]; exact redoW_len l ks k
    · exact redoW_len l ks k
theorem runW_goodAt {l : List Rc} (hw : WfRc l) (k p : Nat) : GoodIn ((runW l k).getD p 0) := by
  rw [List.getD_eq_getElem?_getD]
  cases h : (runW l k)[p]? with
  | none => show GoodIn 0; unfold GoodIn; decide
  | some x => exact runW_good hw k x (List.mem_of_getElem? h)
theorem diskL_good {l : List Rc} (hw : WfRc l) (ks : List Int) : ∀ p ∈ diskL l ks, GoodIn p := by
  intro p hp
  unfold diskL at hp
  rw [List.mem_map] at hp
  obtain ⟨q, _, rfl⟩ := hp
  exact runW_goodAt hw _ _
theorem redoW_good {l : List Rc} (hw : WfRc l) (ks : List Int) : ∀ k, ∀ p ∈ redoW l ks k, GoodIn p
  | 0, p, hp => diskL_good hw ks p hp
  | k + 1, p, hp => by
    unfold redoW at hp
    split at hp
    · rcases List.mem_or_eq_of_mem_set hp with h | h
      · exact redoW_good hw ks k p h
      · rw [h]; exact af_good hw k
    · exact redoW_good hw ks k p hp
def diskR (l : List Rc) (ks : List Int) : List Int := if (validP l && keptB l.length ks) = true then diskL l ks else []
def redoR (l : List Rc) (ks : List Int) : List Int := if (validP l && keptB l.length ks) = true then redoW l ks l.length else []
theorem diskR_good {l : List Rc} (ks : List Int) (hw : WfRc l) : (diskR l ks).length ≤ 1048576 ∧ ∀ p ∈ diskR l ks, GoodIn p := by
  unfold diskR
  split
  · exact ⟨by simp [diskL], diskL_good hw ks⟩
  · exact ⟨by simp, fun p hp => by cases hp⟩
theorem redoR_good {l : List Rc} (ks : List Int) (hw : WfRc l) : (redoR l ks).length ≤ 1048576 ∧ ∀ p ∈ redoR l ks, GoodIn p := by
  unfold redoR
  split
  · exact ⟨by rw [redoW_len]; omega, redoW_good hw ks _⟩
  · exact ⟨by simp, fun p hp => by cases hp⟩
theorem kept_at {n : Nat} {ks : List Int} (h : keptB n ks = true) : ks.length = 3 ∧ ∀ p, p < 3 → 0 ≤ ks.getD p 0 ∧ ks.getD p 0 ≤ (n : Int) ∧ ks.getD p 0 = (kp ks p : Int) := by
  unfold keptB at h
  simp only [Bool.and_eq_true, List.all_eq_true, beq_iff_eq, decide_eq_true_eq] at h
  refine ⟨h.2, fun p hp => ?_⟩
  have hm : ks.getD p 0 ∈ ks := by
    rw [List.getD_eq_getElem?_getD, List.getElem?_eq_getElem (by omega)]
    exact List.getElem_mem _
  obtain ⟨h1, h2⟩ := h.1 _ hm
  exact ⟨h1, h2, by unfold kp; omega⟩
theorem add0 (a : Addr) : a.add 0 = a := by
  cases a
  unfold Addr.add
  split <;> simp_all
theorem cut_headA (A : Option Addr) (n c k : Nat) (W : World) (h : k ≤ c) (hA : A = none → n = 0 ∧ c = 0) :
    (Instr.sliceAt 23 (.slice A n c) none (some (.int .i64 (k : Int))) none).run Try.prog W = .ok (.slice A k c) W := by
  cases A with
  | none =>
    obtain ⟨rfl, rfl⟩ := hA rfl
    obtain rfl : k = 0 := by omega
    kernel_rfl
  | some a =>
    have hu : Try.prog.underlying 23 = some (.slice (Try.prog.elem 23)) := by kernel_rfl
    have hs : (sizeOf (Try.prog.elem 23)).run Try.prog W = .ok 5 W := by kernel_rfl
    rw [run_sliceAt_slice (h := hu), run_slice_h (ht := hu) (h0 := by omega) (h2 := by omega), hs]
    simp only [Result.andThen_ok, sliced, Int.toNat_natCast, Option.map_some, Nat.zero_mul]
    rw [add0]
    simp

set_option maxHeartbeats 4000000 in
theorem validKept_any (A Ak : Option Addr) (n c nk ck : Nat) (ks : List Int) (w : World) (hr : RowAt w w.heap.size Ak (intC ks)) (hk : nk = ks.length) (hks : nk ≤ 1048576) (hs : n ≤ 1048576) :
    Calls Try.prog 28 #[.slice A n c, .slice Ak nk ck] w fun e w' => e = .returned (.bool (keptB n ks)) ∧ w' = w := by
  have HR := Lib.hid hr; clear hr
  have HK := Lib.hid hk; clear hk
  have HF := Lib.hid (show keptB n ks = ((ks.take nk).all (fun x => decide (0 ≤ x) && decide (x ≤ (n : Int))) && nk == 3) by unfold keptB; rw [HK.out, List.take_length])
  go_enter Try.func28, Try.ntmps28
  go_wp2_with fail
  go_loop [5] (fun i => ∃ j : Nat, j ≤ nk ∧ i = .int .i64 j ∧ (ks.take j).all (fun x => decide (0 ≤ x) && decide (x ≤ (n : Int))) = true) (fun i => nk - (intOf i).toNat)
  case atStart => exact ⟨0, by omega, rfl, by simp⟩
  case round =>
    obtain ⟨j, hj, rfl, ha⟩ := hrel
    have HA := Lib.hid ha; clear ha
    by_cases hlt : j < nk
    · have hjl : j < ks.length := by have := HK.out; omega
      obtain ⟨b, off, rfl, hbw, e0⟩ := ints_at HR.out hjl
      have HT := Lib.hid (show (ks.take (j + 1)).all (fun x => decide (0 ≤ x) && decide (x ≤ (n : Int))) = (decide (0 ≤ ks[j]) && decide (ks[j] ≤ (n : Int))) by
        rw [List.take_succ_eq_append_getElem hjl, List.all_append, HA.out]; simp)
      have HBAD := Lib.hid (fun (h : (decide (0 ≤ ks[j]) && decide (ks[j] ≤ (n : Int))) = false) => (show keptB n ks = false from by
        unfold keptB
        rw [Bool.and_eq_false_iff]
        left
        rw [List.all_eq_false]
        exact ⟨ks[j], List.getElem_mem hjl, by rw [h]; simp⟩))
      have HIN := Lib.hid (fun W => inRange_any ks[j] 0 n W)
      obtain ⟨x, hx⟩ : ∃ y, ks[j] = y := ⟨_, rfl⟩
      rw [hx] at e0 HT HBAD HIN
      clear hx
      obtain ⟨v, hv⟩ : ∃ y, (decide (0 ≤ x) && decide (x ≤ (n : Int))) = y := ⟨_, rfl⟩
      rw [hv] at HT HBAD HIN
      clear hv
      cases v
      · have HF2 := Lib.hid (HBAD.out rfl)
        go_wp2_with fail
        refine (HIN.out _).mono ?_
        rintro e w5 ⟨rfl, hw5⟩
        obtain rfl := hw5.symm
        go_wp2_with fail
        go_ret
        exact ⟨by rw [HF2.out]; rfl, rfl⟩
      · go_wp2_with fail
        refine (HIN.out _).mono ?_
        rintro e w5 ⟨rfl, hw5⟩
        obtain rfl := hw5.symm
        go_wp2_with fail
        go_round
        case rel => exact ⟨j + 1, by omega, by go_num, HT.out⟩
        case measure => simp [intOf] <;> omega
    · obtain rfl : j = nk := by omega
      have HF3 := Lib.hid (show keptB n ks = (j == 3) by rw [HF.out, HA.out]; rfl)
      by_cases h3 : j = 3
      · subst h3
        go_wp2_with fail
        go_ret
        exact ⟨by rw [HF3.out]; rfl, rfl⟩
      · have q3 : ((j : Int) == 3) = false := by simp; omega
        have HF4 := Lib.hid (show (j == 3) = false by simpa using h3)
        clear h3
        go_wp2_with fail
        go_ret
        exact ⟨by rw [HF3.out, HF4.out]; rfl, rfl⟩

set_option maxRecDepth 100000 in
set_option maxHeartbeats 8000000 in
theorem sDiskA_any (A Ak : Option Addr) (n c nk ck : Nat) (l : List Rc) (ks : List Int) (w : World) (hr : RowAt w w.heap.size A (rcsC l)) (hn : n = l.length) (hs : n ≤ 1048576) (hnc : n ≤ c) (hA : A = none → c = 0)
    (hrk : RowAt w w.heap.size Ak (intC ks)) (hk : nk = ks.length) (hv : validP l = true) (hkb : keptB n ks = true) :
    Calls Try.prog 29 #[.slice A n c, .slice Ak nk ck] w (IntsPost (diskL l ks) w) := by
  obtain ⟨hk3, hkp⟩ := kept_at hkb
  obtain rfl : nk = 3 := by omega
  have HKP := Lib.hid hkp; clear hkp
  obtain ⟨h, hh⟩ := valid_hist hv
  have HP := Lib.hid (hist_pl l l.length h hh).1
  clear hh hv
  have HW := Lib.hid (fun W (hb : Below w.heap.size w W) k (hk : k ≤ n) => sRunW_any A k c l W ((hr.below hb).mono hb.size) (by omega) (by omega) (fun i hi => HP.out i (by omega)))
  have HCUT := Lib.hid (fun W k (hk : k ≤ n) => cut_headA A n c k W (by omega) (fun e => by have := hA e; omega))
  have HRK := Lib.hid hrk; clear hrk
  have HN := Lib.hid hn; clear hn hr hA
  have HK3 := Lib.hid hk3; clear hk hk3
  obtain ⟨i0, hi0, hz0, hz1, hz2⟩ := info_parts intInfo
  have HI := Lib.hid (And.intro hi0 (And.intro hz0 (And.intro hz1 hz2))); clear hi0 hz0 hz1 hz2
  go_enter Try.func29, Try.ntmps29
  go_wp2_with fail
  go_loopw [5, 6] (fun q i wr => ∃ (T : Option Addr) (ct j : Nat), q = .slice T j ct ∧ i = .int .i64 (j : Int) ∧ j ≤ 3 ∧ wr.ownsRow w.heap.size 3 1 (.slice T j ct) j (intC ((List.range j).map (diskP l ks))) ∧ Below w.heap.size w wr) (fun _ i _ => 3 - (intOf i).toNat)
  case atStart =>
    refine ⟨_, _, 0, rfl, rfl, by omega, ?_, (Below.refl _ _).alloc (Nat.le_refl _) _⟩
    exact World.ownsRow_made w _ _ (Nat.le_refl _) (by simp [maxLen]) rfl
  case round =>
    obtain ⟨T, ct, j, rfl, rfl, hj3, ho, hb⟩ := hrel
    have HOW := Lib.hid ho; clear ho
    have HB := Lib.hid hb; clear hb
    by_cases hlt : j < 3
    · have hj0 : (0 : Int) ≤ (j : Int) := by omega
      have hj3i : (j : Int) < 3 := by omega
      obtain ⟨k1, k2, k3⟩ := HKP.out j hlt
      obtain ⟨bk, ok, rfl, hbk, ek⟩ := ints_at (HRK.out.below HB.out) (show j < ks.length by have := HK3.out; omega)
      have hkx : ks[j]'(by have := HK3.out; omega) = (kp ks j : Int) := by rw [← k3]; simp [List.getD_eq_getElem?_getD, HK3.out, hlt]
      rw [hkx] at ek
      have hkn : kp ks j ≤ n := by omega
      clear hkx k1 k2 k3
      have hcut := fun W => HCUT.out W (kp ks j) hkn
      have HWJ := Lib.hid (fun W hb => HW.out W hb (kp ks j) hkn)
      have HDP := Lib.hid (show diskP l ks j = (runW l (kp ks j)).getD j 0 from rfl)
      have hln := runW_len l (kp ks j)
      obtain ⟨R, hR⟩ : ∃ x, runW l (kp ks j) = x := ⟨_, rfl⟩
      rw [hR] at HWJ HDP hln
      obtain ⟨kj, hkj⟩ : ∃ x, kp ks j = x := ⟨_, rfl⟩
      rw [hkj] at ek hcut HWJ hkn
      clear hR hkj
      have hbk2 : bk < wr.heap.size := Nat.lt_of_lt_of_le hbk HB.out.size
      go_wp2_with fail
      refine (HWJ.out _ HB.out).mono ?_
      rintro e w5 ⟨v5, rfl, ⟨A5, c5, rfl, ho5⟩, hb5⟩
      rw [hln] at ho5
      obtain ⟨g5, c5', hv5, hg5, hg5'⟩ := World.ownsRow.form ho5 (by omega)
      have e5 : A5 = some ⟨g5, 0, none⟩ := by injection hv5
      subst e5
      have HB5 := Lib.hid (HB.out.trans (hb5.mono HB.out.size))
      have HOW5 := Lib.hid (HOW.out.kept (grown_of_below (row := none) hb5) (by cases T <;> simp [Value.ownBlock]))
      have x5 := World.ownsRow.cellAt ho5 j (by omega)
      rw [show (intC R)[j]? = some (.int .i64 (R.getD j 0)) by simp [intC, List.getD_eq_getElem?_getD, hln, hlt]] at x5
      rw [← HDP.out] at x5
      obtain ⟨d, hd⟩ : ∃ x, diskP l ks j = x := ⟨_, rfl⟩
      rw [hd] at x5
      have HNX := Lib.hid (show (List.range (j + 1)).map (diskP l ks) = (List.range j).map (diskP l ks) ++ [d] by rw [List.range_succ, List.map_append]; simp [hd])
      have HBA := Lib.hid ((Below.refl w5.heap.size w5).alloc (Nat.le_refl _) (.cells #[.int .i64 d] 3))
      clear hb5 ho5 hv5 hd
      rw [hln]
      go_wp2_with (at_builtin; refine wpList_append_own _ rfl _ _ 27 rfl w.heap.size 3 i0 (.int .i64 0) 1 8 Try.underlying27 HI.out.1 HI.out.2.1 HI.out.2.2.1 HI.out.2.2.2 rfl (by decide) (.slice T j ct) j (intC ((List.range j).map (diskP l ks))) rfl ?c0 ⟨w5.heap.size, 0, none⟩ 1 1 [.int .i64 d] rfl rfl ?c1 ?c2 ?c3 ?c4 ?c5 ?_)
      case c0 => exact HOW5.out.alloc _
      case c1 =>
        intro j u hj
        have := cell_one_new w5 (.int .i64 d) 3 j u hj
        simpa using this
      case c2 => first | rfl | (intro u hu; simp at hu; subst hu; rfl)
      case c3 => unfold maxLen; omega
      case c4 => omega
      case c5 => have := HB5.out.size; simp; omega
      intro v' w7 hown hgrow _
      have HNW := Lib.hid hown; clear hown
      have HBN := Lib.hid (show Below w.heap.size w w7 from (HB5.out.trans (HBA.out.mono HB5.out.size)).grown hgrow (by have := HB5.out.size; simp; omega) (fun q9 e => (HOW5.out.lt q9 e).1))
      clear hgrow
      obtain ⟨T9, c9, hv9⟩ : ∃ T9 c9, v' = .slice T9 (j + 1) c9 := by
        rcases HNW.out.2 with ⟨_, h0⟩ | ⟨g9, cap9, _, hv, _⟩
        · omega
        · exact ⟨_, _, hv⟩
      subst hv9
      go_wp2_with fail
      go_roundw
      case rel => exact ⟨T9, c9, j + 1, rfl, by go_num, by omega, by rw [HNX.out, intC_app]; exact HNW.out, HBN.out⟩
      case measure => simp [intOf] <;> omega
    · obtain rfl : j = 3 := by omega
      go_wp2_with fail
      go_ret
      exact ⟨_, rfl, ⟨T, ct, rfl, HOW.out⟩, HB.out⟩
end Go.Proofs.Ythpfijhmdeciaaa
