/- Contracts of GetLevels, in the program and in the model (chapter 4). Conditions: the rows lie in memory; they are few; the text is no longer than memory. -/
import Derived.Test.YtofpdelolniklaaLevC
import Derived.Test.YtofpdelolniklaaFindF
import Derived.Test.YtofpdelolniklaaSieveC
import Derived.Deep.RegionWith
import Derived.BigQuiet
set_option linter.unusedVariables false
set_option linter.unusedSimpArgs false
namespace Go.Proofs.Ytofpdelolniklaa
open Go.RowKit Go.ChangeShapes Go.WideShapes

/-- a run that may hold the key, by its sieve -/
def hasM (key : ByteArray) (r : List It) : Bool := decide (marksN key.data.toList &&& sieveN r = marksN key.data.toList)
def pickI (r : List It) (i : Nat) : It := r.getD i (⟨#[]⟩, ⟨#[]⟩, false)
def getGo (key : ByteArray) : List (List It) → Nat → ByteArray × Nat × Bool
  | [], q => (⟨#[]⟩, q, false)
  | r :: L, q => if hasM key r then
      (if 0 ≤ (findR (keysOf r) key).1 then ((pickI r (findR (keysOf r) key).1.toNat).2.1, q + (findR (keysOf r) key).2, !(pickI r (findR (keysOf r) key).1.toNat).2.2)
       else getGo key L (q + (findR (keysOf r) key).2))
    else getGo key L q
def getLevR (L : List (List It)) (key : ByteArray) : ByteArray × Int × Bool :=
  if levB L = true ∧ keyB key = true then ((getGo key L 0).1, ((getGo key L 0).2.1 : Int), (getGo key L 0).2.2) else (⟨#[]⟩, -1, false)
theorem getGo_skip {key : ByteArray} {L : List (List It)} {k q : Nat} (h : k < L.length) (hm : hasM key L[k] = false) : getGo key (L.drop k) q = getGo key (L.drop (k + 1)) q := by
  rw [List.drop_eq_getElem_cons h, getGo, hm]; rfl
theorem getGo_none {key : ByteArray} {L : List (List It)} {k q : Nat} (h : k < L.length) (hm : hasM key L[k] = true) (hf : (findR (keysOf L[k]) key).1 = -1) : getGo key (L.drop k) q = getGo key (L.drop (k + 1)) (q + (findR (keysOf L[k]) key).2) := by
  rw [List.drop_eq_getElem_cons h, getGo, hm, if_pos rfl, if_neg (by rw [hf]; decide)]
theorem getGo_found {key : ByteArray} {L : List (List It)} {k q i : Nat} (h : k < L.length) (hm : hasM key L[k] = true) (hf : (findR (keysOf L[k]) key).1 = (i : Int)) (hi : i < L[k].length) : getGo key (L.drop k) q = (L[k][i].2.1, q + (findR (keysOf L[k]) key).2, !L[k][i].2.2) := by
  have hp : pickI L[k] i = L[k][i] := by unfold pickI; rw [List.getD_eq_getElem?_getD, List.getElem?_eq_getElem hi]; rfl
  rw [List.drop_eq_getElem_cons h, getGo, hm, if_pos rfl, if_pos (by rw [hf]; omega), hf, Int.toNat_natCast, hp]
theorem find_ok {r : List It} (h : runB r = true) (key : ByteArray) : ((findR (keysOf r) key).1 = -1 ∨ ∃ i : Nat, (findR (keysOf r) key).1 = (i : Int) ∧ i < r.length) ∧ (findR (keysOf r) key).2 ≤ 6 := by
  obtain ⟨h1, h2⟩ := find_facts h key
  have hl : r.length ≤ 40 := by unfold runB at h; rw [Bool.and_eq_true] at h; exact of_decide_eq_true h.1
  refine ⟨?_, ?_⟩
  · rw [h1]
    clear h1 h2 hl h
    suffices hx : ∀ k, k ≤ r.length → thereK r key k = -1 ∨ ∃ i : Nat, thereK r key k = (i : Int) ∧ i < r.length from hx _ (Nat.le_refl _)
    intro k
    induction k with
    | zero => exact fun _ => .inl rfl
    | succ k ih =>
      intro hk
      by_cases he : r[k].1.toList = key.toList
      · exact .inr ⟨k, thereK_yes hk he, hk⟩
      · rw [thereK_no hk he]; exact ih (by omega)
  · rcases Nat.lt_or_ge (findR (keysOf r) key).2 7 with h3 | h3
    · omega
    · have : 2 ^ 7 ≤ 2 ^ (findR (keysOf r) key).2 := Nat.pow_le_pow_right (by omega) h3
      omega
theorem levB_run {L : List (List It)} (h : levB L = true) : L.length ≤ 6 ∧ ∀ r ∈ L, runB r = true := by
  unfold levB at h
  rw [Bool.and_eq_true, List.all_eq_true] at h
  refine ⟨of_decide_eq_true h.1, fun r hr => ?_⟩
  have := h.2 r hr
  unfold okRun at this
  rw [Bool.and_eq_true] at this
  exact this.2
theorem marks_and (key : ByteArray) (r : List It) : ∃ (M Q : Nat), marksI key.data.toList = (M : Int) ∧ bits BinOp.and IntKind.i64 (M : Int) (sieveN r : Int) = (Q : Int) ∧ bits BinOp.and IntKind.i64 (sieveN r : Int) (M : Int) = (Q : Int) ∧ hasM key r = decide (Q = M) := by
  obtain ⟨h1, h2, _⟩ := marksN_ok key.data.toList
  have h3 := sieveN_lt r
  refine ⟨marksN key.data.toList, marksN key.data.toList &&& sieveN r, h1, and_i64 _ _ (by omega) (by omega), ?_, rfl⟩
  rw [and_i64 _ _ (by omega) (by omega), Nat.and_comm]
def GotLev (g : ByteArray × Int × Bool) (w : World) (e : Ending) (w' : World) : Prop := e = .returned (.tuple #[.string g.1, .int .i64 g.2.1, .bool g.2.2]) ∧ Below w.heap.size w w'

set_option maxRecDepth 100000 in
set_option maxHeartbeats 4000000 in
theorem sGetGo_any (A : Option Addr) (n c : Nat) (L : List (List It)) (key : ByteArray) (w : World) (hr : LvAt w w.heap.size A L) (hn : n = L.length) (hw : ∀ r ∈ L, r.length ≤ 1048576 ∧ WfIt r) (hv : levB L = true) (hk : keyB key = true) :
    Calls Try.prog 71 #[.slice A n c, .string key] w (GotLev ((getGo key L 0).1, ((getGo key L 0).2.1 : Int), (getGo key L 0).2.2) w) := by
  obtain ⟨hl6, hrun⟩ := levB_run hv
  have hn6 : n ≤ 6 := by omega
  have HRUN := Lib.hid hrun; clear hrun
  have HR := Lib.hid hr; clear hr
  have HN := Lib.hid hn; clear hn
  have HW := Lib.hid hw; clear hw
  have HMK := Lib.hid (fun W => sMarks_any key W hk)
  clear hv hk hl6
  go_enter Try.func71, Try.ntmps71
  go_wp2_with fail
  go_loopw [7, 8] (fun q i wr => ∃ (k lk : Nat), q = .int .i64 lk ∧ i = .int .i64 k ∧ k ≤ n ∧ lk ≤ 6 * k ∧ getGo key (L.drop k) lk = getGo key L 0 ∧ Below w.heap.size w wr) (fun _ i _ => n - (intOf i).toNat)
  case atStart => exact ⟨0, 0, rfl, rfl, by omega, by omega, rfl, Below.refl _ _⟩
  case round =>
    obtain ⟨k, lk, rfl, rfl, hk, hlk, hinv, hb⟩ := hrel
    have HV := Lib.hid hinv; clear hinv
    have HB := Lib.hid hb; clear hb
    by_cases hlt : k < n
    · have hkl : k < L.length := by have := HN.out; omega
      have hrk := HRUN.out L[k] (List.getElem_mem hkl)
      obtain ⟨g1, g2⟩ := HW.out L[k] (List.getElem_mem hkl)
      obtain ⟨hfd, hf6⟩ := find_ok hrk key
      obtain ⟨b, off, A', c', hA, hbw, e0, hrow⟩ := (HR.out.below HB.out).at_ hkl
      subst hA
      have HAT := Lib.hid (fun W (hb : Below wr.heap.size wr W) => (show W.cell? ⟨b, off + k, none⟩ = some (.slice A' L[k].length c') ∧ RowAt W W.heap.size A' (itsC L[k]) from
        ⟨(hb.cell (p := ⟨b, off + k, none⟩) (Nat.lt_of_lt_of_le hbw HB.out.size)).trans e0, (hrow.below (hb.mono HB.out.size)).mono (Nat.le_trans HB.out.size hb.size)⟩))
      have HSV := Lib.hid (fun W (hb : Below wr.heap.size wr W) => sSieveL_any A' L[k].length c' L[k] W (HAT.out W hb).2 rfl g1 hrk)
      have HFN := Lib.hid (fun W (hb : Below wr.heap.size wr W) => sFind_any A' L[k].length c' L[k] key W (HAT.out W hb).2 rfl g1)
      have HSV1 := Lib.hid (show Calls Try.prog 112 #[.slice A' L[k].length c'] wr.drew _ from HSV.out wr.drew (below_drewN _ 1))
      clear HSV
      obtain ⟨M, Q, hM, hQ, _, hmask⟩ := marks_and key L[k]
      rw [hM] at HMK
      have HSK := Lib.hid (fun h => getGo_skip (key := key) (q := lk) hkl h)
      have HNO := Lib.hid (fun h1 h2 => getGo_none (key := key) (q := lk) hkl h1 h2)
      have HFO := Lib.hid (fun i h1 h2 h3 => getGo_found (key := key) (q := lk) (i := i) hkl h1 h2 h3)
      rw [hmask] at HSK HNO HFO
      have hbs : b < wr.heap.size := Nat.lt_of_lt_of_le hbw HB.out.size
      have hi1 : (k : Int) < (n : Int) := by omega
      clear hM hmask hrow g2 hrk
      generalize L[k] = r at *
      generalize sieveN r = sv at *
      by_cases hqm : Q = M
      · have hne : ((Q : Int) != (M : Int)) = false := by simp; omega
        have hqm2 : (decide (Q = M)) = true := by simpa using hqm
        have HNO2 := Lib.hid (fun h => HNO.out hqm2 h)
        have HFO2 := Lib.hid (fun i h1 h2 => HFO.out i hqm2 h1 h2)
        clear hqm hqm2 HSK HNO HFO
        generalize findR (keysOf r) key = fr at *
        obtain ⟨f1, f2⟩ := fr
        simp only at hfd hf6 HNO2 HFO2
        rcases hfd with rfl | ⟨i, rfl, hi⟩
        · have HV2 := Lib.hid ((HNO2.out rfl).symm.trans HV.out)
          clear HNO2 HFO2
          go_wp2_with fail
          go_region_with (first
            | (go_at_call 111; refine (HMK.out _).mono ?_; rintro e w4 ⟨rfl, rfl⟩)
            | (go_at_call 112; refine (HSV1.out).mono ?_; rintro e w5 ⟨rfl, hb5⟩
               have HWB := Lib.hid (Below.trans (Below.drew (Below.refl wr.heap.size wr)) hb5)
               have e5 : w5.cell? ⟨b, off + k, none⟩ = some (.slice A' r.length c') := (hb5.cell (p := ⟨b, off + k, none⟩) hbs).trans e0
               have hbs5 : b < w5.heap.size := Nat.lt_of_lt_of_le hbs hb5.size
               clear hb5))
          all_goals go_wp2_with fail
          all_goals (refine (HFN.out _ HWB.out).mono ?_; rintro e w6 ⟨rfl, hb6⟩)
          all_goals (have HB6 := Lib.hid (HB.out.trans ((HWB.out.trans (hb6.mono HWB.out.size)).mono HB.out.size)); clear hb6)
          all_goals go_wp2_with fail
          all_goals go_roundw
          all_goals first | exact ⟨k + 1, lk + f2, by go_num, by go_num, by omega, by omega, HV2.out, HB6.out⟩ | (simp [intOf]; omega)
        · have HV2 := Lib.hid ((HFO2.out i rfl hi).symm.trans HV.out)
          clear HNO2 HFO2
          have hi2 : (i : Int) < (r.length : Int) := by omega
          have hi3 : (0 : Int) ≤ (i : Int) := by omega
          go_wp2_with fail
          go_region_with (first
            | (go_at_call 111; refine (HMK.out _).mono ?_; rintro e w4 ⟨rfl, rfl⟩)
            | (go_at_call 112; refine (HSV1.out).mono ?_; rintro e w5 ⟨rfl, hb5⟩
               have HWB := Lib.hid (Below.trans (Below.drew (Below.refl wr.heap.size wr)) hb5)
               have e5 : w5.cell? ⟨b, off + k, none⟩ = some (.slice A' r.length c') := (hb5.cell (p := ⟨b, off + k, none⟩) hbs).trans e0
               have hbs5 : b < w5.heap.size := Nat.lt_of_lt_of_le hbs hb5.size
               clear hb5))
          all_goals go_wp2_with fail
          all_goals (refine (HFN.out _ HWB.out).mono ?_; rintro e w6 ⟨rfl, hb6⟩)
          all_goals (have HB6 := Lib.hid (HB.out.trans ((HWB.out.trans (hb6.mono HWB.out.size)).mono HB.out.size)))
          all_goals (obtain ⟨e6, hrow6⟩ := HAT.out w6 (HWB.out.trans (hb6.mono HWB.out.size)))
          all_goals (have hbs6 : b < w6.heap.size := Nat.lt_of_lt_of_le hbs5 hb6.size)
          all_goals (obtain ⟨b2, off2, hA2, hbw2, d0, d1, d2⟩ := its_at hrow6 hi)
          all_goals (subst hA2; clear hb6 hrow6 e5 d0 hbs5)
          all_goals (generalize r[i].2.1 = x1 at *; generalize r[i].2.2 = x2 at *)
          all_goals go_wp2_with fail
          all_goals go_quiet (fail)
          all_goals go_wp2_with fail
          all_goals (refine bodyPost_ret (v := .tuple #[.string x1, .int .i64 ((lk + f2 : Nat) : Int), .bool (!x2)]) (by simp [results, Try.results71, go_sem]) rfl ?_)
          all_goals exact ⟨by rw [← HV2.out], HB6.out.trans (below_drewN _ _)⟩
      · have hne : ((Q : Int) != (M : Int)) = true := by simp; omega
        have HV2 := Lib.hid ((HSK.out (by simpa using hqm)).symm.trans HV.out)
        clear hqm HNO HFO HFN hfd hf6
        go_wp2_with fail
        go_region_with (first
          | (go_at_call 111; refine (HMK.out _).mono ?_; rintro e w4 ⟨rfl, rfl⟩)
          | (go_at_call 112; refine (HSV1.out).mono ?_; rintro e w5 ⟨rfl, hb5⟩
             have HWB := Lib.hid (Below.trans (Below.drew (Below.refl wr.heap.size wr)) hb5)
             have e5 : w5.cell? ⟨b, off + k, none⟩ = some (.slice A' r.length c') := (hb5.cell (p := ⟨b, off + k, none⟩) hbs).trans e0
             have hbs5 : b < w5.heap.size := Nat.lt_of_lt_of_le hbs hb5.size
             clear hb5))
        all_goals go_wp2_with fail
        all_goals go_roundw
        all_goals first | exact ⟨k + 1, lk, by go_num, by go_num, by omega, by omega, HV2.out, HB.out.trans (HWB.out.mono HB.out.size)⟩ | (simp [intOf]; omega)
    · obtain rfl : k = n := by omega
      have HF := Lib.hid (show getGo key L 0 = (⟨#[]⟩, lk, false) by have := HV.out; rw [HN.out, List.drop_length] at this; exact this.symm)
      go_wp2_with fail
      refine bodyPost_ret (v := .tuple #[.string ⟨#[]⟩, .int .i64 (lk : Int), .bool false]) (by simp [results, Try.results71, go_sem]) rfl ?_
      exact ⟨by rw [HF.out], HB.out⟩
end Go.Proofs.Ytofpdelolniklaa
