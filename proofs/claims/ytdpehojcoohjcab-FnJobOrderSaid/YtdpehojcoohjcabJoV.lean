/- Contracts of JobOrder, in the program and in the model (chapter 8). Conditions: the jobs lie in a row; they are few. -/
import Derived.Test.YtdpehojcoohjcabNeed
import Derived.Test.YtdpehojcoohjcabKepJ
import Derived.Test.YtdpehojcoohjcabFst
set_option linter.unusedVariables false
set_option linter.unusedSimpArgs false
namespace Go.Proofs.Ytdpehojcoohjcab
open Go.RowKit Go.ChangeShapes Go.WideShapes

theorem all_cong {α : Type} {f g : α → Bool} : ∀ {L : List α}, (∀ x ∈ L, f x = g x) → L.all f = L.all g
  | [], _ => rfl
  | x :: L, h => by rw [List.all_cons, List.all_cons, h x List.mem_cons_self, all_cong (fun y hy => h y (List.mem_cons_of_mem _ hy))]
theorem keptL_getF (l : List Jb) (rd : Bool) {i : Nat} (h : i < l.length) : (keptL l rd 21).getD i false = keptF l rd i := by
  simp [keptL, keptF, List.getD_eq_getElem?_getD, h]
theorem maskL_cong {n : Nat} {R R' : Nat → Nat → Bool} (h : ∀ p j, p < n → j < n → R p j = R' p j) : maskL n R = maskL n R' := by
  unfold maskL
  refine List.map_congr_left fun p hp => ?_
  have hp2 : p < n := List.mem_range.1 hp
  refine Nat.eq_of_testBit_eq fun j => ?_
  rw [maskF_test, maskF_test]
  by_cases hj : j < n
  · rw [h p j hp2 hj]
  · simp [hj]
theorem needs_mask (l : List Jb) (rd : Bool) : maskL l.length (needJ l (fun i => (keptL l rd 21).getD i false)) = maskL l.length (needJ l (keptF l rd)) :=
  maskL_cong fun p j hp hj => by unfold needJ; dsimp only; rw [keptL_getF l rd hp, keptL_getF l rd hj]
theorem fitsK_F (l : List Jb) (rd : Bool) {o : List Nat} (h : ∀ e ∈ o, e < l.length) : fitsK l (keptL l rd 21) o = fitsJ l (keptF l rd) o := by
  unfold fitsK fitsJ
  refine all_cong fun i hi => all_cong fun e he => ?_
  have h1 : i < o.length := List.mem_range.1 hi
  have h2 := h e (List.mem_of_mem_take he)
  have h3 : o.getD i 0 < l.length := by rw [List.getD_eq_getElem?_getD, List.getElem?_eq_getElem h1, Option.getD_some]; exact h o[i] (List.getElem_mem h1)
  dsimp only
  rw [keptL_getF l rd h2, keptL_getF l rd h3]
theorem firstO_fitsK (l : List Jb) (rd : Bool) : firstO l.length (fitsK l (keptL l rd 21)) l.length [] = jobR l rd := by
  rw [← firstO_job]
  exact firstO_cong (fun o h => fitsK_F l rd h.2.2) (preO_nil _)
/-- JobOrder -/
def jobO (l : List Jb) (kind : ByteArray) : Option (List Nat) := if (jobsB l && kindB kind) = true then jobR l (rdB kind) else none
theorem OrdPost.monoJ {r : Option (List Nat)} {w w2 w' : World} {e : Ending} (h : OrdPost r w2 e w') (hb : Below w.heap.size w w2) : OrdPost r w e w' := by
  obtain ⟨v, h1, ⟨A, c, h2, h3⟩, h4⟩ := h
  exact ⟨v, h1, ⟨A, c, h2, own_mono h3 hb.size⟩, hb.trans (h4.mono hb.size)⟩
theorem fst_ordJ {B : Nat} {r : Option (List Nat)} {w W w' : World} {e : Ending} (h : FstPost B [] (.slice none 0 0) r W e w') (hB : B = W.heap.size) (hb : Below w.heap.size w W) : OrdPost r w e w' := by
  obtain ⟨hg, h2⟩ := h
  have hb2 : Below W.heap.size W w' := (Below.refl _ _).grown hg (Nat.le_refl _) (by simp [Value.ownBlock])
  cases r with
  | none =>
    obtain ⟨rfl, _⟩ := h2
    exact ordPost_no (hb.trans (hb2.mono hb.size))
  | some o =>
    obtain ⟨v', rfl, ho⟩ := h2
    obtain ⟨A, c, rfl, _⟩ := own_sl ho
    refine ⟨_, rfl, ⟨A, c, by rw [show (natI ((some o).getD [])).length = o.length from natI_len o], ?_⟩, hb.trans (hb2.mono hb.size)⟩
    rw [show (natI ((some o).getD [])).length = o.length from natI_len o]
    exact own_mono ho (by rw [hB]; exact hb.size)

/-- the model's part behind the tests -/
theorem sJobO_rest (A : Option Addr) (n c : Nat) (l : List Jb) (rd : Bool) (w : World) (hr : RowAt w w.heap.size A (jbsC l)) (hn : n = l.length) (hv : jobsB l = true) :
    ∀ W, Below w.heap.size w W → Calls Try.prog 51 #[.slice A n c, .bool rd] W (fun e w2 => ∃ A2 c2, e = .returned (.slice A2 n c2) ∧ Below W.heap.size W w2 ∧
      Calls Try.prog 50 #[.slice A n c, .slice A2 n c2] w2 (fun e w3 => ∃ A3 c3, e = .returned (.slice A3 n c3) ∧ Below w2.heap.size w2 w3 ∧
        Calls Try.prog 49 #[.slice A3 n c3] w3 (OrdPost (jobR l rd) w3))) := by
  intro W hb
  obtain ⟨h6, hok, _⟩ := jobsB_iff.1 hv
  have hrW := (hr.below hb).mono hb.size
  refine (sKept_any A n c rd l W hrW hn (by omega) hok).mono ?_
  rintro e w2 ⟨v, rfl, ⟨A2, c2, rfl, ho2⟩, hb2⟩
  have hkl : (keptL l rd 21).length = l.length := by simp [keptL]
  rw [hkl, ← hn] at ho2 ⊢
  refine ⟨A2, c2, rfl, hb2, ?_⟩
  refine (sNeeds_any A n c l A2 n c2 (keptL l rd 21) w2 ((hrW.below hb2).mono hb2.size) hn (by omega) (fun x hx => by
    obtain ⟨k, hk, rfl⟩ := List.mem_iff_getElem.1 hx
    exact hok k hk) (RowAt.of_own ho2) (by rw [hkl, hn]) hkl).mono ?_
  rintro e w3 ⟨v, rfl, ⟨A3, c3, rfl, ho3⟩, hb3⟩
  have hnl : (natI (maskL n (needJ l (fun i => (keptL l rd 21).getD i false)))).length = n := by rw [natI_len, maskL_len]
  rw [hnl] at ho3 ⊢
  refine ⟨A3, c3, rfl, hb3, ?_⟩
  have h3 := RowAt.of_own ho3
  rw [show maskL n (needJ l (fun i => (keptL l rd 21).getD i false)) = maskL n (needJ l (keptF l rd)) by rw [hn]; exact needs_mask l rd] at h3
  have := lineUp_any A3 n c3 (needJ l (keptF l rd)) w3 h3 (by omega)
  unfold jobR
  rw [← hn]
  exact this

set_option maxHeartbeats 2000000 in
theorem sJobO_any (A : Option Addr) (n c : Nat) (l : List Jb) (kind : ByteArray) (w : World) (hr : RowAt w w.heap.size A (jbsC l)) (hn : n = l.length) (hs : n ≤ 1048576) (hw : WfJb l) :
    Calls Try.prog 22 #[.slice A n c, .string kind] w (OrdPost (jobO l kind) w) := by
  have HV := Lib.hid (sJobs_any A n c l w hr hn hs)
  cases hv : jobsB l
  · rw [hv] at HV
    rw [show jobO l kind = none by simp [jobO, hv]]
    clear hv hr hn hw
    go_enter Try.func22, Try.ntmps22
    go_wp2_with fail
    refine HV.out.mono ?_
    rintro e w2 ⟨rfl, hb2⟩
    have HB2 := Lib.hid hb2; clear hb2
    go_wp2_with fail
    go_ret2
    exact ordPost_no HB2.out
  rw [hv] at HV
  have HC := Lib.hid (fun rd W (hb : Below w.heap.size w W) => sJobO_rest A n c l rd w hr hn hv W hb)
  by_cases h1 : kind.toList = [119, 114, 105, 116, 101, 115]
  · have e1 : (kind.toList == [119, 114, 105, 116, 101, 115]) = true := by simpa using h1
    have e2 : (kind.toList == [114, 101, 97, 100, 115]) = false := by rw [h1]; decide
    have n1 : (kind.toList != [119, 114, 105, 116, 101, 115]) = false := by simpa using h1
    have n2 : ¬ kind.toList = [114, 101, 97, 100, 115] := by simpa using e2
    rw [show jobO l kind = jobR l false by simp [jobO, hv, kindB, rdB, e1, e2]]
    clear hv hr hn hw
    go_enter Try.func22, Try.ntmps22
    go_wp2_with fail
    refine HV.out.mono ?_
    rintro e w2 ⟨rfl, hb2⟩
    have HB2 := Lib.hid hb2; clear hb2
    go_wp2_with fail
    refine (HC.out false _ HB2.out).mono ?_
    rintro e w3 ⟨A2, c2, rfl, hb3, hx⟩
    have HX := Lib.hid hx; clear hx
    have HB3 := Lib.hid (HB2.out.trans (hb3.mono HB2.out.size)); clear hb3
    go_wp2_with fail
    refine (HX.out).mono ?_
    rintro e w4 ⟨A3, c3, rfl, hb4, hx⟩
    have HX2 := Lib.hid hx; clear hx
    have HB4 := Lib.hid (HB3.out.trans (hb4.mono HB3.out.size)); clear hb4
    go_wp2_with fail
    refine (HX2.out).mono ?_
    intro e w5 hp
    obtain ⟨v, rfl, HP⟩ := hp.monoJ HB4.out
    have HP2 := Lib.hid HP; clear HP hp
    go_wp2_with fail
    go_ret2
    exact ⟨_, rfl, HP2.out⟩
  · have e1 : (kind.toList == [119, 114, 105, 116, 101, 115]) = false := by simpa using h1
    have n1 : (kind.toList != [119, 114, 105, 116, 101, 115]) = true := by simpa using h1
    by_cases h2 : kind.toList = [114, 101, 97, 100, 115]
    · have e2 : (kind.toList == [114, 101, 97, 100, 115]) = true := by simpa using h2
      have n2 : (kind.toList != [114, 101, 97, 100, 115]) = false := by simpa using h2
      rw [show jobO l kind = jobR l true by simp [jobO, hv, kindB, rdB, e1, e2]]
      clear hv hr hn hw
      go_enter Try.func22, Try.ntmps22
      go_wp2_with fail
      refine HV.out.mono ?_
      rintro e w2 ⟨rfl, hb2⟩
      have HB2 := Lib.hid hb2; clear hb2
      go_wp2_with fail
      refine (HC.out true _ HB2.out).mono ?_
      rintro e w3 ⟨A2, c2, rfl, hb3, hx⟩
      have HX := Lib.hid hx; clear hx
      have HB3 := Lib.hid (HB2.out.trans (hb3.mono HB2.out.size)); clear hb3
      go_wp2_with fail
      refine (HX.out).mono ?_
      rintro e w4 ⟨A3, c3, rfl, hb4, hx⟩
      have HX2 := Lib.hid hx; clear hx
      have HB4 := Lib.hid (HB3.out.trans (hb4.mono HB3.out.size)); clear hb4
      go_wp2_with fail
      refine (HX2.out).mono ?_
      intro e w5 hp
      obtain ⟨v, rfl, HP⟩ := hp.monoJ HB4.out
      have HP2 := Lib.hid HP; clear HP hp
      go_wp2_with fail
      go_ret2
      exact ⟨_, rfl, HP2.out⟩
    · have e2 : (kind.toList == [114, 101, 97, 100, 115]) = false := by simpa using h2
      have n2 : (kind.toList != [114, 101, 97, 100, 115]) = true := by simpa using h2
      rw [show jobO l kind = none by simp [jobO, kindB, e1, e2]]
      clear hv hr hn hw HC
      go_enter Try.func22, Try.ntmps22
      go_wp2_with fail
      refine HV.out.mono ?_
      rintro e w2 ⟨rfl, hb2⟩
      have HB2 := Lib.hid hb2; clear hb2
      go_wp2_with fail
      go_ret2
      exact ordPost_no HB2.out

/-- the closure that firstOrder is handed -/
theorem iJobF_any (A : Option Addr) (n c : Nat) (o : List Nat) (A1 : Option Addr) (n1 c1 : Nat) (l : List Jb) (A2 : Option Addr) (n2 c2 : Nat) (kp : List Bool) (q1 q2 : Nat) (w : World)
    (hr : RowAt w w.heap.size A (intC (natI o))) (hn : n = o.length) (hc : n ≤ c) (hs : n ≤ 6)
    (hr1 : RowAt w w.heap.size A1 (jbsC l)) (hn1 : n1 = l.length) (hs1 : n1 ≤ 6) (hok : ∀ x ∈ l, okJb x = true)
    (hr2 : RowAt w w.heap.size A2 (blC kp)) (hn2 : n2 = kp.length) (hkl : kp.length = l.length) (hlt : ∀ e ∈ o, e < l.length)
    (hc1 : w.cell? ⟨q1, 0, none⟩ = some (.slice A1 n1 c1)) (hc2 : w.cell? ⟨q2, 0, none⟩ = some (.slice A2 n2 c2)) :
    Calls Try.prog 55 #[.slice A n c, .pointer (some ⟨q1, 0, none⟩), .pointer (some ⟨q2, 0, none⟩)] w fun e w' => e = .returned (.bool (fitsK l kp o)) ∧ Below w.heap.size w w' := by
  have HF := Lib.hid (iFits_any A n c o A1 n1 c1 l A2 n2 c2 kp w hr hn hc hs hr1 hn1 hs1 hok hr2 hn2 hkl hlt)
  clear hr hn hr1 hn1 hok hr2 hn2 hkl hlt
  generalize fitsK l kp o = r at *
  go_enter Try.func55, Try.ntmps55
  go_wp2_with fail
  refine (HF.out).mono ?_
  rintro e w2 ⟨rfl, hb2⟩
  go_wp2_with fail
  go_ret
  exact ⟨rfl, hb2⟩
set_option maxRecDepth 100000 in
set_option maxHeartbeats 4000000 in
theorem iJobO_any (A : Option Addr) (n c : Nat) (l : List Jb) (kind : ByteArray) (w : World) (hr : RowAt w w.heap.size A (jbsC l)) (hn : n = l.length) (hs : n ≤ 1048576) (hw : WfJb l) (hnc : n ≤ c) (hcm : c ≤ maxLen) :
    Calls Try.prog 24 #[.slice A n c, .string kind] w (OrdPost (jobO l kind) w) := by
  have HBX := Lib.hid ((Below.refl w.heap.size w).alloc (Nat.le_refl _) (.cells #[.slice A n c] 38))
  have HV := Lib.hid (fun W (hb : Below w.heap.size w W) => iJobs_any A n c l W ((hr.below hb).mono hb.size) hn hs hnc hcm)
  have HKI := Lib.hid (fun W => iKind_any kind W)
  have HKC := Lib.hid (fun W (hb : Below (w.heap.size + 1) (w.alloc (.cells #[.slice A n c] 38)) W) => (show W.cell? ⟨w.heap.size, 0, none⟩ = some (.slice A n c) from (hb.cell (p := ⟨w.heap.size, 0, none⟩) (by simp)).trans (by simp)))
  have HW1 := Lib.hid (show (w.alloc (.cells #[.slice A n c] 38)).heap.size = w.heap.size + 1 by simp)
  cases hv : jobsB l
  · rw [hv] at HV
    rw [show jobO l kind = none by simp [jobO, hv]]
    clear hv hr hn
    go_enter Try.func24, Try.ntmps24
    go_wp2_with fail
    refine (HV.out _ HBX.out).mono ?_
    rintro e w2 ⟨rfl, hb2⟩
    have HB2 := Lib.hid (HBX.out.trans (hb2.mono HBX.out.size)); clear hb2
    go_wp2_with fail
    go_ret2
    exact ordPost_no HB2.out
  rw [hv] at HV
  cases hk : kindB kind
  · rw [hk] at HKI
    rw [show jobO l kind = none by simp [jobO, hk]]
    clear hv hr hn hk
    go_enter Try.func24, Try.ntmps24
    go_wp2_with fail
    refine (HV.out _ HBX.out).mono ?_
    rintro e w2 ⟨rfl, hb2⟩
    have HB2 := Lib.hid (HBX.out.trans (hb2.mono HBX.out.size)); clear hb2
    go_wp2_with fail
    refine (HKI.out _).mono ?_
    rintro e w3 ⟨rfl, hw3⟩
    obtain rfl := hw3.symm
    go_wp2_with fail
    go_ret2
    exact ordPost_no HB2.out
  rw [hk] at HKI
  have HD := Lib.hid (show jobO l kind = jobR l (rdB kind) by simp [jobO, hv, hk])
  have hl6 : n ≤ 6 := by have := (jobsB_iff.1 hv).1; omega
  have hkl : (keptL l (rdB kind) 21).length = l.length := by simp [keptL]
  have HKB := Lib.hid (fun W (hb : Below w.heap.size w W) => (show Calls Try.prog 54 #[.slice A n c, .string kind] W (fun e w' => ∃ Ak ck, e = .returned (.slice Ak n ck) ∧ RowAt w' w'.heap.size Ak (blC (keptL l (rdB kind) 21)) ∧ Below W.heap.size W w') from
    (iKept_any A n c kind l W ((hr.below hb).mono hb.size) hn hs hw hnc hcm).mono (by
      rintro e w' ⟨v, rfl, ⟨Ak, ck, rfl, ho⟩, hb'⟩
      rw [show kepR l kind = keptL l (rdB kind) 21 by simp [kepR, hv, hk]] at ho ⊢
      rw [hkl, ← hn] at ho ⊢
      exact ⟨Ak, ck, rfl, RowAt.of_own ho, hb'⟩)))
  have hok : ∀ x ∈ l, okJb x = true := fun x hx => by
    obtain ⟨k, hk, rfl⟩ := List.mem_iff_getElem.1 hx
    exact (jobsB_iff.1 hv).2.1 k hk
  have HFI := Lib.hid (fun W0 q2 Ak ck (hb0 : Below w.heap.size w W0) (hkr : RowAt W0 W0.heap.size Ak (blC (keptL l (rdB kind) 21))) (hq1 : w.heap.size < W0.heap.size) (hc1 : W0.cell? ⟨w.heap.size, 0, none⟩ = some (.slice A n c)) (hq2 : q2 < W0.heap.size) (hc2 : W0.cell? ⟨q2, 0, none⟩ = some (.slice Ak n ck)) =>
    (show Calls Try.prog 45 #[.int .i64 (n : Int), .slice none 0 0, .func (.func 55) #[] #[.pointer (some ⟨w.heap.size, 0, none⟩), .pointer (some ⟨q2, 0, none⟩)]] W0 (OrdPost (jobR l (rdB kind)) w) from by
      rw [← firstO_fitsK l (rdB kind), ← hn]
      refine (iFst_JobOrder n W0.heap.size (fitsK l (keptL l (rdB kind) 21)) _ _ W0 hl6 (fun W A' c' o hc' hb hr' hp => ?_) n [] (.slice none 0 0) W0 (preO_nil n) (World.ownsRow_nil _ _ _ _) (Below.refl _ _) (Nat.le_refl _)).mono (fun e w6 h => fst_ordJ h rfl hb0)
      have hbw := hb0.trans (hb.mono hb0.size)
      exact iJobF_any A' n c' o A n c l Ak n ck (keptL l (rdB kind) 21) w.heap.size q2 W hr' (by have := hp.1; omega) hc' hl6 ((hr.below hbw).mono hbw.size) hn hl6 hok ((hkr.below hb).mono hb.size) (by rw [hkl, hn]) hkl (fun e he => by have := hp.2.2 e he; omega) ((hb.cell (p := ⟨w.heap.size, 0, none⟩) hq1).trans hc1) ((hb.cell (p := ⟨q2, 0, none⟩) hq2).trans hc2)))
  rw [HD.out]
  clear hv hk hr hn hw hkl hok HD
  generalize jobR l (rdB kind) = R at *
  generalize keptL l (rdB kind) 21 = kp at *
  go_enter Try.func24, Try.ntmps24
  go_wp2_with fail
  refine (HV.out _ HBX.out).mono ?_
  rintro e w2 ⟨rfl, hb2⟩
  have HB2x := Lib.hid (show Below (w.heap.size + 1) (w.alloc (.cells #[.slice A n c] 38)) w2 by have := HW1.out; rw [this] at hb2; exact hb2)
  have HB2 := Lib.hid (HBX.out.trans (hb2.mono HBX.out.size)); clear hb2
  have r0 := HKC.out _ HB2x.out
  go_wp2_with fail
  refine (HKI.out _).mono ?_
  rintro e w3 ⟨rfl, hw3⟩
  obtain rfl := hw3.symm
  go_wp2_with fail
  refine (HKB.out _ HB2.out).mono ?_
  rintro e w4 ⟨Ak, ck, rfl, hkr, hb4⟩
  have hs2 := HB2x.out.size
  rw [HW1.out] at hs2
  have HB4x := Lib.hid (HB2x.out.trans (hb4.mono hs2))
  have HB4 := Lib.hid (HB2.out.trans (hb4.mono HB2.out.size))
  have hs4 := hb4.size
  have HKR := Lib.hid hkr; clear hkr hb4 r0
  have r0 := HKC.out _ HB4x.out
  have hw4 : w.heap.size < w4.heap.size := by omega
  have HAL := Lib.hid (HFI.out (w4.alloc (.cells #[.slice Ak n ck] 66)) w4.heap.size Ak ck (HB4.out.alloc HB4.out.size _) ((HKR.out.below ((Below.refl w4.heap.size w4).alloc (Nat.le_refl _) (.cells #[.slice Ak n ck] 66))).mono (by simp)) (by simp; omega) ((World.cell?_alloc_past _ _ _ hw4).trans r0) (by simp) (by simp))
  go_wp2_with fail
  refine (HAL.out).mono ?_
  intro e w5 hp
  obtain ⟨v, rfl, HP⟩ := hp
  have HP2 := Lib.hid HP; clear HP
  go_wp2_with fail
  go_ret2
  exact ⟨_, rfl, HP2.out⟩
end Go.Proofs.Ytdpehojcoohjcab
