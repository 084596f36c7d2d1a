/- The walk of the law FnGetLevels. Condition: the code lies in a row. -/
import Derived.Test.YtofpdelolniklaaPairsI
import Derived.Test.YtofpdelolniklaaGetLP
import Derived.Test.YtofpdelolniklaaFnVLev
import Derived.Test.YtofpdelolniklaaDrawRn
set_option linter.unusedVariables false
set_option linter.unusedSimpArgs false
namespace Go.Proofs.Ytofpdelolniklaa
open Go.RowKit Go.ChangeShapes Go.WideShapes

theorem LvD.lvc {r M : Nat} {w W : World} {L : List (List It)} {A : Option Addr} {m c : Nat} (h : LvD r M w L A m c W) : LvC W W.heap.size A L := by
  obtain ⟨hs, h1, h2, h3⟩ := h.rows
  exact ⟨hs, by rw [h1]; exact h.len, h2.row, fun i a b => ⟨own_cap0 (h3 i a b).2, by have h5 := (h3 i a b).2; have h6 := (h3 i a b).1; rw [← h6] at h5; exact slI_own h5 h6⟩⟩
/-- what PairsOf tells of a key is what GetLevels tells -/
theorem getL_same {L : List (List It)} {key : ByteArray} (h : levB L = true) : valP (pairL (flatL L)) key = ((getGo key L 0).1, (getGo key L 0).2.2) := by
  obtain ⟨_, hrun⟩ := levB_run h
  have ha : ∀ r ∈ L, AscI r := fun r hr => asc_pair (hrun r hr)
  have hfa : AscI (flatL L) := flat_asc L [] List.Pairwise.nil ha
  have hok : ∀ p ∈ flatL L, okIt p = true := fun p hp => by
    rcases flat_mem L [] p hp with h1 | ⟨r, hr, h1⟩
    · cases h1
    · exact runB_okI (hrun r hr) p h1
  rw [valP_pair hfa hok, (getGo_told key L 0 hrun).1]
  unfold flatL
  rw [flat_find key L [] List.Pairwise.nil ha]
  simp [findI]
theorem valP_yes {l : List Pr} {key : ByteArray} {k : Nat} (h : k < l.length) (he : l[k].1.toList = key.toList) : valP (l.drop k) key = (l[k].2, true) := by
  rw [List.drop_eq_getElem_cons h]; unfold valP; rw [List.find?_cons, show (l[k].1.toList == key.toList) = true by simpa using he]
theorem valP_no {l : List Pr} {key : ByteArray} {k : Nat} (h : k < l.length) (he : ¬ l[k].1.toList = key.toList) : valP (l.drop k) key = valP (l.drop (k + 1)) key := by
  rw [List.drop_eq_getElem_cons h]; unfold valP; rw [List.find?_cons, show (l[k].1.toList == key.toList) = false by simpa using he]

theorem lValue_any (A : Option Addr) (n c : Nat) (l : List Pr) (key : ByteArray) (w : World) (hr : RowAt w w.heap.size A (prsC l)) (hn : n = l.length) (hs : n ≤ 1048576) :
    Calls Try.prog 21 #[.slice A n c, .string key] w fun e w' => e = .returned (.tuple #[.string (valP l key).1, .bool (valP l key).2]) ∧ w' = w := by
  have HR := Lib.hid hr; clear hr
  have HN := Lib.hid hn; clear hn
  go_enter Try.func21, Try.ntmps21
  go_wp2_with fail
  go_loopw [6] (fun i wr => ∃ k : Nat, i = .int .i64 k ∧ k ≤ n ∧ wr = w ∧ valP (l.drop k) key = valP l key) (fun i _ => n - (intOf i).toNat)
  case atStart => exact ⟨0, rfl, by omega, rfl, rfl⟩
  case round =>
    obtain ⟨k, rfl, hk, rfl, hv⟩ := hrel
    by_cases hlt : k < n
    · have hkl : k < l.length := by have := HN.out; omega
      obtain ⟨b, off, hA, hbw, e0, e1⟩ := prs_at HR.out hkl
      subst hA
      have hi1 : (k : Int) < (n : Int) := by omega
      by_cases he : l[k].1.toList = key.toList
      · have HE := Lib.hid (show valP l key = (l[k].2, true) by rw [← hv, valP_yes hkl he])
        have q4 : (l[k].1.toList == key.toList) = true := by simpa using he
        clear he hv
        generalize l[k].1 = x0 at *
        generalize l[k].2 = x1 at *
        go_wp2_with fail
        refine bodyPost_ret (v := .tuple #[.string x1, .bool true]) (by simp [results, Try.results21, go_sem]) rfl ?_
        exact ⟨by rw [HE.out], rfl⟩
      · have HE := Lib.hid ((valP_no hkl he).symm.trans hv)
        have q4 : (l[k].1.toList == key.toList) = false := by simpa using he
        clear he hv
        generalize l[k].1 = x0 at *
        go_wp2_with fail
        go_roundw
        case rel => exact ⟨k + 1, by go_num, by omega, by first | rfl | trivial, HE.out⟩
        case measure => simp [intOf]; omega
    · obtain rfl : k = n := by omega
      have HE := Lib.hid (show valP l key = (⟨#[]⟩, false) by rw [← hv, HN.out, List.drop_length]; rfl)
      clear hv
      go_wp2_with fail
      refine bodyPost_ret (v := .tuple #[.string ⟨#[]⟩, .bool false]) (by simp [results, Try.results21, go_sem]) rfl ?_
      exact ⟨by rw [HE.out], rfl⟩

def LevKey (w : World) (e : Ending) (w' : World) : Prop := ∃ (L : List (List It)) (A : Option Addr) (m c : Nat) (key : ByteArray), e = .returned (.tuple #[.slice A m c, .string key]) ∧ m = L.length ∧ LvFew 8 L ∧ key.size ≤ 64 ∧ LvC w' w'.heap.size A L ∧ Below w.heap.size w w'
theorem drawGetLevels_any (A : Option Addr) (n c : Nat) (w : World) (h : BytesIn w A n c) :
    Calls Try.prog 18 #[.slice A n c] w (LevKey w) := by
  have HP := Lib.hid (newReader_any A n c w h)
  go_enter Try.func18, Try.ntmps18
  go_wp2_with fail
  refine (HP.out).mono ?_
  rintro e w1 ⟨rfl, hr1, hb1⟩
  have HB := Lib.hid hb1; clear hb1
  have hrl := hr1.lt
  have HK := Lib.hid (someLevels_any w.heap.size 0 w1 hr1 (by omega)); clear hr1
  go_wp2_with fail
  refine (HK.out).mono ?_
  rintro e w2 ⟨L, A2, m2, c2, rfl, hf, hd⟩
  have HG := Lib.hid hd; clear hd
  have HF := Lib.hid hf; clear hf
  have HPK := Lib.hid (pick_any w.heap.size _ 8 w2 HG.out.rd (by omega) (by omega))
  go_wp2_with fail
  refine (HPK.out).mono ?_
  rintro e w3 ⟨x, rfl, hx0, hxn, hr3, hg3⟩
  have HG3 := Lib.hid (HG.out.grow hrl hg3 hr3); clear hr3 hg3
  by_cases hx : x = 0
  · subst hx
    have HS := Lib.hid (someKey_any w.heap.size _ w3 HG3.out.rd (by omega))
    go_wp2_with fail
    refine (HS.out).mono ?_
    rintro e w4 ⟨s, rfl, hs, hr4, hg4⟩
    have HG4 := Lib.hid (HG3.out.grow hrl hg4 hr4); clear hr4 hg4
    go_wp2_with fail
    refine bodyPost_ret (v := .tuple #[.slice A2 m2 c2, .string s]) (by simp [results, Try.results18, go_sem]) rfl ?_
    exact ⟨L, A2, m2, c2, s, rfl, HG4.out.len, HF.out, by omega, HG4.out.lvc, HB.out.trans (below_of_grown HG4.out.gr (Nat.le_refl _) HB.out.size)⟩
  · have q0 : (x == 0) = false := by simpa using hx
    clear hx
    have HS := Lib.hid (goodKey_any w.heap.size _ w3 HG3.out.rd (by omega))
    go_wp2_with fail
    refine (HS.out).mono ?_
    rintro e w4 ⟨s, rfl, hs, hr4, hg4⟩
    have HG4 := Lib.hid (HG3.out.grow hrl hg4 hr4); clear hr4 hg4
    go_wp2_with fail
    refine bodyPost_ret (v := .tuple #[.slice A2 m2 c2, .string s]) (by simp [results, Try.results18, go_sem]) rfl ?_
    exact ⟨L, A2, m2, c2, s, rfl, HG4.out.len, HF.out, by omega, HG4.out.lvc, HB.out.trans (below_of_grown HG4.out.gr (Nat.le_refl _) HB.out.size)⟩

theorem most_step {key : ByteArray} {L : List (List It)} {k : Nat} (h : k < L.length) : mostL key (L.take (k + 1)) = mostL key (L.take k) + (findR (keysOf L[k]) key).2 := by
  unfold mostL; rw [List.take_succ_eq_append_getElem h, List.map_append, List.sum_append]; simp

set_option maxRecDepth 100000 in
set_option maxHeartbeats 4000000 in
theorem walk_FnGetLevels (A : Option Addr) (n c : Nat) (w : World) (h : BytesIn w A n c) :
    Calls Try.prog 4 #[.slice A n c] w fun e w' => e = .returned (.bool true) ∧ Below w.heap.size w w' := by
  have HD := Lib.hid (drawGetLevels_any A n c w h)
  obtain ⟨hc, hm, _⟩ := h
  unfold maxLen at hm
  by_cases hb : n ≤ 1048576
  · go_enter Try.func4, Try.ntmps4
    go_wp2_with fail
    refine (HD.out).mono ?_
    rintro e w1 ⟨L, A1, m, c1, key, rfl, hml, hfew, hks, hlv, hb1⟩
    have HB1 := Lib.hid hb1
    have hm8 : m ≤ 8 := by have := hfew.1; omega
    have hwf : ∀ r ∈ L, r.length ≤ 1048576 ∧ WfIt r := fun r hr => ⟨by have := (hfew.2 r hr).1; omega, (hfew.2 r hr).2.wf⟩
    have hkm : key.size ≤ maxLen := by unfold maxLen; omega
    have HI := Lib.hid (fun W (hb : Below w1.heap.size w1 W) => iGetLev_any A1 m c1 L key W ((hlv.lv.below hb).mono hb.size) hml (by omega) hwf hkm)
    have HS := Lib.hid (fun W (hb : Below w1.heap.size w1 W) => sGetLevV_any A1 m c1 L key W ((hlv.lv.below hb).mono hb.size) hml (by omega) hwf hkm)
    have HWF := Lib.hid hwf
    have HML := Lib.hid hml
    have HLV := Lib.hid hlv
    have HKM := Lib.hid hkm
    by_cases hv : levB L = true ∧ keyB key = true
    · rw [getLevR_yes hv.1 hv.2] at HI HS
      have HP := Lib.hid (fun W (hb : Below w1.heap.size w1 W) => iPairs_any A1 m c1 L W ((hlv.below hb).mono hb.size) hml (by omega) hwf hv.1)
      have HSAME := Lib.hid (getL_same (key := key) hv.1)
      have HTOLD := Lib.hid ((getGo_told key L 0 (levB_run hv.1).2).2)
      have HRUN := Lib.hid (levB_run hv.1).2
      have HKB := Lib.hid hv.2
      have HPL := Lib.hid (show (pairL (flatL L)).length ≤ 1048576 by
        have h1 := flat_few (levB_run hv.1).1 (fun r hr => run_len40 ((levB_run hv.1).2 r hr)) L.length (Nat.le_refl _)
        rw [List.take_length] at h1
        have h2 : (heldL (flatL L)).length ≤ (flatL L).length := List.length_filter_le _ _
        unfold pairL; rw [List.length_map]; omega)
      clear hb1 hwf hfew hlv hml hks hkm hv
      obtain ⟨g, hg⟩ : ∃ g, getGo key L 0 = g := ⟨_, rfl⟩
      rw [hg] at HI HS HSAME HTOLD
      clear hg
      obtain ⟨v, q, t⟩ := g
      have HI := Lib.hid HI.out
      have hq : q ≤ mostL key L := by have h0 := HTOLD.out; simp only at h0; omega
      have HQ := Lib.hid hq
      clear hq HTOLD
      have s0 : (v.toList == v.toList) = true := by simp
      have s1 : (v.toList != v.toList) = false := by simp
      have q0 : ((q : Int) == (q : Int)) = true := by simp
      have q1 : ((q : Int) != (q : Int)) = false := by simp
      have q2 : ¬ ((q : Int) < 0) := by omega
      have t0 : (t == t) = true := by simp
      have t1 : (t != t) = false := by simp
      go_wp2_with fail
      refine (HI.out _ (Below.refl _ _)).mono ?_
      rintro e w2 ⟨rfl, hb2⟩
      have HB2 := Lib.hid hb2; clear hb2
      go_wp2_with fail
      refine (HS.out _ HB2.out).mono ?_
      rintro e w3 ⟨rfl, hb3⟩
      have HB3 := Lib.hid (HB2.out.trans (hb3.mono HB2.out.size)); clear hb3
      go_wp2_with fail
      refine (HP.out _ HB3.out).mono ?_
      rintro e w4 ⟨v4, rfl, ⟨A4, c4, rfl, ho4⟩, hb4⟩
      have HB4 := Lib.hid (HB3.out.trans (hb4.mono HB3.out.size))
      have HVAL := Lib.hid (lValue_any A4 _ c4 _ key w4 (RowAt.of_own ho4) rfl HPL.out)
      rw [HSAME.out] at HVAL
      clear hb4 ho4 HI HS HP HSAME HPL
      generalize (pairL (flatL L)).length = pl at *
      go_wp2_with fail
      refine (HVAL.out).mono ?_
      rintro e w5 ⟨rfl, hw5⟩
      obtain rfl := hw5.symm
      clear HVAL
      go_wp2_with fail
      go_loopw [13, 14] (fun s i wr => ∃ (k b : Nat), s = .int .i64 b ∧ i = .int .i64 k ∧ k ≤ m ∧ b = mostL key (L.take k) ∧ b ≤ 6 * k ∧ Below w1.heap.size w1 wr) (fun _ i _ => m - (intOf i).toNat)
      case atStart => exact ⟨0, 0, rfl, rfl, by omega, by simp [mostL], by omega, HB4.out⟩
      case round =>
        obtain ⟨k, b, rfl, rfl, hk, hbm, hb6, hb⟩ := hrel
        have HBM := Lib.hid hbm
        have HB := Lib.hid hb
        clear hbm hb
        by_cases hlt : k < m
        · have hkl : k < L.length := by have := HML.out; omega
          obtain ⟨bb, off, A', c', hA, hbw, e0, hrow⟩ := (HLV.out.below HB.out).at_ hkl
          subst hA
          have hi1 : (k : Int) < (m : Int) := by omega
          have hbs : bb < wr.heap.size := Nat.lt_of_lt_of_le hbw HB.out.size
          have HFN := Lib.hid (iFindRun_any A' L[k].length c' L[k] key wr (hrow.2.2.2.mono HB.out.size) rfl (HWF.out L[k] (List.getElem_mem hkl)).1 (HWF.out L[k] (List.getElem_mem hkl)).2 HKM.out)
          rw [findRunR_yes (HRUN.out L[k] (List.getElem_mem hkl)) HKB.out] at HFN
          have hf6 := (find_ok (HRUN.out L[k] (List.getElem_mem hkl)) key).2
          have HST := Lib.hid (most_step (key := key) hkl)
          clear hrow
          obtain ⟨f, hf⟩ : ∃ f, findR (keysOf L[k]) key = f := ⟨_, rfl⟩
          rw [hf] at HFN hf6 HST
          clear hf
          obtain ⟨at_, looks⟩ := f
          simp only at hf6
          have HFN := Lib.hid HFN.out
          obtain ⟨ln, hln⟩ : ∃ ln, L[k].length = ln := ⟨_, rfl⟩
          rw [hln] at HFN e0
          clear hln
          go_wp2_with fail
          refine (HFN.out).mono ?_
          rintro e w6 ⟨rfl, hb6x⟩
          have HB6 := Lib.hid (HB.out.trans (hb6x.mono HB.out.size)); clear hb6x
          go_wp2_with fail
          go_roundw
          case rel => exact ⟨k + 1, b + looks, by go_num, by go_num, by omega, by rw [HST.out, ← HBM.out], by omega, HB6.out⟩
          case measure => simp [intOf]; omega
        · obtain rfl : k = m := by omega
          have hqb : (q : Int) ≤ (b : Int) := by
            have h1 := HQ.out
            have h2 := HBM.out
            rw [HML.out, List.take_length] at h2
            omega
          go_wp2_with fail
          go_ret
          exact ⟨rfl, HB1.out.trans (HB.out.mono HB1.out.size)⟩
    · have hno : getLevR L key = (⟨#[]⟩, -1, false) := by unfold getLevR; rw [if_neg hv]
      rw [hno] at HI HS
      clear hb1 hwf hfew hlv hml hks hkm hv hno
      go_wp2_with fail
      refine (HI.out _ (Below.refl _ _)).mono ?_
      rintro e w2 ⟨rfl, hb2⟩
      have HB2 := Lib.hid hb2; clear hb2
      go_wp2_with fail
      refine (HS.out _ HB2.out).mono ?_
      rintro e w3 ⟨rfl, hb3⟩
      have HB3 := Lib.hid (HB2.out.trans (hb3.mono HB2.out.size)); clear hb3
      go_wp2_with fail
      go_ret
      exact ⟨rfl, HB1.out.trans (HB3.out.mono HB1.out.size)⟩
  · go_enter Try.func4, Try.ntmps4
    go_wp2
    go_ret
    exact ⟨rfl, Below.refl _ _⟩
end Go.Proofs.Ytofpdelolniklaa
