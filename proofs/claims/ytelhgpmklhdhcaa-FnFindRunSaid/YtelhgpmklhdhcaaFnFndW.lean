/- The walk of the law FnFindRun. Condition: the code lies in a row. -/
import Derived.Test.YtelhgpmklhdhcaaDrawRn
import Derived.Test.YtelhgpmklhdhcaaFindC
import Derived.Test.YtelhgpmklhdhcaaMarks
set_option linter.unusedVariables false
set_option linter.unusedSimpArgs false
namespace Go.Proofs.Ytelhgpmklhdhcaa
open Go.RowKit Go.ChangeShapes Go.WideShapes

/-- the last place ahead of k that has the key, or -1 -/
def thereK (l : List It) (key : ByteArray) : Nat → Int
  | 0 => -1
  | k + 1 => match l[k]? with
    | none => thereK l key k
    | some p => if p.1.toList = key.toList then (k : Int) else thereK l key k
theorem thereK_yes {l : List It} {key : ByteArray} {k : Nat} (h : k < l.length) (he : l[k].1.toList = key.toList) : thereK l key (k + 1) = (k : Int) := by
  rw [thereK, List.getElem?_eq_getElem h]; simp only [he, if_true]
theorem thereK_no {l : List It} {key : ByteArray} {k : Nat} (h : k < l.length) (he : ¬ l[k].1.toList = key.toList) : thereK l key (k + 1) = thereK l key k := by
  conv => lhs; rw [thereK, List.getElem?_eq_getElem h]
  simp only [he, if_false]
theorem thereK_none {l : List It} {key : ByteArray} : ∀ (k : Nat), k ≤ l.length → (∀ (i : Nat) (h : i < l.length), ¬ l[i].1.toList = key.toList) → thereK l key k = -1
  | 0, _, _ => rfl
  | k + 1, hk, h => by rw [thereK_no hk (h k hk)]; exact thereK_none k (by omega) h
theorem thereK_one {l : List It} {key : ByteArray} {i : Nat} (hi : i < l.length) (he : l[i].1.toList = key.toList) (hu : ∀ (j : Nat) (h : j < l.length), j ≠ i → ¬ l[j].1.toList = key.toList) : ∀ (k : Nat), i < k → k ≤ l.length → thereK l key k = (i : Int)
  | 0, h, _ => by omega
  | k + 1, h, hk => by
    by_cases hik : i = k
    · subst hik; exact thereK_yes hi he
    · rw [thereK_no hk (hu k hk (fun e => hik e.symm))]; exact thereK_one hi he hu k (by omega) (by omega)
theorem keys_sorted {l : List It} (h : runB l = true) : SortedK (keysOf l) := by
  unfold runB at h
  rw [Bool.and_eq_true] at h
  intro i j hj hij
  rw [keysOf_at, keysOf_at]
  exact asc_lt (key := fun p : ItS => p.1) (ok := okIt) h.2 (by rw [keysOf_len] at hj; exact hj) hij
theorem find_facts {l : List It} (h : runB l = true) (key : ByteArray) : (findR (keysOf l) key).1 = thereK l key l.length ∧ 2 ^ (findR (keysOf l) key).2 ≤ 2 * l.length + 1 := by
  have hs := keys_sorted h
  have hlk := keysOf_len l
  refine ⟨?_, ?_⟩
  · rcases findP_there (key := key) hs (keysOf l).length 0 (keysOf l).length 0 (by omega) (Nat.le_refl _) (fun i hi _ => ⟨by omega, hi⟩) with ⟨h1, h2⟩ | ⟨i, hi, h1, h2⟩
    · unfold findR
      rw [h1, thereK_none l.length (Nat.le_refl _)]
      intro i hi
      have := h2 i (by rw [hlk]; exact hi)
      rw [keysOf_at] at this
      exact this
    · unfold findR
      rw [keysOf_at] at h2
      have hil : i < l.length := by rw [hlk] at hi; exact hi
      rw [h1, thereK_one hil h2 ?_ l.length hil (Nat.le_refl _)]
      intro j hj hne he
      have e : (l[j]).1 = (l[i]).1 := toList_inj (he.trans h2.symm)
      rcases Nat.lt_or_gt_of_ne hne with h3 | h3
      · have := hs j i hi h3
        rw [keysOf_at, keysOf_at, e, ltS_irr] at this
        cases this
      · have := hs i j (by rw [hlk]; exact hj) h3
        rw [keysOf_at, keysOf_at, e, ltS_irr] at this
        cases this
  · have := (findP_looks (ks := keysOf l) (key := key) (keysOf l).length 0 (keysOf l).length 0 (by omega) (Nat.le_refl _)).2
    unfold findR
    rw [hlk] at this ⊢
    simpa using this
theorem looks_few {q n : Nat} (h : 2 ^ q ≤ 2 * n + 1) (hn : n ≤ 25) : q ≤ 62 := by
  rcases Nat.lt_or_ge q 6 with h1 | h1
  · omega
  · have : 2 ^ 6 ≤ 2 ^ q := Nat.pow_le_pow_right (by omega) h1
    omega

theorem drawFindRun_any (A : Option Addr) (n c : Nat) (w : World) (h : BytesIn w A n c) :
    Calls Try.prog 32 #[.slice A n c] w fun e w' => ∃ (l : List It) (A : Option Addr) (m c : Nat) (key : ByteArray), e = .returned (.tuple #[.slice A m c, .string key]) ∧ m = l.length ∧ m ≤ 25 ∧ FewI l ∧ key.size ≤ 64 ∧ w'.ownsRow w.heap.size 46 3 (.slice A m c) m (itsC l) ∧ Below w.heap.size w w' := by
  have HP := Lib.hid (newReader_any A n c w h)
  go_enter Try.func32, Try.ntmps32
  go_wp2_with fail
  refine (HP.out).mono ?_
  rintro e w1 ⟨rfl, hr1, hb1⟩
  have HB := Lib.hid hb1; clear hb1
  have hrl := hr1.lt
  have HK := Lib.hid (someRun_any w.heap.size 0 w1 hr1 (by omega)); clear hr1
  go_wp2_with fail
  refine (HK.out).mono ?_
  rintro e w2 ⟨l, A2, m2, c2, rfl, hm, hm2, hf, hr⟩
  have HG := Lib.hid hr; clear hr
  have HM := Lib.hid hm; clear hm
  have HF := Lib.hid hf; clear hf
  have HPK := Lib.hid (pick_any w.heap.size _ 8 w2 HG.out.rd (by omega) (by omega))
  go_wp2_with fail
  refine (HPK.out).mono ?_
  rintro e w3 ⟨x, rfl, hx0, hxn, hr3, hg3⟩
  have HG3 := Lib.hid (HG.out.grow hrl hg3 hr3); clear hr3 hg3
  by_cases hx : x = 0
  · subst hx
    have HS := Lib.hid (someKey_any w.heap.size _ w3 HG3.out.rd (by omega))
    go_wp2_with fail
    refine (HS.out).mono ?_
    rintro e w4 ⟨s, rfl, hs, hr4, hg4⟩
    have HG4 := Lib.hid (HG3.out.grow hrl hg4 hr4); clear hr4 hg4
    go_wp2_with fail
    refine bodyPost_ret (v := .tuple #[.slice A2 m2 c2, .string s]) (by simp [results, Try.results32, go_sem]) rfl ?_
    exact ⟨l, A2, m2, c2, s, rfl, HM.out, hm2, HF.out, by omega, own_le HG4.out.own HB.out.size, HB.out.trans (below_of_grown HG4.out.gr (Nat.le_refl _) HB.out.size)⟩
  · have q0 : (x == 0) = false := by simpa using hx
    clear hx
    have HS := Lib.hid (goodKey_any w.heap.size _ w3 HG3.out.rd (by omega))
    go_wp2_with fail
    refine (HS.out).mono ?_
    rintro e w4 ⟨s, rfl, hs, hr4, hg4⟩
    have HG4 := Lib.hid (HG3.out.grow hrl hg4 hr4); clear hr4 hg4
    go_wp2_with fail
    refine bodyPost_ret (v := .tuple #[.slice A2 m2 c2, .string s]) (by simp [results, Try.results32, go_sem]) rfl ?_
    exact ⟨l, A2, m2, c2, s, rfl, HM.out, hm2, HF.out, by omega, own_le HG4.out.own HB.out.size, HB.out.trans (below_of_grown HG4.out.gr (Nat.le_refl _) HB.out.size)⟩

set_option maxRecDepth 100000 in
set_option maxHeartbeats 2000000 in
theorem walk_FnFindRun (A : Option Addr) (n c : Nat) (w : World) (h : BytesIn w A n c) :
    Calls Try.prog 7 #[.slice A n c] w fun e w' => e = .returned (.bool true) ∧ Below w.heap.size w w' := by
  have HD := Lib.hid (drawFindRun_any A n c w h)
  obtain ⟨hc, hm, _⟩ := h
  unfold maxLen at hm
  by_cases hb : n ≤ 1048576
  · go_enter Try.func7, Try.ntmps7
    go_wp2_with fail
    refine (HD.out).mono ?_
    rintro e w1 ⟨l, A1, m, c1, key, rfl, hml, hm25, hf, hks, ho, hb1⟩
    have HB1 := Lib.hid hb1
    have hwf := hf.wf
    have hkm : key.size ≤ maxLen := by unfold maxLen; omega
    have HI := Lib.hid (fun W (hb : Below w1.heap.size w1 W) => iFindRun_any A1 m c1 l key W (((RowAt.of_own ho).below hb).mono hb.size) hml (by omega) hwf hkm)
    have HS := Lib.hid (fun W (hb : Below w1.heap.size w1 W) => sFindRun_any A1 m c1 l key W (((RowAt.of_own ho).below hb).mono hb.size) hml (by omega) hwf hkm)
    have HRW := Lib.hid (RowAt.of_own ho)
    have HN := Lib.hid hml
    clear hb1 hwf hf ho hml hkm hks
    by_cases hv : runB l = true ∧ keyB key = true
    · have hr : findRunR l key = ((findR (keysOf l) key).1, ((findR (keysOf l) key).2 : Int)) := findRunR_yes hv.1 hv.2
      rw [hr] at HI HS
      have hff := find_facts hv.1 key
      have HTK := Lib.hid hff.1
      have h2 := hff.2
      clear hv hr hff
      obtain ⟨q, hq⟩ : ∃ q, findR (keysOf l) key = q := ⟨_, rfl⟩
      rw [hq] at HI HS HTK h2
      clear hq
      obtain ⟨at_, looks⟩ := q
      simp only at h2
      have HI := Lib.hid HI.out
      have hlk : looks ≤ 62 := looks_few h2 (by have := HN.out; omega)
      have HPW := Lib.hid (fun w => lPower_any looks w hlk)
      rw [← HN.out] at h2
      have h2i : ((2 ^ looks : Nat) : Int) ≤ 2 * (m : Int) + 1 := by exact_mod_cast h2
      clear h2
      generalize ((2 ^ looks : Nat) : Int) = pw at *
      have q0 : (at_ == at_) = true := by simp
      have q1 : (at_ != at_) = false := by simp
      have q2 : ((looks : Int) == (looks : Int)) = true := by simp
      have q3 : ((looks : Int) != (looks : Int)) = false := by simp
      go_wp2_with fail
      refine (HI.out _ (Below.refl _ _)).mono ?_
      rintro e w2 ⟨rfl, hb2⟩
      have HB2 := Lib.hid hb2; clear hb2
      go_wp2_with fail
      refine (HS.out _ HB2.out).mono ?_
      rintro e w3 ⟨rfl, hb3⟩
      have HB3 := Lib.hid (HB2.out.trans (hb3.mono HB2.out.size)); clear hb3
      go_wp2_with fail
      go_loopw [9, 10] (fun t i wr => ∃ k : Nat, i = .int .i64 k ∧ t = .int .i64 (thereK l key k) ∧ k ≤ m ∧ Below w1.heap.size w1 wr) (fun t i _ => m - (intOf i).toNat)
      case atStart => exact ⟨0, rfl, rfl, by omega, HB3.out⟩
      case round =>
        obtain ⟨k, rfl, rfl, hk, hb⟩ := hrel
        have HB := Lib.hid hb; clear hb
        by_cases hlt : k < m
        · have hkl : k < l.length := by have := HN.out; omega
          obtain ⟨b, off, hA, hbw, e0, e1, e2⟩ := its_at (HRW.out.below HB.out) hkl
          subst hA
          have hi1 : (k : Int) < (m : Int) := by omega
          clear e1 e2
          by_cases he : l[k].1.toList = key.toList
          · have HT := Lib.hid (thereK_yes hkl he)
            have q4 : (l[k].1.toList == key.toList) = true := by simpa using he
            clear he
            generalize l[k].1 = x0 at *
            go_wp2_with fail
            go_roundw
            case rel => exact ⟨k + 1, by go_num, by rw [HT.out], by omega, HB.out⟩
            case measure => simp [intOf]; omega
          · have HT := Lib.hid (thereK_no hkl he)
            have q4 : (l[k].1.toList == key.toList) = false := by simpa using he
            clear he
            generalize l[k].1 = x0 at *
            go_wp2_with fail
            go_roundw
            case rel => exact ⟨k + 1, by go_num, by rw [HT.out], by omega, HB.out⟩
            case measure => simp [intOf]; omega
        · obtain rfl : k = m := by omega
          have HE := Lib.hid (show thereK l key k = at_ by rw [HN.out]; exact HTK.out.symm)
          rw [HE.out]
          go_wp2_with fail
          refine (HPW.out _).mono ?_
          rintro e w' ⟨rfl, rfl⟩
          go_wp2_with fail
          go_ret
          exact ⟨rfl, HB1.out.trans (HB.out.mono HB1.out.size)⟩
    · have hr : findRunR l key = (-1, -1) := by unfold findRunR; rw [if_neg hv]
      rw [hr] at HI HS
      clear hv hr
      go_wp2_with fail
      refine (HI.out _ (Below.refl _ _)).mono ?_
      rintro e w2 ⟨rfl, hb2⟩
      have HB2 := Lib.hid hb2; clear hb2
      go_wp2_with fail
      refine (HS.out _ HB2.out).mono ?_
      rintro e w3 ⟨rfl, hb3⟩
      have HB3 := Lib.hid (HB2.out.trans (hb3.mono HB2.out.size)); clear hb3
      go_wp2_with fail
      go_ret
      exact ⟨rfl, HB1.out.trans (HB3.out.mono HB1.out.size)⟩
  · go_enter Try.func7, Try.ntmps7
    go_wp2
    go_ret
    exact ⟨rfl, Below.refl _ _⟩
end Go.Proofs.Ytelhgpmklhdhcaa
