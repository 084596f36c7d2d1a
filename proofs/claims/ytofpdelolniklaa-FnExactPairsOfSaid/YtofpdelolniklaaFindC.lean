/- Contracts of FindRun, in the program and in the model (chapter 4). Conditions: the items lie in a row; they are few; their texts are no longer than memory. -/
import Derived.Test.YtofpdelolniklaaRunI
import Derived.Test.YtofpdelolniklaaShelf
set_option linter.unusedVariables false
set_option linter.unusedSimpArgs false
namespace Go.Proofs.Ytofpdelolniklaa
open Go.RowKit Go.ChangeShapes Go.WideShapes

theorem cmp_same : ∀ (a : List UInt8), Lib.compareBytes a a = 0
  | [] => rfl
  | x :: a => by
    unfold Lib.compareBytes
    rw [if_neg (by rw [UInt8.lt_iff_toNat_lt]; omega), if_neg (by rw [UInt8.lt_iff_toNat_lt]; omega)]
    exact cmp_same a
theorem cmp_less : ∀ (a b : List UInt8), Op.bytesLess a b = true → Lib.compareBytes a b = -1
  | _, [], h => by simp [Op.bytesLess] at h
  | [], _ :: _, _ => rfl
  | x :: a, y :: b, h => by
    simp only [Op.bytesLess, Bool.or_eq_true, decide_eq_true_eq, Bool.and_eq_true, beq_iff_eq] at h
    unfold Lib.compareBytes
    rcases h with h | ⟨h, h2⟩
    · rw [if_pos h]
    · subst h
      rw [if_neg (by rw [UInt8.lt_iff_toNat_lt]; omega), if_neg (by rw [UInt8.lt_iff_toNat_lt]; omega)]
      exact cmp_less a b h2
theorem cmp_more : ∀ (a b : List UInt8), Op.bytesLess b a = true → Lib.compareBytes a b = 1
  | [], _, h => by simp [Op.bytesLess] at h
  | _ :: _, [], _ => rfl
  | x :: a, y :: b, h => by
    simp only [Op.bytesLess, Bool.or_eq_true, decide_eq_true_eq, Bool.and_eq_true, beq_iff_eq] at h
    unfold Lib.compareBytes
    rcases h with h | ⟨h, h2⟩
    · rw [if_neg (by rw [UInt8.lt_iff_toNat_lt] at *; omega), if_pos h]
    · subst h
      rw [if_neg (by rw [UInt8.lt_iff_toNat_lt]; omega), if_neg (by rw [UInt8.lt_iff_toNat_lt]; omega)]
      exact cmp_more a b h2
/-- what strings.Compare answers, of a text and a key -/
theorem cmp_key (a b : ByteArray) : (a.toList = b.toList ∧ Lib.compareBytes a.data.toList b.data.toList = 0) ∨ (¬ b.toList = a.toList ∧ ltS b a = true ∧ Lib.compareBytes a.data.toList b.data.toList = 1) ∨ (¬ b.toList = a.toList ∧ ltS b a = false ∧ Lib.compareBytes a.data.toList b.data.toList = -1) := by
  have e1 := ByteArray.toList_eq a
  have e2 := ByteArray.toList_eq b
  cases h : ltS b a
  · cases k : ltS a b
    · have := ltS_total h k
      subst this
      exact .inl ⟨rfl, cmp_same _⟩
    · refine .inr (.inr ⟨fun e => ltS_ne k (toList_inj e.symm), rfl, ?_⟩)
      rw [← e1, ← e2]; exact cmp_less _ _ k
  · refine .inr (.inl ⟨fun e => ltS_ne h (toList_inj e), rfl, ?_⟩)
    rw [← e1, ← e2]; exact cmp_more _ _ h

def keysOf (l : List It) : List ByteArray := l.map fun p => p.1
theorem keysOf_len (l : List It) : (keysOf l).length = l.length := by simp [keysOf]
theorem keysOf_at {l : List It} {k : Nat} (h : k < (keysOf l).length) : (keysOf l)[k] = (l[k]'(by rw [keysOf_len] at h; exact h)).1 := by simp [keysOf]
/-- the place and the looks -/
def findRunR (l : List It) (key : ByteArray) : Int × Int := if runB l = true ∧ keyB key = true then ((findR (keysOf l) key).1, ((findR (keysOf l) key).2 : Int)) else (-1, -1)
/-- while it is looked for -/
structure FdRel (l : List It) (key : ByteArray) (lo hi looks : Nat) : Prop where
  ok : lo ≤ hi ∧ hi ≤ l.length ∧ looks + (hi - lo) ≤ l.length
  eq : ∀ f, hi - lo ≤ f → findP (keysOf l) key f lo hi looks = findR (keysOf l) key
theorem FdRel.start (l : List It) (key : ByteArray) : FdRel l key 0 l.length 0 := ⟨by omega, fun f hf => by
  unfold findR
  rw [keysOf_len]
  exact findP_fuel f l.length 0 l.length 0 hf (by omega) (by rw [keysOf_len]; exact Nat.le_refl _)⟩
section
variable {l : List It} {key : ByteArray} {lo hi looks m : Nat}
theorem FdRel.none_ (h : FdRel l key lo hi looks) (hle : ¬ lo < hi) : findR (keysOf l) key = (-1, looks) := by
  rw [← h.eq (hi - lo) (Nat.le_refl _), findP_end (by omega)]
theorem FdRel.found (h : FdRel l key lo hi looks) (hlt : lo < hi) (hm : (lo + hi) / 2 = m) (hml : m < l.length) (he : l[m].1.toList = key.toList) : findR (keysOf l) key = ((m : Int), looks + 1) := by
  subst hm
  have hk : (lo + hi) / 2 < (keysOf l).length := by rw [keysOf_len]; exact hml
  rw [← h.eq (hi - lo + 1) (by omega), findP_at hlt hk (by rw [keysOf_at hk]; exact he)]
theorem FdRel.up (h : FdRel l key lo hi looks) (hlt : lo < hi) (hm : (lo + hi) / 2 = m) (hml : m < l.length) (hl : ltS l[m].1 key = true) : FdRel l key (m + 1) hi (looks + 1) := by
  subst hm
  have hk : (lo + hi) / 2 < (keysOf l).length := by rw [keysOf_len]; exact hml
  have h1 := h.ok
  refine ⟨by omega, fun f hf => ?_⟩
  have h2 := h.eq (hi - lo + 1) (by omega)
  rw [findP_up hlt hk (by rw [keysOf_at hk]; exact hl)] at h2
  rw [← h2]
  exact findP_fuel _ _ _ _ _ hf (by omega) (by rw [keysOf_len]; omega)
theorem FdRel.down (h : FdRel l key lo hi looks) (hlt : lo < hi) (hm : (lo + hi) / 2 = m) (hml : m < l.length) (hne : ¬ l[m].1.toList = key.toList) (hl : ltS l[m].1 key = false) : FdRel l key lo m (looks + 1) := by
  subst hm
  have hk : (lo + hi) / 2 < (keysOf l).length := by rw [keysOf_len]; exact hml
  have h1 := h.ok
  refine ⟨by omega, fun f hf => ?_⟩
  have h2 := h.eq (hi - lo + 1) (by omega)
  rw [findP_down hlt hk (by rw [keysOf_at hk]; exact hne) (by rw [keysOf_at hk]; exact hl)] at h2
  rw [← h2]
  exact findP_fuel _ _ _ _ _ hf (by omega) (by rw [keysOf_len]; omega)
end
def FindPost (r : Int × Nat) (w : World) (e : Ending) (w' : World) : Prop := e = .returned (.tuple #[.int .i64 r.1, .int .i64 (r.2 : Int)]) ∧ Below w.heap.size w w'
theorem half_int {lo hi m : Nat} (h : (lo + hi) / 2 = m) : ((lo : Int) + (hi : Int)).tdiv 2 = (m : Int) := by
  rw [Int.tdiv_eq_ediv_of_nonneg (by omega)]; omega

set_option maxRecDepth 100000 in
set_option maxHeartbeats 2000000 in
theorem sFind_any (A : Option Addr) (n c : Nat) (l : List It) (key : ByteArray) (w : World) (hr : RowAt w w.heap.size A (itsC l)) (hn : n = l.length) (hs : n ≤ 1048576) :
    Calls Try.prog 113 #[.slice A n c, .string key] w (FindPost (findR (keysOf l) key) w) := by
  have HR := Lib.hid hr; clear hr
  have HN := Lib.hid hn
  have HS := Lib.hid (FdRel.start l key)
  rw [← hn] at HS; clear hn
  go_enter Try.func113, Try.ntmps113
  go_wp2_with fail
  go_loopw [6, 7, 8] (fun a b q wr => ∃ lo hi looks : Nat, a = .int .i64 lo ∧ b = .int .i64 hi ∧ q = .int .i64 looks ∧ FdRel l key lo hi looks ∧ Below w.heap.size w wr) (fun a b _ _ => (intOf b).toNat - (intOf a).toNat)
  case atStart => exact ⟨0, n, 0, rfl, rfl, rfl, HS.out, Below.refl _ _⟩
  case round =>
    obtain ⟨lo, hi, looks, rfl, rfl, rfl, hf, hb⟩ := hrel
    have HF := Lib.hid hf
    have hok := hf.ok
    clear hf
    have HB := Lib.hid hb; clear hb
    have hln := HN.out.symm
    rw [hln] at hok
    have HLN := Lib.hid hln; clear hln
    by_cases hlt : lo < hi
    · obtain ⟨m, hm⟩ : ∃ m, (lo + hi) / 2 = m := ⟨_, rfl⟩
      have hm2 : lo ≤ m ∧ m < hi := by omega
      have e1 := half_int hm
      have HM := Lib.hid hm; clear hm
      have hml : m < l.length := by have := HN.out; omega
      obtain ⟨b, off, hA, hbw, e0, _, _⟩ := its_at (HR.out.below HB.out) hml
      subst hA
      have hi1 : (m : Int) < (n : Int) := by omega
      have hi2 : (lo : Int) < (hi : Int) := by omega
      by_cases he : l[m].1.toList = key.toList
      · have HX := Lib.hid (HF.out.found hlt HM.out hml he)
        have q1 : (l[m].1.toList == key.toList) = true := by simpa using he
        generalize l[m].1 = x at *
        have HE := Lib.hid he; clear he
        go_wp2_with fail
        refine bodyPost_ret (v := .tuple #[.int .i64 m, .int .i64 ((looks + 1 : Nat) : Int)]) (by simp [results, Try.results113, go_sem]) rfl ?_
        exact ⟨by rw [HX.out], HB.out⟩
      · cases hl : ltS l[m].1 key
        · have HX := Lib.hid (HF.out.down hlt HM.out hml he hl)
          have q1 : (l[m].1.toList == key.toList) = false := by simpa using he
          have q2 : Op.bytesLess l[m].1.toList key.toList = false := hl
          clear hl
          generalize l[m].1 = x at *
          go_wp2_with fail
          go_roundw
          case rel => exact ⟨lo, m, looks + 1, rfl, rfl, by go_num, HX.out, HB.out⟩
          case measure => simp [intOf]; omega
        · have HX := Lib.hid (HF.out.up hlt HM.out hml hl)
          have q1 : (l[m].1.toList == key.toList) = false := by simpa using he
          have q2 : Op.bytesLess l[m].1.toList key.toList = true := hl
          clear hl
          generalize l[m].1 = x at *
          go_wp2_with fail
          go_roundw
          case rel => exact ⟨m + 1, hi, looks + 1, by go_num, rfl, by go_num, HX.out, HB.out⟩
          case measure => simp [intOf]; omega
    · have HX := Lib.hid (HF.out.none_ hlt)
      go_wp2_with fail
      refine bodyPost_ret (v := .tuple #[.int .i64 (-1), .int .i64 looks]) (by simp [results, Try.results113, go_sem]) rfl ?_
      exact ⟨by rw [HX.out], HB.out⟩

theorem findRunR_no {l : List It} {key : ByteArray} (h : runB l = false ∨ keyB key = false) : findRunR l key = (-1, -1) := by
  unfold findRunR
  rw [if_neg]
  rintro ⟨h1, h2⟩
  rcases h with h | h
  · rw [h] at h1; cases h1
  · rw [h] at h2; cases h2
theorem findRunR_yes {l : List It} {key : ByteArray} (h1 : runB l = true) (h2 : keyB key = true) : findRunR l key = ((findR (keysOf l) key).1, ((findR (keysOf l) key).2 : Int)) := by
  unfold findRunR; rw [if_pos ⟨h1, h2⟩]
set_option maxRecDepth 100000 in
set_option maxHeartbeats 2000000 in
theorem iFindRun_any (A : Option Addr) (n c : Nat) (l : List It) (key : ByteArray) (w : World) (hr : RowAt w w.heap.size A (itsC l)) (hn : n = l.length) (hs : n ≤ 1048576) (hw : WfIt l) (hk : key.size ≤ maxLen) :
    Calls Try.prog 22 #[.slice A n c, .string key] w fun e w' => e = .returned (.tuple #[.int .i64 (findRunR l key).1, .int .i64 (findRunR l key).2]) ∧ Below w.heap.size w w' := by
  have HV := Lib.hid (iRun_any A n c l w hr hn hs hw)
  have HK := Lib.hid (fun w => iKey_any key w hk)
  have HR := Lib.hid hr; clear hr
  have HN := Lib.hid hn
  have HSS := Lib.hid (FdRel.start l key)
  rw [← hn] at HSS
  clear hn hw hk
  cases h : runB l
  · rw [h] at HV
    have HS := Lib.hid (findRunR_no (l := l) (key := key) (.inl h))
    clear h
    rw [HS.out]
    go_enter Try.func22, Try.ntmps22
    go_wp2_with fail
    refine (HV.out).mono ?_
    rintro e w2 ⟨rfl, hb2⟩
    have HB := Lib.hid hb2; clear hb2
    go_wp2_with fail
    refine bodyPost_ret (v := .tuple #[.int .i64 (-1), .int .i64 (-1)]) (by simp [results, Try.results22, go_sem]) rfl ?_
    exact ⟨rfl, HB.out⟩
  · rw [h] at HV
    cases k : keyB key
    · rw [k] at HK
      have HS := Lib.hid (findRunR_no (l := l) (key := key) (.inr k))
      clear h k
      rw [HS.out]
      go_enter Try.func22, Try.ntmps22
      go_wp2_with fail
      refine (HV.out).mono ?_
      rintro e w2 ⟨rfl, hb2⟩
      have HB := Lib.hid hb2; clear hb2
      go_wp2_with fail
      refine (HK.out _).mono ?_
      rintro e w' ⟨rfl, rfl⟩
      go_wp2_with fail
      refine bodyPost_ret (v := .tuple #[.int .i64 (-1), .int .i64 (-1)]) (by simp [results, Try.results22, go_sem]) rfl ?_
      exact ⟨rfl, HB.out⟩
    · rw [k] at HK
      have HS := Lib.hid (findRunR_yes h k)
      clear h k
      rw [HS.out]
      go_enter Try.func22, Try.ntmps22
      go_wp2_with fail
      refine (HV.out).mono ?_
      rintro e w2 ⟨rfl, hb2⟩
      have HB := Lib.hid hb2; clear hb2
      go_wp2_with fail
      refine (HK.out _).mono ?_
      rintro e w' ⟨rfl, rfl⟩
      go_wp2_with fail
      have HB2 := HB; clear HB
      go_loopw [6, 7, 8] (fun q a b wr => ∃ lo hi looks : Nat, a = .int .i64 lo ∧ b = .int .i64 hi ∧ q = .int .i64 looks ∧ FdRel l key lo hi looks ∧ Below w.heap.size w wr) (fun _ a b _ => (intOf b).toNat - (intOf a).toNat)
      case atStart => exact ⟨0, n, 0, rfl, rfl, rfl, HSS.out, HB2.out⟩
      case round =>
        obtain ⟨lo, hi, looks, rfl, rfl, rfl, hf, hb⟩ := hrel
        have HF := Lib.hid hf
        have hok := hf.ok
        clear hf
        have HB := Lib.hid hb; clear hb
        have hln := HN.out.symm
        rw [hln] at hok
        have HLN := Lib.hid hln; clear hln
        by_cases hlt : lo < hi
        · obtain ⟨m, hm⟩ : ∃ m, (lo + hi) / 2 = m := ⟨_, rfl⟩
          have hm2 : lo ≤ m ∧ m < hi := by omega
          have e1 := half_int hm
          have HM := Lib.hid hm; clear hm
          have hml : m < l.length := by have := HN.out; omega
          obtain ⟨b, off, hA, hbw, e0, _, _⟩ := its_at (HR.out.below HB.out) hml
          subst hA
          have hi1 : (m : Int) < (n : Int) := by omega
          have hi2 : (lo : Int) < (hi : Int) := by omega
          have HCP := Lib.hid (fun w => Try.strings_Compare key l[m].1 w)
          rcases cmp_key key l[m].1 with ⟨he, hc⟩ | ⟨he, hl, hc⟩ | ⟨he, hl, hc⟩
          · rw [hc] at HCP
            have HX := Lib.hid (HF.out.found hlt HM.out hml he.symm)
            clear he hc
            generalize l[m].1 = x at *
            go_wp2_with fail
            refine (HCP.out _).mono ?_
            rintro e w' ⟨rfl, rfl⟩
            go_wp2_with fail
            refine bodyPost_ret (v := .tuple #[.int .i64 m, .int .i64 ((looks + 1 : Nat) : Int)]) (by simp [results, Try.results22, go_sem]) rfl ?_
            exact ⟨by rw [HX.out], HB.out⟩
          · rw [hc] at HCP
            have HX := Lib.hid (HF.out.up hlt HM.out hml hl)
            clear he hc hl
            generalize l[m].1 = x at *
            go_wp2_with fail
            refine (HCP.out _).mono ?_
            rintro e w' ⟨rfl, rfl⟩
            go_wp2_with fail
            go_roundw
            case rel => exact ⟨m + 1, hi, looks + 1, by go_num, rfl, by go_num, HX.out, HB.out⟩
            case measure => simp [intOf]; omega
          · rw [hc] at HCP
            have HX := Lib.hid (HF.out.down hlt HM.out hml he hl)
            clear he hc hl
            generalize l[m].1 = x at *
            go_wp2_with fail
            refine (HCP.out _).mono ?_
            rintro e w' ⟨rfl, rfl⟩
            go_wp2_with fail
            go_roundw
            case rel => exact ⟨lo, m, looks + 1, rfl, rfl, by go_num, HX.out, HB.out⟩
            case measure => simp [intOf]; omega
        · have HX := Lib.hid (HF.out.none_ hlt)
          go_wp2_with fail
          refine bodyPost_ret (v := .tuple #[.int .i64 (-1), .int .i64 looks]) (by simp [results, Try.results22, go_sem]) rfl ?_
          exact ⟨by rw [HX.out], HB.out⟩
end Go.Proofs.Ytofpdelolniklaa
