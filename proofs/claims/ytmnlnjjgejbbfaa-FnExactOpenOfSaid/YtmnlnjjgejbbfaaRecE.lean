/- Contracts of OpenOf, in the program and in the model (chapter 6). Conditions: the records lie in a row; they are few. -/
import Derived.Test.YtmnlnjjgejbbfaaRecD
set_option linter.unusedVariables false
set_option linter.unusedSimpArgs false
namespace Go.Proofs.Ytmnlnjjgejbbfaa
open Go.RowKit Go.ChangeShapes Go.WideShapes

/-- the transactions below k that have not ended -/
def openL (h : HP) : Nat → List Int
  | 0 => []
  | k + 1 => if (h.t k).opn = true then openL h k ++ [(k : Int)] else openL h k
def openR (l : List Rc) : List Int := match histP l l.length with | none => [] | some h => if validP l = true then openL h 5 else []
theorem openL_len (h : HP) : ∀ k, (openL h k).length ≤ k
  | 0 => Nat.le_refl _
  | k + 1 => by
    have := openL_len h k
    unfold openL
    split
    · simp; omega
    · omega
theorem openL_good (h : HP) : ∀ k, k ≤ 5 → ∀ p ∈ openL h k, GoodIn p
  | 0, _, p, hp => by cases hp
  | k + 1, hk, p, hp => by
    unfold openL at hp
    split at hp
    · rcases List.mem_append.1 hp with h1 | h1
      · exact openL_good h k (by omega) p h1
      · rw [List.mem_singleton.1 h1]; unfold GoodIn; omega
    · exact openL_good h k (by omega) p hp
theorem openR_good {l : List Rc} (hw : WfRc l) : (openR l).length ≤ 1048576 ∧ ∀ p ∈ openR l, GoodIn p := by
  unfold openR
  split
  · exact ⟨by simp, fun p hp => by cases hp⟩
  · rename_i h _
    split
    · exact ⟨by have := openL_len h 5; omega, openL_good h 5 (by omega)⟩
    · exact ⟨by simp, fun p hp => by cases hp⟩
/-- numbers of the call's own that grow -/
def OwnN (B : Nat) (l : List Int) (v : Value) (w : World) : Prop := ∃ (A : Option Addr) (c : Nat), v = .slice A l.length c ∧ w.ownsRow B 3 1 (.slice A l.length c) l.length (intC l)
/-- whether a transaction has a record among the first ones -/
def hasR (l : List Rc) : Nat → Nat → Bool
  | 0, _ => false
  | k + 1, t => hasR l k t || tn l k == (t : Int)
theorem hasR_iff (l : List Rc) (t : Nat) : ∀ k, hasR l k t = true ↔ ∃ i, i < k ∧ tn l i = (t : Int)
  | 0 => by simp [hasR]
  | k + 1 => by
    unfold hasR
    rw [Bool.or_eq_true, hasR_iff l t k]
    constructor
    · rintro (⟨i, h1, h2⟩ | h)
      · exact ⟨i, by omega, h2⟩
      · exact ⟨k, by omega, by simpa using h⟩
    · rintro ⟨i, h1, h2⟩
      rcases Nat.lt_succ_iff_lt_or_eq.1 h1 with h3 | rfl
      · exact .inl ⟨i, h3, h2⟩
      · exact .inr (by simpa using h2)
theorem opn_has {l : List Rc} {k : Nat} {h : HP} (I : Inv l k h) (t : Nat) : (h.t t).opn = (hasR l k t && ends l k t == 0) := by
  unfold TxP.opn
  rw [I.fin t]
  congr 1
  rw [Bool.eq_iff_iff, I.bgn t, hasR_iff]

set_option maxRecDepth 100000 in
set_option maxHeartbeats 8000000 in
theorem sOpenOf_any (A : Option Addr) (n c : Nat) (l : List Rc) (h : HP) (w : World) (hr : RowAt w w.heap.size A (rcsC l)) (hn : n = l.length) (hs : n ≤ 1048576) (I : Inv l n h) :
    Calls Try.prog 50 #[.slice A n c] w (IntsPost (openL h 5) w) := by
  have HEN := Lib.hid (fun (t : Nat) W (hb : Below w.heap.size w W) => ended_any A n c l t W ((hr.below hb).mono hb.size) (by omega) hs)
  have HR := Lib.hid hr; clear hr
  have HN := Lib.hid hn; clear hn
  have HO := Lib.hid (fun t => opn_has I t)
  have HZ := Lib.hid (show openL h 1 = [] by show (if (h.t 0).opn = true then _ else openL h 0) = []; rw [I.z0]; rfl)
  clear I
  obtain ⟨i0, hi0, hz0, hz1, hz2⟩ := info_parts intInfo
  have HI := Lib.hid (And.intro hi0 (And.intro hz0 (And.intro hz1 hz2))); clear hi0 hz0 hz1 hz2
  go_enter Try.func50, Try.ntmps50
  go_wp2_with fail
  go_loopw [3, 4] (fun q i wr => ∃ (T : Option Addr) (ct t : Nat), q = .slice T (openL h t).length ct ∧ i = .int .i64 (t : Int) ∧ 1 ≤ t ∧ t ≤ 5 ∧ wr.ownsRow w.heap.size 3 1 (.slice T (openL h t).length ct) (openL h t).length (intC (openL h t)) ∧ Below w.heap.size w wr) (fun _ i _ => 5 - (intOf i).toNat)
  case atStart =>
    refine ⟨_, _, 1, by rw [HZ.out]; rfl, rfl, by omega, by omega, ?_, (Below.refl _ _).alloc (Nat.le_refl _) _⟩
    rw [HZ.out]
    exact World.ownsRow_made w _ _ (Nat.le_refl _) (by simp [maxLen]) rfl
  case round =>
    obtain ⟨T, ct, t, rfl, rfl, ht1, ht5, ho, hb⟩ := hrel
    have HOW := Lib.hid ho; clear ho
    have HB := Lib.hid hb; clear hb
    have hle := openL_len h t
    by_cases hlt : t < 5
    · have ht4 : (t : Int) ≤ 4 := by omega
      have HE := Lib.hid (HEN.out t wr HB.out)
      have HOP := Lib.hid (HO.out t)
      have HS := Lib.hid (show openL h (t + 1) = if (h.t t).opn = true then openL h t ++ [(t : Int)] else openL h t from rfl)
      obtain ⟨L, hL⟩ : ∃ x, openL h t = x := ⟨_, rfl⟩
      rw [hL] at HOW HS hle
      rw [hL]
      obtain ⟨m, hm⟩ : ∃ x, L.length = x := ⟨_, rfl⟩
      have HM := Lib.hid hm
      rw [hm] at HOW hle
      rw [hm]
      clear hL hm
      go_wp2_with fail
      go_loop [5, 6] (fun b i => ∃ j : Nat, j ≤ n ∧ i = .int .i64 j ∧ b = .bool (hasR l j t)) (fun _ i => n - (intOf i).toNat)
      case atStart => exact ⟨0, by omega, rfl, rfl⟩
      case round =>
        obtain ⟨j, hj, rfl, rfl⟩ := hrel
        by_cases hlj : j < n
        · obtain ⟨b, off, rfl, hbw, _, e1, _, _, _⟩ := rc_cells_at (HR.out.below HB.out) (show j < l.length by have := HN.out; omega)
          have hbw2 : b < wr.heap.size := Nat.lt_of_lt_of_le hbw HB.out.size
          have HJ := Lib.hid (show hasR l (j + 1) t = (hasR l j t || tn l j == (t : Int)) from rfl)
          obtain ⟨x1, h1⟩ : ∃ y, tn l j = y := ⟨_, rfl⟩
          rw [h1] at e1 HJ
          clear h1
          obtain ⟨bb, hbb⟩ : ∃ y, hasR l j t = y := ⟨_, rfl⟩
          rw [hbb] at HJ
          rw [hbb]
          clear hbb
          cases bb
          · by_cases hx : x1 = (t : Int)
            · have qx : (x1 == (t : Int)) = true := by simpa using hx
              rw [qx] at HJ
              clear hx
              go_wp2_with fail
              go_round
              case rel => exact ⟨j + 1, by omega, by go_num, by rw [HJ.out]; rfl⟩
              case measure => simp [intOf] <;> omega
            · have qx : (x1 == (t : Int)) = false := by simpa using hx
              rw [qx] at HJ
              clear hx
              go_wp2_with fail
              go_round
              case rel => exact ⟨j + 1, by omega, by go_num, by rw [HJ.out]; rfl⟩
              case measure => simp [intOf] <;> omega
          · go_wp2_with fail
            go_round
            case rel => exact ⟨j + 1, by omega, by go_num, by rw [HJ.out]; rfl⟩
            case measure => simp [intOf] <;> omega
        · obtain rfl : j = n := by omega
          obtain ⟨en, hen⟩ : ∃ y, ends l j t = y := ⟨_, rfl⟩
          obtain ⟨bb, hbb⟩ : ∃ y, hasR l j t = y := ⟨_, rfl⟩
          rw [hen] at HE
          have HOP2 := Lib.hid (show (h.t t).opn = (bb && en == 0) by rw [HOP.out, hbb, hen])
          rw [hbb]
          clear hen hbb
          cases bb
          · have HNX := Lib.hid (show openL h (t + 1) = L by rw [HS.out, HOP2.out]; rfl)
            go_wp2_with fail
            go_roundw
            case rel => exact ⟨T, ct, t + 1, by rw [HNX.out, HM.out], by go_num, by omega, by omega, by rw [HNX.out, HM.out]; exact HOW.out, HB.out⟩
            case measure => simp [intOf] <;> omega
          · by_cases he : en = 0
            · subst he
              have HNX := Lib.hid (show openL h (t + 1) = L ++ [(t : Int)] by rw [HS.out, HOP2.out]; rfl)
              have HBA := Lib.hid ((Below.refl wr.heap.size wr).alloc (Nat.le_refl _) (.cells #[.int .i64 (t : Int)] 3))
              go_wp2_with fail
              refine (HE.out).mono ?_
              rintro e w5 ⟨rfl, hw5⟩
              obtain rfl := hw5.symm
              go_wp2_with (at_builtin; refine wpList_append_own _ rfl _ _ 29 rfl w.heap.size 3 i0 (.int .i64 0) 1 8 Try.underlying29 HI.out.1 HI.out.2.1 HI.out.2.2.1 HI.out.2.2.2 rfl (by decide) (.slice T m ct) m (intC L) rfl ?c0 ⟨wr.heap.size, 0, none⟩ 1 1 [.int .i64 (t : Int)] rfl rfl ?c1 ?c2 ?c3 ?c4 ?c5 ?_)
              case c0 => exact HOW.out.alloc _
              case c1 =>
                intro j u hj
                have := cell_one_new wr (.int .i64 (t : Int)) 3 j u hj
                simpa using this
              case c2 => first | rfl | (intro u hu; simp at hu; subst hu; rfl)
              case c3 => unfold maxLen; omega
              case c4 => omega
              case c5 => have := HB.out.size; simp; omega
              intro v' w1 hown hgrow _
              have HNW := Lib.hid hown; clear hown
              have HBN := Lib.hid (show Below w.heap.size w w1 from (HB.out.trans (HBA.out.mono HB.out.size)).grown hgrow (by have := HB.out.size; simp; omega) (fun q9 e => (HOW.out.lt q9 e).1))
              clear hgrow
              obtain ⟨T9, c9, hv9⟩ : ∃ T9 c9, v' = .slice T9 (m + 1) c9 := by
                rcases HNW.out.2 with ⟨_, h0⟩ | ⟨g9, cap9, _, hv, _⟩
                · omega
                · exact ⟨_, _, hv⟩
              subst hv9
              go_wp2_with fail
              go_roundw
              case rel => exact ⟨T9, c9, t + 1, by rw [HNX.out, List.length_append, HM.out]; rfl, by go_num, by omega, by omega, by
                rw [HNX.out, List.length_append, HM.out]
                show w1.ownsRow _ _ _ (.slice T9 (m + 1) c9) (m + 1) (intC (L ++ [(t : Int)]))
                rw [intC_app]
                exact HNW.out, HBN.out⟩
              case measure => simp [intOf] <;> omega
            · have qe : (en == 0) = false := by simpa using he
              have HNX := Lib.hid (show openL h (t + 1) = L by rw [HS.out, HOP2.out, qe]; rfl)
              clear he
              go_wp2_with fail
              refine (HE.out).mono ?_
              rintro e w5 ⟨rfl, hw5⟩
              obtain rfl := hw5.symm
              go_wp2_with fail
              go_roundw
              case rel => exact ⟨T, ct, t + 1, by rw [HNX.out, HM.out], by go_num, by omega, by omega, by rw [HNX.out, HM.out]; exact HOW.out, HB.out⟩
              case measure => simp [intOf] <;> omega
    · obtain rfl : t = 5 := by omega
      go_wp2_with fail
      go_ret
      exact ⟨_, rfl, ⟨T, ct, rfl, HOW.out⟩, HB.out⟩

theorem openR_valid {l : List Rc} {h : HP} (hv : validP l = true) (hh : histP l l.length = some h) : openR l = openL h 5 := by
  unfold openR
  rw [hh]
  simp only
  rw [if_pos hv]
theorem openR_not {l : List Rc} (hv : validP l = false) : openR l = [] := by
  unfold openR
  split
  · rfl
  · rw [hv]; rfl

set_option maxRecDepth 100000 in
set_option maxHeartbeats 4000000 in
theorem sOpen_any (A : Option Addr) (n c : Nat) (l : List Rc) (w : World) (hr : RowAt w w.heap.size A (rcsC l)) (hn : n = l.length) (hs : n ≤ 1048576) (hw : WfRc l) (hnc : n ≤ c) :
    Calls Try.prog 26 #[.slice A n c] w (IntsPost (openR l) w) := by
  have HC := Lib.hid (sValid_any A n c l w hr hn hs hnc)
  cases hv : validP l with
  | true =>
    rw [hv] at HC
    obtain ⟨h, hh⟩ := valid_hist hv
    have HF := Lib.hid (openR_valid hv hh)
    have HW := Lib.hid (fun W (hb : Below w.heap.size w W) => sOpenOf_any A n c l h W ((hr.below hb).mono hb.size) hn hs (by rw [hn]; exact hist_inv l l.length h hh))
    clear hh hv
    have HN := Lib.hid hn; clear hn hr
    go_enter Try.func26, Try.ntmps26
    go_wp2_with fail
    refine (HC.out).mono ?_
    rintro e w2 ⟨rfl, hb⟩
    have HB := Lib.hid hb; clear hb
    go_wp2_with fail
    refine (HW.out _ HB.out).mono ?_
    rintro e w3 ⟨v, rfl, ho, hb3⟩
    have HO := Lib.hid (And.intro ho hb3); clear ho hb3
    go_wp2_with fail
    go_ret
    refine ⟨v, rfl, ?_, HB.out.trans (HO.out.2.mono HB.out.size)⟩
    rw [HF.out]
    obtain ⟨A9, c9, e9, h9⟩ := HO.out.1
    exact ⟨A9, c9, e9, own_monoI h9 HB.out.size⟩
  | false =>
    rw [hv] at HC
    have HF := Lib.hid (openR_not hv)
    have HN := Lib.hid hn; clear hn hr
    go_enter Try.func26, Try.ntmps26
    go_wp2_with fail
    refine (HC.out).mono ?_
    rintro e w2 ⟨rfl, hb⟩
    have HB := Lib.hid hb; clear hb
    go_wp2_with fail
    go_ret
    exact ⟨_, rfl, by rw [HF.out]; exact own_nilI _ _, HB.out⟩
end Go.Proofs.Ytmnlnjjgejbbfaa
