/- Contracts of the exact laws' own helpers on texts. Conditions: the texts lie in a row; the numbers are small. -/
import Derived.Test.YtianieiohmnahabCells
import Derived.Test.YtianieiohmnahabExMark
import Derived.Test.YtianieiohmnahabExPageC
set_option linter.unusedVariables false
set_option linter.unusedSimpArgs false
namespace Go.Proofs.Ytianieiohmnahab
open Go.RowKit Go.ChangeShapes Go.WideShapes

theorem texts_at {w : World} {B : Nat} {A : Option Addr} {l : List ByteArray} {k : Nat} (h : RowAt w B A (strC l)) (hk : k < l.length) :
    ∃ b off, A = some ⟨b, off, none⟩ ∧ b < B ∧ w.cell? ⟨b, off + k, none⟩ = some (.string l[k]) := by
  obtain ⟨b, off, rfl, hb, hc⟩ := h (by intro h0; have := congrArg List.length h0; rw [strC_len, List.length_nil] at this; omega)
  exact ⟨b, off, rfl, hb, hc k _ (by simp [strC, hk])⟩

set_option maxHeartbeats 1000000 in
set_option maxRecDepth 100000 in
theorem eqStringS_same (A1 A2 : Option Addr) (n c1 c2 : Nat) (l : List ByteArray) (w : World) (h1 : RowAt w w.heap.size A1 (strC l)) (h2 : RowAt w w.heap.size A2 (strC l)) (hn : n = l.length) (hs : n ≤ 1048576) :
    Calls Try.prog 24 #[.slice A1 n c1, .slice A2 n c2] w fun e w' => e = .returned (.bool true) ∧ Below w.heap.size w w' := by
  have H1 := Lib.hid h1; clear h1
  have H2 := Lib.hid h2; clear h2
  have HN := Lib.hid hn; clear hn
  go_enter Try.func24, Try.ntmps24
  go_wp2
  go_loopw [5] (fun i wr => ∃ k : Nat, k ≤ n ∧ i = .int .i64 k ∧ Below w.heap.size w wr) (fun i _ => n - (intOf i).toNat)
  case atStart => exact ⟨0, by omega, rfl, Below.refl _ _⟩
  case round =>
    obtain ⟨k, hk, rfl, hb⟩ := hrel
    have HB := Lib.hid hb; clear hb
    by_cases hlt : k < n
    · have hk1 : k < l.length := by have := HN.out; omega
      obtain ⟨b, off, rfl, hbw, e0⟩ := texts_at (H1.out.below HB.out) hk1
      obtain ⟨b2, off2, rfl, hbw2, e2⟩ := texts_at (H2.out.below HB.out) hk1
      generalize hx1 : l[k] = x1 at *
      clear hx1
      have q1 : (x1.toList == x1.toList) = true := by simp
      go_wp2_with fail
      go_still_tail 8, (by kernel_rfl)
      go_wp2_with fail
      go_roundw
      case rel => exact ⟨k + 1, by omega, by go_num, HB.out.trans (below_drewN _ _)⟩
      case measure => simp [intOf]; omega
    · obtain rfl : k = n := by omega
      go_wp2_with fail
      go_ret
      exact ⟨rfl, HB.out⟩

/-- the number's digits ahead of a text -/
def digA (k : Nat) (out : ByteArray) : ByteArray := if h : k = 0 then out else digA (k / 10) (⟨#[UInt8.ofNat (48 + k % 10)]⟩ ++ out)
termination_by k
decreasing_by omega
def mText (k : Int) : ByteArray := if k ≤ 0 then "m0".toUTF8 else ⟨#[109]⟩ ++ digA k.toNat ⟨#[]⟩

set_option maxHeartbeats 1000000 in
set_option maxRecDepth 100000 in
theorem markText_any (k : Int) (w : World) (h0 : 0 < k) (h1 : k ≤ 1000000000) :
    Calls Try.prog 54 #[.int .i64 k] w fun e w' => e = .returned (.string (mText k)) ∧ Below w.heap.size w w' := by
  obtain ⟨kn, rfl⟩ := Int.eq_ofNat_of_zero_le (Int.le_of_lt h0)
  have HM := Lib.hid (show mText (kn : Int) = ⟨#[109]⟩ ++ digA kn ⟨#[]⟩ by unfold mText; rw [if_neg (by omega)]; rfl)
  go_enter Try.func54, Try.ntmps54
  go_wp2_with fail
  go_loopw [0, 3] (fun i o wr => ∃ (q : ByteArray) (j : Nat), o = .string q ∧ i = .int .i64 j ∧ digA j q = digA kn ⟨#[]⟩ ∧ q.size + j ≤ 2000000000 ∧ Below w.heap.size w wr) (fun i _ _ => (intOf i).toNat)
  case atStart => exact ⟨_, kn, rfl, rfl, rfl, by show 0 + kn ≤ _; omega, Below.refl _ _⟩
  case round =>
    obtain ⟨q, j, rfl, rfl, hd, hj, hb⟩ := hrel
    have HB := Lib.hid hb; clear hb
    have HD := Lib.hid hd; clear hd
    by_cases hlt : 0 < j
    · have hdg : (UInt8.ofNat (48 + j % 10)).toNat = 48 + j % 10 := by rw [UInt8.toNat_ofNat']; omega
      have hcv := run_convert_bytes_back (P := Try.prog) (wr.alloc (.cells #[.int .u8 (48 + (j : Int) % 10)] 5)) 52 9 5 ⟨wr.heap.size, 0, none⟩ 1 [UInt8.ofNat (48 + j % 10)] Try.underlying52 Try.underlying5 Try.underlying9 (fun i hi => by
        obtain rfl : i = 0 := by simp at hi; omega
        simp [Addr.add]; omega)
      simp only [List.length_cons, List.length_nil] at hcv
      generalize hdd : (⟨[UInt8.ofNat (48 + j % 10)].toArray⟩ : ByteArray) = dd at *
      have hds : dd.size = 1 := by rw [← hdd]; rfl
      have hd2 : digA (j / 10) (dd ++ q) = digA kn ⟨#[]⟩ := by
        rw [← HD.out, ← hdd]; conv => rhs; unfold digA
        rw [dif_neg (by omega)]
      have HD2 := Lib.hid hd2; clear hd2 hdd hdg
      have hsz : (dd ++ q).size = 1 + q.size := by rw [ByteArray.size_append, hds]
      have hjq : dd.size + q.size ≤ 9223372036854775807 := by omega
      go_wp2_with fail
      go_roundw
      case rel => exact ⟨_, j / 10, rfl, by go_num, HD2.out, by rw [hsz]; omega, HB.out.alloc HB.out.size _⟩
      case measure => simp [intOf]; omega
    · obtain rfl : j = 0 := by omega
      have hq : q = digA kn ⟨#[]⟩ := by rw [← HD.out]; unfold digA; simp
      subst hq
      go_wp2_with fail
      go_ret
      exact ⟨by rw [HM.out]; rfl, HB.out⟩

/-- the numbers from k on, as texts -/
def markT (k : Int) : Nat → List ByteArray
  | 0 => []
  | n + 1 => markT k n ++ [mText (k + (n : Int))]
theorem markT_len (k : Int) : ∀ (n : Nat), (markT k n).length = n
  | 0 => rfl
  | n + 1 => by rw [markT, List.length_append, markT_len]; rfl
theorem markT_at (k : Int) : ∀ (n i : Nat) (h : i < (markT k n).length), (markT k n)[i] = mText (k + (i : Int))
  | 0, i, h => by simp [markT] at h
  | n + 1, i, h => by
    have hl := markT_len k n
    rw [markT_len] at h
    rcases Nat.lt_or_ge i n with h1 | h1
    · simp only [markT]
      rw [List.getElem_append_left (by omega)]
      exact markT_at k n i (by omega)
    · obtain rfl : i = n := by omega
      simp only [markT]
      rw [List.getElem_append_right (by omega)]
      simp [hl]

/-- while the row is marked: i texts are numbers, the others what they were -/
def MarkTRel (w : World) (B g n c : Nat) (l : List ByteArray) (k : Int) (i : Nat) (wr : World) : Prop :=
  i ≤ n ∧ wr.ownsRow B 9 1 (.slice (some ⟨g, 0, none⟩) n c) n (strC (markT k i ++ l.drop i)) ∧ w.grownBy wr (some g)
theorem MarkTRel.keep {w wr W : World} {B g n c : Nat} {l : List ByteArray} {k : Int} {i : Nat} (h : MarkTRel w B g n c l k i wr) (hb : Below wr.heap.size wr W) : MarkTRel w B g n c l k i W :=
  ⟨h.1, h.2.1.kept (grown_of_below (row := none) hb) (by simp [Value.ownBlock]), h.2.2.trans' (grown_of_below hb)⟩
theorem MarkTRel.cell {w wr : World} {B g n c : Nat} {l : List ByteArray} {k : Int} {i : Nat} (h : MarkTRel w B g n c l k i wr) (hi : i < n) :
    (∃ u, wr.cell? ⟨g, i, none⟩ = some u) ∧ wr.frozen? ⟨g, i, none⟩ = false := by
  obtain ⟨_, ho, _⟩ := h
  have c0 := ho.cellAt i (by omega)
  rw [List.getElem?_eq_getElem (by rw [ho.1]; omega)] at c0
  exact ⟨⟨_, c0⟩, ho.frozenAt _⟩
theorem MarkTRel.step {w wr : World} {B g n c : Nat} {l : List ByteArray} {k : Int} {i : Nat} (h : MarkTRel w B g n c l k i wr) (hl : n = l.length) (hi : i < n) :
    MarkTRel w B g n c l k (i + 1) (wr.setCell ⟨g, i, none⟩ (.string (mText (k + (i : Int))))) := by
  obtain ⟨_, ho, hg⟩ := h
  have hlen : (strC (markT k i)).length = i := by rw [strC_len, markT_len]
  rw [strC_app, List.drop_eq_getElem_cons (by omega)] at ho
  have o2 := ho.stored i (.string (mText (k + (i : Int))))
  rw [show strC (l[i]'(by omega) :: l.drop (i + 1)) = .string (l[i]'(by omega)) :: strC (l.drop (i + 1)) from rfl, set_app _ _ _ _ _ hlen.symm] at o2
  refine ⟨by omega, ?_, hg.trans' o2.2⟩
  have e : strC (markT k (i + 1) ++ l.drop (i + 1)) = strC (markT k i) ++ [.string (mText (k + (i : Int)))] ++ strC (l.drop (i + 1)) := by
    rw [strC_app, markT, strC_app]; rfl
  rw [e]
  exact o2.1

set_option maxRecDepth 100000 in
set_option maxHeartbeats 1000000 in
theorem markStringS_some (B g n c : Nat) (l : List ByteArray) (w : World) (ho : w.ownsRow B 9 1 (.slice (some ⟨g, 0, none⟩) n c) n (strC l)) (hl : n = l.length) (hn : n ≤ 1048576) :
    Calls Try.prog 25 #[.slice (some ⟨g, 0, none⟩) n c, .int .i64 1] w fun e w' => e = .returned (.int .i64 (1 + (n : Int))) ∧ w'.ownsRow B 9 1 (.slice (some ⟨g, 0, none⟩) n c) n (strC (markT 1 n)) ∧ w.grownBy w' (some g) := by
  have HO := Lib.hid ho; clear ho
  have HL := Lib.hid hl; clear hl
  go_enter Try.func25, Try.ntmps25
  go_wp2_with fail
  go_loopw [1, 5] (fun q i wr => ∃ j : Nat, i = .int .i64 j ∧ q = .int .i64 (1 + (j : Int)) ∧ MarkTRel w B g n c l 1 j wr) (fun _ i _ => n - (intOf i).toNat)
  case atStart => exact ⟨0, rfl, by simp, by omega, by simpa [markT] using HO.out, World.grownBy.refl _ _⟩
  case round =>
    obtain ⟨j, rfl, rfl, hm⟩ := hrel
    have HM := Lib.hid hm; clear hm
    have hj := HM.out.1
    by_cases hlt : j < n
    · have HT := Lib.hid (fun W => markText_any (1 + (j : Int)) W (by omega) (by omega))
      obtain ⟨⟨u0, c0⟩, f0⟩ := HM.out.cell hlt
      have HC := Lib.hid (fun W (hb : Below wr.heap.size wr W) => (HM.out.keep hb).cell hlt)
      have HS := Lib.hid (fun W (hb : Below wr.heap.size wr W) => (HM.out.keep hb).step HL.out hlt)
      go_wp2_with (go_at_call 54
                   refine (HT.out _).mono ?_
                   rintro e w4 ⟨rfl, hb4⟩
                   obtain ⟨⟨u, cu⟩, fu⟩ := HC.out _ hb4
                   have HS4 := Lib.hid (HS.out _ hb4)
                   clear hb4)
      go_roundw
      case rel => exact ⟨j + 1, by go_num, by go_num, HS4.out⟩
      case measure => simp [intOf]; omega
    · obtain rfl : j = n := by omega
      have HF := Lib.hid HM.out.2
      rw [HL.out, List.drop_length, List.append_nil, ← HL.out] at HF
      go_wp2_with fail
      go_ret
      exact ⟨rfl, HF.out⟩

set_option maxRecDepth 100000 in
set_option maxHeartbeats 1000000 in
theorem heldStringS_any (A : Option Addr) (n c : Nat) (w : World) (hr : RowAt w w.heap.size A (strC (markT 1 n))) (hn : n ≤ 1048576) :
    Calls Try.prog 26 #[.slice A n c, .int .i64 1] w fun e w' => e = .returned (.int .i64 (1 + (n : Int))) ∧ Below w.heap.size w w' := by
  have HR := Lib.hid hr; clear hr
  go_enter Try.func26, Try.ntmps26
  go_wp2_with fail
  go_loopw [1, 5] (fun q i wr => ∃ j : Nat, j ≤ n ∧ i = .int .i64 j ∧ q = .int .i64 (1 + (j : Int)) ∧ Below w.heap.size w wr) (fun _ i _ => n - (intOf i).toNat)
  case atStart => exact ⟨0, by omega, rfl, by simp, Below.refl _ _⟩
  case round =>
    obtain ⟨j, hj, rfl, rfl, hb⟩ := hrel
    have HB := Lib.hid hb; clear hb
    by_cases hlt : j < n
    · have hjl : j < (markT 1 n).length := by rw [markT_len]; exact hlt
      have HT := Lib.hid (fun W => markText_any (1 + (j : Int)) W (by omega) (by omega))
      have HR2 := Lib.hid (fun W (hb : Below w.heap.size w W) => texts_at (HR.out.below hb) hjl)
      obtain ⟨b, off, rfl, hbw, e0⟩ := HR2.out _ HB.out
      rw [markT_at 1 n j hjl] at e0 HR2
      generalize mText (1 + (j : Int)) = x1 at *
      have q1 : (x1.toList == x1.toList) = true := by simp
      have hbr : b < wr.heap.size := Nat.lt_of_lt_of_le hbw HB.out.size
      go_wp2_with fail
      go_region_with (go_at_call 54
                      refine (HT.out _).mono ?_
                      rintro e w4 ⟨rfl, hb4⟩
                      have e4 : w4.cell? ⟨b, off + j, none⟩ = some (.string x1) := (hb4.cell (p := ⟨b, off + j, none⟩) hbr).trans e0
                      have HB4 := Lib.hid (HB.out.trans (Below.trans (Below.drew (Below.refl _ _)) (hb4.mono HB.out.size)))
                      clear hb4)
      all_goals go_wp2_with fail
      all_goals go_roundw
      all_goals first | exact ⟨j + 1, by omega, by go_num, by go_num, HB4.out⟩ | (simp [intOf]; omega)
    · obtain rfl : j = n := by omega
      go_wp2_with fail
      go_ret
      exact ⟨rfl, HB.out⟩

theorem markStringS_nil (A : Option Addr) (c : Nat) (w : World) :
    Calls Try.prog 25 #[.slice A 0 c, .int .i64 1] w fun e w' => e = .returned (.int .i64 1) ∧ w' = w := by
  go_enter Try.func25, Try.ntmps25
  go_wp2_with fail
  go_loop [1, 5] (fun q i => q = .int .i64 1 ∧ i = .int .i64 0) (fun _ _ => 0)
  case atStart => exact ⟨rfl, rfl⟩
  case round =>
    obtain ⟨rfl, rfl⟩ := hrel
    go_wp2_with fail
    go_ret
    exact ⟨rfl, rfl⟩

theorem markStringS_any (B : Nat) (A : Option Addr) (n c : Nat) (l : List ByteArray) (w : World) (ho : w.ownsRow B 9 1 (.slice A n c) n (strC l)) (hl : n = l.length) (hn : n ≤ 1048576) :
    Calls Try.prog 25 #[.slice A n c, .int .i64 1] w fun e w' => e = .returned (.int .i64 (1 + (n : Int))) ∧ w'.ownsRow B 9 1 (.slice A n c) n (strC (markT 1 n)) ∧ Below B w w' ∧ w.grownBy w' (rowOf A) := by
  rcases ho.2 with ⟨hv, rfl⟩ | ⟨g, cap, cur, hv, hg, hh, _⟩
  · injection hv with hA _ hc
    subst hA hc
    refine (markStringS_nil _ _ w).mono ?_
    rintro e w' ⟨rfl, rfl⟩
    have hl0 : l = [] := List.eq_nil_of_length_eq_zero hl.symm
    subst hl0
    exact ⟨by simp, ho, Below.refl _ _, World.grownBy.refl _ _⟩
  · injection hv with hA hn2 hc
    subst hA hc
    have hBw : B ≤ w.heap.size := by
      have := (Array.getElem?_eq_some_iff.1 hh).1
      omega
    refine (markStringS_some B g n c l w ho hl hn).mono ?_
    rintro e w' ⟨rfl, ho2, hg2⟩
    exact ⟨rfl, ho2, (Below.refl _ _).grown hg2 hBw (fun q hq => by cases hq; exact hg), hg2⟩
end Go.Proofs.Ytianieiohmnahab
