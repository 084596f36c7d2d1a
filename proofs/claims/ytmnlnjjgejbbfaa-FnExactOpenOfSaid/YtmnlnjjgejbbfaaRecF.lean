/- Contract of OpenOf of the program (chapter 6). Conditions: the records lie in a row; they are few. -/
import Derived.Test.YtmnlnjjgejbbfaaRecE
import Derived.Deep.MidRow
set_option linter.unusedVariables false
set_option linter.unusedSimpArgs false
namespace Go.Proofs.Ytmnlnjjgejbbfaa
open Go.RowKit Go.ChangeShapes Go.WideShapes

theorem hist_range {B hb wb : Nat} {lv : Value} {sv : Nat → Value} {h : HP} {W : World} (m : HAt B hb wb lv sv h W) : W.rangeAt hb 5 [sv 0, .bool (h.t 0).bg, .bool (h.t 0).bk, .int .i64 (h.t 0).fin, sv 1, .bool (h.t 1).bg, .bool (h.t 1).bk, .int .i64 (h.t 1).fin, sv 2, .bool (h.t 2).bg, .bool (h.t 2).bk, .int .i64 (h.t 2).fin, sv 3, .bool (h.t 3).bg, .bool (h.t 3).bk, .int .i64 (h.t 3).fin, sv 4, .bool (h.t 4).bg, .bool (h.t 4).bk, .int .i64 (h.t 4).fin] := by
  have key : ∀ j, j < 20 → ([sv 0, .bool (h.t 0).bg, .bool (h.t 0).bk, .int .i64 (h.t 0).fin, sv 1, .bool (h.t 1).bg, .bool (h.t 1).bk, .int .i64 (h.t 1).fin, sv 2, .bool (h.t 2).bg, .bool (h.t 2).bk, .int .i64 (h.t 2).fin, sv 3, .bool (h.t 3).bg, .bool (h.t 3).bk, .int .i64 (h.t 3).fin, sv 4, .bool (h.t 4).bg, .bool (h.t 4).bk, .int .i64 (h.t 4).fin] : List Value)[j]? = some (hisF lv (.slice (some ⟨wb, 0, none⟩) 3 3) sv h (5 + j)) := fun j hj => by
    match j, hj with
    | 0, _ => rfl
    | 1, _ => rfl
    | 2, _ => rfl
    | 3, _ => rfl
    | 4, _ => rfl
    | 5, _ => rfl
    | 6, _ => rfl
    | 7, _ => rfl
    | 8, _ => rfl
    | 9, _ => rfl
    | 10, _ => rfl
    | 11, _ => rfl
    | 12, _ => rfl
    | 13, _ => rfl
    | 14, _ => rfl
    | 15, _ => rfl
    | 16, _ => rfl
    | 17, _ => rfl
    | 18, _ => rfl
    | 19, _ => rfl
    | q + 20, hj => exact absurd hj (by omega)
  intro j v hj
  have hlt : j < 20 := by
    rcases Nat.lt_or_ge j 20 with h1 | h1
    · exact h1
    · rw [List.getElem?_eq_none (by simpa using h1)] at hj; cases hj
  rw [key j hlt] at hj
  injection hj with hj
  rw [← hj]
  exact (m.r.cell (i := 5 + j) (by omega)).1

set_option maxRecDepth 100000 in
set_option maxHeartbeats 16000000 in
theorem iOpen_any (A : Option Addr) (n c : Nat) (l : List Rc) (w : World) (hr : RowAt w w.heap.size A (rcsC l)) (hn : n = l.length) (hs : n ≤ 1048576) (hw : WfRc l) :
    Calls Try.prog 27 #[.slice A n c] w (IntsPost (openR l) w) := by
  have HC := Lib.hid (iValid_any A n c l w hr hn hs)
  have HH := Lib.hid (fun W (hb : Below w.heap.size w W) => hist_any A n c l W ((hr.below hb).mono hb.size) hn hs)
  have HN := Lib.hid hn; clear hn hr
  obtain ⟨i0, hi0, hz0, hz1, hz2⟩ := info_parts intInfo
  have HI := Lib.hid (And.intro hi0 (And.intro hz0 (And.intro hz1 hz2))); clear hi0 hz0 hz1 hz2
  cases hv : validP l with
  | false =>
    rw [hv] at HC
    have HF := Lib.hid (openR_not hv)
    go_enter Try.func27, Try.ntmps27
    go_wp2_with fail
    refine (HC.out).mono ?_
    rintro e w2 ⟨rfl, hb⟩
    have HB := Lib.hid hb; clear hb
    go_wp2_with fail
    go_ret
    exact ⟨_, rfl, by rw [HF.out]; exact own_nilI _ _, HB.out⟩
  | true =>
  rw [hv] at HC
  have HV := Lib.hid hv
  clear hv
  go_enter Try.func27, Try.ntmps27
  go_wp2_with fail
  refine (HC.out).mono ?_
  rintro e w9 ⟨rfl, hb⟩
  have HB := Lib.hid hb; clear hb
  go_wp2_with fail
  refine (HH.out _ HB.out).mono ?_
  rintro e w2 ⟨hp, hb3'⟩
  have HB2 := Lib.hid (HB.out.trans (hb3'.mono HB.out.size)); clear hb3'
  rcases hp with ⟨h1, rfl⟩ | ⟨h, hb9, wb9, sv, h1, rfl, hm⟩
  · exfalso
    obtain ⟨h, hh⟩ := valid_hist HV.out
    rw [HN.out, hh] at h1
    cases h1
  have hh := h1
  rw [HN.out] at hh
  have HF := Lib.hid (openR_valid HV.out hh)
  have HRG := Lib.hid (hist_range hm)
  have HSV0 := Lib.hid (show ∃ a n c, sv 0 = .slice a n c by rcases (hm.s 0 (by omega)).2 with ⟨h1, _⟩ | ⟨g, cap, cur, hv, _⟩; exact ⟨none, 0, 0, h1⟩; exact ⟨_, _, _, hv⟩)
  have HSV1 := Lib.hid (show ∃ a n c, sv 1 = .slice a n c by rcases (hm.s 1 (by omega)).2 with ⟨h1, _⟩ | ⟨g, cap, cur, hv, _⟩; exact ⟨none, 0, 0, h1⟩; exact ⟨_, _, _, hv⟩)
  have HSV2 := Lib.hid (show ∃ a n c, sv 2 = .slice a n c by rcases (hm.s 2 (by omega)).2 with ⟨h1, _⟩ | ⟨g, cap, cur, hv, _⟩; exact ⟨none, 0, 0, h1⟩; exact ⟨_, _, _, hv⟩)
  have HSV3 := Lib.hid (show ∃ a n c, sv 3 = .slice a n c by rcases (hm.s 3 (by omega)).2 with ⟨h1, _⟩ | ⟨g, cap, cur, hv, _⟩; exact ⟨none, 0, 0, h1⟩; exact ⟨_, _, _, hv⟩)
  have HSV4 := Lib.hid (show ∃ a n c, sv 4 = .slice a n c by rcases (hm.s 4 (by omega)).2 with ⟨h1, _⟩ | ⟨g, cap, cur, hv, _⟩; exact ⟨none, 0, 0, h1⟩; exact ⟨_, _, _, hv⟩)
  have HT0 := Lib.hid (show (h.t 0).opn = ((h.t 0).bg && (h.t 0).fin == 0) from rfl)
  have HT1 := Lib.hid (show (h.t 1).opn = ((h.t 1).bg && (h.t 1).fin == 0) from rfl)
  have HT2 := Lib.hid (show (h.t 2).opn = ((h.t 2).bg && (h.t 2).fin == 0) from rfl)
  have HT3 := Lib.hid (show (h.t 3).opn = ((h.t 3).bg && (h.t 3).fin == 0) from rfl)
  have HT4 := Lib.hid (show (h.t 4).opn = ((h.t 4).bg && (h.t 4).fin == 0) from rfl)
  clear hm hh h1
  obtain ⟨p0, n0, r0, q9⟩ := HSV0.out
  rw [q9] at HRG
  clear q9 HSV0
  obtain ⟨g0, q9⟩ : ∃ y, (h.t 0).bg = y := ⟨_, rfl⟩
  rw [q9] at HRG HT0
  clear q9
  obtain ⟨k0, q9⟩ : ∃ y, (h.t 0).bk = y := ⟨_, rfl⟩
  rw [q9] at HRG
  clear q9
  obtain ⟨f0, q9⟩ : ∃ y, (h.t 0).fin = y := ⟨_, rfl⟩
  rw [q9] at HRG HT0
  clear q9
  obtain ⟨p1, n1, r1, q9⟩ := HSV1.out
  rw [q9] at HRG
  clear q9 HSV1
  obtain ⟨g1, q9⟩ : ∃ y, (h.t 1).bg = y := ⟨_, rfl⟩
  rw [q9] at HRG HT1
  clear q9
  obtain ⟨k1, q9⟩ : ∃ y, (h.t 1).bk = y := ⟨_, rfl⟩
  rw [q9] at HRG
  clear q9
  obtain ⟨f1, q9⟩ : ∃ y, (h.t 1).fin = y := ⟨_, rfl⟩
  rw [q9] at HRG HT1
  clear q9
  obtain ⟨p2, n2, r2, q9⟩ := HSV2.out
  rw [q9] at HRG
  clear q9 HSV2
  obtain ⟨g2, q9⟩ : ∃ y, (h.t 2).bg = y := ⟨_, rfl⟩
  rw [q9] at HRG HT2
  clear q9
  obtain ⟨k2, q9⟩ : ∃ y, (h.t 2).bk = y := ⟨_, rfl⟩
  rw [q9] at HRG
  clear q9
  obtain ⟨f2, q9⟩ : ∃ y, (h.t 2).fin = y := ⟨_, rfl⟩
  rw [q9] at HRG HT2
  clear q9
  obtain ⟨p3, n3, r3, q9⟩ := HSV3.out
  rw [q9] at HRG
  clear q9 HSV3
  obtain ⟨g3, q9⟩ : ∃ y, (h.t 3).bg = y := ⟨_, rfl⟩
  rw [q9] at HRG HT3
  clear q9
  obtain ⟨k3, q9⟩ : ∃ y, (h.t 3).bk = y := ⟨_, rfl⟩
  rw [q9] at HRG
  clear q9
  obtain ⟨f3, q9⟩ : ∃ y, (h.t 3).fin = y := ⟨_, rfl⟩
  rw [q9] at HRG HT3
  clear q9
  obtain ⟨p4, n4, r4, q9⟩ := HSV4.out
  rw [q9] at HRG
  clear q9 HSV4
  obtain ⟨g4, q9⟩ : ∃ y, (h.t 4).bg = y := ⟨_, rfl⟩
  rw [q9] at HRG HT4
  clear q9
  obtain ⟨k4, q9⟩ : ∃ y, (h.t 4).bk = y := ⟨_, rfl⟩
  rw [q9] at HRG
  clear q9
  obtain ⟨f4, q9⟩ : ∃ y, (h.t 4).fin = y := ⟨_, rfl⟩
  rw [q9] at HRG HT4
  clear q9
  have hix0 : ∀ W : World, (Instr.index 53 (.agg #[.slice p0 n0 r0, .bool g0, .bool k0, .int .i64 f0, .slice p1 n1 r1, .bool g1, .bool k1, .int .i64 f1, .slice p2 n2 r2, .bool g2, .bool k2, .int .i64 f2, .slice p3 n3 r3, .bool g3, .bool k3, .int .i64 f3, .slice p4 n4 r4, .bool g4, .bool k4, .int .i64 f4]) (.int .i64 0)).run Try.prog W = .ok (.agg #[.slice p0 n0 r0, .bool g0, .bool k0, .int .i64 f0]) W := fun W => by kernel_rfl
  have hix1 : ∀ W : World, (Instr.index 53 (.agg #[.slice p0 n0 r0, .bool g0, .bool k0, .int .i64 f0, .slice p1 n1 r1, .bool g1, .bool k1, .int .i64 f1, .slice p2 n2 r2, .bool g2, .bool k2, .int .i64 f2, .slice p3 n3 r3, .bool g3, .bool k3, .int .i64 f3, .slice p4 n4 r4, .bool g4, .bool k4, .int .i64 f4]) (.int .i64 1)).run Try.prog W = .ok (.agg #[.slice p1 n1 r1, .bool g1, .bool k1, .int .i64 f1]) W := fun W => by kernel_rfl
  have hix2 : ∀ W : World, (Instr.index 53 (.agg #[.slice p0 n0 r0, .bool g0, .bool k0, .int .i64 f0, .slice p1 n1 r1, .bool g1, .bool k1, .int .i64 f1, .slice p2 n2 r2, .bool g2, .bool k2, .int .i64 f2, .slice p3 n3 r3, .bool g3, .bool k3, .int .i64 f3, .slice p4 n4 r4, .bool g4, .bool k4, .int .i64 f4]) (.int .i64 2)).run Try.prog W = .ok (.agg #[.slice p2 n2 r2, .bool g2, .bool k2, .int .i64 f2]) W := fun W => by kernel_rfl
  have hix3 : ∀ W : World, (Instr.index 53 (.agg #[.slice p0 n0 r0, .bool g0, .bool k0, .int .i64 f0, .slice p1 n1 r1, .bool g1, .bool k1, .int .i64 f1, .slice p2 n2 r2, .bool g2, .bool k2, .int .i64 f2, .slice p3 n3 r3, .bool g3, .bool k3, .int .i64 f3, .slice p4 n4 r4, .bool g4, .bool k4, .int .i64 f4]) (.int .i64 3)).run Try.prog W = .ok (.agg #[.slice p3 n3 r3, .bool g3, .bool k3, .int .i64 f3]) W := fun W => by kernel_rfl
  have hix4 : ∀ W : World, (Instr.index 53 (.agg #[.slice p0 n0 r0, .bool g0, .bool k0, .int .i64 f0, .slice p1 n1 r1, .bool g1, .bool k1, .int .i64 f1, .slice p2 n2 r2, .bool g2, .bool k2, .int .i64 f2, .slice p3 n3 r3, .bool g3, .bool k3, .int .i64 f3, .slice p4 n4 r4, .bool g4, .bool k4, .int .i64 f4]) (.int .i64 4)).run Try.prog W = .ok (.agg #[.slice p4 n4 r4, .bool g4, .bool k4, .int .i64 f4]) W := fun W => by kernel_rfl
  go_wp2_with (refine wpList_load_mid (by rfl) 53 _ (by rfl) hb9 5 (by rfl) [.slice p0 n0 r0, .bool g0, .bool k0, .int .i64 f0, .slice p1 n1 r1, .bool g1, .bool k1, .int .i64 f1, .slice p2 n2 r2, .bool g2, .bool k2, .int .i64 f2, .slice p3 n3 r3, .bool g3, .bool k3, .int .i64 f3, .slice p4 n4 r4, .bool g4, .bool k4, .int .i64 f4] _ HRG.out Try.underlying53 rfl (by kernel_rfl) ?_)
  go_loopw [3, 14] (fun q i wr => ∃ (T : Option Addr) (ct t : Nat), q = .slice T (openL h t).length ct ∧ i = .int .i64 (t : Int) ∧ t ≤ 5 ∧ wr.ownsRow w.heap.size 3 1 (.slice T (openL h t).length ct) (openL h t).length (intC (openL h t)) ∧ Below w.heap.size w wr) (fun _ i _ => 5 - (intOf i).toNat)
  case atStart => exact ⟨none, 0, 0, rfl, rfl, by omega, World.ownsRow_nil _ _ _ _, HB2.out⟩
  case round =>
    obtain ⟨T, ct, t, rfl, rfl, ht5, ho, hb⟩ := hrel
    have HOW := Lib.hid ho; clear ho
    have HB3 := Lib.hid hb; clear hb
    have hle := openL_len h t
    have HS := Lib.hid (show openL h (t + 1) = if (h.t t).opn = true then openL h t ++ [(t : Int)] else openL h t from rfl)
    obtain ⟨L, hL⟩ : ∃ x, openL h t = x := ⟨_, rfl⟩
    rw [hL] at HOW HS hle
    rw [hL]
    obtain ⟨m, hm⟩ : ∃ x, L.length = x := ⟨_, rfl⟩
    have HM := Lib.hid hm
    rw [hm] at HOW hle
    rw [hm]
    have HL := Lib.hid hL
    clear hL hm
    by_cases hlt : t < 5
    · have h5 : t = 0 ∨ t = 1 ∨ t = 2 ∨ t = 3 ∨ t = 4 := by omega
      rcases h5 with rfl | rfl | rfl | rfl | rfl
      · have HOP := Lib.hid (fun W => isOpen_any (.slice p0 n0 r0) g0 k0 f0 W rfl)
        have HTT := HT0
        obtain ⟨ov, hov⟩ : ∃ y, (g0 && f0 == 0) = y := ⟨_, rfl⟩
        rw [hov] at HOP HTT
        clear hov
        have HBX := Lib.hid ((Below.refl wr.heap.size wr).alloc (Nat.le_refl _) (.cells #[.slice p0 n0 r0, .bool g0, .bool k0, .int .i64 f0] 52))
        cases ov
        · have HNX := Lib.hid (show openL h (0 + 1) = L by rw [HS.out, HTT.out]; rfl)
          go_wp2_with fail
          refine (HOP.out _).mono ?_
          rintro e w5 ⟨rfl, hb5⟩
          have HB5 := Lib.hid (HBX.out.trans (hb5.mono HBX.out.size)); clear hb5
          go_wp2_with fail
          go_roundw
          case rel => exact ⟨T, ct, 0 + 1, by rw [HNX.out, HM.out], by go_num, by omega, by rw [HNX.out, HM.out]; exact HOW.out.kept (grown_of_below (row := none) HB5.out) (by cases T <;> simp [Value.ownBlock]), HB3.out.trans (HB5.out.mono HB3.out.size)⟩
          case measure => simp [intOf]
        · have HNX := Lib.hid (show openL h (0 + 1) = L ++ [((0 : Nat) : Int)] by rw [HS.out, HTT.out]; rfl)
          go_wp2_with fail
          refine (HOP.out _).mono ?_
          rintro e w5 ⟨rfl, hb5⟩
          have HB5 := Lib.hid (HBX.out.trans (hb5.mono HBX.out.size)); clear hb5
          have HOW5 := Lib.hid (HOW.out.kept (grown_of_below (row := none) HB5.out) (by cases T <;> simp [Value.ownBlock]))
          have HB6 := Lib.hid (HB3.out.trans (HB5.out.mono HB3.out.size))
          have HBA := Lib.hid ((Below.refl w5.heap.size w5).alloc (Nat.le_refl _) (.cells #[.int .i64 0] 3))
          go_wp2_with (at_builtin; refine wpList_append_own _ rfl _ _ 29 rfl w.heap.size 3 i0 (.int .i64 0) 1 8 Try.underlying29 HI.out.1 HI.out.2.1 HI.out.2.2.1 HI.out.2.2.2 rfl (by decide) (.slice T m ct) m (intC L) rfl ?c0 ⟨w5.heap.size, 0, none⟩ 1 1 [.int .i64 0] rfl rfl ?c1 ?c2 ?c3 ?c4 ?c5 ?_)
          case c0 => exact HOW5.out.alloc _
          case c1 =>
            intro j u hj
            have := cell_one_new w5 (.int .i64 0) 3 j u hj
            simpa using this
          case c2 => first | rfl | (intro u hu; simp at hu; subst hu; rfl)
          case c3 => unfold maxLen; omega
          case c4 => omega
          case c5 => have := HB6.out.size; simp; omega
          intro v' w7 hown hgrow _
          have HNW := Lib.hid hown; clear hown
          have HBN := Lib.hid (show Below w.heap.size w w7 from (HB6.out.trans (HBA.out.mono HB6.out.size)).grown hgrow (by have := HB6.out.size; simp; omega) (fun q9 e => (HOW5.out.lt q9 e).1))
          clear hgrow
          obtain ⟨T9, c9, hv9⟩ : ∃ T9 c9, v' = .slice T9 (m + 1) c9 := by
            rcases HNW.out.2 with ⟨_, h0⟩ | ⟨g9, cap9, _, hv, _⟩
            · omega
            · exact ⟨_, _, hv⟩
          subst hv9
          go_wp2_with fail
          go_roundw
          case rel => exact ⟨T9, c9, 0 + 1, by rw [HNX.out, List.length_append, HM.out]; rfl, by go_num, by omega, by
            rw [HNX.out, List.length_append, HM.out]
            show w7.ownsRow _ _ _ (.slice T9 (m + 1) c9) (m + 1) (intC (L ++ [((0 : Nat) : Int)]))
            rw [intC_app]
            exact HNW.out, HBN.out⟩
          case measure => simp [intOf]
      · have HOP := Lib.hid (fun W => isOpen_any (.slice p1 n1 r1) g1 k1 f1 W rfl)
        have HTT := HT1
        obtain ⟨ov, hov⟩ : ∃ y, (g1 && f1 == 0) = y := ⟨_, rfl⟩
        rw [hov] at HOP HTT
        clear hov
        have HBX := Lib.hid ((Below.refl wr.heap.size wr).alloc (Nat.le_refl _) (.cells #[.slice p1 n1 r1, .bool g1, .bool k1, .int .i64 f1] 52))
        cases ov
        · have HNX := Lib.hid (show openL h (1 + 1) = L by rw [HS.out, HTT.out]; rfl)
          go_wp2_with fail
          refine (HOP.out _).mono ?_
          rintro e w5 ⟨rfl, hb5⟩
          have HB5 := Lib.hid (HBX.out.trans (hb5.mono HBX.out.size)); clear hb5
          go_wp2_with fail
          go_roundw
          case rel => exact ⟨T, ct, 1 + 1, by rw [HNX.out, HM.out], by go_num, by omega, by rw [HNX.out, HM.out]; exact HOW.out.kept (grown_of_below (row := none) HB5.out) (by cases T <;> simp [Value.ownBlock]), HB3.out.trans (HB5.out.mono HB3.out.size)⟩
          case measure => simp [intOf]
        · have HNX := Lib.hid (show openL h (1 + 1) = L ++ [((1 : Nat) : Int)] by rw [HS.out, HTT.out]; rfl)
          go_wp2_with fail
          refine (HOP.out _).mono ?_
          rintro e w5 ⟨rfl, hb5⟩
          have HB5 := Lib.hid (HBX.out.trans (hb5.mono HBX.out.size)); clear hb5
          have HOW5 := Lib.hid (HOW.out.kept (grown_of_below (row := none) HB5.out) (by cases T <;> simp [Value.ownBlock]))
          have HB6 := Lib.hid (HB3.out.trans (HB5.out.mono HB3.out.size))
          have HBA := Lib.hid ((Below.refl w5.heap.size w5).alloc (Nat.le_refl _) (.cells #[.int .i64 1] 3))
          go_wp2_with (at_builtin; refine wpList_append_own _ rfl _ _ 29 rfl w.heap.size 3 i0 (.int .i64 0) 1 8 Try.underlying29 HI.out.1 HI.out.2.1 HI.out.2.2.1 HI.out.2.2.2 rfl (by decide) (.slice T m ct) m (intC L) rfl ?c0 ⟨w5.heap.size, 0, none⟩ 1 1 [.int .i64 1] rfl rfl ?c1 ?c2 ?c3 ?c4 ?c5 ?_)
          case c0 => exact HOW5.out.alloc _
          case c1 =>
            intro j u hj
            have := cell_one_new w5 (.int .i64 1) 3 j u hj
            simpa using this
          case c2 => first | rfl | (intro u hu; simp at hu; subst hu; rfl)
          case c3 => unfold maxLen; omega
          case c4 => omega
          case c5 => have := HB6.out.size; simp; omega
          intro v' w7 hown hgrow _
          have HNW := Lib.hid hown; clear hown
          have HBN := Lib.hid (show Below w.heap.size w w7 from (HB6.out.trans (HBA.out.mono HB6.out.size)).grown hgrow (by have := HB6.out.size; simp; omega) (fun q9 e => (HOW5.out.lt q9 e).1))
          clear hgrow
          obtain ⟨T9, c9, hv9⟩ : ∃ T9 c9, v' = .slice T9 (m + 1) c9 := by
            rcases HNW.out.2 with ⟨_, h0⟩ | ⟨g9, cap9, _, hv, _⟩
            · omega
            · exact ⟨_, _, hv⟩
          subst hv9
          go_wp2_with fail
          go_roundw
          case rel => exact ⟨T9, c9, 1 + 1, by rw [HNX.out, List.length_append, HM.out]; rfl, by go_num, by omega, by
            rw [HNX.out, List.length_append, HM.out]
            show w7.ownsRow _ _ _ (.slice T9 (m + 1) c9) (m + 1) (intC (L ++ [((1 : Nat) : Int)]))
            rw [intC_app]
            exact HNW.out, HBN.out⟩
          case measure => simp [intOf]
      · have HOP := Lib.hid (fun W => isOpen_any (.slice p2 n2 r2) g2 k2 f2 W rfl)
        have HTT := HT2
        obtain ⟨ov, hov⟩ : ∃ y, (g2 && f2 == 0) = y := ⟨_, rfl⟩
        rw [hov] at HOP HTT
        clear hov
        have HBX := Lib.hid ((Below.refl wr.heap.size wr).alloc (Nat.le_refl _) (.cells #[.slice p2 n2 r2, .bool g2, .bool k2, .int .i64 f2] 52))
        cases ov
        · have HNX := Lib.hid (show openL h (2 + 1) = L by rw [HS.out, HTT.out]; rfl)
          go_wp2_with fail
          refine (HOP.out _).mono ?_
          rintro e w5 ⟨rfl, hb5⟩
          have HB5 := Lib.hid (HBX.out.trans (hb5.mono HBX.out.size)); clear hb5
          go_wp2_with fail
          go_roundw
          case rel => exact ⟨T, ct, 2 + 1, by rw [HNX.out, HM.out], by go_num, by omega, by rw [HNX.out, HM.out]; exact HOW.out.kept (grown_of_below (row := none) HB5.out) (by cases T <;> simp [Value.ownBlock]), HB3.out.trans (HB5.out.mono HB3.out.size)⟩
          case measure => simp [intOf]
        · have HNX := Lib.hid (show openL h (2 + 1) = L ++ [((2 : Nat) : Int)] by rw [HS.out, HTT.out]; rfl)
          go_wp2_with fail
          refine (HOP.out _).mono ?_
          rintro e w5 ⟨rfl, hb5⟩
          have HB5 := Lib.hid (HBX.out.trans (hb5.mono HBX.out.size)); clear hb5
          have HOW5 := Lib.hid (HOW.out.kept (grown_of_below (row := none) HB5.out) (by cases T <;> simp [Value.ownBlock]))
          have HB6 := Lib.hid (HB3.out.trans (HB5.out.mono HB3.out.size))
          have HBA := Lib.hid ((Below.refl w5.heap.size w5).alloc (Nat.le_refl _) (.cells #[.int .i64 2] 3))
          go_wp2_with (at_builtin; refine wpList_append_own _ rfl _ _ 29 rfl w.heap.size 3 i0 (.int .i64 0) 1 8 Try.underlying29 HI.out.1 HI.out.2.1 HI.out.2.2.1 HI.out.2.2.2 rfl (by decide) (.slice T m ct) m (intC L) rfl ?c0 ⟨w5.heap.size, 0, none⟩ 1 1 [.int .i64 2] rfl rfl ?c1 ?c2 ?c3 ?c4 ?c5 ?_)
          case c0 => exact HOW5.out.alloc _
          case c1 =>
            intro j u hj
            have := cell_one_new w5 (.int .i64 2) 3 j u hj
            simpa using this
          case c2 => first | rfl | (intro u hu; simp at hu; subst hu; rfl)
          case c3 => unfold maxLen; omega
          case c4 => omega
          case c5 => have := HB6.out.size; simp; omega
          intro v' w7 hown hgrow _
          have HNW := Lib.hid hown; clear hown
          have HBN := Lib.hid (show Below w.heap.size w w7 from (HB6.out.trans (HBA.out.mono HB6.out.size)).grown hgrow (by have := HB6.out.size; simp; omega) (fun q9 e => (HOW5.out.lt q9 e).1))
          clear hgrow
          obtain ⟨T9, c9, hv9⟩ : ∃ T9 c9, v' = .slice T9 (m + 1) c9 := by
            rcases HNW.out.2 with ⟨_, h0⟩ | ⟨g9, cap9, _, hv, _⟩
            · omega
            · exact ⟨_, _, hv⟩
          subst hv9
          go_wp2_with fail
          go_roundw
          case rel => exact ⟨T9, c9, 2 + 1, by rw [HNX.out, List.length_append, HM.out]; rfl, by go_num, by omega, by
            rw [HNX.out, List.length_append, HM.out]
            show w7.ownsRow _ _ _ (.slice T9 (m + 1) c9) (m + 1) (intC (L ++ [((2 : Nat) : Int)]))
            rw [intC_app]
            exact HNW.out, HBN.out⟩
          case measure => simp [intOf]
      · have HOP := Lib.hid (fun W => isOpen_any (.slice p3 n3 r3) g3 k3 f3 W rfl)
        have HTT := HT3
        obtain ⟨ov, hov⟩ : ∃ y, (g3 && f3 == 0) = y := ⟨_, rfl⟩
        rw [hov] at HOP HTT
        clear hov
        have HBX := Lib.hid ((Below.refl wr.heap.size wr).alloc (Nat.le_refl _) (.cells #[.slice p3 n3 r3, .bool g3, .bool k3, .int .i64 f3] 52))
        cases ov
        · have HNX := Lib.hid (show openL h (3 + 1) = L by rw [HS.out, HTT.out]; rfl)
          go_wp2_with fail
          refine (HOP.out _).mono ?_
          rintro e w5 ⟨rfl, hb5⟩
          have HB5 := Lib.hid (HBX.out.trans (hb5.mono HBX.out.size)); clear hb5
          go_wp2_with fail
          go_roundw
          case rel => exact ⟨T, ct, 3 + 1, by rw [HNX.out, HM.out], by go_num, by omega, by rw [HNX.out, HM.out]; exact HOW.out.kept (grown_of_below (row := none) HB5.out) (by cases T <;> simp [Value.ownBlock]), HB3.out.trans (HB5.out.mono HB3.out.size)⟩
          case measure => simp [intOf]
        · have HNX := Lib.hid (show openL h (3 + 1) = L ++ [((3 : Nat) : Int)] by rw [HS.out, HTT.out]; rfl)
          go_wp2_with fail
          refine (HOP.out _).mono ?_
          rintro e w5 ⟨rfl, hb5⟩
          have HB5 := Lib.hid (HBX.out.trans (hb5.mono HBX.out.size)); clear hb5
          have HOW5 := Lib.hid (HOW.out.kept (grown_of_below (row := none) HB5.out) (by cases T <;> simp [Value.ownBlock]))
          have HB6 := Lib.hid (HB3.out.trans (HB5.out.mono HB3.out.size))
          have HBA := Lib.hid ((Below.refl w5.heap.size w5).alloc (Nat.le_refl _) (.cells #[.int .i64 3] 3))
          go_wp2_with (at_builtin; refine wpList_append_own _ rfl _ _ 29 rfl w.heap.size 3 i0 (.int .i64 0) 1 8 Try.underlying29 HI.out.1 HI.out.2.1 HI.out.2.2.1 HI.out.2.2.2 rfl (by decide) (.slice T m ct) m (intC L) rfl ?c0 ⟨w5.heap.size, 0, none⟩ 1 1 [.int .i64 3] rfl rfl ?c1 ?c2 ?c3 ?c4 ?c5 ?_)
          case c0 => exact HOW5.out.alloc _
          case c1 =>
            intro j u hj
            have := cell_one_new w5 (.int .i64 3) 3 j u hj
            simpa using this
          case c2 => first | rfl | (intro u hu; simp at hu; subst hu; rfl)
          case c3 => unfold maxLen; omega
          case c4 => omega
          case c5 => have := HB6.out.size; simp; omega
          intro v' w7 hown hgrow _
          have HNW := Lib.hid hown; clear hown
          have HBN := Lib.hid (show Below w.heap.size w w7 from (HB6.out.trans (HBA.out.mono HB6.out.size)).grown hgrow (by have := HB6.out.size; simp; omega) (fun q9 e => (HOW5.out.lt q9 e).1))
          clear hgrow
          obtain ⟨T9, c9, hv9⟩ : ∃ T9 c9, v' = .slice T9 (m + 1) c9 := by
            rcases HNW.out.2 with ⟨_, h0⟩ | ⟨g9, cap9, _, hv, _⟩
            · omega
            · exact ⟨_, _, hv⟩
          subst hv9
          go_wp2_with fail
          go_roundw
          case rel => exact ⟨T9, c9, 3 + 1, by rw [HNX.out, List.length_append, HM.out]; rfl, by go_num, by omega, by
            rw [HNX.out, List.length_append, HM.out]
            show w7.ownsRow _ _ _ (.slice T9 (m + 1) c9) (m + 1) (intC (L ++ [((3 : Nat) : Int)]))
            rw [intC_app]
            exact HNW.out, HBN.out⟩
          case measure => simp [intOf]
      · have HOP := Lib.hid (fun W => isOpen_any (.slice p4 n4 r4) g4 k4 f4 W rfl)
        have HTT := HT4
        obtain ⟨ov, hov⟩ : ∃ y, (g4 && f4 == 0) = y := ⟨_, rfl⟩
        rw [hov] at HOP HTT
        clear hov
        have HBX := Lib.hid ((Below.refl wr.heap.size wr).alloc (Nat.le_refl _) (.cells #[.slice p4 n4 r4, .bool g4, .bool k4, .int .i64 f4] 52))
        cases ov
        · have HNX := Lib.hid (show openL h (4 + 1) = L by rw [HS.out, HTT.out]; rfl)
          go_wp2_with fail
          refine (HOP.out _).mono ?_
          rintro e w5 ⟨rfl, hb5⟩
          have HB5 := Lib.hid (HBX.out.trans (hb5.mono HBX.out.size)); clear hb5
          go_wp2_with fail
          go_roundw
          case rel => exact ⟨T, ct, 4 + 1, by rw [HNX.out, HM.out], by go_num, by omega, by rw [HNX.out, HM.out]; exact HOW.out.kept (grown_of_below (row := none) HB5.out) (by cases T <;> simp [Value.ownBlock]), HB3.out.trans (HB5.out.mono HB3.out.size)⟩
          case measure => simp [intOf]
        · have HNX := Lib.hid (show openL h (4 + 1) = L ++ [((4 : Nat) : Int)] by rw [HS.out, HTT.out]; rfl)
          go_wp2_with fail
          refine (HOP.out _).mono ?_
          rintro e w5 ⟨rfl, hb5⟩
          have HB5 := Lib.hid (HBX.out.trans (hb5.mono HBX.out.size)); clear hb5
          have HOW5 := Lib.hid (HOW.out.kept (grown_of_below (row := none) HB5.out) (by cases T <;> simp [Value.ownBlock]))
          have HB6 := Lib.hid (HB3.out.trans (HB5.out.mono HB3.out.size))
          have HBA := Lib.hid ((Below.refl w5.heap.size w5).alloc (Nat.le_refl _) (.cells #[.int .i64 4] 3))
          go_wp2_with (at_builtin; refine wpList_append_own _ rfl _ _ 29 rfl w.heap.size 3 i0 (.int .i64 0) 1 8 Try.underlying29 HI.out.1 HI.out.2.1 HI.out.2.2.1 HI.out.2.2.2 rfl (by decide) (.slice T m ct) m (intC L) rfl ?c0 ⟨w5.heap.size, 0, none⟩ 1 1 [.int .i64 4] rfl rfl ?c1 ?c2 ?c3 ?c4 ?c5 ?_)
          case c0 => exact HOW5.out.alloc _
          case c1 =>
            intro j u hj
            have := cell_one_new w5 (.int .i64 4) 3 j u hj
            simpa using this
          case c2 => first | rfl | (intro u hu; simp at hu; subst hu; rfl)
          case c3 => unfold maxLen; omega
          case c4 => omega
          case c5 => have := HB6.out.size; simp; omega
          intro v' w7 hown hgrow _
          have HNW := Lib.hid hown; clear hown
          have HBN := Lib.hid (show Below w.heap.size w w7 from (HB6.out.trans (HBA.out.mono HB6.out.size)).grown hgrow (by have := HB6.out.size; simp; omega) (fun q9 e => (HOW5.out.lt q9 e).1))
          clear hgrow
          obtain ⟨T9, c9, hv9⟩ : ∃ T9 c9, v' = .slice T9 (m + 1) c9 := by
            rcases HNW.out.2 with ⟨_, h0⟩ | ⟨g9, cap9, _, hv, _⟩
            · omega
            · exact ⟨_, _, hv⟩
          subst hv9
          go_wp2_with fail
          go_roundw
          case rel => exact ⟨T9, c9, 4 + 1, by rw [HNX.out, List.length_append, HM.out]; rfl, by go_num, by omega, by
            rw [HNX.out, List.length_append, HM.out]
            show w7.ownsRow _ _ _ (.slice T9 (m + 1) c9) (m + 1) (intC (L ++ [((4 : Nat) : Int)]))
            rw [intC_app]
            exact HNW.out, HBN.out⟩
          case measure => simp [intOf]
    · obtain rfl : t = 5 := by omega
      go_wp2_with fail
      go_ret
      refine ⟨_, rfl, ?_, HB3.out⟩
      rw [HF.out, HL.out]
      exact ⟨T, ct, by rw [HM.out]; rfl, by rw [HM.out]; exact HOW.out⟩
end Go.Proofs.Ytmnlnjjgejbbfaa
