/- The walk of the exact law of PutCell. No condition. -/
import Derived.Test.YtjnaeefgbekmdaaExPgX
import Derived.Test.YtjnaeefgbekmdaaPutS
set_option linter.unusedVariables false
set_option linter.unusedSimpArgs false
namespace Go.Proofs.Ytjnaeefgbekmdaa
open Go.RowKit Go.ChangeShapes Go.WideShapes

theorem Pg3Post.uni {r : ((ByteArray × List Sl) × Int) × Bool} {w w' : World} {e : Ending} {S : ByteArray} {L : List Sl} {av : Int} {ok : Bool} (ho : r = (((S, L), av), ok)) (hp : Pg3Post r w e w') :
    ∃ A c, e = .returned (.tuple #[.agg #[.string S, .slice A L.length c], .int .i64 av, .bool ok]) ∧ w'.ownsRow w.heap.size 73 2 (.slice A L.length c) L.length (slC L) ∧ Below w.heap.size w w' := by
  subst ho
  obtain ⟨v, rfl, ⟨A, c, rfl, h⟩, hb⟩ := hp
  exact ⟨A, c, rfl, h, hb⟩
theorem putR_len (s : ByteArray) (sl : List Sl) (c : ByteArray) : (putR s sl c).1.1.2.length ≤ 24 := by
  unfold putR putOne
  split
  · split
    · rename_i h2
      obtain ⟨a, ha⟩ := putOk h2
      have := ha.n
      have := ha.end_
      simp only [putL_len]; omega
    · split
      · rename_i h2
        obtain ⟨a, ha⟩ := putOk h2
        have := ha.n
        have := ha.end_
        simp only [putL_len]; omega
      · simp
  · simp

set_option maxRecDepth 100000 in
set_option maxHeartbeats 4000000 in
theorem walk_FnExactPutCell_in (s : ByteArray) (A : Option Addr) (n c : Nat) (l : List Sl) (cell : ByteArray) (w : World) (hs : s.size ≤ maxLen) (g : PageArg w A n c l) (hc20 : cell.size ≤ 1048576) :
    Calls Try.prog 10 #[.agg #[.string s, .slice A n c], .string cell] w fun e w' => e = .returned (.bool true) ∧ Below w.heap.size w w' := by
  obtain ⟨hn, hnc, hcm, hrow, hwf⟩ := g
  obtain ⟨S, L, av, ok, ho⟩ : ∃ S L av ok, putR s l cell = (((S, L), av), ok) := ⟨_, _, _, _, rfl⟩
  have HLL := Lib.hid (show l.length ≤ 1048576 → L.length ≤ 1048576 by
    intro hq; have h2 := putR_len s l cell; rw [ho] at h2; exact Nat.le_trans h2 (by omega))
  have HOUT := Lib.hid ho; clear ho
  have HSZ := Lib.hid (fun w => szPage_any s A n c w hs (Nat.le_trans hnc hcm))
  have HR := Lib.hid hrow; clear hrow
  have HN := Lib.hid hn; clear hn
  have HW := Lib.hid hwf; clear hwf
  clear hs hnc hcm
  have c00 : (w.alloc (.cells #[.string s, .slice A n c] 47)).cell? ⟨w.heap.size, 0, none⟩ = some (.string s) := by simp
  have c01 : (w.alloc (.cells #[.string s, .slice A n c] 47)).cell? ⟨w.heap.size, 1, none⟩ = some (.slice A n c) := by simp
  have C00 := Lib.hid c00; clear c00
  have C01 := Lib.hid c01; clear c01
  have qiav : (av == av) = true := by simp
  have qjav : (av != av) = false := by simp
  have qo : (ok == ok) = true := by simp
  have qo2 : (ok != ok) = false := by simp
  go_enter Try.func10, Try.ntmps10
  go_wp2_with fail
  refine (HSZ.out _).mono ?_
  rintro e w1 ⟨⟨v, rfl, hv1⟩, hb1⟩
  have hB1 : Below w.heap.size w w1 := ((Below.refl _ _).alloc (Nat.le_refl _) _).trans (hb1.mono (by simp))
  rcases Int.lt_or_le v 0 with hneg | hpos
  · have HB1 := Lib.hid hB1
    clear hb1 hB1 hv1
    go_wp2_with fail
    go_ret
    exact ⟨rfl, HB1.out⟩
  · have hsz : s.size ≤ 1048576 ∧ n ≤ 1048576 := by rcases hv1 with h | h <;> omega
    obtain ⟨hs20, hn20⟩ := hsz
    have hl20 : l.length ≤ 1048576 := by have := HN.out; omega
    have hL5 := HLL.out hl20
    have d0 : w1.cell? ⟨w.heap.size, 0, none⟩ = some (.string s) := (hb1.cell (p := ⟨w.heap.size, 0, none⟩) (by simp)).trans C00.out
    have d1 : w1.cell? ⟨w.heap.size, 1, none⟩ = some (.slice A n c) := (hb1.cell (p := ⟨w.heap.size, 1, none⟩) (by simp)).trans C01.out
    have hs1 : w.heap.size + 1 ≤ w1.heap.size := by have := hb1.size; simpa using this
    have HT := Lib.hid (fun W (hb : Below w.heap.size w W) => toPage_any s A n c l W ((HR.out.below hb).mono hb.size) HN.out hn20)
    have HB1 := Lib.hid hB1
    have D0 := Lib.hid d0
    have D1 := Lib.hid d1
    clear hb1 hB1 hv1
    go_wp2_with fail
    refine (HT.out _ HB1.out).mono ?_
    rintro e w2 ⟨P1, rfl, ⟨A1, k1, rfl, ho1⟩, hb2⟩
    have HV1 := Lib.hid ((sPut_any s A1 l.length k1 l cell w2 ⟨rfl, RowAt.of_own ho1, HW.out, hs20, hl20⟩ (own_none ho1) (by unfold maxLen; omega)).mono fun e w' hh => Pg3Post.uni HOUT.out hh)
    clear ho1 d0 d1
    have HB2 := Lib.hid hb2; clear hb2
    go_wp2_with fail
    refine (HV1.out).mono ?_
    rintro e w3 ⟨Aw, cw, rfl, how, hb3⟩
    have hb13 : Below w1.heap.size w1 w3 := HB2.out.trans (hb3.mono HB2.out.size)
    have hs13 := hb13.size
    have HOW := Lib.hid how
    have HB3 := Lib.hid (HB1.out.trans (hb13.mono (by omega)))
    -- the block of the model's answer
    have HA3 := Lib.hid ((Below.refl w3.heap.size w3).alloc (Nat.le_refl _) (.cells #[.string S, .slice Aw L.length cw] 25))
    have HB3A := Lib.hid (HB3.out.trans (HA3.out.mono HB3.out.size))
    have e0 : w3.cell? ⟨w.heap.size, 0, none⟩ = some (.string s) := (hb13.cell (p := ⟨w.heap.size, 0, none⟩) (by show w.heap.size < w1.heap.size; omega)).trans D0.out
    have e1 : w3.cell? ⟨w.heap.size, 1, none⟩ = some (.slice A n c) := (hb13.cell (p := ⟨w.heap.size, 1, none⟩) (by show w.heap.size < w1.heap.size; omega)).trans D1.out
    have E0 := Lib.hid e0
    have E1 := Lib.hid e1
    have hw3 : w.heap.size < w3.heap.size := by omega
    clear how hb3 hb13
    go_wp2_with fail
    refine (HT.out _ HB3A.out).mono ?_
    rintro e w4 ⟨P2, rfl, ⟨Ax, cx, rfl, hox⟩, hb4⟩
    have hs4 := hb4.size
    simp only [World.size_alloc] at hs4
    have HOX := Lib.hid hox
    have HB4 := Lib.hid hb4
    have f0 : w4.cell? ⟨w.heap.size, 0, none⟩ = some (.string s) := (hb4.cell (p := ⟨w.heap.size, 0, none⟩) (by simp; omega)).trans ((World.cell?_alloc_lt w3 _ ⟨w.heap.size, 0, none⟩ hw3).trans E0.out)
    have f1 : w4.cell? ⟨w.heap.size, 1, none⟩ = some (.slice A n c) := (hb4.cell (p := ⟨w.heap.size, 1, none⟩) (by simp; omega)).trans ((World.cell?_alloc_lt w3 _ ⟨w.heap.size, 1, none⟩ hw3).trans E1.out)
    have y0 : w4.cell? ⟨w3.heap.size, 0, none⟩ = some (.string S) := (hb4.cell (p := ⟨w3.heap.size, 0, none⟩) (by simp)).trans (by simp)
    have y1 : w4.cell? ⟨w3.heap.size, 1, none⟩ = some (.slice Aw L.length cw) := (hb4.cell (p := ⟨w3.heap.size, 1, none⟩) (by simp)).trans (by simp)
    have F0 := Lib.hid f0; have F1 := Lib.hid f1; have Y0 := Lib.hid y0; have Y1 := Lib.hid y1
    have HTW := Lib.hid (show RowAt w4 w3.heap.size Aw (slC L) from ((RowAt.of_own HOW.out).below HA3.out).below (hb4.mono (by simp)))
    have HV2 := Lib.hid (fun o => ((iPut_any s Ax l.length cx l cell (w4.alloc o) ⟨rfl, RowAt.of_own (HOX.out.alloc o), HW.out, hs20, hl20⟩ (own_none HOX.out) (by unfold maxLen; omega)).mono fun e w' hh => Pg3Post.uni HOUT.out hh))
    have HB4W := Lib.hid (HB3A.out.trans (hb4.mono (by have := HB3A.out.size; simpa using this)))
    clear hox hb4 f0 f1 y0 y1 e0 e1
    go_wp2_with fail
    refine (HV2.out _).mono ?_
    rintro e w5 ⟨Ag, cg, rfl, hog, hb5⟩
    have hs5 := hb5.size
    simp only [World.size_alloc] at hs5
    have hbg : Below w4.heap.size w4 (w5.alloc (.cells #[.string S, .slice Ag L.length cg] 25)) := (((Below.refl _ _).alloc (Nat.le_refl _) _).trans (hb5.mono (by simp))).alloc (by omega) _
    have C5 := Lib.hid (show Cg w s A n c w3.heap.size Aw cw L S w4.heap.size Ax l.length cx l w5.heap.size Ag cg L (w5.alloc (.cells #[.string S, .slice Ag L.length cg] 25)) from
      { hb := HB4W.out.trans (hbg.mono HB4W.out.size), o1 := hw3, o2 := by omega, o3 := by omega, o4 := by simp,
        p0 := (hbg.cell (p := ⟨w.heap.size, 0, none⟩) (by show w.heap.size < w4.heap.size; omega)).trans F0.out,
        p1 := (hbg.cell (p := ⟨w.heap.size, 1, none⟩) (by show w.heap.size < w4.heap.size; omega)).trans F1.out,
        w0 := (hbg.cell (p := ⟨w3.heap.size, 0, none⟩) (by show w3.heap.size < w4.heap.size; omega)).trans Y0.out,
        w1 := (hbg.cell (p := ⟨w3.heap.size, 1, none⟩) (by show w3.heap.size < w4.heap.size; omega)).trans Y1.out,
        x0 := (World.cell?_alloc_lt w5 _ ⟨w4.heap.size, 0, none⟩ (by show w4.heap.size < w5.heap.size; omega)).trans ((hb5.cell (p := ⟨w4.heap.size, 0, none⟩) (by simp)).trans (by simp)),
        x1 := (World.cell?_alloc_lt w5 _ ⟨w4.heap.size, 1, none⟩ (by show w4.heap.size < w5.heap.size; omega)).trans ((hb5.cell (p := ⟨w4.heap.size, 1, none⟩) (by simp)).trans (by simp)),
        g0 := by simp, g1 := by simp,
        tw := HTW.out.below (hbg.mono (by omega)),
        x := own_mono (HOX.out.kept (grown_of_below (row := none) hbg) (by cases Ax <;> simp [Value.ownBlock])) (by simp),
        xa := fun q hq => by have := HOX.out.lt q (by rw [block_sliceP]; exact hq); simp at this; omega,
        g := own_mono (hog.alloc _) (by simp),
        ga := fun q hq => by have := hog.lt q (by rw [block_sliceP]; exact hq); simp at this; omega })
    clear hb5 hog hbg
    obtain ⟨W5, hW5⟩ : ∃ W5, W5 = w5.alloc (.cells #[.string S, .slice Ag L.length cg] 25) := ⟨_, rfl⟩
    rw [← hW5] at C5
    have HE5 := Lib.hid (eqPage_same S Ag Aw L.length L.length cg cw L W5 (RowAt.of_own C5.out.g) C5.out.row rfl rfl (by omega))
    have g50 := C5.out.g0
    have g51 := C5.out.g1
    have y50 := C5.out.w0
    have y51 := C5.out.w1
    rw [hW5] at HE5 g50 g51 y50 y51
    clear HOW HOX HTW HB4
    go_wp2_with fail
    refine (HE5.out).mono ?_
    rw [← hW5]
    rintro e w6 ⟨rfl, hb6⟩
    have C6 := Lib.hid (C5.out.keep hb6); clear hb6 g50 g51 y50 y51 hW5
    have d60 := C6.out.p0
    have d61 := C6.out.p1
    have x60 := C6.out.x0
    have x61 := C6.out.x1
    have HT6 := Lib.hid (fun W (hb : Below w6.heap.size w6 W) => HT.out W (C6.out.hb.trans (hb.mono C6.out.hb.size)))
    go_wp2_with fail
    have hk0 : (0 : Int) ≤ 1 + 2 * (l.length : Int) := by omega
    have hk1 : (0 : Int) ≤ 1 + 2 * (L.length : Int) := by omega
    go_region_with (first
      | (go_at_call 37
         refine (HT6.out _ ?_).mono ?_
         · exact Below.drew (Below.refl _ _)
         rintro e w7 ⟨P3, rfl, ⟨A3, k3, rfl, ho7⟩, hb7⟩
         have C7 := Lib.hid (C6.out.keep (Below.trans (Below.drew (Below.refl _ _)) hb7))
         have x70 := C7.out.x0
         have x71 := C7.out.x1
         have HE7 := Lib.hid (eqPage_same s Ax A3 l.length l.length cx k3 l w7 (RowAt.of_own C7.out.x) (RowAt.of_own ho7) rfl rfl hl20)
         clear ho7 hb7)
      | (go_at_call 38
         refine (HE7.out).mono ?_
         rintro e w8 ⟨rfl, hb8⟩
         have C8 := Lib.hid (C7.out.keep hb8); clear hb8
         have x80 := C8.out.x0
         have x81 := C8.out.x1))
    all_goals clear d60 d61 x60 x61 x70 x71
    all_goals go_wp2_with fail
    all_goals
      have HM8 := Lib.hid (markPage_any _ s Ax l.length cx l 1 w8 C8.out.x rfl hl20 (by omega) (by omega))
      clear x80 x81
      refine (HM8.out).mono ?_
      rintro e w9 ⟨rfl, hx9, hg9⟩
      have C9 := Lib.hid (C8.out.markX hx9 hg9); clear hx9 hg9
      have g90 := C9.out.g0
      have g91 := C9.out.g1
      have y90 := C9.out.w0
      have y91 := C9.out.w1
      have HE9 := Lib.hid (eqPage_same S Ag Aw L.length L.length cg cw L w9 (RowAt.of_own C9.out.g) C9.out.row rfl rfl (by omega))
      go_wp2_with fail
      refine (HE9.out).mono ?_
      rintro e w10 ⟨rfl, hb10⟩
      have C10 := Lib.hid (C9.out.keep hb10); clear hb10 g90 g91 y90 y91
      have g100 := C10.out.g0
      have g101 := C10.out.g1
      have HM10 := Lib.hid (markPage_any _ S Ag L.length cg L 1 w10 C10.out.g rfl (by omega) (by omega) (by omega))
      go_wp2_with fail
      refine (HM10.out).mono ?_
      rintro e w11 ⟨rfl, hx11, hg11⟩
      have C11 := Lib.hid (C10.out.markG hx11 hg11); clear hx11 hg11 g100 g101
      have g110 := C11.out.g0
      have g111 := C11.out.g1
      have HH11 := Lib.hid (heldPage_any _ S Ag L.length cg 1 w11 C11.out.g (by omega) (by omega) (by omega))
      go_wp2_with fail
      refine (HH11.out).mono ?_
      rintro e w12 ⟨rfl, hb12⟩
      have C12 := Lib.hid (C11.out.keep hb12); clear hb12 g110 g111
      have d120 := C12.out.p0
      have d121 := C12.out.p1
      have q12 : ((1 + 2 * (L.length : Int)) == (1 + 2 * (L.length : Int))) = true := by simp
      have q13 : ((1 + 2 * (L.length : Int)) != (1 + 2 * (L.length : Int))) = false := by simp
      have HT12 := Lib.hid (fun W (hb : Below w12.heap.size w12 W) => HT.out W (C12.out.hb.trans (hb.mono C12.out.hb.size)))
      go_wp2_with fail
      refine (HT12.out _ (Below.refl _ _)).mono ?_
      rintro e w13 ⟨P4, rfl, ⟨A4, k4, rfl, ho13⟩, hb13⟩
      have HV13 := Lib.hid ((iPut_any s A4 l.length k4 l cell w13 ⟨rfl, RowAt.of_own ho13, HW.out, hs20, hl20⟩ (own_none ho13) (by unfold maxLen; omega)).mono fun e w' hh => Pg3Post.uni HOUT.out hh)
      have C13 := Lib.hid (C12.out.keep hb13); clear hb13 ho13 d120 d121
      go_wp2_with fail
      refine (HV13.out).mono ?_
      rintro e w14 ⟨Ah, ch, rfl, ho14, hb14⟩
      have C14 := Lib.hid (C13.out.keep (hb14.alloc hb14.size (.cells #[.string S, .slice Ah L.length ch] 25)))
      have HOH := Lib.hid (ho14.alloc (.cells #[.string S, .slice Ah L.length ch] 25))
      clear hb14 ho14
      have HE14 := Lib.hid (eqPage_same S Ah Aw L.length L.length ch cw L _ (RowAt.of_own HOH.out) C14.out.row rfl rfl (by omega))
      have y140 := C14.out.w0
      have y141 := C14.out.w1
      go_wp2_with fail
      refine (HE14.out).mono ?_
      rintro e w15 ⟨rfl, hb15⟩
      have C15 := Lib.hid (C14.out.keep hb15); clear hb15 y140 y141
      have g150 := C15.out.g0
      have g151 := C15.out.g1
      have HH15 := Lib.hid (heldPage_any _ S Ag L.length cg 1 w15 C15.out.g (by omega) (by omega) (by omega))
      go_wp2_with fail
      refine (HH15.out).mono ?_
      rintro e w16 ⟨rfl, hb16⟩
      have C16 := Lib.hid (C15.out.keep hb16); clear hb16 g150 g151
      go_wp2_with fail
      go_ret
      exact ⟨rfl, C16.out.hb⟩
theorem walk_FnExactPutCell (s : ByteArray) (A : Option Addr) (n c : Nat) (l : List Sl) (cell : ByteArray) (w : World) (hs : s.size ≤ maxLen) (g : PageArg w A n c l) (hc : cell.size ≤ maxLen) :
    Calls Try.prog 10 #[.agg #[.string s, .slice A n c], .string cell] w fun e w' => e = .returned (.bool true) ∧ Below w.heap.size w w' := by
  by_cases h : cell.size ≤ 1048576
  · exact walk_FnExactPutCell_in s A n c l cell w hs g h
  · unfold maxLen at hc
    go_enter Try.func10, Try.ntmps10
    go_wp2_with fail
    go_ret
    exact ⟨rfl, (Below.refl _ _).alloc (Nat.le_refl _) _⟩
end Go.Proofs.Ytjnaeefgbekmdaa
