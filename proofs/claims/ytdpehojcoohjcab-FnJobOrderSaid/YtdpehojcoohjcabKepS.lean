/- Contract of kept of the model (chapter 8). Conditions: the jobs lie in a row; they are valid. -/
import Derived.Test.YtdpehojcoohjcabJobS
import Derived.Test.YtdpehojcoohjcabRowI
set_option linter.unusedVariables false
set_option linter.unusedSimpArgs false
namespace Go.Proofs.Ytdpehojcoohjcab
open Go.RowKit Go.ChangeShapes Go.WideShapes

def blC (l : List Bool) : List Value := l.map .bool
theorem blC_len (l : List Bool) : (blC l).length = l.length := by simp [blC]
/-- a row of truth values that the call has made and writes into -/
def RB (B g : Nat) (L : List Bool) (W : World) : Prop := W.ownsRow B 4 1 (.slice (some ⟨g, 0, none⟩) L.length L.length) L.length (blC L)
theorem RB.cell {B g : Nat} {L : List Bool} {W : World} (h : RB B g L W) {k : Nat} (hk : k < L.length) : W.cell? ⟨g, k, none⟩ = some (.bool (L.getD k false)) ∧ W.frozen? ⟨g, k, none⟩ = false := by
  have c0 := h.cellAt k (by omega)
  refine ⟨?_, h.frozenAt _⟩
  rw [c0]
  simp [blC, List.getD_eq_getElem?_getD, hk]
theorem RB.put {B g : Nat} {L : List Bool} {W : World} (h : RB B g L W) (k : Nat) (x : Bool) : RB B g (L.set k x) (W.setCell ⟨g, k, none⟩ (.bool x)) := by
  unfold RB
  have e : blC (L.set k x) = (blC L).set k (.bool x) := by unfold blC; rw [List.map_set]
  rw [List.length_set, e]
  exact (h.stored k (.bool x)).1
theorem RB.keep {B g : Nat} {L : List Bool} {W W' : World} (h : RB B g L W) (hb : Below W.heap.size W W') : RB B g L W' :=
  h.kept (grown_of_below (row := none) hb) (by simp [Value.ownBlock])
theorem RB.ge {B g : Nat} {L : List Bool} {W : World} (h : RB B g L W) : B ≤ g ∧ g < W.heap.size := h.lt g rfl
theorem RB.made {B g n : Nat} {W : World} (h : W.ownsRow B 4 1 (.slice (some ⟨g, 0, none⟩) n n) n (madeCells (Value.bool false).cells (n * 1)).toList) : RB B g (List.replicate n false) W := by
  have e1 : (madeCells (Value.bool false).cells (n * 1)).toList = blC (List.replicate n false) := by
    refine List.ext_getElem ?_ (fun i h1 h2 => ?_)
    · simp [size_madeCells, blC]
    · have : i % 1 = 0 := Nat.mod_one i
      simp [madeCells, blC, Value.cells, this]
  unfold RB
  rw [← e1, List.length_replicate]
  exact h
theorem blInfo : (Try.prog.info? 4).map (fun i => (i.zero, i.size, i.bytes)) = some (some (.bool false), 1, 1) := by kernel_rfl
/-- truth values in a row of the call's own -/
def BlsPost (L : List Bool) (w : World) (e : Ending) (w' : World) : Prop := ∃ v, e = .returned v ∧ (∃ (A : Option Addr) (c : Nat), v = .slice A L.length c ∧ w'.ownsRow w.heap.size 4 1 (.slice A L.length c) L.length (blC L)) ∧ Below w.heap.size w w'
/-- the row in the middle of one time: the first i are told anew -/
def keptM (l : List Jb) (rd : Bool) (t i : Nat) : List Bool := (List.range l.length).map (fun k => if k < i then keptT l rd (t + 1) k else keptT l rd t k)
theorem keptM_len (l : List Jb) (rd : Bool) (t i : Nat) : (keptM l rd t i).length = l.length := by simp [keptM]
theorem keptM_zero (l : List Jb) (rd : Bool) (t : Nat) : keptM l rd t 0 = keptL l rd t := by simp [keptM, keptL]
theorem keptM_end (l : List Jb) (rd : Bool) (t : Nat) : keptM l rd t l.length = keptL l rd (t + 1) := by
  unfold keptM keptL
  apply List.map_congr_left
  intro k hk
  rw [if_pos (by simpa using hk)]
theorem keptM_get {l : List Jb} {rd : Bool} {t i k : Nat} (hk : k < l.length) : (keptM l rd t i).getD k false = if k < i then keptT l rd (t + 1) k else keptT l rd t k := by
  simp [keptM, List.getD_eq_getElem?_getD, hk]
theorem keptM_skip {l : List Jb} {rd : Bool} {t i : Nat} (h : ¬ (jAt l i).2.1 = (t : Int)) : keptM l rd t (i + 1) = keptM l rd t i := by
  unfold keptM
  apply List.map_congr_left
  intro k _
  by_cases e : k = i
  · subst e
    rw [if_pos (by omega), if_neg (by omega), keptT, if_neg h]
  · by_cases h2 : k < i
    · rw [if_pos (by omega), if_pos h2]
    · rw [if_neg (by omega), if_neg h2]
theorem keptM_set {l : List Jb} {rd : Bool} {t i : Nat} (hi : i < l.length) (h : (jAt l i).2.1 = (t : Int)) : keptM l rd t (i + 1) = (keptM l rd t i).set i (okK l rd (keptT l rd t) i) := by
  refine List.ext_getElem (by simp [keptM]) (fun k h1 h2 => ?_)
  rw [List.getElem_set]
  simp only [keptM, List.getElem_map, List.getElem_range]
  by_cases e : i = k
  · subst e
    rw [if_pos (by omega), if_pos rfl, keptT, if_pos h]
  · rw [if_neg e]
    by_cases h3 : k < i
    · rw [if_pos (by omega), if_pos h3]
    · rw [if_neg (by omega), if_neg h3]
theorem keptL_zero (l : List Jb) (rd : Bool) : keptL l rd 0 = List.replicate l.length false := by
  unfold keptL
  refine List.ext_getElem (by simp) (fun k h1 h2 => ?_)
  simp [keptT]
/-- whether the first k stand in the way of job i -/
def okU (l : List Jb) (rd : Bool) (K : Nat → Bool) (i k : Nat) : Bool := !(List.range k).any (fun k => K k && decide ((jAt l i).1 < (jAt l k).2.1) && meetB (jAt l k).2.2.2 (mineJ rd (jAt l i)))
theorem okU_succ (l : List Jb) (rd : Bool) (K : Nat → Bool) (i k : Nat) : okU l rd K i (k + 1) = (okU l rd K i k && !(K k && decide ((jAt l i).1 < (jAt l k).2.1) && meetB (jAt l k).2.2.2 (mineJ rd (jAt l i)))) := by
  unfold okU
  rw [List.range_succ, List.any_append, Bool.not_or]; simp
/-- the model's own look: what is kept so far, and ends ahead of t -/
theorem model_look {l : List Jb} {rd : Bool} {t i k : Nat} (hk : k < l.length) : ((keptM l rd t i).getD k false && decide ((jAt l k).2.1 < (t : Int))) = keptT l rd t k := by
  rw [keptM_get hk]
  by_cases h : (jAt l k).2.1 < (t : Int)
  · rw [decide_eq_true h, Bool.and_true]
    split
    · exact keptT_stay h
    · rfl
  · rw [decide_eq_false h, Bool.and_false]
    cases hq : keptT l rd t k with
    | false => rfl
    | true => exact absurd (keptT_lt hq) h
set_option maxRecDepth 100000 in
set_option maxHeartbeats 8000000 in
theorem sKept_any (A : Option Addr) (n c : Nat) (rd : Bool) (l : List Jb) (w : World) (hr : RowAt w w.heap.size A (jbsC l)) (hn : n = l.length) (hs : n ≤ 6) (hok : ∀ i (h : i < l.length), okJb l[i] = true) :
    Calls Try.prog 51 #[.slice A n c, .bool rd] w (BlsPost (keptL l rd 21) w) := by
  obtain ⟨i0, hi0, hz0, hz1, hz2⟩ := info_parts blInfo
  have hb2 : i0.bytes * n ≤ 281474976710656 := by rw [hz2]; omega
  have HI := Lib.hid (And.intro hi0 (And.intro hz0 (And.intro hz1 hz2))); clear hi0 hz0 hz1 hz2
  have HR := Lib.hid hr; clear hr
  have HN := Lib.hid hn; clear hn
  have HOK := Lib.hid hok; clear hok
  go_enter Try.func51, Try.ntmps51
  go_wp2_with ((refine wpList_make_full _ rfl _ _ 66 rfl w.heap.size 4 i0 (.bool false) 1 Try.underlying66 HI.out.1 HI.out.2.1 HI.out.2.2.1 .i64 .i64 _ _ n rfl rfl rfl rfl hb2 (by unfold maxLen; omega) (Nat.le_refl _) ?_
                intro w1 hown hg1))
  have HF := Lib.hid (show RB w.heap.size w.heap.size (keptL l rd 0) w1 from by
    rw [keptL_zero, ← HN.out]; exact RB.made hown)
  have HB1 := Lib.hid (show Below w.heap.size w w1 from (Below.refl _ _).grown hg1 (Nat.le_refl _) (by simp))
  clear hown hg1 hb2
  go_loopw [6] (fun t wr => ∃ t' : Nat, t = .int .i64 (t' : Int) ∧ t' ≤ 21 ∧ RB w.heap.size w.heap.size (keptL l rd t') wr ∧ Below w.heap.size w wr) (fun t _ => 21 - (intOf t).toNat)
  case atStart => exact ⟨0, rfl, by omega, HF.out, HB1.out⟩
  case round =>
    clear HF HB1
    obtain ⟨t, rfl, ht, hrb, hb⟩ := hrel
    have HRB := Lib.hid hrb; clear hrb
    have HB := Lib.hid hb; clear hb
    by_cases ht20 : t ≤ 20
    · have ht20i : (t : Int) ≤ 20 := by omega
      have HRB0 := Lib.hid (show RB w.heap.size w.heap.size (keptM l rd t 0) wr by rw [keptM_zero]; exact HRB.out)
      clear HRB
      go_wp2_with fail
      go_loopw [7] (fun i wr => ∃ i' : Nat, i = .int .i64 (i' : Int) ∧ i' ≤ n ∧ RB w.heap.size w.heap.size (keptM l rd t i') wr ∧ Below w.heap.size w wr) (fun i _ => n - (intOf i).toNat)
      case atStart => exact ⟨0, rfl, by omega, HRB0.out, HB.out⟩
      case round =>
        clear HRB0 HB
        obtain ⟨i, rfl, hi, hrb, hb⟩ := hrel
        have HRB := Lib.hid hrb; clear hrb
        have HB := Lib.hid hb; clear hb
        by_cases hlt : i < n
        · have hil : i < l.length := by have := HN.out; omega
          obtain ⟨b, off, hA, hbw, e0, e1, e2, e3⟩ := jbs_at (HR.out.below HB.out) hil
          subst hA
          have HJI := Lib.hid (jAt_get hil)
          have HSK := Lib.hid (fun h => keptM_skip (l := l) (rd := rd) (t := t) (i := i) h)
          have HST := Lib.hid (fun h => keptM_set (rd := rd) (t := t) hil h)
          rw [HJI.out] at HSK HST
          have hii : (i : Int) < (n : Int) := by omega
          have hi0 : (0 : Int) ≤ (i : Int) := by omega
          have hbs : b < wr.heap.size := Nat.lt_of_lt_of_le hbw HB.out.size
          have HOKI := Lib.hid (HOK.out i hil)
          have HEC := Lib.hid (fun W (hb : Below wr.heap.size wr W) => And.intro ((hb.cell (p := ⟨b, off + i * 4, none⟩) hbs).trans e0) (And.intro ((hb.cell (p := ⟨b, off + i * 4 + 2, none⟩) hbs).trans e2) ((hb.cell (p := ⟨b, off + i * 4 + 3, none⟩) hbs).trans e3)))
          have HSU0 := Lib.hid (fun k => okU_succ l rd (keptT l rd t) i k)
          rw [HJI.out] at HSU0
          have HLOOK := Lib.hid (fun k (hk : k < l.length) => model_look (rd := rd) (t := t) (i := i) hk)
          clear HJI e0 e2 e3
          obtain ⟨ji, hji⟩ : ∃ j, l[i] = j := ⟨_, rfl⟩
          rw [hji] at e1 HSK HST HOKI HEC HSU0
          clear hji
          obtain ⟨x0, x1, x2, x3⟩ := ji
          simp only at e1 HSK HST HEC HSU0
          by_cases he : x1 = (t : Int)
          rotate_left
          · have hb1 : (x1 == (t : Int)) = false := by simpa using he
            have hb2 : (x1 != (t : Int)) = true := by simpa using he
            have HSK2 := Lib.hid (HSK.out he)
            go_wp2_with fail
            go_roundw
            case rel => exact ⟨i + 1, by go_num, by omega, by rw [HSK2.out]; exact HRB.out, HB.out⟩
            case measure => simp [intOf]; omega
          subst he
          have HST2 := Lib.hid (HST.out rfl)
          have HOKX := Lib.hid ((okJb_iff x0 (t : Int) x2 x3).1 HOKI.out)
          obtain ⟨r2, hr2⟩ := Int.eq_ofNat_of_zero_le HOKX.out.2.2.1.1
          obtain ⟨r3, hr3⟩ := Int.eq_ofNat_of_zero_le HOKX.out.2.2.2.1
          have hr2' : r2 ≤ 7 := by have := HOKX.out.2.2.1.2; omega
          have hr3' : r3 ≤ 7 := by have := HOKX.out.2.2.2.2; omega
          rw [hr2, hr3] at HEC HSU0
          clear hr2 hr3 HOKI HOKX HSK HST
          have HU0 := Lib.hid (show okU l rd (keptT l rd t) i 0 = true from rfl)
          have HUE := Lib.hid (show okU l rd (keptT l rd t) i n = okK l rd (keptT l rd t) i by rw [HN.out]; rfl)
          obtain ⟨mi, hmi, HMI⟩ : ∃ mi : Nat, mi ≤ 7 ∧ mineJ rd (x0, (t : Int), (r2 : Int), (r3 : Int)) = (mi : Int) := by
            cases rd
            · exact ⟨r3, hr3', rfl⟩
            · exact ⟨r2, hr2', rfl⟩
          have HMIR := Lib.hid (show mi = if rd then r2 else r3 by
            cases rd <;> simp [mineJ] at HMI <;> simp <;> omega)
          rw [HMI] at HSU0
          clear HMI
          go_wp2_with fail
          obtain ⟨wi, hwi⟩ : ∃ wi : World, wi = wr := ⟨_, rfl⟩
          subst hwi
          go_loopw [8, 9] (fun o k W => ∃ k' : Nat, k = .int .i64 (k' : Int) ∧ k' ≤ n ∧ o = .bool (okU l rd (keptT l rd t) i k') ∧ Below wi.heap.size wi W) (fun _ k _ => n - (intOf k).toNat)
          case atStart => exact ⟨0, rfl, by omega, by rw [HU0.out], Below.refl _ _⟩
          case round =>
            obtain ⟨k, rfl, hk, rfl, hbi⟩ := hrel
            have HBI := Lib.hid hbi; clear hbi
            by_cases hkn : k < n
            · have hkl : k < l.length := by have := HN.out; omega
              obtain ⟨b', off', hA', _, d0, d1, d2, d3⟩ := jbs_at (HR.out.below (HB.out.trans (HBI.out.mono HB.out.size))) hkl
              injection hA' with hA'
              injection hA' with z1 z2
              subst z1 z2
              have HRBW := Lib.hid (HRB.out.keep HBI.out)
              obtain ⟨kc, _⟩ := HRBW.out.cell (k := k) (by rw [keptM_len]; exact hkl)
              have HLK := Lib.hid (HLOOK.out k hkl)
              have HSU := Lib.hid (HSU0.out k)
              rw [jAt_get hkl] at HLK HSU
              obtain ⟨f0, f2, f3⟩ := HEC.out _ HBI.out
              have HOKK := Lib.hid ((okJb_iff l[k].1 l[k].2.1 l[k].2.2.1 l[k].2.2.2).1 (HOK.out k hkl))
              obtain ⟨wk, hwk⟩ := Int.eq_ofNat_of_zero_le HOKK.out.2.2.2.1
              have hwk7 : wk ≤ 7 := by have := HOKK.out.2.2.2.2; omega
              rw [hwk] at d3 HSU
              clear HOKK hwk d0 d2
              have hki : (k : Int) < (n : Int) := by omega
              have hk0 : (0 : Int) ≤ (k : Int) := by omega
              have hlm : (keptM l rd t i).length = n := by rw [keptM_len]; exact HN.out.symm
              have hand := and_n wk mi (by omega) (by omega)
              have HMT := Lib.hid (show meetB (wk : Int) (mi : Int) = !decide (wk &&& mi = 0) by simp [meetB])
              rw [HMT.out] at HSU
              have hsi := HBI.out.size
              have hbs2 : b < wr.heap.size := by omega
              generalize (keptM l rd t i).getD k false = q at *
              generalize keptT l rd t k = q2 at *
              generalize l[k].2.1 = y1 at *
              generalize okU l rd (keptT l rd t) i k = ok0 at *
              generalize wk &&& mi = z at *
              have hu := HSU.out
              have hl := HLK.out
              cases rd
              all_goals (
                have hmi2 := HMIR.out
                simp at hmi2
                subst hmi2
                cases q
                · have hq2 : q2 = false := by rw [← hl]; rfl
                  subst hq2
                  have HS2 := Lib.hid (show okU l _ (keptT l _ t) i (k + 1) = ok0 by rw [hu]; simp)
                  clear hu hl
                  go_wp2_with fail
                  go_quiet (fail)
                  go_wp2_with fail
                  go_roundw
                  case rel => exact ⟨k + 1, by go_num, by omega, by rw [HS2.out], HBI.out.trans (below_drewN _ _)⟩
                  case measure => simp [intOf]; omega
                · by_cases h1 : x0 < y1
                  rotate_left
                  · have HS2 := Lib.hid (show okU l _ (keptT l _ t) i (k + 1) = ok0 by rw [hu]; simp [h1])
                    have hd1 : decide (y1 > x0) = false := by simpa using h1
                    have hd2 : decide (x0 < y1) = false := by simpa using h1
                    clear hu hl
                    go_wp2_with fail
                    go_quiet (fail)
                    go_wp2_with fail
                    go_roundw
                    case rel => exact ⟨k + 1, by go_num, by omega, by rw [HS2.out], HBI.out.trans (below_drewN _ _)⟩
                    case measure => simp [intOf]; omega
                  by_cases h2 : y1 < (t : Int)
                  rotate_left
                  · have hq2 : q2 = false := by rw [← hl]; simp [h2]
                    subst hq2
                    have HS2 := Lib.hid (show okU l _ (keptT l _ t) i (k + 1) = ok0 by rw [hu]; simp)
                    have hd1 : decide (y1 < (t : Int)) = false := by simpa using h2
                    clear hu hl
                    go_wp2_with fail
                    go_quiet (fail)
                    go_wp2_with fail
                    go_roundw
                    case rel => exact ⟨k + 1, by go_num, by omega, by rw [HS2.out], HBI.out.trans (below_drewN _ _)⟩
                    case measure => simp [intOf]; omega
                  have hq2 : q2 = true := by rw [← hl]; simp [h2]
                  subst hq2
                  by_cases h3 : z = 0
                  · have HS2 := Lib.hid (show okU l _ (keptT l _ t) i (k + 1) = ok0 by rw [hu]; simp [h3])
                    subst h3
                    clear hu hl
                    go_wp2_with fail
                    go_quiet (fail)
                    go_wp2_with fail
                    go_roundw
                    case rel => exact ⟨k + 1, by go_num, by omega, by rw [HS2.out], HBI.out.trans (below_drewN _ _)⟩
                    case measure => simp [intOf]; omega
                  · have HS2 := Lib.hid (show okU l _ (keptT l _ t) i (k + 1) = false by rw [hu]; simp [h1, h3])
                    have hz1 : ((z : Int) == 0) = false := by simp; omega
                    have hz2 : ((z : Int) != 0) = true := by simp; omega
                    have hz3 : ¬ ((z : Int) = 0) := by omega
                    clear hu hl
                    go_wp2_with fail
                    go_quiet (fail)
                    go_wp2_with fail
                    go_roundw
                    case rel => exact ⟨k + 1, by go_num, by omega, by rw [HS2.out], HBI.out.trans (below_drewN _ _)⟩
                    case measure => simp [intOf]; omega)
            · obtain rfl : k = n := by omega
              have HRBW := Lib.hid (HRB.out.keep HBI.out)
              have HBW := Lib.hid (HB.out.trans (HBI.out.mono HB.out.size))
              have hlm : (keptM l rd t i).length = k := by rw [keptM_len]; exact HN.out.symm
              obtain ⟨kc, kz⟩ := HRBW.out.cell (k := i) (by omega)
              have HPUT := Lib.hid (fun x => HRBW.out.put i x)
              have hws : w.heap.size < wr.heap.size := HRBW.out.ge.2
              have HSETB := Lib.hid (fun x => (HBW.out.setCell (Nat.le_refl _) x : Below w.heap.size w (wr.setCell ⟨w.heap.size, i, none⟩ x)))
              rw [HUE.out]
              generalize hok : okK l rd (keptT l rd t) i = ok0 at *
              clear hok
              go_wp2_with fail
              go_roundw
              case rel => exact ⟨i + 1, by go_num, by omega, by rw [HST2.out]; exact HPUT.out _, HSETB.out _⟩
              case measure => simp [intOf]; omega
        · obtain rfl : i = n := by omega
          have HE := Lib.hid (show keptM l rd t i = keptL l rd (t + 1) by rw [HN.out]; exact keptM_end l rd t)
          go_wp2_with fail
          go_roundw
          case rel => exact ⟨t + 1, by go_num, by omega, by rw [← HE.out]; exact HRB.out, HB.out⟩
          case measure => simp [intOf]; omega
    · obtain rfl : t = 21 := by omega
      have HL := Lib.hid (show (keptL l rd 21).length = n by simp [keptL]; exact HN.out.symm)
      go_wp2_with fail
      go_ret
      refine ⟨_, rfl, ⟨some ⟨w.heap.size, 0, none⟩, n, ?_, ?_⟩, HB.out⟩
      · rw [HL.out]; rfl
      · have := HRB.out
        unfold RB at this
        rw [HL.out] at this ⊢
        exact this
end Go.Proofs.Ytdpehojcoohjcab
