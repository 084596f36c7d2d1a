/- Contracts of OpsBetween of both sides (chapter 7). Conditions: the versions lie in a row; they are few; their texts are no longer than memory. -/
import Derived.Test.YtcaekjbalkbliaaOpfA
import Derived.Test.YtcaekjbalkbliaaSeenI
import Derived.Test.YtcaekjbalkbliaaSeenS
set_option linter.unusedVariables false
set_option linter.unusedSimpArgs false
namespace Go.Proofs.Ytcaekjbalkbliaa
open Go.RowKit Go.ChangeShapes Go.WideShapes

def obR (l : List Vr) (a b : Int) : List Cg := if (sweepB okVr l a && sweepB okVr l b) = true then opfR (seenA l a) (seenA l b) else []
theorem obR_yes {l : List Vr} {a b : Int} (h1 : sweepB okVr l a = true) (h2 : sweepB okVr l b = true) : obR l a b = opfR (seenA l a) (seenA l b) := by unfold obR; rw [if_pos (by rw [h1, h2]; rfl)]
theorem obR_no {l : List Vr} {a b : Int} (h : (sweepB okVr l a && sweepB okVr l b) = false) : obR l a b = [] := by unfold obR; rw [if_neg (by rw [h]; simp)]
theorem foldB_mem (P : Vr → Prop) : ∀ (L : List Vr) (m : List UInt8 → Option Vr), (∀ k v, m k = some v → P v) → (∀ v ∈ L, P v) → ∀ k v, (L.foldl stepM m) k = some v → P v
  | [], _, h, _, k, v, hv => h k v hv
  | u :: L, m, h, hL, k, v, hv => foldB_mem P L (stepM m u) (fun k v hv => by
      unfold stepM at hv
      split at hv
      · split at hv
        · cases hv
        · injection hv with hv; rw [← hv]; exact hL u List.mem_cons_self
      · exact h k v hv) (fun v hv => hL v (List.mem_cons_of_mem _ hv)) k v hv
theorem lastB_mem {l : List Vr} {at_ : Int} {k : List UInt8} {v : Vr} (h : lastA l at_ k = some v) : v ∈ l :=
  foldB_mem (fun v => v ∈ l) _ _ (fun k v h => by cases h) (fun v hv => (List.mem_filter.1 hv).1) k v h
theorem seenB_good {l : List Vr} {at_ : Int} (h : WfVr l) (hl : l.length ≤ 1048576) : (seenA l at_).length ≤ 1048576 ∧ WfPr (seenA l at_) := by
  refine ⟨?_, fun p hp => ?_⟩
  · have := seenA_len (l := l) (at_ := at_) l.length (Nat.le_refl _)
    rw [List.take_length] at this; omega
  · obtain ⟨v, a, rfl⟩ := ((seenA_pm l at_).2.1 p).1 hp
    have := h v (lastB_mem a)
    exact ⟨this.1, this.2.1⟩
theorem ops_nil {w w' : World} (hb : Below w.heap.size w w') : OpfPost [] w (.returned (.slice none 0 0)) w' := ⟨_, rfl, ⟨none, 0, rfl, World.ownsRow_nil _ _ _ _⟩, hb⟩

set_option maxRecDepth 100000 in
set_option maxHeartbeats 4000000 in
theorem iOpb_any (A : Option Addr) (n c : Nat) (l : List Vr) (a b : Int) (w : World) (hr : RowAt w w.heap.size A (vrsC l)) (hn : n = l.length) (hs : n ≤ 1048576) (hw : WfVr l) (hc1 : n ≤ c) (hc2 : c ≤ maxLen) :
    Calls Try.prog 19 #[.slice A n c, .int .i64 a, .int .i64 b] w (OpfPost (obR l a b) w) := by
  have H1 := Lib.hid (iMayR_any A n c l a w hr hn hs hw hc1 hc2)
  have H2 := Lib.hid (fun W (hb : Below w.heap.size w W) => iMayR_any A n c l b W ((hr.below hb).mono hb.size) hn hs hw hc1 hc2)
  have HA := Lib.hid (fun W (hb : Below w.heap.size w W) => iSeen_any A n c l a W ((hr.below hb).mono hb.size) hn hs hw hc1 hc2)
  have HB := Lib.hid (fun W (hb : Below w.heap.size w W) => iSeen_any A n c l b W ((hr.below hb).mono hb.size) hn hs hw hc1 hc2)
  have HGA := Lib.hid (seenB_good (at_ := a) hw (by omega))
  have HGB := Lib.hid (seenB_good (at_ := b) hw (by omega))
  have HN := Lib.hid (fun h => obR_no (l := l) (a := a) (b := b) h)
  have HY := Lib.hid (fun h1 h2 => obR_yes (l := l) (a := a) (b := b) h1 h2)
  have HYA := Lib.hid (fun h => seenR_yes (l := l) (at_ := a) h)
  have HYB := Lib.hid (fun h => seenR_yes (l := l) (at_ := b) h)
  clear hr hn hs hw hc1 hc2
  go_enter Try.func19, Try.ntmps19
  go_wp2_with fail
  refine (H1.out).mono ?_
  rintro e w2 ⟨rfl, hb2⟩
  have HB2 := Lib.hid hb2; clear hb2
  cases h1 : sweepB okVr l a
  · have HE := Lib.hid (HN.out (by rw [h1]; rfl))
    clear h1
    go_wp2_with fail
    go_ret
    rw [HE.out]
    exact ops_nil HB2.out
  · go_wp2_with fail
    refine (H2.out _ HB2.out).mono ?_
    rintro e w3 ⟨rfl, hb3⟩
    have HB3 := Lib.hid (HB2.out.trans (hb3.mono HB2.out.size)); clear hb3
    cases h2 : sweepB okVr l b
    · have HE := Lib.hid (HN.out (by rw [h1, h2]; rfl))
      clear h1 h2
      go_wp2_with fail
      go_ret
      rw [HE.out]
      exact ops_nil HB3.out
    · have HE := Lib.hid (HY.out h1 h2)
      rw [HYA.out h1] at HA
      rw [HYB.out h2] at HB
      clear h1 h2 HN HY HYA HYB H1 H2 HB2
      generalize seenA l a = p1 at *
      generalize seenA l b = p2 at *
      go_wp2_with fail
      refine (HA.out _ HB3.out).mono ?_
      rintro e w4 ⟨_, rfl, ⟨A4, c4, rfl, ho4⟩, hb4⟩
      have HO4 := Lib.hid ho4
      have HB4 := Lib.hid (HB3.out.trans (hb4.mono HB3.out.size)); clear hb4 ho4
      obtain ⟨n4, hn4⟩ : ∃ n4, p1.length = n4 := ⟨_, rfl⟩
      have HN4 := Lib.hid hn4
      rw [hn4] at HO4
      rw [hn4]
      clear hn4
      go_wp2_with fail
      refine (HB.out _ HB4.out).mono ?_
      rintro e w5 ⟨_, rfl, ⟨A5, c5, rfl, ho5⟩, hb5⟩
      have HR4 := Lib.hid ((RowAt.of_own HO4.out).below hb5 |>.mono hb5.size)
      have HB5 := Lib.hid (HB4.out.trans (hb5.mono HB4.out.size)); clear hb5
      obtain ⟨n5, hn5⟩ : ∃ n5, p2.length = n5 := ⟨_, rfl⟩
      have HN5 := Lib.hid hn5
      rw [hn5] at ho5
      have HR5 := Lib.hid (RowAt.of_own ho5)
      rw [hn5]
      clear hn5 ho5
      have HC := Lib.hid (iOpfA_any A4 n4 c4 p1 A5 n5 c5 p2 w5 HR4.out HN4.out.symm (by rw [← HN4.out]; exact HGA.out.1) HGA.out.2 HR5.out HN5.out.symm (by rw [← HN5.out]; exact HGB.out.1) HGB.out.2)
      clear HR4 HR5 HO4 HA HB HGA HGB HN4 HN5
      rw [← HE.out] at HC
      generalize obR l a b = L at *
      go_wp2_with fail
      refine (HC.out).mono ?_
      rintro e w6 ⟨_, rfl, ⟨A6, c6, rfl, ho6⟩, hb6⟩
      obtain ⟨n6, hn6⟩ : ∃ n6, L.length = n6 := ⟨_, rfl⟩
      have HP := Lib.hid (show OpfPost L w (.returned (.slice A6 n6 c6)) w6 from by
        rw [← hn6]
        exact ⟨_, rfl, ⟨A6, c6, rfl, own_leF ho6 HB5.out.size⟩, HB5.out.trans (hb6.mono HB5.out.size)⟩)
      rw [hn6]
      clear hn6 ho6 hb6 HC
      go_wp2_with fail
      go_ret
      exact HP.out

set_option maxRecDepth 100000 in
set_option maxHeartbeats 4000000 in
theorem sOpb_any (A : Option Addr) (n c : Nat) (l : List Vr) (a b : Int) (w : World) (hr : RowAt w w.heap.size A (vrsC l)) (hn : n = l.length) (hs : n ≤ 1048576) (hw : WfVr l) :
    Calls Try.prog 17 #[.slice A n c, .int .i64 a, .int .i64 b] w (OpfPost (obR l a b) w) := by
  have HV := Lib.hid (sVers_any A n c l w hr hn hs hw)
  have HIA := Lib.hid (fun W => inRange_any a 0 20 W)
  have HIB := Lib.hid (fun W => inRange_any b 0 20 W)
  have HLA := Lib.hid (fun (h : sweepB okVr l a = true) W (hb : Below w.heap.size w W) => sSeenL_any A n c l a W ((hr.below hb).mono hb.size) hn (by have := sweepB_len h; omega))
  have HLB := Lib.hid (fun (h : sweepB okVr l b = true) W (hb : Below w.heap.size w W) => sSeenL_any A n c l b W ((hr.below hb).mono hb.size) hn (by have := sweepB_len h; omega))
  have HGA := Lib.hid (seenB_good (at_ := a) hw (by omega))
  have HGB := Lib.hid (seenB_good (at_ := b) hw (by omega))
  have HSA := Lib.hid (show sweepB okVr l a = (versB l && decide (0 ≤ a) && decide (a ≤ 20)) from rfl)
  have HSB := Lib.hid (show sweepB okVr l b = (versB l && decide (0 ≤ b) && decide (b ≤ 20)) from rfl)
  have HN := Lib.hid (fun h => obR_no (l := l) (a := a) (b := b) h)
  have HY := Lib.hid (fun h1 h2 => obR_yes (l := l) (a := a) (b := b) h1 h2)
  clear hr hn hs hw
  generalize sweepB okVr l a = ra at *
  generalize sweepB okVr l b = rb at *
  go_enter Try.func17, Try.ntmps17
  go_wp2_with fail
  refine (HV.out).mono ?_
  rintro e w2 ⟨rfl, hb2⟩
  have HB2 := Lib.hid hb2; clear hb2 HV
  cases h1 : versB l
  · have HE := Lib.hid (HN.out (by rw [HSA.out, h1]; rfl))
    clear h1
    go_wp2_with fail
    go_ret
    rw [HE.out]
    exact ops_nil HB2.out
  · have HV := Lib.hid h1
    clear h1
    cases h3 : (decide ((0 : Int) ≤ a) && decide (a ≤ 20))
    · have HE := Lib.hid (HN.out (by rw [show ra = false by rw [HSA.out, Bool.and_assoc, h3, Bool.and_false]]; rfl))
      rw [h3] at HIA
      clear h3
      go_wp2_with fail
      refine (HIA.out _).mono ?_
      rintro e w' ⟨rfl, rfl⟩
      go_wp2_with fail
      go_ret
      rw [HE.out]
      exact ops_nil HB2.out
    · have HTA := Lib.hid (show ra = true by rw [HSA.out, Bool.and_assoc, h3, HV.out]; rfl)
      rw [h3] at HIA
      clear h3
      go_wp2_with fail
      refine (HIA.out _).mono ?_
      rintro e w' ⟨rfl, rfl⟩
      cases h4 : (decide ((0 : Int) ≤ b) && decide (b ≤ 20))
      · have HE := Lib.hid (HN.out (by rw [HSB.out, Bool.and_assoc, h4, Bool.and_false, Bool.and_false]))
        rw [h4] at HIB
        clear h4
        go_wp2_with fail
        refine (HIB.out _).mono ?_
        rintro e w' ⟨rfl, rfl⟩
        go_wp2_with fail
        go_ret
        rw [HE.out]
        exact ops_nil HB2.out
      · have HTB := Lib.hid (show rb = true by rw [HSB.out, Bool.and_assoc, h4, HV.out]; rfl)
        rw [h4] at HIB
        clear h4
        have HE := Lib.hid (HY.out HTA.out HTB.out)
        have HA := Lib.hid (HLA.out HTA.out)
        have HB := Lib.hid (HLB.out HTB.out)
        clear HLA HLB HTA HTB HN HY HSA HSB HV
        go_wp2_with fail
        refine (HIB.out _).mono ?_
        rintro e w' ⟨rfl, rfl⟩
        generalize seenA l a = p1 at *
        generalize seenA l b = p2 at *
        go_wp2_with fail
        refine (HA.out _ HB2.out).mono ?_
        rintro e w4 ⟨_, rfl, ⟨A4, c4, rfl, ho4⟩, hb4⟩
        have HO4 := Lib.hid ho4
        have HB4 := Lib.hid (HB2.out.trans (hb4.mono HB2.out.size)); clear hb4 ho4
        obtain ⟨n4, hn4⟩ : ∃ n4, p1.length = n4 := ⟨_, rfl⟩
        have HN4 := Lib.hid hn4
        rw [hn4] at HO4
        rw [hn4]
        clear hn4
        go_wp2_with fail
        refine (HB.out _ HB4.out).mono ?_
        rintro e w5 ⟨_, rfl, ⟨A5, c5, rfl, ho5⟩, hb5⟩
        have HR4 := Lib.hid ((RowAt.of_own HO4.out).below hb5 |>.mono hb5.size)
        have HB5 := Lib.hid (HB4.out.trans (hb5.mono HB4.out.size)); clear hb5
        obtain ⟨n5, hn5⟩ : ∃ n5, p2.length = n5 := ⟨_, rfl⟩
        have HN5 := Lib.hid hn5
        rw [hn5] at ho5
        have HR5 := Lib.hid (RowAt.of_own ho5)
        rw [hn5]
        clear hn5 ho5
        have hs4 : n4 ≤ 1048576 := by rw [← HN4.out]; exact HGA.out.1
        have hs5 : n5 ≤ 1048576 := by rw [← HN5.out]; exact HGB.out.1
        have HP1 := Lib.hid (fun W (hb : Below w5.heap.size w5 W) => sPairs_any A4 n4 c4 p1 W ((HR4.out.below hb).mono hb.size) HN4.out.symm hs4 HGA.out.2)
        have HP2 := Lib.hid (fun W (hb : Below w5.heap.size w5 W) => sPairs_any A5 n5 c5 p2 W ((HR5.out.below hb).mono hb.size) HN5.out.symm hs5 HGB.out.2)
        have HC := Lib.hid (fun W (hb : Below w5.heap.size w5 W) => sOpf_any A4 n4 c4 p1 A5 n5 c5 p2 W ((HR4.out.below hb).mono hb.size) HN4.out.symm hs4 ((HR5.out.below hb).mono hb.size) HN5.out.symm hs5)
        clear HR4 HR5 HO4 HA HB HGA HGB HN4 HN5 hs4 hs5
        go_wp2_with fail
        refine (HP1.out _ (Below.refl _ _)).mono ?_
        rintro e w6 ⟨rfl, hb6⟩
        have HB6 := Lib.hid hb6; clear hb6
        cases h5 : pairsB p1
        · have HF := Lib.hid (show obR l a b = [] by rw [HE.out, opfR_no (by rw [h5]; rfl)])
          clear h5
          go_wp2_with fail
          go_ret
          rw [HF.out]
          exact ops_nil (HB5.out.trans (HB6.out.mono HB5.out.size))
        · go_wp2_with fail
          refine (HP2.out _ HB6.out).mono ?_
          rintro e w7 ⟨rfl, hb7⟩
          have HB7 := Lib.hid (HB6.out.trans (hb7.mono HB6.out.size)); clear hb7
          cases h6 : pairsB p2
          · have HF := Lib.hid (show obR l a b = [] by rw [HE.out, opfR_no (by rw [h5, h6]; rfl)])
            clear h5 h6
            go_wp2_with fail
            go_ret
            rw [HF.out]
            exact ops_nil (HB5.out.trans (HB7.out.mono HB5.out.size))
          · have HF := Lib.hid (show obR l a b = opsF p1 p2 by rw [HE.out, opfR_yes h5 h6])
            clear h5 h6 HE
            go_wp2_with fail
            refine (HC.out _ HB7.out).mono ?_
            rintro e w8 ⟨A8, c8, rfl, ho8⟩
            rw [← HF.out] at ho8
            rw [← HF.out]
            generalize obR l a b = L at *
            obtain ⟨n8, hn8⟩ : ∃ n8, L.length = n8 := ⟨_, rfl⟩
            have HBA := Lib.hid (HB5.out.trans (HB7.out.mono HB5.out.size))
            have HP := Lib.hid (show OpfPost L w (.returned (.slice A8 n8 c8)) w8 from by
              rw [← hn8]
              exact ⟨_, rfl, ⟨A8, c8, rfl, own_leF ho8.1 HBA.out.size⟩, HBA.out.trans (ho8.2.mono HBA.out.size)⟩)
            rw [hn8]
            clear hn8 ho8 HC
            go_wp2_with fail
            go_ret
            exact HP.out
end Go.Proofs.Ytcaekjbalkbliaa
