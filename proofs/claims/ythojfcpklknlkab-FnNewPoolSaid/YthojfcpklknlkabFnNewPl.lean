/- The walk of the law of NewPool (P11), and what it asks. No condition. -/
import Derived.Test.YthojfcpklknlkabDrawT
import Derived.Test.YthojfcpklknlkabNewPool
import Derived.Test.YthojfcpklknlkabPoolH
set_option linter.unusedVariables false
set_option linter.unusedSimpArgs false
namespace Go.Proofs.Ythojfcpklknlkab
open Go.RowKit Go.ChangeShapes Go.WideShapes

/-! the plain mathematics -/
theorem newPool_fetch {m : Nat} (h1 : 1 ≤ m) (h5 : m ≤ 5) : ∃ L h', fetchR (List.replicate m (-1, 0, false)) 0 0 = some (L, h', 1) := by
  have h : m = 1 ∨ m = 2 ∨ m = 3 ∨ m = 4 ∨ m = 5 := by omega
  rcases h with rfl | rfl | rfl | rfl | rfl <;> exact ⟨_, _, rfl⟩
theorem newPool_ok {m : Nat} (h1 : 1 ≤ m) (h5 : m ≤ 5) : poolB (List.replicate m (-1, 0, false)) 0 = true := by
  have h : m = 1 ∨ m = 2 ∨ m = 3 ∨ m = 4 ∨ m = 5 := by omega
  rcases h with rfl | rfl | rfl | rfl | rfl <;> rfl
theorem poolN_cases (s : Int) : poolN s = [] ∨ ((poolN s).length ≠ 0 ∧ ((poolN s).length : Int) = s ∧ poolB (poolN s) 0 = true ∧ ∃ L h', fetchR (poolN s) 0 0 = some (L, h', 1)) := by
  cases hc : countB s
  · exact .inl (by unfold poolN; rw [hc]; rfl)
  · obtain ⟨h1, h5⟩ : 1 ≤ s ∧ s ≤ 5 := by
      unfold countB at hc
      simpa only [Bool.and_eq_true, decide_eq_true_eq] using hc
    obtain ⟨m, rfl⟩ := Int.eq_ofNat_of_zero_le (show 0 ≤ s by omega)
    have hp : poolN (m : Int) = List.replicate m (-1, 0, false) := by unfold poolN; rw [hc]; simp
    refine .inr ?_
    rw [hp, List.length_replicate]
    exact ⟨by omega, rfl, newPool_ok (by omega) (by omega), newPool_fetch (by omega) (by omega)⟩

/-! the law's own helpers -/
set_option maxHeartbeats 1000000 in
set_option maxRecDepth 100000 in
theorem equalFrames_same (A1 A2 : Option Addr) (n c1 c2 : Nat) (l : List Fr) (w : World) (h1 : RowAt w w.heap.size A1 (frsC l)) (h2 : RowAt w w.heap.size A2 (frsC l)) (hn : n = l.length) (hs : n ≤ 1048576) :
    Calls Try.prog 92 #[.slice A1 n c1, .slice A2 n c2] w fun e w' => e = .returned (.bool true) ∧ Below w.heap.size w w' := by
  have H1 := Lib.hid h1; clear h1
  have H2 := Lib.hid h2; clear h2
  have HN := Lib.hid hn; clear hn
  go_enter Try.func92, Try.ntmps92
  go_wp2
  go_loopw [5] (fun i wr => ∃ k : Nat, k ≤ n ∧ i = .int .i64 k ∧ Below w.heap.size w wr) (fun i _ => n - (intOf i).toNat)
  case atStart => exact ⟨0, by omega, rfl, Below.refl _ _⟩
  case round =>
    obtain ⟨k, hk, rfl, hb⟩ := hrel
    have HB := Lib.hid hb; clear hb
    by_cases hlt : k < n
    · have hk1 : k < l.length := by have := HN.out; omega
      obtain ⟨b, off, rfl, hbw, e0, e1, e2⟩ := frames_at (H1.out.below HB.out) hk1
      obtain ⟨b2, off2, rfl, hbw2, e3, e4, e5⟩ := frames_at (H2.out.below HB.out) hk1
      generalize hx1 : l[k].1 = x1 at *
      generalize hx2 : l[k].2.1 = x2 at *
      generalize hx3 : l[k].2.2 = x3 at *
      clear hx1 hx2 hx3
      have q0 : (x1 == x1) = true := by simp
      have q1 : (x1 != x1) = false := by simp
      have q2 : (x2 == x2) = true := by simp
      have q3 : (x2 != x2) = false := by simp
      have q4 : (x3 == x3) = true := by simp
      go_wp2_with fail
      go_still_tail 8, (by kernel_rfl)
      go_wp2_with fail
      go_roundw
      case rel => exact ⟨k + 1, by omega, by go_num, HB.out.trans (below_drewN _ _)⟩
      case measure => simp [intOf]; omega
    · obtain rfl : k = n := by omega
      go_wp2_with fail
      go_ret
      exact ⟨rfl, HB.out⟩

set_option maxHeartbeats 1000000 in
set_option maxRecDepth 100000 in
theorem equalPool_same (A1 A2 : Option Addr) (n c1 c2 : Nat) (l : List Fr) (h : Int) (w : World) (h1 : RowAt w w.heap.size A1 (frsC l)) (h2 : RowAt w w.heap.size A2 (frsC l)) (hn : n = l.length) (hs : n ≤ 1048576) :
    Calls Try.prog 39 #[.agg #[.slice A1 n c1, .int .i64 h], .agg #[.slice A2 n c2, .int .i64 h]] w fun e w' => e = .returned (.bool true) ∧ Below w.heap.size w w' := by
  have HB0 := Lib.hid (fun o1 o2 => ((Below.refl w.heap.size w).alloc (Nat.le_refl _) o1).alloc (by simp) o2)
  have HC := Lib.hid (fun W (hb : Below w.heap.size w W) => equalFrames_same A1 A2 n c1 c2 l W ((h1.below hb).mono hb.size) ((h2.below hb).mono hb.size) hn hs)
  clear h1 h2 hn
  have q0 : (h == h) = true := by simp
  have q1 : (h != h) = false := by simp
  go_enter Try.func39, Try.ntmps39
  go_wp2_with fail
  refine (HC.out _ (HB0.out _ _)).mono ?_
  rintro e w' ⟨rfl, hb⟩
  have HB := Lib.hid ((HB0.out _ _).trans (hb.mono (HB0.out _ _).size)); clear hb
  go_wp2_with fail
  go_ret
  exact ⟨rfl, HB.out⟩

set_option maxRecDepth 100000 in
set_option maxHeartbeats 1000000 in
theorem drawNewPool_any (A : Option Addr) (n c : Nat) (w : World) (h : BytesIn w A n c) :
    Calls Try.prog 37 #[.slice A n c] w fun e w' => (∃ s : Int, e = .returned (.int .i64 s)) ∧ Below w.heap.size w w' := by
  have HP := Lib.hid (newReader_any A n c w h)
  go_enter Try.func37, Try.ntmps37
  go_wp2_with fail
  refine (HP.out).mono ?_
  rintro e w1 ⟨rfl, hr1, hb1⟩
  have HB := Lib.hid hb1; clear hb1
  have HR := Lib.hid hr1; clear hr1
  go_wp2_with fail
  refine (oneNew_any 0 6 w.heap.size 0 7 7 #[.int .i64 3, .int .i64 2, .int .i64 4, .int .i64 1, .int .i64 5, .int .i64 0, .int .i64 6] 3 w1 HR.out (by omega) rfl (by omega) (by omega) (by decide)).mono ?_
  rintro e w2 ⟨s, rfl, _, _, _, hg⟩
  have HG := Lib.hid hg; clear hg
  go_wp2_with fail
  go_ret
  exact ⟨⟨s, rfl⟩, HB.out.trans (below_of_grown HG.out (Nat.le_refl _) HB.out.size)⟩

set_option maxRecDepth 100000 in
set_option maxHeartbeats 4000000 in
theorem walk_FnNewPool (A : Option Addr) (n c : Nat) (w : World) (h : BytesIn w A n c) :
    Calls Try.prog 9 #[.slice A n c] w fun e w' => e = .returned (.bool true) ∧ Below w.heap.size w w' := by
  have HD := Lib.hid (drawNewPool_any A n c w h)
  obtain ⟨hc, hm, _⟩ := h
  unfold maxLen at hm
  by_cases hb : n ≤ 1048576
  · go_enter Try.func9, Try.ntmps9
    go_wp2_with fail
    refine (HD.out).mono ?_
    rintro e w1 ⟨⟨s, rfl⟩, hb1⟩
    have HB1 := Lib.hid hb1; clear hb1
    have HI := Lib.hid (iNewPool_any s w1)
    have HS := Lib.hid (fun W => sNewPool_any s W)
    have HCS := Lib.hid (poolN_cases s)
    have HL5 := Lib.hid (poolN_len s)
    generalize poolN s = L at *
    have hl20 : L.length ≤ 1048576 := Nat.le_trans HL5.out (by decide)
    go_wp2_with fail
    refine (HI.out).mono ?_
    rintro e w2 ⟨v2, rfl, ⟨A2, c2, rfl, ho2⟩, hb2⟩
    have HB2 := Lib.hid (HB1.out.trans (hb2.mono HB1.out.size)); clear hb2
    go_wp2_with fail
    obtain ⟨W1, hW1⟩ : ∃ W1, w2.alloc (.cells #[.slice A2 L.length c2, .int .i64 0] 47) = W1 := ⟨_, rfl⟩
    rw [hW1]
    have f0 : W1.cell? ⟨w2.heap.size, 0, none⟩ = some (.slice A2 L.length c2) := by rw [← hW1]; simp
    have f1 : W1.cell? ⟨w2.heap.size, 1, none⟩ = some (.int .i64 0) := by rw [← hW1]; simp
    have hs1 : w2.heap.size < W1.heap.size := by rw [← hW1]; simp
    have HB3 := Lib.hid (show Below w.heap.size w W1 by rw [← hW1]; exact HB2.out.alloc HB2.out.size _)
    have HR := Lib.hid (show ∀ W, Below W1.heap.size W1 W → RowAt W W.heap.size A2 (frsC L) from fun W hb => by
      have hr1 : RowAt W1 W1.heap.size A2 (frsC L) := by
        rw [← hW1]; exact RowAt.of_own (ho2.alloc _) 
      exact (hr1.below hb).mono hb.size)
    clear hW1 ho2
    by_cases hz : L.length = 0
    · have hz0 : ((L.length : Int) == 0) = true := by rw [hz]; rfl
      clear hz
      go_region_with (first
        | (go_at_call 40
           refine (HS.out _).mono ?_
           rintro e w3 ⟨v3, rfl, ⟨A3, c3, rfl, ho3⟩, hb3⟩
           have hb13 := (Below.refl W1.heap.size W1).drew.trans (hb3.mono (Nat.le_refl _))
           have g0 : w3.cell? ⟨w2.heap.size, 0, none⟩ = some (.slice A2 L.length c2) := (hb13.cell (p := ⟨w2.heap.size, 0, none⟩) hs1).trans f0
           have g1 : w3.cell? ⟨w2.heap.size, 1, none⟩ = some (.int .i64 0) := (hb13.cell (p := ⟨w2.heap.size, 1, none⟩) hs1).trans f1
           have HE := Lib.hid (equalPool_same A2 A3 L.length c2 c3 L 0 w3 (HR.out _ hb13) (RowAt.of_own ho3) rfl hl20)
           have HB13 := Lib.hid hb13; clear hb3 hb13 ho3)
        | (go_at_call 39
           refine (HE.out).mono ?_
           rintro e w4 ⟨rfl, hb4⟩
           have HB14 := Lib.hid (HB13.out.trans (hb4.mono HB13.out.size))
           have k0 : w4.cell? ⟨w2.heap.size, 0, none⟩ = some (.slice A2 L.length c2) := (HB14.out.cell (p := ⟨w2.heap.size, 0, none⟩) hs1).trans f0
           have k1 : w4.cell? ⟨w2.heap.size, 1, none⟩ = some (.int .i64 0) := (HB14.out.cell (p := ⟨w2.heap.size, 1, none⟩) hs1).trans f1
           clear hb4 g0 g1))
      all_goals
        go_wp2_with fail
        clear HE
        go_region_with (first
          | (go_at_call 40
             refine (HS.out _).mono ?_
             rintro e w5 ⟨v5, rfl, ⟨A5, c5, rfl, ho5⟩, hb5⟩
             have hb15 := HB14.out.trans (Below.trans (Below.drew (Below.refl _ _)) (hb5.mono HB14.out.size))
             have g0 : w5.cell? ⟨w2.heap.size, 0, none⟩ = some (.slice A2 L.length c2) := (hb15.cell (p := ⟨w2.heap.size, 0, none⟩) hs1).trans f0
             have g1 : w5.cell? ⟨w2.heap.size, 1, none⟩ = some (.int .i64 0) := (hb15.cell (p := ⟨w2.heap.size, 1, none⟩) hs1).trans f1
             have HE := Lib.hid (equalPool_same A2 A5 L.length c2 c5 L 0 w5 (HR.out _ hb15) (RowAt.of_own ho5) rfl hl20)
             have HB15 := Lib.hid hb15; clear hb5 hb15 ho5)
          | (go_at_call 39
             refine (HE.out).mono ?_
             rintro e w6 ⟨rfl, hb6⟩
             have HB16 := Lib.hid (HB15.out.trans (hb6.mono HB15.out.size)); clear hb6))
        all_goals
          go_wp2_with fail
          go_ret
          exact ⟨rfl, HB3.out.trans (HB16.out.mono HB3.out.size)⟩
    · have hz0 : ((L.length : Int) == 0) = false := beq_eq_false_iff_ne.2 (by omega)
      have hcs : ((L.length : Int) == s) = true ∧ poolB L 0 = true ∧ ∃ M h', fetchR L 0 0 = some (M, h', 1) := by
        rcases HCS.out with h1 | ⟨_, h2, h3, h4⟩
        · exact absurd (by rw [h1]; rfl) hz
        · exact ⟨by simpa using h2, h3, h4⟩
      obtain ⟨hls, hpb, M, h', hf⟩ := hcs
      have HF := Lib.hid (fun W (hb : Below W1.heap.size W1 W) => iFetch_any A2 L.length c2 L 0 0 W (HR.out _ hb) rfl hl20)
      unfold FetchPost at HF
      rw [hf] at HF
      have HV := Lib.hid (fun W (hb : Below W1.heap.size W1 W) => iPool_any A2 L.length c2 L 0 W (HR.out _ hb) rfl hl20)
      rw [hpb] at HV
      clear hz hf hpb
      go_region_with (first
        | (go_at_call 40
           refine (HS.out _).mono ?_
           rintro e w3 ⟨v3, rfl, ⟨A3, c3, rfl, ho3⟩, hb3⟩
           have hb13 := (Below.refl W1.heap.size W1).drew.trans (hb3.mono (Nat.le_refl _))
           have g0 : w3.cell? ⟨w2.heap.size, 0, none⟩ = some (.slice A2 L.length c2) := (hb13.cell (p := ⟨w2.heap.size, 0, none⟩) hs1).trans f0
           have g1 : w3.cell? ⟨w2.heap.size, 1, none⟩ = some (.int .i64 0) := (hb13.cell (p := ⟨w2.heap.size, 1, none⟩) hs1).trans f1
           have HE := Lib.hid (equalPool_same A2 A3 L.length c2 c3 L 0 w3 (HR.out _ hb13) (RowAt.of_own ho3) rfl hl20)
           have HB13 := Lib.hid hb13; clear hb3 hb13 ho3)
        | (go_at_call 39
           refine (HE.out).mono ?_
           rintro e w4 ⟨rfl, hb4⟩
           have HB14 := Lib.hid (HB13.out.trans (hb4.mono HB13.out.size))
           have k0 : w4.cell? ⟨w2.heap.size, 0, none⟩ = some (.slice A2 L.length c2) := (HB14.out.cell (p := ⟨w2.heap.size, 0, none⟩) hs1).trans f0
           have k1 : w4.cell? ⟨w2.heap.size, 1, none⟩ = some (.int .i64 0) := (HB14.out.cell (p := ⟨w2.heap.size, 1, none⟩) hs1).trans f1
           clear hb4 g0 g1))
      all_goals
        clear HE
        go_wp2_with fail
        refine (HF.out _ HB14.out).mono ?_
        rintro e w5 ⟨v5, rfl, ⟨A5, c5, rfl, ho5⟩, hb5⟩
        have HB15 := Lib.hid (fun o => (HB14.out.trans (hb5.mono HB14.out.size)).alloc (HB14.out.trans (hb5.mono HB14.out.size)).size o)
        have m0 : w5.cell? ⟨w2.heap.size, 0, none⟩ = some (.slice A2 L.length c2) := (hb5.cell (p := ⟨w2.heap.size, 0, none⟩) (Nat.lt_of_lt_of_le hs1 HB14.out.size)).trans k0
        have m1 : w5.cell? ⟨w2.heap.size, 1, none⟩ = some (.int .i64 0) := (hb5.cell (p := ⟨w2.heap.size, 1, none⟩) (Nat.lt_of_lt_of_le hs1 HB14.out.size)).trans k1
        have hs5 : w2.heap.size < w5.heap.size := Nat.lt_of_lt_of_le hs1 (Nat.le_trans HB14.out.size hb5.size)
        clear hb5 ho5
        go_wp2_with fail
        refine (HV.out _ (HB15.out _)).mono ?_
        rintro e w6 ⟨rfl, hb6⟩
        have HB16 := Lib.hid ((HB15.out _).trans (hb6.mono (HB15.out _).size)); clear hb6
        have q0 : w6.cell? ⟨w2.heap.size, 0, none⟩ = some (.slice A2 L.length c2) := (HB16.out.cell (p := ⟨w2.heap.size, 0, none⟩) hs1).trans f0
        have q1 : w6.cell? ⟨w2.heap.size, 1, none⟩ = some (.int .i64 0) := (HB16.out.cell (p := ⟨w2.heap.size, 1, none⟩) hs1).trans f1
        go_wp2_with fail
        go_ret
        exact ⟨rfl, HB3.out.trans (HB16.out.mono HB3.out.size)⟩
  · go_enter Try.func9, Try.ntmps9
    go_wp2
    go_ret
    exact ⟨rfl, Below.refl _ _⟩
end Go.Proofs.Ythojfcpklknlkab
