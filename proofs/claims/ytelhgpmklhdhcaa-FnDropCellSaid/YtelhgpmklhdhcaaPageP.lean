/- What SpaceOf reckons (chapter 1), in the program and in the model: contracts of firstByte, lowest, room, spare, SpaceOf. Conditions: the slots lie in a row; for the inner ones: the page is valid. -/
import Derived.Test.YtelhgpmklhdhcaaPageS
import Derived.StillTailTactics
import Derived.Deep.RegionWith
set_option linter.unusedVariables false
set_option linter.unusedSimpArgs false
namespace Go.Proofs.Ytelhgpmklhdhcaa
open Go.RowKit Go.ChangeShapes Go.WideShapes

def GoodP (s : ByteArray) (n : Nat) (p : Sl) : Prop :=
  (p.1 = -1 ∧ p.2 = 0) ∨ (2 * (n : Int) ≤ p.1 ∧ 1 ≤ p.2 ∧ p.1 + p.2 ≤ 48 ∧ cellB (cutS s p.1.toNat p.2.toNat) = true)
theorem implV_good {s : ByteArray} {n : Nat} (h48 : s.size = 48) : ∀ (sl : List Sl) (ov : List UInt8), implV s n ov sl = true → ∀ p ∈ sl, GoodP s n p
  | [], _, _ => by simp
  | p :: ps, ov, h => by
    cases hf : freeB p.1 p.2
    · cases hF : fitB (2 * (n : Int)) p.1 p.2
      · rw [implV_nofit hf hF] at h; cases h
      · cases hc : cellB (cutS s p.1.toNat p.2.toNat)
        · rw [implV_nocell hf hF hc] at h; cases h
        · cases hp : ((ov.drop p.1.toNat).take p.2.toNat).all isPt
          · rw [implV_nopts hf hF hc hp] at h; cases h
          · rw [implV_lay hf hF hc hp] at h
            obtain ⟨a, z, ha, hz, haz, hna⟩ := fit_nat hF
            have h3 := cellB_pos hc
            rw [cutS_size (by omega)] at h3
            intro q hq
            rcases List.mem_cons.1 hq with rfl | hq
            · exact .inr ⟨by omega, by omega, by omega, hc⟩
            · exact implV_good h48 ps _ h q hq
    · rw [implV_free hf] at h
      intro q hq
      rcases List.mem_cons.1 hq with rfl | hq
      · unfold freeB at hf; simp at hf; exact .inl hf
      · exact implV_good h48 ps _ h q hq
theorem iValid_good {s : ByteArray} {sl : List Sl} (h : iValid s sl = true) : s.size = 48 ∧ 2 * sl.length ≤ 48 ∧ ∀ p ∈ sl, GoodP s sl.length p := by
  unfold iValid valid48 at h
  simp only [Bool.and_eq_true, decide_eq_true_eq] at h
  exact ⟨h.1.1, h.1.2, implV_good h.1.1 sl _ h.2⟩

def lowA : Int → List Sl → Int
  | m, [] => m
  | m, p :: ps => lowA (if 0 ≤ p.1 then min m p.1 else m) ps
def sumA : Int → List Sl → Int
  | m, [] => m
  | m, p :: ps => sumA (if 0 ≤ p.1 then m - p.2 else m) ps
def lowP (sl : List Sl) : Int := lowA 48 sl
def roomP (sl : List Sl) : Int := lowP sl - 2 * (sl.length : Int)
def spareP (sl : List Sl) : Int := sumA (48 - 2 * (sl.length : Int)) sl

theorem lowA_bd : ∀ (sl : List Sl) (m : Int), 0 ≤ m → m ≤ 48 → 0 ≤ lowA m sl ∧ lowA m sl ≤ 48
  | [], m, h0, h1 => ⟨h0, h1⟩
  | p :: ps, m, h0, h1 => by
    unfold lowA
    split
    · exact lowA_bd ps _ (by omega) (by omega)
    · exact lowA_bd ps m h0 h1

theorem good_free {s : ByteArray} {n : Nat} {p : Sl} (h : GoodP s n p) : freeB p.1 p.2 = !decide (0 ≤ p.1) := by
  rcases h with ⟨h1, h2⟩ | ⟨h1, h2, h3, _⟩
  · unfold freeB; simp [h1, h2]
  · have : ¬ p.1 = -1 := by omega
    have h5 : 0 ≤ p.1 := by omega
    unfold freeB
    simp [this, h5]
theorem good_sum {s : ByteArray} {n : Nat} {p : Sl} (h : GoodP s n p) (m : Int) : (if 0 ≤ p.1 then m - p.2 else m) = m - p.2 := by
  rcases h with ⟨h1, h2⟩ | ⟨h1, h2, h3, _⟩
  · rw [if_neg (by omega)]; omega
  · rw [if_pos (by omega)]
theorem good_bd {s : ByteArray} {n : Nat} {p : Sl} (h : GoodP s n p) : -1 ≤ p.1 ∧ p.1 ≤ 48 ∧ 0 ≤ p.2 ∧ p.2 ≤ 48 := by
  rcases h with ⟨h1, h2⟩ | ⟨h1, h2, h3, _⟩ <;> omega

set_option maxRecDepth 100000 in
set_option maxHeartbeats 1000000 in
theorem firstByte_any (s : ByteArray) (N : Nat) (A : Option Addr) (n c : Nat) (sl : List Sl) (w : World) (hr : RowAt w w.heap.size A (slC sl)) (hn : n = sl.length) (hs : n ≤ 1048576) (hg : ∀ p ∈ sl, GoodP s N p) :
    Calls Try.prog 67 #[.slice A n c] w fun e w' => e = .returned (.int .i64 (lowP sl)) ∧ Below w.heap.size w w' := by
  have HR := Lib.hid hr; clear hr
  have HN := Lib.hid hn; clear hn
  have HG := Lib.hid hg; clear hg
  go_enter Try.func67, Try.ntmps67
  go_wp2
  go_loopw [3, 8] (fun m i wr => ∃ (k : Nat) (v : Int), i = .int .i64 k ∧ m = .int .i64 v ∧ k ≤ n ∧ 0 ≤ v ∧ v ≤ 48 ∧ lowA v (sl.drop k) = lowP sl ∧ Below w.heap.size w wr) (fun _ i _ => n - (intOf i).toNat)
  case atStart => exact ⟨0, 48, rfl, rfl, by omega, by omega, by omega, rfl, Below.refl _ _⟩
  case round =>
    obtain ⟨k, v, rfl, rfl, hk, hv0, hv1, he, hb⟩ := hrel
    have HE := Lib.hid he; clear he
    have HB := Lib.hid hb; clear hb
    by_cases hlt : k < n
    · have hkl : k < sl.length := by have := HN.out; omega
      obtain ⟨b, off, rfl, hbw, e0, e1⟩ := slots_at (HR.out.below HB.out) hkl
      have hgd := HG.out sl[k] (List.getElem_mem hkl)
      have hfr := good_free hgd
      obtain ⟨hb1, hb2, hb3, hb4⟩ := good_bd hgd
      have HD := Lib.hid (drop_at hkl)
      have HF := Lib.hid (fun w => isFree_any sl[k].1 sl[k].2 w)
      rw [hfr] at HF
      clear hgd hfr
      generalize hx1 : sl[k].1 = x1 at *
      generalize hx2 : sl[k].2 = x2 at *
      by_cases hx : 0 ≤ x1
      · rw [show (!decide (0 ≤ x1)) = false by simp [hx]] at HF
        have HK := Lib.hid (show lowA (min v x1) (sl.drop (k + 1)) = lowP sl by
          rw [← HE.out, HD.out, lowA, hx1, if_pos hx])
        clear hx1 hx2
        go_wp2_with fail
        refine (HF.out _).mono ?_
        rintro e w3 ⟨rfl, hb3'⟩
        have f0 : w3.cell? ⟨wr.heap.size, 0, none⟩ = some (.int .i64 x1) := (hb3'.cell (p := ⟨wr.heap.size, 0, none⟩) (by simp)).trans (by simp)
        have HB3 := Lib.hid (HB.out.trans ((((Below.refl _ _).alloc (Nat.le_refl _) _).trans (hb3'.mono (by simp))).mono HB.out.size)); clear hb3'
        go_wp2_with fail
        go_roundw
        case rel => exact ⟨k + 1, min v x1, by go_num, rfl, by omega, by omega, by omega, HK.out, HB3.out⟩
        case measure => simp [intOf]; omega
      · rw [show (!decide (0 ≤ x1)) = true by simp [hx]] at HF
        have HK := Lib.hid (show lowA v (sl.drop (k + 1)) = lowP sl by
          rw [← HE.out, HD.out, lowA, hx1, if_neg hx])
        clear hx1 hx2
        go_wp2_with fail
        refine (HF.out _).mono ?_
        rintro e w3 ⟨rfl, hb3'⟩
        have HB3 := Lib.hid (HB.out.trans ((((Below.refl _ _).alloc (Nat.le_refl _) _).trans (hb3'.mono (by simp))).mono HB.out.size)); clear hb3'
        go_wp2_with fail
        go_roundw
        case rel => exact ⟨k + 1, v, by go_num, rfl, by omega, hv0, hv1, HK.out, HB3.out⟩
        case measure => simp [intOf]; omega
    · obtain rfl : k = n := by omega
      have HL := Lib.hid (show v = lowP sl by
        have := HE.out
        rw [HN.out, List.drop_length] at this
        exact this)
      go_wp2_with fail
      go_ret
      exact ⟨by rw [HL.out]; rfl, HB.out⟩

set_option maxRecDepth 100000 in
set_option maxHeartbeats 1000000 in
theorem lowest_any (s : ByteArray) (N : Nat) (A : Option Addr) (n c : Nat) (sl : List Sl) (w : World) (h : PageAt w s A n sl) (hg : ∀ p ∈ sl, GoodP s N p) :
    Calls Try.prog 130 #[.agg #[.string s, .slice A n c]] w fun e w' => e = .returned (.int .i64 (lowP sl)) ∧ Below w.heap.size w w' := by
  obtain ⟨hn, hr, _, _, hs⟩ := h
  have HR := Lib.hid hr; clear hr
  have HN := Lib.hid hn; clear hn
  have HG := Lib.hid hg; clear hg
  have HB0 := Lib.hid ((Below.refl w.heap.size w).alloc (Nat.le_refl _) (.cells #[.string s, .slice A n c] 25))
  have hc1 : (w.alloc (.cells #[.string s, .slice A n c] 25)).cell? ⟨w.heap.size, 1, none⟩ = some (.slice A n c) := by simp
  have HC1 := Lib.hid hc1; clear hc1
  obtain ⟨W, hW⟩ : ∃ W, w.alloc (.cells #[.string s, .slice A n c] 25) = W := ⟨_, rfl⟩
  rw [hW] at HB0 HC1
  go_enter Try.func130, Try.ntmps130
  have hc1 := HC1.out
  go_wp2_with fail
  clear hW hc1
  go_loop [3, 4] (fun m i => ∃ (k : Nat) (v : Int), i = .int .i64 k ∧ m = .int .i64 v ∧ k ≤ n ∧ 0 ≤ v ∧ v ≤ 48 ∧ lowA v (sl.drop k) = lowP sl) (fun _ i => n - (intOf i).toNat)
  case atStart => exact ⟨0, 48, rfl, rfl, by omega, by omega, by omega, rfl⟩
  case round =>
    obtain ⟨k, v, rfl, rfl, hk, hv0, hv1, he⟩ := hrel
    have HE := Lib.hid he; clear he
    have hc1 := HC1.out
    by_cases hlt : k < n
    · have hkl : k < sl.length := by have := HN.out; omega
      obtain ⟨b, off, rfl, hbw, e0, e1⟩ := slots_at (HR.out.below HB0.out) hkl
      have hgd := HG.out sl[k] (List.getElem_mem hkl)
      obtain ⟨hb1, hb2, hb3, hb4⟩ := good_bd hgd
      have HD := Lib.hid (drop_at hkl)
      clear hgd
      generalize hx1 : sl[k].1 = x1 at *
      generalize hx2 : sl[k].2 = x2 at *
      by_cases hx : 0 ≤ x1
      · have HK := Lib.hid (show lowA (min v x1) (sl.drop (k + 1)) = lowP sl by
          rw [← HE.out, HD.out, lowA, hx1, if_pos hx])
        clear hx1 hx2
        go_wp2_with fail
        go_round
        case rel => exact ⟨k + 1, min v x1, by go_num, rfl, by omega, by omega, by omega, HK.out⟩
        case measure => simp [intOf]; omega
      · have HK := Lib.hid (show lowA v (sl.drop (k + 1)) = lowP sl by
          rw [← HE.out, HD.out, lowA, hx1, if_neg hx])
        clear hx1 hx2
        go_wp2_with fail
        go_round
        case rel => exact ⟨k + 1, v, by go_num, rfl, by omega, hv0, hv1, HK.out⟩
        case measure => simp [intOf]; omega
    · obtain rfl : k = n := by omega
      have HL := Lib.hid (show v = lowP sl by
        have := HE.out
        rw [HN.out, List.drop_length] at this
        exact this)
      go_wp2_with fail
      go_ret
      exact ⟨by rw [HL.out]; rfl, HB0.out⟩

set_option maxRecDepth 100000 in
set_option maxHeartbeats 1000000 in
theorem spare_any (s : ByteArray) (N : Nat) (A : Option Addr) (n c : Nat) (sl : List Sl) (w : World) (h : PageAt w s A n sl) (h24 : 2 * n ≤ 48) (hg : ∀ p ∈ sl, GoodP s N p) :
    Calls Try.prog 127 #[.agg #[.string s, .slice A n c]] w fun e w' => e = .returned (.int .i64 (spareP sl)) ∧ Below w.heap.size w w' := by
  obtain ⟨hn, hr, _, _, hs⟩ := h
  have HR := Lib.hid hr; clear hr
  have HN := Lib.hid hn; clear hn
  have HG := Lib.hid hg; clear hg
  have HB0 := Lib.hid ((Below.refl w.heap.size w).alloc (Nat.le_refl _) (.cells #[.string s, .slice A n c] 25))
  have hc1 : (w.alloc (.cells #[.string s, .slice A n c] 25)).cell? ⟨w.heap.size, 1, none⟩ = some (.slice A n c) := by simp
  have HC1 := Lib.hid hc1; clear hc1
  obtain ⟨W, hW⟩ : ∃ W, w.alloc (.cells #[.string s, .slice A n c] 25) = W := ⟨_, rfl⟩
  rw [hW] at HB0 HC1
  go_enter Try.func127, Try.ntmps127
  have hc1 := HC1.out
  go_wp2_with fail
  clear hW hc1
  go_loop [3, 4] (fun m i => ∃ (k : Nat) (v : Int), i = .int .i64 k ∧ m = .int .i64 v ∧ k ≤ n ∧ - 48 * (k : Int) ≤ v ∧ v ≤ 48 ∧ sumA v (sl.drop k) = spareP sl) (fun _ i => n - (intOf i).toNat)
  case atStart => exact ⟨0, 48 - 2 * (n : Int), rfl, rfl, by omega, by omega, by omega, by unfold spareP; rw [← HN.out]; rfl⟩
  case round =>
    obtain ⟨k, v, rfl, rfl, hk, hv0, hv1, he⟩ := hrel
    have HE := Lib.hid he; clear he
    have hc1 := HC1.out
    by_cases hlt : k < n
    · have hkl : k < sl.length := by have := HN.out; omega
      obtain ⟨b, off, rfl, hbw, e0, e1⟩ := slots_at (HR.out.below HB0.out) hkl
      have hgd := HG.out sl[k] (List.getElem_mem hkl)
      obtain ⟨hb1, hb2, hb3, hb4⟩ := good_bd hgd
      have HD := Lib.hid (drop_at hkl)
      clear hgd
      generalize hx1 : sl[k].1 = x1 at *
      generalize hx2 : sl[k].2 = x2 at *
      by_cases hx : 0 ≤ x1
      · have HK := Lib.hid (show sumA (v - x2) (sl.drop (k + 1)) = spareP sl by
          rw [← HE.out, HD.out, sumA, hx1, if_pos hx, hx2])
        clear hx1 hx2
        go_wp2_with fail
        go_round
        case rel => exact ⟨k + 1, v - x2, by go_num, rfl, by omega, by omega, by omega, HK.out⟩
        case measure => simp [intOf]; omega
      · have HK := Lib.hid (show sumA v (sl.drop (k + 1)) = spareP sl by
          rw [← HE.out, HD.out, sumA, hx1, if_neg hx])
        clear hx1 hx2
        go_wp2_with fail
        go_round
        case rel => exact ⟨k + 1, v, by go_num, rfl, by omega, by omega, hv1, HK.out⟩
        case measure => simp [intOf]; omega
    · obtain rfl : k = n := by omega
      have HL := Lib.hid (show v = spareP sl by
        have := HE.out
        rw [HN.out, List.drop_length] at this
        exact this)
      go_wp2_with fail
      go_ret
      exact ⟨by rw [HL.out]; rfl, HB0.out⟩

theorem PageAt.below {s : ByteArray} {l : List Sl} {A : Option Addr} {n : Nat} {w w' : World} (h : PageAt w s A n l) (hb : Below w.heap.size w w') : PageAt w' s A n l :=
  ⟨h.len, (h.row.below hb).mono hb.size, h.wf, h.size, h.small⟩

set_option maxHeartbeats 1000000 in
theorem room_s_any (s : ByteArray) (N : Nat) (A : Option Addr) (n c : Nat) (sl : List Sl) (w : World) (h : PageAt w s A n sl) (h24 : 2 * n ≤ 48) (hg : ∀ p ∈ sl, GoodP s N p) :
    Calls Try.prog 128 #[.agg #[.string s, .slice A n c]] w fun e w' => e = .returned (.int .i64 (roomP sl)) ∧ Below w.heap.size w w' := by
  have HN := Lib.hid h.len
  have HC := Lib.hid (fun W (hb : Below w.heap.size w W) => lowest_any s N A n c sl W (h.below hb) hg)
  obtain ⟨hl0, hl1⟩ := lowA_bd sl 48 (by omega) (by omega)
  have hl0' : 0 ≤ lowP sl := hl0
  have hl1' : lowP sl ≤ 48 := hl1
  have e1 : IntKind.i64.wrap (2 * (n : Int)) = 2 * (n : Int) := IntWalk.i64_in _ (by omega)
  have e2 : IntKind.i64.wrap (lowP sl - 2 * (n : Int)) = lowP sl - 2 * (n : Int) := IntWalk.i64_in _ (by omega)
  clear h hg hl0 hl1
  go_enter Try.func128, Try.ntmps128
  go_wp2_with fail
  go_region_with (go_at_call 130
                  refine (HC.out _ ?_).mono ?_
                  · exact Below.drew ((Below.refl _ _).alloc (Nat.le_refl _) _)
                  rintro e w3 ⟨rfl, hb3⟩
                  have f1 : w3.cell? ⟨w.heap.size, 1, none⟩ = some (.slice A n c) := (hb3.cell (p := ⟨w.heap.size, 1, none⟩) (by simp)).trans (by simp)
                  have HB3 := Lib.hid ((Below.drew ((Below.refl w.heap.size w).alloc (Nat.le_refl _) (.cells #[.string s, .slice A n c] 25))).trans (hb3.mono (by simp))); clear hb3)
  all_goals go_wp2_with fail
  all_goals go_ret
  all_goals exact ⟨by unfold roomP; rw [← HN.out]; rfl, HB3.out⟩

theorem first_below {B : Nat} {w0 w w' : World} (h : Below B w0 w) (hb : Below w.heap.size w w') (hB : B ≤ w0.heap.size) : Below B w0 w' := h.trans (hb.mono (Nat.le_trans hB h.size))
def TwoPost (a b : Int) (w : World) (e : Ending) (w' : World) : Prop := e = .returned (.tuple #[.int .i64 a, .int .i64 b]) ∧ Below w.heap.size w w'
def spaceA (s : ByteArray) (sl : List Sl) : Int := if iValid s sl = true then roomP sl else -1
def spaceB (s : ByteArray) (sl : List Sl) : Int := if iValid s sl = true then spareP sl else -1


end Go.Proofs.Ytelhgpmklhdhcaa
