/- The drawn pool's walk (the model's generator somePool). Condition: the reader lies in its block. -/
import Derived.Test.YtompbkphdjjpdaaDrawQ
set_option linter.unusedVariables false
set_option linter.unusedSimpArgs false
namespace Go.Proofs.Ytompbkphdjjpdaa
open Go.RowKit Go.ChangeShapes Go.WideShapes

theorem ints_two {lo hi a b : Int} (h1 : lo ≤ a) (h2 : a ≤ hi) (h3 : lo ≤ b) (h4 : b ≤ hi) : intsIn lo hi (#[.int .i64 a, .int .i64 b] : Array Value).toList = true := by
  simp [intsIn]; omega
theorem hm_len {m2 m : Nat} {L l : List Fr} (h1 : m2 = L.length) (h2 : L.length = l.length) (h3 : m = l.length) : m2 = m := by omega

set_option maxRecDepth 100000 in
set_option maxHeartbeats 8000000 in
theorem somePool_any (r N : Nat) (w : World) (h : Rdr 121 w r N) (hN : N ≤ 900000) :
    Calls Try.prog 71 #[.pointer (some ⟨r, 0, none⟩)] w (PoolDrawn r (N + 40) w) := by
  obtain ⟨Z, hZ⟩ : ∃ Z : Obj, Z = .cells #[.slice none 0 0, .int .i64 0] 28 := ⟨_, rfl⟩
  have hrl := h.lt
  have ho1 := fun cs m c t hm hm0 hm1 hs => oneNew_any 1 5 r N m c cs t (w.alloc Z) (h.alloc _) (by omega) hm hm0 hm1 hs
  rw [hZ] at ho1; simp only [World.size_alloc] at ho1
  have HO1 := Lib.hid ho1; clear ho1 h
  have HZ := Lib.hid hZ; clear hZ
  go_enter Try.func71, Try.ntmps71
  go_wp2_with fail
  refine (HO1.out _ _ _ _ (by rfl) (by omega) (by omega) (by rfl)).mono ?_
  rintro e w1 ⟨v, rfl, hv1, hv5, hr1, hg1⟩
  have HR1 := Lib.hid hr1; have HG1 := Lib.hid hg1; clear hr1 hg1
  go_wp2_with fail
  refine (sNewPool_any v w1).mono ?_
  rintro e w2 ⟨v2, rfl, ho2, hb2⟩
  obtain ⟨A0, c0, rfl, hs0⟩ := SpAt.start (w := w) HR1.out hrl (by rw [HZ.out]; exact HG1.out) HZ.out hv1 hv5 ho2 hb2
  have HS0 := Lib.hid hs0; clear hs0 ho2 hb2
  have hm1 : 1 ≤ v.toNat := by omega
  have hm5 : v.toNat ≤ 5 := by omega
  generalize v.toNat = m at *
  have ho2 := fun cs m c t hm hm0 hm1 hs => oneNew_any 0 8 r (N + 1) m c cs t _ HS0.out.rd (by omega) hm hm0 hm1 hs
  simp only [World.size_alloc] at ho2
  have HO2 := Lib.hid ho2; clear ho2
  generalize poolN v = l0 at *
  go_wp2_with fail
  refine (HO2.out _ _ _ _ (by rfl) (by omega) (by omega) (by rfl)).mono ?_
  rintro e w3 ⟨nn, rfl, hn1, hn2, hr3, hg3⟩
  have HS3 := Lib.hid (HS0.out.grow hg3 hr3); clear hr3 hg3
  obtain ⟨n0, rfl⟩ := Int.eq_ofNat_of_zero_le hn1
  generalize w2.heap.size = b at *
  go_wp2_with fail
  go_loopw [4] (fun i wr => ∃ (k n : Nat) (l : List Fr) (h : Int) (A : Option Addr) (c : Nat), i = .int .i64 n ∧ n + k ≤ 8 ∧ SpAt w r b m (N + 2 + 4 * k) l h A c wr) (fun i _ => (intOf i).toNat)
  case atStart => exact ⟨0, n0, l0, 0, A0, c0, rfl, by omega, HS3.out⟩
  case round =>
    obtain ⟨k, n, l, h, A, c, rfl, hnk, hs⟩ := hrel
    have HS := Lib.hid hs; clear hs
    cases n with
    | succ n =>
      have HP := Lib.hid (pick_any r (N + 2 + 4 * k) 6 wr HS.out.rd (by omega) (by omega))
      have hpos : (0 : Int) < ((n + 1 : Nat) : Int) := by omega
      go_wp2_with fail
      refine (HP.out).mono ?_
      rintro e w4 ⟨x, rfl, hx0, hx6, hr4, hg4⟩
      have HS4 := Lib.hid (HS.out.grow hg4 hr4); clear hr4 hg4
      have a0 := HS4.out.p0
      have a1 := HS4.out.p1
      obtain ⟨L, mL, hv, kd, ok, hmL, hok, hft⟩ := FetchPost.tell (l := l) (h := h) (p := x) (w := w4)
      have HF := Lib.hid ((sFetch_any A m c l h x w4 (RowAt.of_own HS4.out.own) HS4.out.len (by omega)).mono hft); clear hft
      have HML := Lib.hid hmL; clear hmL
      have hok2 : ok = true → mL = m := fun e => by rw [HML.out, hok e, HS4.out.len]
      have HOK := Lib.hid hok2; clear hok hok2
      go_wp2_with fail
      refine (HF.out).mono ?_
      rintro e w5 ⟨A5, c5, rfl, ho5, hb5⟩
      have hbW4 : b < w4.heap.size := HS4.out.bW
      have hrb : r < b := Nat.lt_trans hrl HS4.out.wb
      have hs45 := hb5.size
      have HA5 := Lib.hid (show blockOfF A5 ≠ some w5.heap.size from fun e => by have := (ho5.lt _ (by rw [block_sliceS]; exact e)).2; omega)
      have HS5 := Lib.hid ((HS4.out.keep hb5).alloc (.cells #[.slice A5 mL c5, .int .i64 hv] 28))
      have HO5 := Lib.hid (ho5.alloc (.cells #[.slice A5 mL c5, .int .i64 hv] 28))
      have HQ5 := Lib.hid (show QAt r w5.heap.size (w5.alloc (.cells #[.slice A5 mL c5, .int .i64 hv] 28)) from { c0 := ⟨_, by simp; rfl⟩, c1 := ⟨_, by simp; rfl⟩, f0 := by simp [go_sem], f1 := by simp [go_sem], lt := by simp, ne := by omega })
      have hq5 : w5.heap.size ≠ b := by omega
      clear hb5 ho5 a0 a1
      have a0 := HS5.out.p0
      have a1 := HS5.out.p1
      have f0 := HS5.out.q0
      have f1 := HS5.out.q1
      have hA4 : blockOfF A ≠ some w5.heap.size := fun e => by have := (HS4.out.own.lt _ (by rw [block_sliceS]; exact e)).2; omega
      have hA5 : blockOfF A5 ≠ some w5.heap.size := HA5.out
      have HBQ := Lib.hid (show b < w5.heap.size by omega)
      cases ok
      case' false =>
        go_wp2_with fail
        obtain ⟨l6, h6, A6, c6, hs6, hq6, hA6⟩ : ∃ (l6 : List Fr) (h6 : Int) (A6 : Option Addr) (c6 : Nat), SpAt w r b m (N + 2 + 4 * k + 1) l6 h6 A6 c6 (w5.alloc (.cells #[.slice A5 mL c5, .int .i64 hv] 28)) ∧ QAt r w5.heap.size (w5.alloc (.cells #[.slice A5 mL c5, .int .i64 hv] 28)) ∧ blockOfF A6 ≠ some w5.heap.size := ⟨_, _, _, _, HS5.out, HQ5.out, hA4⟩
        clear a0 a1 f0 f1 HS5 HQ5 HO5 HF HML HOK hA4 hA5 HA5 hq5
        have hlt6 : w5.heap.size < (w5.alloc (.cells #[.slice A5 mL c5, .int .i64 hv] 28)).heap.size := by simp
        generalize (w5.alloc (.cells #[.slice A5 mL c5, .int .i64 hv] 28)) = W6 at *
      case' true =>
        obtain rfl : mL = m := HOK.out rfl
        go_wp2_with fail
        obtain ⟨l6, h6, A6, c6, hs6, hq6, hA6⟩ : ∃ (l6 : List Fr) (h6 : Int) (A6 : Option Addr) (c6 : Nat), SpAt w r b mL (N + 2 + 4 * k + 1) l6 h6 A6 c6 (((w5.alloc (.cells #[.slice A5 mL c5, .int .i64 hv] 28)).setCell ⟨b, 0, none⟩ (.slice A5 mL c5)).setCell ⟨b, 1, none⟩ (.int .i64 hv)) ∧ QAt r w5.heap.size (((w5.alloc (.cells #[.slice A5 mL c5, .int .i64 hv] 28)).setCell ⟨b, 0, none⟩ (.slice A5 mL c5)).setCell ⟨b, 1, none⟩ (.int .i64 hv)) ∧ blockOfF A6 ≠ some w5.heap.size := ⟨_, _, _, _, HS5.out.put HO5.out HML.out (by omega), HQ5.out.put hq5 _ _, hA5⟩
        clear a0 a1 f0 f1 HS5 HQ5 HO5 HF HML HOK hA4 hA5 HA5 hq5
        have hlt6 : w5.heap.size < (((w5.alloc (.cells #[.slice A5 mL c5, .int .i64 hv] 28)).setCell ⟨b, 0, none⟩ (.slice A5 mL c5)).setCell ⟨b, 1, none⟩ (.int .i64 hv)).heap.size := by simp
        generalize (((w5.alloc (.cells #[.slice A5 mL c5, .int .i64 hv] 28)).setCell ⟨b, 0, none⟩ (.slice A5 mL c5)).setCell ⟨b, 1, none⟩ (.int .i64 hv)) = W6 at *
      all_goals
        have HS6 := Lib.hid hs6; have HQ6 := Lib.hid hq6; have HA6 := Lib.hid hA6; clear hs6 hq6 hA6
        generalize w5.heap.size = q at *
        have HP6 := Lib.hid (pick_any r (N + 2 + 4 * k + 1) 3 W6 HS6.out.rd (by omega) (by omega))
        refine (HP6.out).mono ?_
        rintro e w7 ⟨x2, rfl, hy0, hy3, hr7, hg7⟩
        have HS7 := Lib.hid (HS6.out.grow hg7 hr7); have HQ7 := Lib.hid (HQ6.out.grow hg7); clear hr7 hg7
        by_cases hz : 0 < x2
        · go_wp2_with fail
          refine wp_region_any (by kernel_rfl) ?_
          try (change wpAny _ _ _ _ _ _ _ (World.drew _))
          refine wpAny_take (i := 1) (v := ?_) rfl (by kernel_rfl) (by kernel_rfl) (by kernel_rfl) (fun _ _ _ h => h) (Or.inl ⟨by kernel_rfl, ?_⟩) ?_
          rotate_left
          · (intro w; go_simp; first | done | with_reducible rfl)
          conv => arg 7; simp [Act.put]
          refine wpAny_take (i := 2) (v := ?_) rfl (by kernel_rfl) (by kernel_rfl) (by kernel_rfl) (fun _ _ _ h => h) (Or.inl ⟨by kernel_rfl, ?_⟩) ?_
          rotate_left
          · (intro w; go_simp; first | done | with_reducible rfl)
          conv => arg 7; simp [Act.put]
          refine wpAny_take (i := 3) (v := ?_) rfl (by kernel_rfl) (by kernel_rfl) (by kernel_rfl) (fun _ _ _ h => h) (Or.inl ⟨by kernel_rfl, ?_⟩) ?_
          rotate_left
          · (intro w; go_simp; first | done | with_reducible rfl)
          conv => arg 7; simp [Act.put]
          have a0 := HS7.out.drew.p0
          have a1 := HS7.out.drew.p1
          refine wpAny_ready (rs := [0, 4]) (by kernel_rfl) (by simp) ?_
          refine AllReady.cons rfl (fun K hK => ?_) (AllReady.cons rfl (fun K hK => ?_) (AllReady.nil))
          focus
            go_simp
            refine hK _ _ ?_; clear hK K
            clear a0 a1
            refine wpAny_ready (rs := [4]) (by kernel_rfl) (by simp) ?_
            refine AllReady.cons rfl (fun K hK => ?_) AllReady.nil
            go_simp
            go_wp2_with (go_at_call 76; refine (pick_any r (N + 2 + 4 * k + 1 + 1) 6 _ HS7.out.drew.rd (by omega) (by omega)).mono ?_; rintro e w8 ⟨x3, rfl, hx30, hx36, hr8, hg8⟩)
            have HS8 := Lib.hid (HS7.out.drew.grow hg8 hr8); have HQ8 := Lib.hid (HQ7.out.grow (grown_drew.trans' hg8)); clear hr8 hg8
            refine wpAny_ready (rs := [5]) (by kernel_rfl) (by simp) ?_
            refine AllReady.cons rfl (fun K hK => ?_) AllReady.nil
            go_simp
            refine hK _ _ ?_; clear hK K
            refine wpAny_ready (rs := [6]) (by kernel_rfl) (by simp) ?_
            refine AllReady.cons rfl (fun K hK => ?_) AllReady.nil
            go_simp
            go_wp2_with (go_at_call 75; refine (oneNew_any 0 6 r (N + 2 + 4 * k + 1 + 1 + 1) 2 _ #[.int .i64 x, .int .i64 x3] _ w8 HS8.out.rd (by omega) rfl (by omega) (by omega) (ints_two (by omega) (by omega) (by omega) (by omega))).mono ?_; rintro e w9 ⟨y, rfl, hy1, hy2, hr9, hg9⟩)
            have HS9 := Lib.hid (HS8.out.grow hg9 hr9); have HQ9 := Lib.hid (HQ8.out.grow hg9); clear hr9 hg9
            obtain ⟨L2, m2, hv2, ok2, hm2, hok2, hft2⟩ := LeavePost.tell (l := l6) (h := h6) (p := y) (w := w9)
            have HF2 := Lib.hid ((sLeave_any A6 _ c6 l6 h6 y w9 (RowAt.of_own HS9.out.own) HS9.out.len (by omega)).mono hft2); clear hft2
            have HML2 := Lib.hid hm2; clear hm2
            have hok3 := fun e => hm_len (HML2.out) (hok2 e) HS9.out.len
            have HOK2 := Lib.hid hok3; clear hok2 hok3
            refine wpAny_ready (rs := [7]) (by kernel_rfl) (by simp) ?_
            refine AllReady.cons rfl (fun K hK => ?_) AllReady.nil
            go_simp
            go_wp2_with (go_at_call 16; refine (HF2.out).mono ?_; rintro e w10 ⟨A10, c10, rfl, ho10, hb10⟩)
            have hq9 := HQ9.out.lt
            have HS10 := Lib.hid (HS9.out.keep hb10); have HQ10 := Lib.hid (HQ9.out.keep hb10); have HO10 := Lib.hid ho10; clear ho10 hb10
            obtain ⟨u0, g0⟩ := HQ10.out.c0
            obtain ⟨u1, g1⟩ := HQ10.out.c1
            have g2 := HQ10.out.f0
            have g3 := HQ10.out.f1
            have g4 := HQ10.out.lt
            refine wpAny_take (i := 8) (v := ?_) rfl (by kernel_rfl) (by kernel_rfl) (by kernel_rfl) (fun _ _ _ h => h) (Or.inl ⟨by kernel_rfl, ?_⟩) ?_
            rotate_left
            · (intro w; go_simp; first | done | with_reducible rfl)
            conv => arg 7; simp [Act.put]
            refine wpAny_take (i := 9) (v := ?_) rfl (by kernel_rfl) (by kernel_rfl) (by kernel_rfl) (fun _ _ _ h => h) (Or.inl ⟨by kernel_rfl, ?_⟩) ?_
            rotate_left
            · (intro w; go_simp; first | done | with_reducible rfl)
            conv => arg 7; simp [Act.put]
            refine wpAny_take (i := 10) (v := ?_) rfl (by kernel_rfl) (by kernel_rfl) (by kernel_rfl) (fun _ _ _ h => h) (Or.inl ⟨by kernel_rfl, ?_⟩) ?_
            rotate_left
            · (intro w; go_simp; first | done | with_reducible rfl)
            conv => arg 7; simp [Act.put]
            refine wpAny_ready (rs := [11]) (by kernel_rfl) (by simp) ?_
            refine AllReady.cons rfl (fun K hK => ?_) (AllReady.nil)
            focus
              go_simp
              refine hK _ _ ?_; clear hK K
            refine wpAny_take (i := 12) (v := ?_) rfl (by kernel_rfl) (by kernel_rfl) (by kernel_rfl) (fun _ _ _ h => h) (Or.inl ⟨by kernel_rfl, ?_⟩) ?_
            rotate_left
            · (intro w; go_simp; first | done | with_reducible rfl)
            conv => arg 7; simp [Act.put]
            refine wpAny_done (by kernel_rfl) ?_ _
          rotate_left 1
          focus
            go_simp
            clear a0 a1
            go_wp2_with (go_at_call 76; refine (pick_any r (N + 2 + 4 * k + 1 + 1) 6 _ HS7.out.drew.rd (by omega) (by omega)).mono ?_; rintro e w8 ⟨x3, rfl, hx30, hx36, hr8, hg8⟩)
            have HS8 := Lib.hid (HS7.out.drew.grow hg8 hr8); have HQ8 := Lib.hid (HQ7.out.grow (grown_drew.trans' hg8)); clear hr8 hg8
            have a0 := HS8.out.p0
            have a1 := HS8.out.p1
            refine wpAny_ready (rs := [0, 5]) (by kernel_rfl) (by simp) ?_
            refine AllReady.cons rfl (fun K hK => ?_) (AllReady.cons rfl (fun K hK => ?_) (AllReady.nil))
            focus
              go_simp
              refine hK _ _ ?_; clear hK K
              clear a0 a1
              refine wpAny_ready (rs := [5]) (by kernel_rfl) (by simp) ?_
              refine AllReady.cons rfl (fun K hK => ?_) AllReady.nil
              go_simp
              refine hK _ _ ?_; clear hK K
              refine wpAny_ready (rs := [6]) (by kernel_rfl) (by simp) ?_
              refine AllReady.cons rfl (fun K hK => ?_) AllReady.nil
              go_simp
              go_wp2_with (go_at_call 75; refine (oneNew_any 0 6 r (N + 2 + 4 * k + 1 + 1 + 1) 2 _ #[.int .i64 x, .int .i64 x3] _ w8 HS8.out.rd (by omega) rfl (by omega) (by omega) (ints_two (by omega) (by omega) (by omega) (by omega))).mono ?_; rintro e w9 ⟨y, rfl, hy1, hy2, hr9, hg9⟩)
              have HS9 := Lib.hid (HS8.out.grow hg9 hr9); have HQ9 := Lib.hid (HQ8.out.grow hg9); clear hr9 hg9
              obtain ⟨L2, m2, hv2, ok2, hm2, hok2, hft2⟩ := LeavePost.tell (l := l6) (h := h6) (p := y) (w := w9)
              have HF2 := Lib.hid ((sLeave_any A6 _ c6 l6 h6 y w9 (RowAt.of_own HS9.out.own) HS9.out.len (by omega)).mono hft2); clear hft2
              have HML2 := Lib.hid hm2; clear hm2
              have hok3 := fun e => hm_len (HML2.out) (hok2 e) HS9.out.len
              have HOK2 := Lib.hid hok3; clear hok2 hok3
              refine wpAny_ready (rs := [7]) (by kernel_rfl) (by simp) ?_
              refine AllReady.cons rfl (fun K hK => ?_) AllReady.nil
              go_simp
              go_wp2_with (go_at_call 16; refine (HF2.out).mono ?_; rintro e w10 ⟨A10, c10, rfl, ho10, hb10⟩)
              have hq9 := HQ9.out.lt
              have HS10 := Lib.hid (HS9.out.keep hb10); have HQ10 := Lib.hid (HQ9.out.keep hb10); have HO10 := Lib.hid ho10; clear ho10 hb10
              obtain ⟨u0, g0⟩ := HQ10.out.c0
              obtain ⟨u1, g1⟩ := HQ10.out.c1
              have g2 := HQ10.out.f0
              have g3 := HQ10.out.f1
              have g4 := HQ10.out.lt
              refine wpAny_take (i := 8) (v := ?_) rfl (by kernel_rfl) (by kernel_rfl) (by kernel_rfl) (fun _ _ _ h => h) (Or.inl ⟨by kernel_rfl, ?_⟩) ?_
              rotate_left
              · (intro w; go_simp; first | done | with_reducible rfl)
              conv => arg 7; simp [Act.put]
              refine wpAny_take (i := 9) (v := ?_) rfl (by kernel_rfl) (by kernel_rfl) (by kernel_rfl) (fun _ _ _ h => h) (Or.inl ⟨by kernel_rfl, ?_⟩) ?_
              rotate_left
              · (intro w; go_simp; first | done | with_reducible rfl)
              conv => arg 7; simp [Act.put]
              refine wpAny_take (i := 10) (v := ?_) rfl (by kernel_rfl) (by kernel_rfl) (by kernel_rfl) (fun _ _ _ h => h) (Or.inl ⟨by kernel_rfl, ?_⟩) ?_
              rotate_left
              · (intro w; go_simp; first | done | with_reducible rfl)
              conv => arg 7; simp [Act.put]
              refine wpAny_ready (rs := [11]) (by kernel_rfl) (by simp) ?_
              refine AllReady.cons rfl (fun K hK => ?_) (AllReady.nil)
              focus
                go_simp
                refine hK _ _ ?_; clear hK K
              refine wpAny_take (i := 12) (v := ?_) rfl (by kernel_rfl) (by kernel_rfl) (by kernel_rfl) (fun _ _ _ h => h) (Or.inl ⟨by kernel_rfl, ?_⟩) ?_
              rotate_left
              · (intro w; go_simp; first | done | with_reducible rfl)
              conv => arg 7; simp [Act.put]
              refine wpAny_done (by kernel_rfl) ?_ _
            rotate_left 1
            focus
              go_simp
              clear a0 a1
              refine hK _ _ ?_; clear hK K
              have a0 := (HS8.out.alloc (.cells #[.int .i64 x, .int .i64 x3] 3)).p0
              have a1 := (HS8.out.alloc (.cells #[.int .i64 x, .int .i64 x3] 3)).p1
              refine wpAny_ready (rs := [0, 6]) (by kernel_rfl) (by simp) ?_
              refine AllReady.cons rfl (fun K hK => ?_) (AllReady.cons rfl (fun K hK => ?_) (AllReady.nil))
              focus
                go_simp
                refine hK _ _ ?_; clear hK K
                clear a0 a1
                refine wpAny_ready (rs := [6]) (by kernel_rfl) (by simp) ?_
                refine AllReady.cons rfl (fun K hK => ?_) AllReady.nil
                go_simp
                go_wp2_with (go_at_call 75; refine (oneNew_any 0 6 r (N + 2 + 4 * k + 1 + 1 + 1) 2 _ #[.int .i64 x, .int .i64 x3] _ w8 HS8.out.rd (by omega) rfl (by omega) (by omega) (ints_two (by omega) (by omega) (by omega) (by omega))).mono ?_; rintro e w9 ⟨y, rfl, hy1, hy2, hr9, hg9⟩)
                have HS9 := Lib.hid (HS8.out.grow hg9 hr9); have HQ9 := Lib.hid (HQ8.out.grow hg9); clear hr9 hg9
                obtain ⟨L2, m2, hv2, ok2, hm2, hok2, hft2⟩ := LeavePost.tell (l := l6) (h := h6) (p := y) (w := w9)
                have HF2 := Lib.hid ((sLeave_any A6 _ c6 l6 h6 y w9 (RowAt.of_own HS9.out.own) HS9.out.len (by omega)).mono hft2); clear hft2
                have HML2 := Lib.hid hm2; clear hm2
                have hok3 := fun e => hm_len (HML2.out) (hok2 e) HS9.out.len
                have HOK2 := Lib.hid hok3; clear hok2 hok3
                refine wpAny_ready (rs := [7]) (by kernel_rfl) (by simp) ?_
                refine AllReady.cons rfl (fun K hK => ?_) AllReady.nil
                go_simp
                go_wp2_with (go_at_call 16; refine (HF2.out).mono ?_; rintro e w10 ⟨A10, c10, rfl, ho10, hb10⟩)
                have hq9 := HQ9.out.lt
                have HS10 := Lib.hid (HS9.out.keep hb10); have HQ10 := Lib.hid (HQ9.out.keep hb10); have HO10 := Lib.hid ho10; clear ho10 hb10
                obtain ⟨u0, g0⟩ := HQ10.out.c0
                obtain ⟨u1, g1⟩ := HQ10.out.c1
                have g2 := HQ10.out.f0
                have g3 := HQ10.out.f1
                have g4 := HQ10.out.lt
                refine wpAny_take (i := 8) (v := ?_) rfl (by kernel_rfl) (by kernel_rfl) (by kernel_rfl) (fun _ _ _ h => h) (Or.inl ⟨by kernel_rfl, ?_⟩) ?_
                rotate_left
                · (intro w; go_simp; first | done | with_reducible rfl)
                conv => arg 7; simp [Act.put]
                refine wpAny_take (i := 9) (v := ?_) rfl (by kernel_rfl) (by kernel_rfl) (by kernel_rfl) (fun _ _ _ h => h) (Or.inl ⟨by kernel_rfl, ?_⟩) ?_
                rotate_left
                · (intro w; go_simp; first | done | with_reducible rfl)
                conv => arg 7; simp [Act.put]
                refine wpAny_take (i := 10) (v := ?_) rfl (by kernel_rfl) (by kernel_rfl) (by kernel_rfl) (fun _ _ _ h => h) (Or.inl ⟨by kernel_rfl, ?_⟩) ?_
                rotate_left
                · (intro w; go_simp; first | done | with_reducible rfl)
                conv => arg 7; simp [Act.put]
                refine wpAny_ready (rs := [11]) (by kernel_rfl) (by simp) ?_
                refine AllReady.cons rfl (fun K hK => ?_) (AllReady.nil)
                focus
                  go_simp
                  refine hK _ _ ?_; clear hK K
                refine wpAny_take (i := 12) (v := ?_) rfl (by kernel_rfl) (by kernel_rfl) (by kernel_rfl) (fun _ _ _ h => h) (Or.inl ⟨by kernel_rfl, ?_⟩) ?_
                rotate_left
                · (intro w; go_simp; first | done | with_reducible rfl)
                conv => arg 7; simp [Act.put]
                refine wpAny_done (by kernel_rfl) ?_ _
              rotate_left 1
              focus
                go_simp
                clear a0 a1
                go_wp2_with (go_at_call 75; refine (oneNew_any 0 6 r (N + 2 + 4 * k + 1 + 1 + 1) 2 _ #[.int .i64 x, .int .i64 x3] _ w8 HS8.out.rd (by omega) rfl (by omega) (by omega) (ints_two (by omega) (by omega) (by omega) (by omega))).mono ?_; rintro e w9 ⟨y, rfl, hy1, hy2, hr9, hg9⟩)
                have HS9 := Lib.hid (HS8.out.grow hg9 hr9); have HQ9 := Lib.hid (HQ8.out.grow hg9); clear hr9 hg9
                obtain ⟨L2, m2, hv2, ok2, hm2, hok2, hft2⟩ := LeavePost.tell (l := l6) (h := h6) (p := y) (w := w9)
                have HF2 := Lib.hid ((sLeave_any A6 _ c6 l6 h6 y w9 (RowAt.of_own HS9.out.own) HS9.out.len (by omega)).mono hft2); clear hft2
                have HML2 := Lib.hid hm2; clear hm2
                have hok3 := fun e => hm_len (HML2.out) (hok2 e) HS9.out.len
                have HOK2 := Lib.hid hok3; clear hok2 hok3
                have a0 := HS9.out.p0
                have a1 := HS9.out.p1
                refine wpAny_ready (rs := [0]) (by kernel_rfl) (by simp) ?_
                refine AllReady.cons rfl (fun K hK => ?_) AllReady.nil
                go_simp
                refine hK _ _ ?_; clear hK K
                clear a0 a1
                refine wpAny_ready (rs := [7]) (by kernel_rfl) (by simp) ?_
                refine AllReady.cons rfl (fun K hK => ?_) AllReady.nil
                go_simp
                go_wp2_with (go_at_call 16; refine (HF2.out).mono ?_; rintro e w10 ⟨A10, c10, rfl, ho10, hb10⟩)
                have hq9 := HQ9.out.lt
                have HS10 := Lib.hid (HS9.out.keep hb10); have HQ10 := Lib.hid (HQ9.out.keep hb10); have HO10 := Lib.hid ho10; clear ho10 hb10
                obtain ⟨u0, g0⟩ := HQ10.out.c0
                obtain ⟨u1, g1⟩ := HQ10.out.c1
                have g2 := HQ10.out.f0
                have g3 := HQ10.out.f1
                have g4 := HQ10.out.lt
                refine wpAny_take (i := 8) (v := ?_) rfl (by kernel_rfl) (by kernel_rfl) (by kernel_rfl) (fun _ _ _ h => h) (Or.inl ⟨by kernel_rfl, ?_⟩) ?_
                rotate_left
                · (intro w; go_simp; first | done | with_reducible rfl)
                conv => arg 7; simp [Act.put]
                refine wpAny_take (i := 9) (v := ?_) rfl (by kernel_rfl) (by kernel_rfl) (by kernel_rfl) (fun _ _ _ h => h) (Or.inl ⟨by kernel_rfl, ?_⟩) ?_
                rotate_left
                · (intro w; go_simp; first | done | with_reducible rfl)
                conv => arg 7; simp [Act.put]
                refine wpAny_take (i := 10) (v := ?_) rfl (by kernel_rfl) (by kernel_rfl) (by kernel_rfl) (fun _ _ _ h => h) (Or.inl ⟨by kernel_rfl, ?_⟩) ?_
                rotate_left
                · (intro w; go_simp; first | done | with_reducible rfl)
                conv => arg 7; simp [Act.put]
                refine wpAny_ready (rs := [11]) (by kernel_rfl) (by simp) ?_
                refine AllReady.cons rfl (fun K hK => ?_) (AllReady.nil)
                focus
                  go_simp
                  refine hK _ _ ?_; clear hK K
                refine wpAny_take (i := 12) (v := ?_) rfl (by kernel_rfl) (by kernel_rfl) (by kernel_rfl) (fun _ _ _ h => h) (Or.inl ⟨by kernel_rfl, ?_⟩) ?_
                rotate_left
                · (intro w; go_simp; first | done | with_reducible rfl)
                conv => arg 7; simp [Act.put]
                refine wpAny_done (by kernel_rfl) ?_ _
              rotate_left 1
            rotate_left 2
          rotate_left 3
          all_goals
            have HS11 := Lib.hid ((HS10.out.other (o := 0) (.slice A10 m2 c10) HBQ.out HA6.out).other (o := 1) (.int .i64 hv2) HBQ.out HA6.out)
            have HO11 := Lib.hid (ownsRow_setCell_below (a := ⟨q, 1, none⟩) (ownsRow_setCell_below (a := ⟨q, 0, none⟩) HO10.out hq9 (.slice A10 m2 c10)) hq9 (.int .i64 hv2))
            have hbw9 : b < w9.heap.size := HS9.out.bW
            have p0 := HS11.out.p0
            have p1 := HS11.out.p1
            have p2 := HS11.out.q0
            have p3 := HS11.out.q1
            cases ok2
            · go_wp2_with fail
              go_roundw
              case rel => exact ⟨k + 1, n, _, _, _, _, by go_num, by omega, HS11.out.more (by omega)⟩
              case measure => simp [intOf]
            · obtain rfl := HOK2.out rfl
              go_wp2_with fail
              go_roundw
              case rel => exact ⟨k + 1, n, _, _, _, _, by go_num, by omega, (HS11.out.put HO11.out HML2.out hbw9).more (by omega)⟩
              case measure => simp [intOf]
        · go_wp2_with fail
          go_roundw
          case rel => exact ⟨k + 1, n, l6, h6, A6, c6, by go_num, by omega, HS7.out.more (by omega)⟩
          case measure => simp [intOf]
    | zero =>
      have HP := Lib.hid (pick_any r (N + 2 + 4 * k) 30 wr HS.out.rd (by omega) (by omega))
      go_wp2_with fail
      refine (HP.out).mono ?_
      rintro e w4 ⟨x, rfl, hx0, hx3, hr4, hg4⟩
      have HS4 := Lib.hid (HS.out.grow hg4 hr4); clear hr4 hg4
      by_cases h0 : x = 0
      · subst h0
        go_wp2_with fail
        refine (oneNew_any (-1) 5 r (N + 2 + 4 * k + 1) 2 _ #[.int .i64 (-1), .int .i64 5] _ w4 HS4.out.rd (by omega) rfl (by omega) (by omega) (by decide)).mono ?_
        rintro e w5 ⟨y, rfl, hy1, hy2, hr5, hg5⟩
        have HS5 := Lib.hid (HS4.out.grow hg5 hr5); clear hr5 hg5
        have p0 := HS5.out.p0
        have p1 := HS5.out.p1
        have p2 := HS5.out.q0
        have p3 := HS5.out.q1
        have z0 := HS5.out.z0
        have z1 := HS5.out.z1
        have y0 := HS5.out.y0
        have y1 := HS5.out.y1
        have hwb := HS5.out.wb
        go_wp2_with fail
        refine bodyPost_ret (v := .agg #[.slice A m c, .int .i64 y]) (by simp [results, Try.results71, go_sem, z0, z1]) rfl ?_
        exact ((HS5.out.hand y).more (M' := N + 40) (by omega)).fin hm1 hm5
      · have q0 : (x == 0) = false := by simpa using h0
        by_cases h1 : x = 1
        · subst h1
          clear h0
          obtain ⟨g, rfl, hrf⟩ := HS4.out.ptr hm1
          clear hrf
          have HO5 := Lib.hid (fun W (hr : Rdr 121 W r (N + 2 + 4 * k + 1)) => oneNewD_any (-1) 4 r (N + 2 + 4 * k + 1) 2 2 #[.int .i64 (-1), .int .i64 4] 3 W hr (by omega) rfl (by omega) (by omega) (by decide))
          have p0 := HS4.out.p0
          have i0 : (0 : Int) < (m : Int) := by omega
          have i1 : 0 < m := by omega
          go_wp2_with fail
          refine wp_region_any (by kernel_rfl) ?_
          try (change wpAny _ _ _ _ _ _ _ (World.drew _))
          refine wpAny_take (i := 0) (v := ?_) rfl (by kernel_rfl) (by kernel_rfl) (by kernel_rfl) (fun _ _ _ h => h) (Or.inl ⟨by kernel_rfl, ?_⟩) ?_
          rotate_left
          · (intro w; go_simp; first | done | with_reducible rfl)
          conv => arg 7; simp [Act.put]
          refine wpAny_take (i := 2) (v := ?_) rfl (by kernel_rfl) (by kernel_rfl) (by kernel_rfl) (fun _ _ _ h => h) (Or.inl ⟨by kernel_rfl, ?_⟩) ?_
          rotate_left
          · (intro w; go_simp; first | done | with_reducible rfl)
          conv => arg 7; simp [Act.put]
          refine wpAny_ready (rs := [1, 3]) (by kernel_rfl) (by simp) ?_
          refine AllReady.cons rfl (fun K hK => ?_) (AllReady.cons rfl (fun K hK => ?_) (AllReady.nil))
          focus
            go_simp
            refine hK _ _ ?_; clear hK K
            clear p0
            refine wpAny_ready (rs := [3]) (by kernel_rfl) (by simp) ?_
            refine AllReady.cons rfl (fun K hK => ?_) AllReady.nil
            go_simp
            refine hK _ _ ?_; clear hK K
            refine wpAny_ready (rs := [4]) (by kernel_rfl) (by simp) ?_
            refine AllReady.cons rfl (fun K hK => ?_) AllReady.nil
            go_simp
            go_wp2_with (go_at_call 75; refine (HO5.out w4 HS4.out.rd).mono ?_; rintro e w5 ⟨y, rfl, hy1, hy2, hr5, hg5⟩)
            have HS5 := Lib.hid (HS4.out.grow hg5 hr5); clear hr5 hg5
            refine wpAny_take (i := 5) (v := ?_) rfl (by kernel_rfl) (by kernel_rfl) (by kernel_rfl) (fun _ _ _ h => h) (Or.inl ⟨by kernel_rfl, ?_⟩) ?_
            rotate_left
            · (intro w; go_simp; first | done | with_reducible rfl)
            conv => arg 7; simp [Act.put]
            refine wpAny_take (i := 6) (v := ?_) rfl (by kernel_rfl) (by kernel_rfl) (by kernel_rfl) (fun _ _ _ h => h) (Or.inl ⟨by kernel_rfl, ?_⟩) ?_
            rotate_left
            · (intro w; go_simp; first | done | with_reducible rfl)
            conv => arg 7; simp [Act.put]
            obtain ⟨⟨e0, e1⟩, e4⟩ := HS5.out.pcell hm1
            refine wpAny_ready (rs := [7]) (by kernel_rfl) (by simp) ?_
            refine AllReady.cons rfl (fun K hK => ?_) AllReady.nil
            go_simp
            refine hK _ _ ?_; clear hK K
            refine wpAny_done (by kernel_rfl) ?_ _
          rotate_left 1
          focus
            go_simp
            clear p0
            refine hK _ _ ?_; clear hK K
            have p0 := (HS4.out.alloc (.cells #[.int .i64 (-1), .int .i64 4] 3)).p0
            refine wpAny_ready (rs := [1, 4]) (by kernel_rfl) (by simp) ?_
            refine AllReady.cons rfl (fun K hK => ?_) (AllReady.cons rfl (fun K hK => ?_) (AllReady.nil))
            focus
              go_simp
              refine hK _ _ ?_; clear hK K
              clear p0
              refine wpAny_ready (rs := [4]) (by kernel_rfl) (by simp) ?_
              refine AllReady.cons rfl (fun K hK => ?_) AllReady.nil
              go_simp
              go_wp2_with (go_at_call 75; refine (HO5.out w4 HS4.out.rd).mono ?_; rintro e w5 ⟨y, rfl, hy1, hy2, hr5, hg5⟩)
              have HS5 := Lib.hid (HS4.out.grow hg5 hr5); clear hr5 hg5
              refine wpAny_take (i := 5) (v := ?_) rfl (by kernel_rfl) (by kernel_rfl) (by kernel_rfl) (fun _ _ _ h => h) (Or.inl ⟨by kernel_rfl, ?_⟩) ?_
              rotate_left
              · (intro w; go_simp; first | done | with_reducible rfl)
              conv => arg 7; simp [Act.put]
              refine wpAny_take (i := 6) (v := ?_) rfl (by kernel_rfl) (by kernel_rfl) (by kernel_rfl) (fun _ _ _ h => h) (Or.inl ⟨by kernel_rfl, ?_⟩) ?_
              rotate_left
              · (intro w; go_simp; first | done | with_reducible rfl)
              conv => arg 7; simp [Act.put]
              obtain ⟨⟨e0, e1⟩, e4⟩ := HS5.out.pcell hm1
              refine wpAny_ready (rs := [7]) (by kernel_rfl) (by simp) ?_
              refine AllReady.cons rfl (fun K hK => ?_) AllReady.nil
              go_simp
              refine hK _ _ ?_; clear hK K
              refine wpAny_done (by kernel_rfl) ?_ _
            rotate_left 1
            focus
              go_simp
              go_wp2_with (go_at_call 75; refine (HO5.out w4 HS4.out.rd).mono ?_; rintro e w5 ⟨y, rfl, hy1, hy2, hr5, hg5⟩)
              have HS5 := Lib.hid (HS4.out.grow hg5 hr5); clear hr5 hg5
              clear p0
              have p0 := HS5.out.p0
              refine wpAny_ready (rs := [1]) (by kernel_rfl) (by simp) ?_
              refine AllReady.cons rfl (fun K hK => ?_) AllReady.nil
              go_simp
              refine hK _ _ ?_; clear hK K
              clear p0
              refine wpAny_take (i := 5) (v := ?_) rfl (by kernel_rfl) (by kernel_rfl) (by kernel_rfl) (fun _ _ _ h => h) (Or.inl ⟨by kernel_rfl, ?_⟩) ?_
              rotate_left
              · (intro w; go_simp; first | done | with_reducible rfl)
              conv => arg 7; simp [Act.put]
              refine wpAny_take (i := 6) (v := ?_) rfl (by kernel_rfl) (by kernel_rfl) (by kernel_rfl) (fun _ _ _ h => h) (Or.inl ⟨by kernel_rfl, ?_⟩) ?_
              rotate_left
              · (intro w; go_simp; first | done | with_reducible rfl)
              conv => arg 7; simp [Act.put]
              obtain ⟨⟨e0, e1⟩, e4⟩ := HS5.out.pcell hm1
              refine wpAny_ready (rs := [7]) (by kernel_rfl) (by simp) ?_
              refine AllReady.cons rfl (fun K hK => ?_) AllReady.nil
              go_simp
              refine hK _ _ ?_; clear hK K
              refine wpAny_done (by kernel_rfl) ?_ _
            rotate_left 1
          rotate_left 2
          all_goals
            obtain ⟨l', hl', hs6⟩ := HS5.out.pins hm1 y
            have HS6 := Lib.hid hs6; clear hs6 hl'
            have p0 := HS6.out.p0
            have p1 := HS6.out.p1
            have p2 := HS6.out.q0
            have p3 := HS6.out.q1
            have z0 := HS6.out.z0
            have z1 := HS6.out.z1
            have y0 := HS6.out.y0
            have y1 := HS6.out.y1
            have hwb := HS6.out.wb
            go_wp2_with fail
            refine bodyPost_ret (v := .agg #[.slice (some ⟨g, 0, none⟩) m c, .int .i64 h]) (by simp [results, Try.results71, go_sem, z0, z1]) rfl ?_
            exact (HS6.out.more (M' := N + 40) (by omega)).fin hm1 hm5
        · have q1 : (x == 1) = false := by simpa using h1
          clear h0 h1
          have p0 := HS4.out.p0
          have p1 := HS4.out.p1
          have p2 := HS4.out.q0
          have p3 := HS4.out.q1
          have z0 := HS4.out.z0
          have z1 := HS4.out.z1
          have y0 := HS4.out.y0
          have y1 := HS4.out.y1
          have hwb := HS4.out.wb
          go_wp2_with fail
          refine bodyPost_ret (v := .agg #[.slice A m c, .int .i64 h]) (by simp [results, Try.results71, go_sem, z0, z1]) rfl ?_
          exact (HS4.out.more (M' := N + 40) (by omega)).fin hm1 hm5
end Go.Proofs.Ytompbkphdjjpdaa
