/- The contract of the model's LeavePage (chapter 2). Conditions: the frames lie in a row; they are few. -/
import Derived.Test.YtompbkphdjjpdaaPoolLS
import Derived.Test.YtompbkphdjjpdaaPoolF
import Derived.Test.YtompbkphdjjpdaaPoolS
import Derived.Deep.RegionWith
set_option linter.unusedVariables false
set_option linter.unusedSimpArgs false
namespace Go.Proofs.Ytompbkphdjjpdaa
open Go.RowKit Go.ChangeShapes Go.WideShapes

/-- the two pools lie at their places -/
structure LvAt (w : World) (A : Option Addr) (n c : Nat) (h : Int) (W : World) : Prop where
  hb : Below w.heap.size w W
  le : w.heap.size + 2 ≤ W.heap.size
  a0 : W.cell? ⟨w.heap.size, 0, none⟩ = some (.slice A n c)
  a1 : W.cell? ⟨w.heap.size, 1, none⟩ = some (.int .i64 h)
  b0 : W.cell? ⟨w.heap.size + 1, 0, none⟩ = some (.slice none 0 0)
  b1 : W.cell? ⟨w.heap.size + 1, 1, none⟩ = some (.int .i64 0)
  f0 : W.frozen? ⟨w.heap.size + 1, 0, none⟩ = false
  f1 : W.frozen? ⟨w.heap.size + 1, 1, none⟩ = false
theorem LvAt.start (w : World) (A : Option Addr) (n c : Nat) (h : Int) : LvAt w A n c h ((w.alloc (.cells #[.slice A n c, .int .i64 h] 28)).alloc (.cells #[.slice none 0 0, .int .i64 0] 28)) where
  hb := ((Below.refl w.heap.size w).alloc (Nat.le_refl _) _).alloc (by simp) _
  le := by simp
  a0 := by simp [go_sem]
  a1 := by simp [go_sem]
  b0 := by simp [go_sem]
  b1 := by simp [go_sem]
  f0 := by simp [go_sem]
  f1 := by simp [go_sem]
theorem LvAt.keep {w : World} {A : Option Addr} {n c : Nat} {h : Int} {W W' : World} (k : LvAt w A n c h W) (hb : Below W.heap.size W W') : LvAt w A n c h W' := by
  have hl := k.le
  have cl : ∀ b o, b < W.heap.size → W'.cell? ⟨b, o, none⟩ = W.cell? ⟨b, o, none⟩ := fun b o hbo => hb.cell (p := ⟨b, o, none⟩) hbo
  have cf : ∀ b o, b < W.heap.size → W'.frozen? ⟨b, o, none⟩ = W.frozen? ⟨b, o, none⟩ := fun b o hbo => hb.frozen (p := ⟨b, o, none⟩) hbo
  exact { hb := k.hb.trans (hb.mono k.hb.size), le := Nat.le_trans hl hb.size, a0 := (cl _ _ (by omega)).trans k.a0, a1 := (cl _ _ (by omega)).trans k.a1, b0 := (cl _ _ (by omega)).trans k.b0, b1 := (cl _ _ (by omega)).trans k.b1, f0 := (cf _ _ (by omega)).trans k.f0, f1 := (cf _ _ (by omega)).trans k.f1 }
theorem LvAt.drew {w : World} {A : Option Addr} {n c : Nat} {h : Int} {W : World} (k : LvAt w A n c h W) : LvAt w A n c h W.drew := k.keep (Below.drew (Below.refl _ _))
theorem frame_le9 {l : List Fr} {h p : Int} (hv : poolB l h = true) (hp : 0 ≤ p) (hx : frameIx l p < l.length) : pageI p = true := by
  obtain ⟨_, _, _, _, hok⟩ := poolB_iff.1 hv
  have h1 := okL_good hok _ (List.getElem_mem hx)
  have h2 := List.findIdx_getElem (p := fun f : Fr => f.1 == p) (xs := l) (w := hx)
  have h3 : (l[frameIx l p].1 == p) = true := h2
  have h4 : l[frameIx l p].1 = p := by simpa using h3
  rcases goodF_cases h1 with h5 | h5
  · omega
  · unfold pageI; simp; omega

set_option maxRecDepth 100000 in
set_option maxHeartbeats 4000000 in
theorem sLeave_bad (A : Option Addr) (n c : Nat) (l : List Fr) (h p : Int) (w : World) (hr : RowAt w w.heap.size A (frsC l)) (hn : n = l.length) (hs : n ≤ 1048576) (hv : poolB l h = false) :
    Calls Try.prog 16 #[.agg #[.slice A n c, .int .i64 h], .int .i64 p] w (LeavePost l h p w) := by
  have HV := Lib.hid (fun W (hb : Below w.heap.size w W) => sPoolV_any A n c l h W ((hr.below hb).mono hb.size) hn hs)
  have HL0 := Lib.hid (LvAt.start w A n c h)
  have HF := Lib.hid (show leaveR l h p = none by unfold leaveR; rw [hv]; rfl)
  rw [hv] at HV
  clear hr hn hv
  go_enter Try.func16, Try.ntmps16
  go_wp2_with fail
  refine wp_region_any (by kernel_rfl) ?_
  try (change wpAny _ _ _ _ _ _ _ (World.drew _))
  refine wpAny_ready (rs := [0]) (by kernel_rfl) (by simp) ?_
  refine AllReady.cons rfl (fun K hK => ?_) AllReady.nil
  go_simp
  refine hK _ _ ?_; clear hK K
  refine wpAny_ready (rs := [1]) (by kernel_rfl) (by simp) ?_
  refine AllReady.cons rfl (fun K hK => ?_) AllReady.nil
  go_simp
  go_wp2_with (go_at_call 55; refine (HV.out _ HL0.out.drew.hb).mono ?_; rintro e w1 ⟨rfl, hb1⟩)
  have HL1 := Lib.hid (HL0.out.drew.keep hb1); clear hb1
  refine wpAny_take (i := 2) (v := ?_) rfl (by kernel_rfl) (by kernel_rfl) (by kernel_rfl) (fun _ _ _ h => h) (Or.inl ⟨by kernel_rfl, ?_⟩) ?_
  rotate_left
  · (intro w; go_simp; first | done | with_reducible rfl)
  conv => arg 7; simp [Act.put]
  refine wpAny_take (i := 3) (v := ?_) rfl (by kernel_rfl) (by kernel_rfl) (by kernel_rfl) (fun _ _ _ h => h) (Or.inl ⟨by kernel_rfl, ?_⟩) ?_
  rotate_left
  · (intro w; go_simp; first | done | with_reducible rfl)
  conv => arg 7; simp [Act.put]
  refine wpAny_take (i := 4) (v := undef) rfl (by kernel_rfl) (by kernel_rfl) (by kernel_rfl) (fun _ _ _ h => h) (Or.inr ⟨by kernel_rfl, by kernel_rfl⟩) ?_
  conv => arg 7; simp [Act.put]
  refine wpAny_take (i := 5) (v := undef) rfl (by kernel_rfl) (by kernel_rfl) (by kernel_rfl) (fun _ _ _ h => h) (Or.inr ⟨by kernel_rfl, by kernel_rfl⟩) ?_
  conv => arg 7; simp [Act.put]
  refine wpAny_take (i := 6) (v := ?_) rfl (by kernel_rfl) (by kernel_rfl) (by kernel_rfl) (fun _ _ _ h => h) (Or.inl ⟨by kernel_rfl, ?_⟩) ?_
  rotate_left
  · (intro w; go_simp; first | done | with_reducible rfl)
  conv => arg 7; simp [Act.put]
  refine wpAny_take (i := 7) (v := ?_) rfl (by kernel_rfl) (by kernel_rfl) (by kernel_rfl) (fun _ _ _ h => h) (Or.inl ⟨by kernel_rfl, ?_⟩) ?_
  rotate_left
  · (intro w; go_simp; first | done | with_reducible rfl)
  conv => arg 7; simp [Act.put]
  refine wpAny_take (i := 8) (v := undef) rfl (by kernel_rfl) (by kernel_rfl) (by kernel_rfl) (fun _ _ _ h => h) (Or.inr ⟨by kernel_rfl, by kernel_rfl⟩) ?_
  conv => arg 7; simp [Act.put]
  refine wpAny_take (i := 9) (v := undef) rfl (by kernel_rfl) (by kernel_rfl) (by kernel_rfl) (fun _ _ _ h => h) (Or.inr ⟨by kernel_rfl, by kernel_rfl⟩) ?_
  conv => arg 7; simp [Act.put]
  refine wpAny_take (i := 10) (v := undef) rfl (by kernel_rfl) (by kernel_rfl) (by kernel_rfl) (fun _ _ _ h => h) (Or.inr ⟨by kernel_rfl, by kernel_rfl⟩) ?_
  conv => arg 7; simp [Act.put]
  refine wpAny_take (i := 11) (v := undef) rfl (by kernel_rfl) (by kernel_rfl) (by kernel_rfl) (fun _ _ _ h => h) (Or.inr ⟨by kernel_rfl, by kernel_rfl⟩) ?_
  conv => arg 7; simp [Act.put]
  refine wpAny_take (i := 12) (v := ?_) rfl (by kernel_rfl) (by kernel_rfl) (by kernel_rfl) (fun _ _ _ h => h) (Or.inl ⟨by kernel_rfl, ?_⟩) ?_
  rotate_left
  · (intro w; go_simp; first | done | with_reducible rfl)
  conv => arg 7; simp [Act.put]
  refine wpAny_take (i := 13) (v := ?_) rfl (by kernel_rfl) (by kernel_rfl) (by kernel_rfl) (fun _ _ _ h => h) (Or.inl ⟨by kernel_rfl, ?_⟩) ?_
  rotate_left
  · (intro w; go_simp; first | done | with_reducible rfl)
  conv => arg 7; simp [Act.put]
  refine wpAny_take (i := 14) (v := undef) rfl (by kernel_rfl) (by kernel_rfl) (by kernel_rfl) (fun _ _ _ h => h) (Or.inr ⟨by kernel_rfl, by kernel_rfl⟩) ?_
  conv => arg 7; simp [Act.put]
  refine wpAny_take (i := 15) (v := undef) rfl (by kernel_rfl) (by kernel_rfl) (by kernel_rfl) (fun _ _ _ h => h) (Or.inr ⟨by kernel_rfl, by kernel_rfl⟩) ?_
  conv => arg 7; simp [Act.put]
  refine wpAny_take (i := 16) (v := undef) rfl (by kernel_rfl) (by kernel_rfl) (by kernel_rfl) (fun _ _ _ h => h) (Or.inr ⟨by kernel_rfl, by kernel_rfl⟩) ?_
  conv => arg 7; simp [Act.put]
  refine wpAny_take (i := 17) (v := undef) rfl (by kernel_rfl) (by kernel_rfl) (by kernel_rfl) (fun _ _ _ h => h) (Or.inr ⟨by kernel_rfl, by kernel_rfl⟩) ?_
  conv => arg 7; simp [Act.put]
  refine wpAny_take (i := 18) (v := undef) rfl (by kernel_rfl) (by kernel_rfl) (by kernel_rfl) (fun _ _ _ h => h) (Or.inr ⟨by kernel_rfl, by kernel_rfl⟩) ?_
  conv => arg 7; simp [Act.put]
  refine wpAny_take (i := 19) (v := undef) rfl (by kernel_rfl) (by kernel_rfl) (by kernel_rfl) (fun _ _ _ h => h) (Or.inr ⟨by kernel_rfl, by kernel_rfl⟩) ?_
  conv => arg 7; simp [Act.put]
  refine wpAny_take (i := 20) (v := undef) rfl (by kernel_rfl) (by kernel_rfl) (by kernel_rfl) (fun _ _ _ h => h) (Or.inr ⟨by kernel_rfl, by kernel_rfl⟩) ?_
  conv => arg 7; simp [Act.put]
  refine wpAny_take (i := 21) (v := undef) rfl (by kernel_rfl) (by kernel_rfl) (by kernel_rfl) (fun _ _ _ h => h) (Or.inr ⟨by kernel_rfl, by kernel_rfl⟩) ?_
  conv => arg 7; simp [Act.put]
  refine wpAny_take (i := 22) (v := undef) rfl (by kernel_rfl) (by kernel_rfl) (by kernel_rfl) (fun _ _ _ h => h) (Or.inr ⟨by kernel_rfl, by kernel_rfl⟩) ?_
  conv => arg 7; simp [Act.put]
  refine wpAny_take (i := 23) (v := ?_) rfl (by kernel_rfl) (by kernel_rfl) (by kernel_rfl) (fun _ _ _ h => h) (Or.inl ⟨by kernel_rfl, ?_⟩) ?_
  rotate_left
  · (intro w; go_simp; first | done | with_reducible rfl)
  conv => arg 7; simp [Act.put]
  have r0 := HL1.out.b0
  have r1 := HL1.out.b1
  have k0 := HL1.out.f0
  have k1 := HL1.out.f1
  have hl := HL1.out.le
  refine wpAny_done (by kernel_rfl) ?_ _
  go_wp2_with fail
  refine bodyPost_ret (v := .tuple #[.agg #[.slice none 0 0, .int .i64 0], .bool false]) (by simp [results, Try.results16, go_sem, r0, r1]) rfl ?_
  refine LeavePost.no HF.out ((HL1.out.hb.setCell ?_ _).setCell ?_ _) <;> simp

set_option maxRecDepth 100000 in
set_option maxHeartbeats 4000000 in
theorem sLeave_neg (A : Option Addr) (n c : Nat) (l : List Fr) (h p : Int) (w : World) (hr : RowAt w w.heap.size A (frsC l)) (hn : n = l.length) (hs : n ≤ 1048576) (hv : poolB l h = true) (hp : p < 0) :
    Calls Try.prog 16 #[.agg #[.slice A n c, .int .i64 h], .int .i64 p] w (LeavePost l h p w) := by
  have HV := Lib.hid (fun W (hb : Below w.heap.size w W) => sPoolV_any A n c l h W ((hr.below hb).mono hb.size) hn hs)
  have HL0 := Lib.hid (LvAt.start w A n c h)
  have HF := Lib.hid (show leaveR l h p = none by unfold leaveR; rw [hv, if_pos rfl, if_neg]; unfold pageI; simp; omega)
  rw [hv] at HV
  clear hr hn hv
  go_enter Try.func16, Try.ntmps16
  go_wp2_with fail
  refine wp_region_any (by kernel_rfl) ?_
  try (change wpAny _ _ _ _ _ _ _ (World.drew _))
  refine wpAny_ready (rs := [0]) (by kernel_rfl) (by simp) ?_
  refine AllReady.cons rfl (fun K hK => ?_) AllReady.nil
  go_simp
  refine hK _ _ ?_; clear hK K
  refine wpAny_ready (rs := [1]) (by kernel_rfl) (by simp) ?_
  refine AllReady.cons rfl (fun K hK => ?_) AllReady.nil
  go_simp
  go_wp2_with (go_at_call 55; refine (HV.out _ HL0.out.drew.hb).mono ?_; rintro e w1 ⟨rfl, hb1⟩)
  have HL1 := Lib.hid (HL0.out.drew.keep hb1); clear hb1
  refine wpAny_take (i := 2) (v := ?_) rfl (by kernel_rfl) (by kernel_rfl) (by kernel_rfl) (fun _ _ _ h => h) (Or.inl ⟨by kernel_rfl, ?_⟩) ?_
  rotate_left
  · (intro w; go_simp; first | done | with_reducible rfl)
  conv => arg 7; simp [Act.put]
  refine wpAny_take (i := 3) (v := ?_) rfl (by kernel_rfl) (by kernel_rfl) (by kernel_rfl) (fun _ _ _ h => h) (Or.inl ⟨by kernel_rfl, ?_⟩) ?_
  rotate_left
  · (intro w; go_simp; first | done | with_reducible rfl)
  conv => arg 7; simp [Act.put]
  refine wpAny_take (i := 4) (v := ?_) rfl (by kernel_rfl) (by kernel_rfl) (by kernel_rfl) (fun _ _ _ h => h) (Or.inl ⟨by kernel_rfl, ?_⟩) ?_
  rotate_left
  · (intro w; go_simp; first | done | with_reducible rfl)
  conv => arg 7; simp [Act.put]
  refine wpAny_take (i := 5) (v := ?_) rfl (by kernel_rfl) (by kernel_rfl) (by kernel_rfl) (fun _ _ _ h => h) (Or.inl ⟨by kernel_rfl, ?_⟩) ?_
  rotate_left
  · (intro w; go_simp; first | done | with_reducible rfl)
  conv => arg 7; simp [Act.put]
  refine wpAny_take (i := 6) (v := ?_) rfl (by kernel_rfl) (by kernel_rfl) (by kernel_rfl) (fun _ _ _ h => h) (Or.inl ⟨by kernel_rfl, ?_⟩) ?_
  rotate_left
  · (intro w; go_simp; first | done | with_reducible rfl)
  conv => arg 7; simp [Act.put]
  refine wpAny_take (i := 7) (v := ?_) rfl (by kernel_rfl) (by kernel_rfl) (by kernel_rfl) (fun _ _ _ h => h) (Or.inl ⟨by kernel_rfl, ?_⟩) ?_
  rotate_left
  · (intro w; go_simp; first | done | with_reducible rfl)
  conv => arg 7; simp [Act.put]
  refine wpAny_take (i := 8) (v := undef) rfl (by kernel_rfl) (by kernel_rfl) (by kernel_rfl) (fun _ _ _ h => h) (Or.inr ⟨by kernel_rfl, by kernel_rfl⟩) ?_
  conv => arg 7; simp [Act.put]
  refine wpAny_take (i := 9) (v := undef) rfl (by kernel_rfl) (by kernel_rfl) (by kernel_rfl) (fun _ _ _ h => h) (Or.inr ⟨by kernel_rfl, by kernel_rfl⟩) ?_
  conv => arg 7; simp [Act.put]
  refine wpAny_take (i := 10) (v := undef) rfl (by kernel_rfl) (by kernel_rfl) (by kernel_rfl) (fun _ _ _ h => h) (Or.inr ⟨by kernel_rfl, by kernel_rfl⟩) ?_
  conv => arg 7; simp [Act.put]
  refine wpAny_take (i := 11) (v := undef) rfl (by kernel_rfl) (by kernel_rfl) (by kernel_rfl) (fun _ _ _ h => h) (Or.inr ⟨by kernel_rfl, by kernel_rfl⟩) ?_
  conv => arg 7; simp [Act.put]
  refine wpAny_take (i := 12) (v := ?_) rfl (by kernel_rfl) (by kernel_rfl) (by kernel_rfl) (fun _ _ _ h => h) (Or.inl ⟨by kernel_rfl, ?_⟩) ?_
  rotate_left
  · (intro w; go_simp; first | done | with_reducible rfl)
  conv => arg 7; simp [Act.put]
  refine wpAny_take (i := 13) (v := ?_) rfl (by kernel_rfl) (by kernel_rfl) (by kernel_rfl) (fun _ _ _ h => h) (Or.inl ⟨by kernel_rfl, ?_⟩) ?_
  rotate_left
  · (intro w; go_simp; first | done | with_reducible rfl)
  conv => arg 7; simp [Act.put]
  refine wpAny_take (i := 14) (v := undef) rfl (by kernel_rfl) (by kernel_rfl) (by kernel_rfl) (fun _ _ _ h => h) (Or.inr ⟨by kernel_rfl, by kernel_rfl⟩) ?_
  conv => arg 7; simp [Act.put]
  refine wpAny_take (i := 15) (v := undef) rfl (by kernel_rfl) (by kernel_rfl) (by kernel_rfl) (fun _ _ _ h => h) (Or.inr ⟨by kernel_rfl, by kernel_rfl⟩) ?_
  conv => arg 7; simp [Act.put]
  refine wpAny_take (i := 16) (v := undef) rfl (by kernel_rfl) (by kernel_rfl) (by kernel_rfl) (fun _ _ _ h => h) (Or.inr ⟨by kernel_rfl, by kernel_rfl⟩) ?_
  conv => arg 7; simp [Act.put]
  refine wpAny_take (i := 17) (v := undef) rfl (by kernel_rfl) (by kernel_rfl) (by kernel_rfl) (fun _ _ _ h => h) (Or.inr ⟨by kernel_rfl, by kernel_rfl⟩) ?_
  conv => arg 7; simp [Act.put]
  refine wpAny_take (i := 18) (v := undef) rfl (by kernel_rfl) (by kernel_rfl) (by kernel_rfl) (fun _ _ _ h => h) (Or.inr ⟨by kernel_rfl, by kernel_rfl⟩) ?_
  conv => arg 7; simp [Act.put]
  refine wpAny_take (i := 19) (v := undef) rfl (by kernel_rfl) (by kernel_rfl) (by kernel_rfl) (fun _ _ _ h => h) (Or.inr ⟨by kernel_rfl, by kernel_rfl⟩) ?_
  conv => arg 7; simp [Act.put]
  refine wpAny_take (i := 20) (v := undef) rfl (by kernel_rfl) (by kernel_rfl) (by kernel_rfl) (fun _ _ _ h => h) (Or.inr ⟨by kernel_rfl, by kernel_rfl⟩) ?_
  conv => arg 7; simp [Act.put]
  refine wpAny_take (i := 21) (v := undef) rfl (by kernel_rfl) (by kernel_rfl) (by kernel_rfl) (fun _ _ _ h => h) (Or.inr ⟨by kernel_rfl, by kernel_rfl⟩) ?_
  conv => arg 7; simp [Act.put]
  refine wpAny_take (i := 22) (v := undef) rfl (by kernel_rfl) (by kernel_rfl) (by kernel_rfl) (fun _ _ _ h => h) (Or.inr ⟨by kernel_rfl, by kernel_rfl⟩) ?_
  conv => arg 7; simp [Act.put]
  refine wpAny_take (i := 23) (v := ?_) rfl (by kernel_rfl) (by kernel_rfl) (by kernel_rfl) (fun _ _ _ h => h) (Or.inl ⟨by kernel_rfl, ?_⟩) ?_
  rotate_left
  · (intro w; go_simp; first | done | with_reducible rfl)
  conv => arg 7; simp [Act.put]
  have r0 := HL1.out.b0
  have r1 := HL1.out.b1
  have k0 := HL1.out.f0
  have k1 := HL1.out.f1
  have hl := HL1.out.le
  refine wpAny_done (by kernel_rfl) ?_ _
  go_wp2_with fail
  refine bodyPost_ret (v := .tuple #[.agg #[.slice none 0 0, .int .i64 0], .bool false]) (by simp [results, Try.results16, go_sem, r0, r1]) rfl ?_
  refine LeavePost.no HF.out ((HL1.out.hb.setCell ?_ _).setCell ?_ _) <;> simp

set_option maxRecDepth 100000 in
set_option maxHeartbeats 4000000 in
theorem sLeave_none (A : Option Addr) (n c : Nat) (l : List Fr) (h p : Int) (w : World) (hr : RowAt w w.heap.size A (frsC l)) (hn : n = l.length) (hs : n ≤ 1048576) (hv : poolB l h = true) (hp : 0 ≤ p) (hx : ¬ frameIx l p < l.length) :
    Calls Try.prog 16 #[.agg #[.slice A n c, .int .i64 h], .int .i64 p] w (LeavePost l h p w) := by
  have HV := Lib.hid (fun W (hb : Below w.heap.size w W) => sPoolV_any A n c l h W ((hr.below hb).mono hb.size) hn hs)
  have HL0 := Lib.hid (LvAt.start w A n c h)
  have hp2 : decide (p < 0) = false := by simp; omega
  have HFO := Lib.hid (fun W (hb : Below w.heap.size w W) => sFrameOf_any A n c l h p W ((hr.below hb).mono hb.size) hn hs)
  have HIX := Lib.hid (show ixI l p = -1 by unfold ixI; rw [if_neg hx])
  rw [HIX.out] at HFO
  have HF := Lib.hid (show leaveR l h p = none by unfold leaveR leaveL; rw [hv, if_pos rfl, if_neg hx]; split <;> rfl)
  clear hx
  rw [hv] at HV
  clear hr hn hv
  go_enter Try.func16, Try.ntmps16
  go_wp2_with fail
  refine wp_region_any (by kernel_rfl) ?_
  try (change wpAny _ _ _ _ _ _ _ (World.drew _))
  refine wpAny_ready (rs := [0]) (by kernel_rfl) (by simp) ?_
  refine AllReady.cons rfl (fun K hK => ?_) AllReady.nil
  go_simp
  refine hK _ _ ?_; clear hK K
  refine wpAny_ready (rs := [1]) (by kernel_rfl) (by simp) ?_
  refine AllReady.cons rfl (fun K hK => ?_) AllReady.nil
  go_simp
  go_wp2_with (go_at_call 55; refine (HV.out _ HL0.out.drew.hb).mono ?_; rintro e w1 ⟨rfl, hb1⟩)
  have HL1 := Lib.hid (HL0.out.drew.keep hb1); clear hb1
  refine wpAny_take (i := 2) (v := ?_) rfl (by kernel_rfl) (by kernel_rfl) (by kernel_rfl) (fun _ _ _ h => h) (Or.inl ⟨by kernel_rfl, ?_⟩) ?_
  rotate_left
  · (intro w; go_simp; first | done | with_reducible rfl)
  conv => arg 7; simp [Act.put]
  refine wpAny_take (i := 3) (v := ?_) rfl (by kernel_rfl) (by kernel_rfl) (by kernel_rfl) (fun _ _ _ h => h) (Or.inl ⟨by kernel_rfl, ?_⟩) ?_
  rotate_left
  · (intro w; go_simp; first | done | with_reducible rfl)
  conv => arg 7; simp [Act.put]
  refine wpAny_take (i := 4) (v := ?_) rfl (by kernel_rfl) (by kernel_rfl) (by kernel_rfl) (fun _ _ _ h => h) (Or.inl ⟨by kernel_rfl, ?_⟩) ?_
  rotate_left
  · (intro w; go_simp; first | done | with_reducible rfl)
  conv => arg 7; simp [Act.put]
  refine wpAny_take (i := 5) (v := ?_) rfl (by kernel_rfl) (by kernel_rfl) (by kernel_rfl) (fun _ _ _ h => h) (Or.inl ⟨by kernel_rfl, ?_⟩) ?_
  rotate_left
  · (intro w; go_simp; first | done | with_reducible rfl)
  conv => arg 7; simp [Act.put]
  refine wpAny_take (i := 6) (v := ?_) rfl (by kernel_rfl) (by kernel_rfl) (by kernel_rfl) (fun _ _ _ h => h) (Or.inl ⟨by kernel_rfl, ?_⟩) ?_
  rotate_left
  · (intro w; go_simp; first | done | with_reducible rfl)
  conv => arg 7; simp [Act.put]
  refine wpAny_take (i := 7) (v := ?_) rfl (by kernel_rfl) (by kernel_rfl) (by kernel_rfl) (fun _ _ _ h => h) (Or.inl ⟨by kernel_rfl, ?_⟩) ?_
  rotate_left
  · (intro w; go_simp; first | done | with_reducible rfl)
  conv => arg 7; simp [Act.put]
  refine wpAny_take (i := 9) (v := ?_) rfl (by kernel_rfl) (by kernel_rfl) (by kernel_rfl) (fun _ _ _ h => h) (Or.inl ⟨by kernel_rfl, ?_⟩) ?_
  rotate_left
  · (intro w; go_simp; first | done | with_reducible rfl)
  conv => arg 7; simp [Act.put]
  have a0 := HL1.out.a0
  have a1 := HL1.out.a1
  refine wpAny_ready (rs := [8]) (by kernel_rfl) (by simp) ?_
  refine AllReady.cons rfl (fun K hK => ?_) AllReady.nil
  go_simp
  refine hK _ _ ?_; clear hK K
  refine wpAny_ready (rs := [10]) (by kernel_rfl) (by simp) ?_
  refine AllReady.cons rfl (fun K hK => ?_) AllReady.nil
  go_simp
  go_wp2_with (go_at_call 56; refine (HFO.out _ HL1.out.hb).mono ?_; rintro e w2 ⟨rfl, hb2⟩)
  have HL2 := Lib.hid (HL1.out.keep hb2); clear hb2 a0 a1
  refine wpAny_take (i := 11) (v := ?_) rfl (by kernel_rfl) (by kernel_rfl) (by kernel_rfl) (fun _ _ _ h => h) (Or.inl ⟨by kernel_rfl, ?_⟩) ?_
  rotate_left
  · (intro w; go_simp; first | done | with_reducible rfl)
  conv => arg 7; simp [Act.put]
  refine wpAny_take (i := 12) (v := ?_) rfl (by kernel_rfl) (by kernel_rfl) (by kernel_rfl) (fun _ _ _ h => h) (Or.inl ⟨by kernel_rfl, ?_⟩) ?_
  rotate_left
  · (intro w; go_simp; first | done | with_reducible rfl)
  conv => arg 7; simp [Act.put]
  refine wpAny_take (i := 13) (v := ?_) rfl (by kernel_rfl) (by kernel_rfl) (by kernel_rfl) (fun _ _ _ h => h) (Or.inl ⟨by kernel_rfl, ?_⟩) ?_
  rotate_left
  · (intro w; go_simp; first | done | with_reducible rfl)
  conv => arg 7; simp [Act.put]
  refine wpAny_take (i := 14) (v := undef) rfl (by kernel_rfl) (by kernel_rfl) (by kernel_rfl) (fun _ _ _ h => h) (Or.inr ⟨by kernel_rfl, by kernel_rfl⟩) ?_
  conv => arg 7; simp [Act.put]
  refine wpAny_take (i := 15) (v := undef) rfl (by kernel_rfl) (by kernel_rfl) (by kernel_rfl) (fun _ _ _ h => h) (Or.inr ⟨by kernel_rfl, by kernel_rfl⟩) ?_
  conv => arg 7; simp [Act.put]
  refine wpAny_take (i := 16) (v := undef) rfl (by kernel_rfl) (by kernel_rfl) (by kernel_rfl) (fun _ _ _ h => h) (Or.inr ⟨by kernel_rfl, by kernel_rfl⟩) ?_
  conv => arg 7; simp [Act.put]
  refine wpAny_take (i := 17) (v := undef) rfl (by kernel_rfl) (by kernel_rfl) (by kernel_rfl) (fun _ _ _ h => h) (Or.inr ⟨by kernel_rfl, by kernel_rfl⟩) ?_
  conv => arg 7; simp [Act.put]
  refine wpAny_take (i := 18) (v := undef) rfl (by kernel_rfl) (by kernel_rfl) (by kernel_rfl) (fun _ _ _ h => h) (Or.inr ⟨by kernel_rfl, by kernel_rfl⟩) ?_
  conv => arg 7; simp [Act.put]
  refine wpAny_take (i := 19) (v := undef) rfl (by kernel_rfl) (by kernel_rfl) (by kernel_rfl) (fun _ _ _ h => h) (Or.inr ⟨by kernel_rfl, by kernel_rfl⟩) ?_
  conv => arg 7; simp [Act.put]
  refine wpAny_take (i := 20) (v := undef) rfl (by kernel_rfl) (by kernel_rfl) (by kernel_rfl) (fun _ _ _ h => h) (Or.inr ⟨by kernel_rfl, by kernel_rfl⟩) ?_
  conv => arg 7; simp [Act.put]
  refine wpAny_take (i := 21) (v := undef) rfl (by kernel_rfl) (by kernel_rfl) (by kernel_rfl) (fun _ _ _ h => h) (Or.inr ⟨by kernel_rfl, by kernel_rfl⟩) ?_
  conv => arg 7; simp [Act.put]
  refine wpAny_take (i := 22) (v := undef) rfl (by kernel_rfl) (by kernel_rfl) (by kernel_rfl) (fun _ _ _ h => h) (Or.inr ⟨by kernel_rfl, by kernel_rfl⟩) ?_
  conv => arg 7; simp [Act.put]
  refine wpAny_take (i := 23) (v := ?_) rfl (by kernel_rfl) (by kernel_rfl) (by kernel_rfl) (fun _ _ _ h => h) (Or.inl ⟨by kernel_rfl, ?_⟩) ?_
  rotate_left
  · (intro w; go_simp; first | done | with_reducible rfl)
  conv => arg 7; simp [Act.put]
  have r0 := HL2.out.b0
  have r1 := HL2.out.b1
  have k0 := HL2.out.f0
  have k1 := HL2.out.f1
  have hl := HL2.out.le
  refine wpAny_done (by kernel_rfl) ?_ _
  go_wp2_with fail
  refine bodyPost_ret (v := .tuple #[.agg #[.slice none 0 0, .int .i64 0], .bool false]) (by simp [results, Try.results16, go_sem, r0, r1]) rfl ?_
  refine LeavePost.no HF.out ((HL2.out.hb.setCell ?_ _).setCell ?_ _) <;> simp

set_option maxRecDepth 100000 in
set_option maxHeartbeats 4000000 in
theorem sLeave_zero (A : Option Addr) (n c : Nat) (l : List Fr) (h p : Int) (w : World) (hr : RowAt w w.heap.size A (frsC l)) (hn : n = l.length) (hs : n ≤ 1048576) (hv : poolB l h = true) (hp : 0 ≤ p) (hx : frameIx l p < l.length) (hz : l[frameIx l p].2.1 = 0) :
    Calls Try.prog 16 #[.agg #[.slice A n c, .int .i64 h], .int .i64 p] w (LeavePost l h p w) := by
  have HV := Lib.hid (fun W (hb : Below w.heap.size w W) => sPoolV_any A n c l h W ((hr.below hb).mono hb.size) hn hs)
  have HL0 := Lib.hid (LvAt.start w A n c h)
  obtain ⟨b, off, rfl, hbw, _, m1, _⟩ := frames_at hr hx
  have hp2 : decide (p < 0) = false := by simp; omega
  have HFO := Lib.hid (fun W (hb : Below w.heap.size w W) => sFrameOf_any (some ⟨b, off, none⟩) n c l h p W ((hr.below hb).mono hb.size) hn hs)
  have HIX := Lib.hid (show ixI l p = (frameIx l p : Int) by unfold ixI; rw [if_pos hx])
  rw [HIX.out] at HFO
  have HPC := Lib.hid (fun W (hb : Below w.heap.size w W) => (hb.cell (p := ⟨b, off + frameIx l p * 3 + 1, none⟩) hbw).trans m1); clear m1
  have hpg := frame_le9 hv hp hx
  have i0 : (0 : Int) ≤ (frameIx l p : Int) := by omega
  have i1 : (frameIx l p : Int) < (n : Int) := by omega
  have i2 : decide ((frameIx l p : Int) < 0) = false := by simp
  have HF := Lib.hid (show leaveR l h p = none by unfold leaveR leaveL; rw [hv, if_pos rfl, hpg, if_pos rfl, if_pos hx, getD_lt hx, if_pos hz])
  rw [hz] at HPC
  clear hz hpg HIX
  generalize frameIx l p = I at *
  rw [hv] at HV
  clear hr hn hv
  go_enter Try.func16, Try.ntmps16
  go_wp2_with fail
  refine wp_region_any (by kernel_rfl) ?_
  try (change wpAny _ _ _ _ _ _ _ (World.drew _))
  refine wpAny_ready (rs := [0]) (by kernel_rfl) (by simp) ?_
  refine AllReady.cons rfl (fun K hK => ?_) AllReady.nil
  go_simp
  refine hK _ _ ?_; clear hK K
  refine wpAny_ready (rs := [1]) (by kernel_rfl) (by simp) ?_
  refine AllReady.cons rfl (fun K hK => ?_) AllReady.nil
  go_simp
  go_wp2_with (go_at_call 55; refine (HV.out _ HL0.out.drew.hb).mono ?_; rintro e w1 ⟨rfl, hb1⟩)
  have HL1 := Lib.hid (HL0.out.drew.keep hb1); clear hb1
  refine wpAny_take (i := 2) (v := ?_) rfl (by kernel_rfl) (by kernel_rfl) (by kernel_rfl) (fun _ _ _ h => h) (Or.inl ⟨by kernel_rfl, ?_⟩) ?_
  rotate_left
  · (intro w; go_simp; first | done | with_reducible rfl)
  conv => arg 7; simp [Act.put]
  refine wpAny_take (i := 3) (v := ?_) rfl (by kernel_rfl) (by kernel_rfl) (by kernel_rfl) (fun _ _ _ h => h) (Or.inl ⟨by kernel_rfl, ?_⟩) ?_
  rotate_left
  · (intro w; go_simp; first | done | with_reducible rfl)
  conv => arg 7; simp [Act.put]
  refine wpAny_take (i := 4) (v := ?_) rfl (by kernel_rfl) (by kernel_rfl) (by kernel_rfl) (fun _ _ _ h => h) (Or.inl ⟨by kernel_rfl, ?_⟩) ?_
  rotate_left
  · (intro w; go_simp; first | done | with_reducible rfl)
  conv => arg 7; simp [Act.put]
  refine wpAny_take (i := 5) (v := ?_) rfl (by kernel_rfl) (by kernel_rfl) (by kernel_rfl) (fun _ _ _ h => h) (Or.inl ⟨by kernel_rfl, ?_⟩) ?_
  rotate_left
  · (intro w; go_simp; first | done | with_reducible rfl)
  conv => arg 7; simp [Act.put]
  refine wpAny_take (i := 6) (v := ?_) rfl (by kernel_rfl) (by kernel_rfl) (by kernel_rfl) (fun _ _ _ h => h) (Or.inl ⟨by kernel_rfl, ?_⟩) ?_
  rotate_left
  · (intro w; go_simp; first | done | with_reducible rfl)
  conv => arg 7; simp [Act.put]
  refine wpAny_take (i := 7) (v := ?_) rfl (by kernel_rfl) (by kernel_rfl) (by kernel_rfl) (fun _ _ _ h => h) (Or.inl ⟨by kernel_rfl, ?_⟩) ?_
  rotate_left
  · (intro w; go_simp; first | done | with_reducible rfl)
  conv => arg 7; simp [Act.put]
  refine wpAny_take (i := 9) (v := ?_) rfl (by kernel_rfl) (by kernel_rfl) (by kernel_rfl) (fun _ _ _ h => h) (Or.inl ⟨by kernel_rfl, ?_⟩) ?_
  rotate_left
  · (intro w; go_simp; first | done | with_reducible rfl)
  conv => arg 7; simp [Act.put]
  have a0 := HL1.out.a0
  have a1 := HL1.out.a1
  refine wpAny_ready (rs := [8]) (by kernel_rfl) (by simp) ?_
  refine AllReady.cons rfl (fun K hK => ?_) AllReady.nil
  go_simp
  refine hK _ _ ?_; clear hK K
  refine wpAny_ready (rs := [10]) (by kernel_rfl) (by simp) ?_
  refine AllReady.cons rfl (fun K hK => ?_) AllReady.nil
  go_simp
  go_wp2_with (go_at_call 56; refine (HFO.out _ HL1.out.hb).mono ?_; rintro e w2 ⟨rfl, hb2⟩)
  have HL2 := Lib.hid (HL1.out.keep hb2); clear hb2 a0 a1
  refine wpAny_take (i := 11) (v := ?_) rfl (by kernel_rfl) (by kernel_rfl) (by kernel_rfl) (fun _ _ _ h => h) (Or.inl ⟨by kernel_rfl, ?_⟩) ?_
  rotate_left
  · (intro w; go_simp; first | done | with_reducible rfl)
  conv => arg 7; simp [Act.put]
  refine wpAny_take (i := 12) (v := ?_) rfl (by kernel_rfl) (by kernel_rfl) (by kernel_rfl) (fun _ _ _ h => h) (Or.inl ⟨by kernel_rfl, ?_⟩) ?_
  rotate_left
  · (intro w; go_simp; first | done | with_reducible rfl)
  conv => arg 7; simp [Act.put]
  refine wpAny_take (i := 13) (v := ?_) rfl (by kernel_rfl) (by kernel_rfl) (by kernel_rfl) (fun _ _ _ h => h) (Or.inl ⟨by kernel_rfl, ?_⟩) ?_
  rotate_left
  · (intro w; go_simp; first | done | with_reducible rfl)
  conv => arg 7; simp [Act.put]
  refine wpAny_take (i := 14) (v := ?_) rfl (by kernel_rfl) (by kernel_rfl) (by kernel_rfl) (fun _ _ _ h => h) (Or.inl ⟨by kernel_rfl, ?_⟩) ?_
  rotate_left
  · (intro w; go_simp; first | done | with_reducible rfl)
  conv => arg 7; simp [Act.put]
  refine wpAny_take (i := 17) (v := ?_) rfl (by kernel_rfl) (by kernel_rfl) (by kernel_rfl) (fun _ _ _ h => h) (Or.inl ⟨by kernel_rfl, ?_⟩) ?_
  rotate_left
  · (intro w; go_simp; first | done | with_reducible rfl)
  conv => arg 7; simp [Act.put]
  have a0 := HL2.out.a0
  have a1 := HL2.out.a1
  refine wpAny_ready (rs := [15, 16]) (by kernel_rfl) (by simp) ?_
  refine AllReady.cons rfl (fun K hK => ?_) (AllReady.cons rfl (fun K hK => ?_) (AllReady.nil))
  · go_simp
    refine hK _ _ ?_; clear hK K
    refine wpAny_ready (rs := [16]) (by kernel_rfl) (by simp) ?_
    refine AllReady.cons rfl (fun K hK => ?_) (AllReady.nil)
    · go_simp
      refine hK _ _ ?_; clear hK K
      refine wpAny_ready (rs := [18]) (by kernel_rfl) (by simp) ?_
      refine AllReady.cons rfl (fun K hK => ?_) (AllReady.nil)
      · go_simp
        go_wp2_with (go_at_call 56; refine (HFO.out _ HL2.out.hb).mono ?_; rintro e w3 ⟨rfl, hb3⟩)
        have HL3 := Lib.hid (HL2.out.keep hb3); clear hb3 a0 a1
        have m1 := (HPC.out _ HL3.out.hb)
        refine wpAny_take (i := 19) (v := ?_) rfl (by kernel_rfl) (by kernel_rfl) (by kernel_rfl) (fun _ _ _ h => h) (Or.inl ⟨by kernel_rfl, ?_⟩) ?_
        rotate_left
        · (intro w; go_simp; first | done | with_reducible rfl)
        conv => arg 7; simp [Act.put]
        refine wpAny_take (i := 20) (v := ?_) rfl (by kernel_rfl) (by kernel_rfl) (by kernel_rfl) (fun _ _ _ h => h) (Or.inl ⟨by kernel_rfl, ?_⟩) ?_
        rotate_left
        · (intro w; go_simp; first | done | with_reducible rfl)
        conv => arg 7; simp [Act.put]
        refine wpAny_ready (rs := [21]) (by kernel_rfl) (by simp) ?_
        refine AllReady.cons rfl (fun K hK => ?_) AllReady.nil
        go_simp
        refine hK _ _ ?_; clear hK K
        clear m1
        refine wpAny_take (i := 22) (v := ?_) rfl (by kernel_rfl) (by kernel_rfl) (by kernel_rfl) (fun _ _ _ h => h) (Or.inl ⟨by kernel_rfl, ?_⟩) ?_
        rotate_left
        · (intro w; go_simp; first | done | with_reducible rfl)
        conv => arg 7; simp [Act.put]
        refine wpAny_take (i := 23) (v := ?_) rfl (by kernel_rfl) (by kernel_rfl) (by kernel_rfl) (fun _ _ _ h => h) (Or.inl ⟨by kernel_rfl, ?_⟩) ?_
        rotate_left
        · (intro w; go_simp; first | done | with_reducible rfl)
        conv => arg 7; simp [Act.put]
        refine wpAny_done (by kernel_rfl) ?_ _
        have r0 := HL3.out.b0
        have r1 := HL3.out.b1
        have k0 := HL3.out.f0
        have k1 := HL3.out.f1
        have hl := HL3.out.le
        go_wp2_with fail
        refine bodyPost_ret (v := .tuple #[.agg #[.slice none 0 0, .int .i64 0], .bool false]) (by simp [results, Try.results16, go_sem, r0, r1]) rfl ?_
        refine LeavePost.no HF.out ((HL3.out.hb.setCell ?_ _).setCell ?_ _) <;> simp
  · go_simp
    refine hK _ _ ?_; clear hK K
    refine wpAny_ready (rs := [15, 18]) (by kernel_rfl) (by simp) ?_
    refine AllReady.cons rfl (fun K hK => ?_) (AllReady.cons rfl (fun K hK => ?_) (AllReady.nil))
    · go_simp
      refine hK _ _ ?_; clear hK K
      refine wpAny_ready (rs := [18]) (by kernel_rfl) (by simp) ?_
      refine AllReady.cons rfl (fun K hK => ?_) (AllReady.nil)
      · go_simp
        go_wp2_with (go_at_call 56; refine (HFO.out _ HL2.out.hb).mono ?_; rintro e w3 ⟨rfl, hb3⟩)
        have HL3 := Lib.hid (HL2.out.keep hb3); clear hb3 a0 a1
        have m1 := (HPC.out _ HL3.out.hb)
        refine wpAny_take (i := 19) (v := ?_) rfl (by kernel_rfl) (by kernel_rfl) (by kernel_rfl) (fun _ _ _ h => h) (Or.inl ⟨by kernel_rfl, ?_⟩) ?_
        rotate_left
        · (intro w; go_simp; first | done | with_reducible rfl)
        conv => arg 7; simp [Act.put]
        refine wpAny_take (i := 20) (v := ?_) rfl (by kernel_rfl) (by kernel_rfl) (by kernel_rfl) (fun _ _ _ h => h) (Or.inl ⟨by kernel_rfl, ?_⟩) ?_
        rotate_left
        · (intro w; go_simp; first | done | with_reducible rfl)
        conv => arg 7; simp [Act.put]
        refine wpAny_ready (rs := [21]) (by kernel_rfl) (by simp) ?_
        refine AllReady.cons rfl (fun K hK => ?_) AllReady.nil
        go_simp
        refine hK _ _ ?_; clear hK K
        clear m1
        refine wpAny_take (i := 22) (v := ?_) rfl (by kernel_rfl) (by kernel_rfl) (by kernel_rfl) (fun _ _ _ h => h) (Or.inl ⟨by kernel_rfl, ?_⟩) ?_
        rotate_left
        · (intro w; go_simp; first | done | with_reducible rfl)
        conv => arg 7; simp [Act.put]
        refine wpAny_take (i := 23) (v := ?_) rfl (by kernel_rfl) (by kernel_rfl) (by kernel_rfl) (fun _ _ _ h => h) (Or.inl ⟨by kernel_rfl, ?_⟩) ?_
        rotate_left
        · (intro w; go_simp; first | done | with_reducible rfl)
        conv => arg 7; simp [Act.put]
        refine wpAny_done (by kernel_rfl) ?_ _
        have r0 := HL3.out.b0
        have r1 := HL3.out.b1
        have k0 := HL3.out.f0
        have k1 := HL3.out.f1
        have hl := HL3.out.le
        go_wp2_with fail
        refine bodyPost_ret (v := .tuple #[.agg #[.slice none 0 0, .int .i64 0], .bool false]) (by simp [results, Try.results16, go_sem, r0, r1]) rfl ?_
        refine LeavePost.no HF.out ((HL3.out.hb.setCell ?_ _).setCell ?_ _) <;> simp
    · go_simp
      go_wp2_with (go_at_call 56; refine (HFO.out _ HL2.out.hb).mono ?_; rintro e w3 ⟨rfl, hb3⟩)
      have HL3 := Lib.hid (HL2.out.keep hb3); clear hb3 a0 a1
      have a0 := HL3.out.a0
      have a1 := HL3.out.a1
      refine wpAny_ready (rs := [15]) (by kernel_rfl) (by simp) ?_
      refine AllReady.cons rfl (fun K hK => ?_) AllReady.nil
      go_simp
      refine hK _ _ ?_; clear hK K
      clear a0 a1
      have m1 := (HPC.out _ HL3.out.hb)
      refine wpAny_take (i := 19) (v := ?_) rfl (by kernel_rfl) (by kernel_rfl) (by kernel_rfl) (fun _ _ _ h => h) (Or.inl ⟨by kernel_rfl, ?_⟩) ?_
      rotate_left
      · (intro w; go_simp; first | done | with_reducible rfl)
      conv => arg 7; simp [Act.put]
      refine wpAny_take (i := 20) (v := ?_) rfl (by kernel_rfl) (by kernel_rfl) (by kernel_rfl) (fun _ _ _ h => h) (Or.inl ⟨by kernel_rfl, ?_⟩) ?_
      rotate_left
      · (intro w; go_simp; first | done | with_reducible rfl)
      conv => arg 7; simp [Act.put]
      refine wpAny_ready (rs := [21]) (by kernel_rfl) (by simp) ?_
      refine AllReady.cons rfl (fun K hK => ?_) AllReady.nil
      go_simp
      refine hK _ _ ?_; clear hK K
      clear m1
      refine wpAny_take (i := 22) (v := ?_) rfl (by kernel_rfl) (by kernel_rfl) (by kernel_rfl) (fun _ _ _ h => h) (Or.inl ⟨by kernel_rfl, ?_⟩) ?_
      rotate_left
      · (intro w; go_simp; first | done | with_reducible rfl)
      conv => arg 7; simp [Act.put]
      refine wpAny_take (i := 23) (v := ?_) rfl (by kernel_rfl) (by kernel_rfl) (by kernel_rfl) (fun _ _ _ h => h) (Or.inl ⟨by kernel_rfl, ?_⟩) ?_
      rotate_left
      · (intro w; go_simp; first | done | with_reducible rfl)
      conv => arg 7; simp [Act.put]
      refine wpAny_done (by kernel_rfl) ?_ _
      have r0 := HL3.out.b0
      have r1 := HL3.out.b1
      have k0 := HL3.out.f0
      have k1 := HL3.out.f1
      have hl := HL3.out.le
      go_wp2_with fail
      refine bodyPost_ret (v := .tuple #[.agg #[.slice none 0 0, .int .i64 0], .bool false]) (by simp [results, Try.results16, go_sem, r0, r1]) rfl ?_
      refine LeavePost.no HF.out ((HL3.out.hb.setCell ?_ _).setCell ?_ _) <;> simp

set_option maxRecDepth 100000 in
set_option maxHeartbeats 4000000 in
theorem sLeave_some (A : Option Addr) (n c : Nat) (l : List Fr) (h p : Int) (w : World) (hr : RowAt w w.heap.size A (frsC l)) (hn : n = l.length) (hs : n ≤ 1048576) (hv : poolB l h = true) (hp : 0 ≤ p) (hx : frameIx l p < l.length) (hz : l[frameIx l p].2.1 ≠ 0) :
    Calls Try.prog 16 #[.agg #[.slice A n c, .int .i64 h], .int .i64 p] w (LeavePost l h p w) := by
  have HV := Lib.hid (fun W (hb : Below w.heap.size w W) => sPoolV_any A n c l h W ((hr.below hb).mono hb.size) hn hs)
  have HL0 := Lib.hid (LvAt.start w A n c h)
  obtain ⟨b, off, rfl, hbw, _, m1, _⟩ := frames_at hr hx
  have hp2 : decide (p < 0) = false := by simp; omega
  have HFO := Lib.hid (fun W (hb : Below w.heap.size w W) => sFrameOf_any (some ⟨b, off, none⟩) n c l h p W ((hr.below hb).mono hb.size) hn hs)
  have HIX := Lib.hid (show ixI l p = (frameIx l p : Int) by unfold ixI; rw [if_pos hx])
  rw [HIX.out] at HFO
  have HPC := Lib.hid (fun W (hb : Below w.heap.size w W) => (hb.cell (p := ⟨b, off + frameIx l p * 3 + 1, none⟩) hbw).trans m1); clear m1
  have hpg := frame_le9 hv hp hx
  have i0 : (0 : Int) ≤ (frameIx l p : Int) := by omega
  have i1 : (frameIx l p : Int) < (n : Int) := by omega
  have i2 : decide ((frameIx l p : Int) < 0) = false := by simp
  have hpin : -1 ≤ l[frameIx l p].2.1 ∧ l[frameIx l p].2.1 ≤ 3 := by
    obtain ⟨_, _, _, _, hok⟩ := poolB_iff.1 hv
    rcases goodF_cases (okL_good hok _ (List.getElem_mem hx)) with h5 | h5 <;> omega
  have hne : frameIx l p < l.length → l[frameIx l p].1 = p := fun _ => frameIx_is hx
  have HF := Lib.hid (show leaveR l h p = some (l.set (frameIx l p) (l[frameIx l p].1, l[frameIx l p].2.1 - 1, l[frameIx l p].2.2)) by unfold leaveR leaveL; rw [hv, if_pos rfl, hpg, if_pos rfl, if_pos hx, getD_lt hx, if_neg hz, hne hx])
  have HLV := Lib.hid (fun W (hb : Below w.heap.size w W) => sLeaveW_any ⟨b, off, none⟩ n c l h p W ((hr.below hb).mono hb.size) hn hs hx hpin)
  have q0 : (l[frameIx l p].2.1 == 0) = false := by simpa using hz
  clear hz hpg HIX hpin hne
  generalize l.set (frameIx l p) (l[frameIx l p].1, l[frameIx l p].2.1 - 1, l[frameIx l p].2.2) = L at *
  generalize l[frameIx l p].2.1 = pin at *
  generalize frameIx l p = I at *
  rw [hv] at HV
  clear hr hn hv
  go_enter Try.func16, Try.ntmps16
  go_wp2_with fail
  refine wp_region_any (by kernel_rfl) ?_
  try (change wpAny _ _ _ _ _ _ _ (World.drew _))
  refine wpAny_ready (rs := [0]) (by kernel_rfl) (by simp) ?_
  refine AllReady.cons rfl (fun K hK => ?_) AllReady.nil
  go_simp
  refine hK _ _ ?_; clear hK K
  refine wpAny_ready (rs := [1]) (by kernel_rfl) (by simp) ?_
  refine AllReady.cons rfl (fun K hK => ?_) AllReady.nil
  go_simp
  go_wp2_with (go_at_call 55; refine (HV.out _ HL0.out.drew.hb).mono ?_; rintro e w1 ⟨rfl, hb1⟩)
  have HL1 := Lib.hid (HL0.out.drew.keep hb1); clear hb1
  refine wpAny_take (i := 2) (v := ?_) rfl (by kernel_rfl) (by kernel_rfl) (by kernel_rfl) (fun _ _ _ h => h) (Or.inl ⟨by kernel_rfl, ?_⟩) ?_
  rotate_left
  · (intro w; go_simp; first | done | with_reducible rfl)
  conv => arg 7; simp [Act.put]
  refine wpAny_take (i := 3) (v := ?_) rfl (by kernel_rfl) (by kernel_rfl) (by kernel_rfl) (fun _ _ _ h => h) (Or.inl ⟨by kernel_rfl, ?_⟩) ?_
  rotate_left
  · (intro w; go_simp; first | done | with_reducible rfl)
  conv => arg 7; simp [Act.put]
  refine wpAny_take (i := 4) (v := ?_) rfl (by kernel_rfl) (by kernel_rfl) (by kernel_rfl) (fun _ _ _ h => h) (Or.inl ⟨by kernel_rfl, ?_⟩) ?_
  rotate_left
  · (intro w; go_simp; first | done | with_reducible rfl)
  conv => arg 7; simp [Act.put]
  refine wpAny_take (i := 5) (v := ?_) rfl (by kernel_rfl) (by kernel_rfl) (by kernel_rfl) (fun _ _ _ h => h) (Or.inl ⟨by kernel_rfl, ?_⟩) ?_
  rotate_left
  · (intro w; go_simp; first | done | with_reducible rfl)
  conv => arg 7; simp [Act.put]
  refine wpAny_take (i := 6) (v := ?_) rfl (by kernel_rfl) (by kernel_rfl) (by kernel_rfl) (fun _ _ _ h => h) (Or.inl ⟨by kernel_rfl, ?_⟩) ?_
  rotate_left
  · (intro w; go_simp; first | done | with_reducible rfl)
  conv => arg 7; simp [Act.put]
  refine wpAny_take (i := 7) (v := ?_) rfl (by kernel_rfl) (by kernel_rfl) (by kernel_rfl) (fun _ _ _ h => h) (Or.inl ⟨by kernel_rfl, ?_⟩) ?_
  rotate_left
  · (intro w; go_simp; first | done | with_reducible rfl)
  conv => arg 7; simp [Act.put]
  refine wpAny_take (i := 9) (v := ?_) rfl (by kernel_rfl) (by kernel_rfl) (by kernel_rfl) (fun _ _ _ h => h) (Or.inl ⟨by kernel_rfl, ?_⟩) ?_
  rotate_left
  · (intro w; go_simp; first | done | with_reducible rfl)
  conv => arg 7; simp [Act.put]
  have a0 := HL1.out.a0
  have a1 := HL1.out.a1
  refine wpAny_ready (rs := [8]) (by kernel_rfl) (by simp) ?_
  refine AllReady.cons rfl (fun K hK => ?_) AllReady.nil
  go_simp
  refine hK _ _ ?_; clear hK K
  refine wpAny_ready (rs := [10]) (by kernel_rfl) (by simp) ?_
  refine AllReady.cons rfl (fun K hK => ?_) AllReady.nil
  go_simp
  go_wp2_with (go_at_call 56; refine (HFO.out _ HL1.out.hb).mono ?_; rintro e w2 ⟨rfl, hb2⟩)
  have HL2 := Lib.hid (HL1.out.keep hb2); clear hb2 a0 a1
  refine wpAny_take (i := 11) (v := ?_) rfl (by kernel_rfl) (by kernel_rfl) (by kernel_rfl) (fun _ _ _ h => h) (Or.inl ⟨by kernel_rfl, ?_⟩) ?_
  rotate_left
  · (intro w; go_simp; first | done | with_reducible rfl)
  conv => arg 7; simp [Act.put]
  refine wpAny_take (i := 12) (v := ?_) rfl (by kernel_rfl) (by kernel_rfl) (by kernel_rfl) (fun _ _ _ h => h) (Or.inl ⟨by kernel_rfl, ?_⟩) ?_
  rotate_left
  · (intro w; go_simp; first | done | with_reducible rfl)
  conv => arg 7; simp [Act.put]
  refine wpAny_take (i := 13) (v := ?_) rfl (by kernel_rfl) (by kernel_rfl) (by kernel_rfl) (fun _ _ _ h => h) (Or.inl ⟨by kernel_rfl, ?_⟩) ?_
  rotate_left
  · (intro w; go_simp; first | done | with_reducible rfl)
  conv => arg 7; simp [Act.put]
  refine wpAny_take (i := 14) (v := ?_) rfl (by kernel_rfl) (by kernel_rfl) (by kernel_rfl) (fun _ _ _ h => h) (Or.inl ⟨by kernel_rfl, ?_⟩) ?_
  rotate_left
  · (intro w; go_simp; first | done | with_reducible rfl)
  conv => arg 7; simp [Act.put]
  refine wpAny_take (i := 17) (v := ?_) rfl (by kernel_rfl) (by kernel_rfl) (by kernel_rfl) (fun _ _ _ h => h) (Or.inl ⟨by kernel_rfl, ?_⟩) ?_
  rotate_left
  · (intro w; go_simp; first | done | with_reducible rfl)
  conv => arg 7; simp [Act.put]
  have a0 := HL2.out.a0
  have a1 := HL2.out.a1
  refine wpAny_ready (rs := [15, 16]) (by kernel_rfl) (by simp) ?_
  refine AllReady.cons rfl (fun K hK => ?_) (AllReady.cons rfl (fun K hK => ?_) (AllReady.nil))
  · go_simp
    refine hK _ _ ?_; clear hK K
    refine wpAny_ready (rs := [16]) (by kernel_rfl) (by simp) ?_
    refine AllReady.cons rfl (fun K hK => ?_) (AllReady.nil)
    · go_simp
      refine hK _ _ ?_; clear hK K
      refine wpAny_ready (rs := [18]) (by kernel_rfl) (by simp) ?_
      refine AllReady.cons rfl (fun K hK => ?_) (AllReady.nil)
      · go_simp
        go_wp2_with (go_at_call 56; refine (HFO.out _ HL2.out.hb).mono ?_; rintro e w3 ⟨rfl, hb3⟩)
        have HL3 := Lib.hid (HL2.out.keep hb3); clear hb3 a0 a1
        have m1 := (HPC.out _ HL3.out.hb)
        refine wpAny_take (i := 19) (v := ?_) rfl (by kernel_rfl) (by kernel_rfl) (by kernel_rfl) (fun _ _ _ h => h) (Or.inl ⟨by kernel_rfl, ?_⟩) ?_
        rotate_left
        · (intro w; go_simp; first | done | with_reducible rfl)
        conv => arg 7; simp [Act.put]
        refine wpAny_take (i := 20) (v := ?_) rfl (by kernel_rfl) (by kernel_rfl) (by kernel_rfl) (fun _ _ _ h => h) (Or.inl ⟨by kernel_rfl, ?_⟩) ?_
        rotate_left
        · (intro w; go_simp; first | done | with_reducible rfl)
        conv => arg 7; simp [Act.put]
        refine wpAny_ready (rs := [21]) (by kernel_rfl) (by simp) ?_
        refine AllReady.cons rfl (fun K hK => ?_) AllReady.nil
        go_simp
        refine hK _ _ ?_; clear hK K
        clear m1
        refine wpAny_take (i := 22) (v := ?_) rfl (by kernel_rfl) (by kernel_rfl) (by kernel_rfl) (fun _ _ _ h => h) (Or.inl ⟨by kernel_rfl, ?_⟩) ?_
        rotate_left
        · (intro w; go_simp; first | done | with_reducible rfl)
        conv => arg 7; simp [Act.put]
        refine wpAny_take (i := 23) (v := ?_) rfl (by kernel_rfl) (by kernel_rfl) (by kernel_rfl) (fun _ _ _ h => h) (Or.inl ⟨by kernel_rfl, ?_⟩) ?_
        rotate_left
        · (intro w; go_simp; first | done | with_reducible rfl)
        conv => arg 7; simp [Act.put]
        refine wpAny_done (by kernel_rfl) ?_ _
        have a0 := HL3.out.a0
        have a1 := HL3.out.a1
        go_wp2_with fail
        refine (HLV.out _ HL3.out.hb).mono ?_
        rintro e w4 ⟨g, c4, rfl, ho4, hb4⟩
        have HL4 := Lib.hid (HL3.out.keep hb4); clear hb4 a0 a1
        have HO4 := Lib.hid (ho4.mono (B' := w.heap.size + 2) HL3.out.le); clear ho4
        have r0 := HL4.out.b0
        have r1 := HL4.out.b1
        have k0 := HL4.out.f0
        have k1 := HL4.out.f1
        have hl := HL4.out.le
        go_wp2_with fail
        refine bodyPost_ret (v := .tuple #[.agg #[.slice (some ⟨g, 0, none⟩) n c4, .int .i64 h], .bool true]) (by simp [results, Try.results16, go_sem, r0, r1]) rfl ?_
        refine LeavePost.yes HF.out (RowF.pool (RowF.low (RowF.low HO4.out ?_ _) ?_ _) _ ?_) ((HL4.out.hb.setCell ?_ _).setCell ?_ _) <;> simp <;> omega
  · go_simp
    refine hK _ _ ?_; clear hK K
    refine wpAny_ready (rs := [15, 18]) (by kernel_rfl) (by simp) ?_
    refine AllReady.cons rfl (fun K hK => ?_) (AllReady.cons rfl (fun K hK => ?_) (AllReady.nil))
    · go_simp
      refine hK _ _ ?_; clear hK K
      refine wpAny_ready (rs := [18]) (by kernel_rfl) (by simp) ?_
      refine AllReady.cons rfl (fun K hK => ?_) (AllReady.nil)
      · go_simp
        go_wp2_with (go_at_call 56; refine (HFO.out _ HL2.out.hb).mono ?_; rintro e w3 ⟨rfl, hb3⟩)
        have HL3 := Lib.hid (HL2.out.keep hb3); clear hb3 a0 a1
        have m1 := (HPC.out _ HL3.out.hb)
        refine wpAny_take (i := 19) (v := ?_) rfl (by kernel_rfl) (by kernel_rfl) (by kernel_rfl) (fun _ _ _ h => h) (Or.inl ⟨by kernel_rfl, ?_⟩) ?_
        rotate_left
        · (intro w; go_simp; first | done | with_reducible rfl)
        conv => arg 7; simp [Act.put]
        refine wpAny_take (i := 20) (v := ?_) rfl (by kernel_rfl) (by kernel_rfl) (by kernel_rfl) (fun _ _ _ h => h) (Or.inl ⟨by kernel_rfl, ?_⟩) ?_
        rotate_left
        · (intro w; go_simp; first | done | with_reducible rfl)
        conv => arg 7; simp [Act.put]
        refine wpAny_ready (rs := [21]) (by kernel_rfl) (by simp) ?_
        refine AllReady.cons rfl (fun K hK => ?_) AllReady.nil
        go_simp
        refine hK _ _ ?_; clear hK K
        clear m1
        refine wpAny_take (i := 22) (v := ?_) rfl (by kernel_rfl) (by kernel_rfl) (by kernel_rfl) (fun _ _ _ h => h) (Or.inl ⟨by kernel_rfl, ?_⟩) ?_
        rotate_left
        · (intro w; go_simp; first | done | with_reducible rfl)
        conv => arg 7; simp [Act.put]
        refine wpAny_take (i := 23) (v := ?_) rfl (by kernel_rfl) (by kernel_rfl) (by kernel_rfl) (fun _ _ _ h => h) (Or.inl ⟨by kernel_rfl, ?_⟩) ?_
        rotate_left
        · (intro w; go_simp; first | done | with_reducible rfl)
        conv => arg 7; simp [Act.put]
        refine wpAny_done (by kernel_rfl) ?_ _
        have a0 := HL3.out.a0
        have a1 := HL3.out.a1
        go_wp2_with fail
        refine (HLV.out _ HL3.out.hb).mono ?_
        rintro e w4 ⟨g, c4, rfl, ho4, hb4⟩
        have HL4 := Lib.hid (HL3.out.keep hb4); clear hb4 a0 a1
        have HO4 := Lib.hid (ho4.mono (B' := w.heap.size + 2) HL3.out.le); clear ho4
        have r0 := HL4.out.b0
        have r1 := HL4.out.b1
        have k0 := HL4.out.f0
        have k1 := HL4.out.f1
        have hl := HL4.out.le
        go_wp2_with fail
        refine bodyPost_ret (v := .tuple #[.agg #[.slice (some ⟨g, 0, none⟩) n c4, .int .i64 h], .bool true]) (by simp [results, Try.results16, go_sem, r0, r1]) rfl ?_
        refine LeavePost.yes HF.out (RowF.pool (RowF.low (RowF.low HO4.out ?_ _) ?_ _) _ ?_) ((HL4.out.hb.setCell ?_ _).setCell ?_ _) <;> simp <;> omega
    · go_simp
      go_wp2_with (go_at_call 56; refine (HFO.out _ HL2.out.hb).mono ?_; rintro e w3 ⟨rfl, hb3⟩)
      have HL3 := Lib.hid (HL2.out.keep hb3); clear hb3 a0 a1
      have a0 := HL3.out.a0
      have a1 := HL3.out.a1
      refine wpAny_ready (rs := [15]) (by kernel_rfl) (by simp) ?_
      refine AllReady.cons rfl (fun K hK => ?_) AllReady.nil
      go_simp
      refine hK _ _ ?_; clear hK K
      clear a0 a1
      have m1 := (HPC.out _ HL3.out.hb)
      refine wpAny_take (i := 19) (v := ?_) rfl (by kernel_rfl) (by kernel_rfl) (by kernel_rfl) (fun _ _ _ h => h) (Or.inl ⟨by kernel_rfl, ?_⟩) ?_
      rotate_left
      · (intro w; go_simp; first | done | with_reducible rfl)
      conv => arg 7; simp [Act.put]
      refine wpAny_take (i := 20) (v := ?_) rfl (by kernel_rfl) (by kernel_rfl) (by kernel_rfl) (fun _ _ _ h => h) (Or.inl ⟨by kernel_rfl, ?_⟩) ?_
      rotate_left
      · (intro w; go_simp; first | done | with_reducible rfl)
      conv => arg 7; simp [Act.put]
      refine wpAny_ready (rs := [21]) (by kernel_rfl) (by simp) ?_
      refine AllReady.cons rfl (fun K hK => ?_) AllReady.nil
      go_simp
      refine hK _ _ ?_; clear hK K
      clear m1
      refine wpAny_take (i := 22) (v := ?_) rfl (by kernel_rfl) (by kernel_rfl) (by kernel_rfl) (fun _ _ _ h => h) (Or.inl ⟨by kernel_rfl, ?_⟩) ?_
      rotate_left
      · (intro w; go_simp; first | done | with_reducible rfl)
      conv => arg 7; simp [Act.put]
      refine wpAny_take (i := 23) (v := ?_) rfl (by kernel_rfl) (by kernel_rfl) (by kernel_rfl) (fun _ _ _ h => h) (Or.inl ⟨by kernel_rfl, ?_⟩) ?_
      rotate_left
      · (intro w; go_simp; first | done | with_reducible rfl)
      conv => arg 7; simp [Act.put]
      refine wpAny_done (by kernel_rfl) ?_ _
      have a0 := HL3.out.a0
      have a1 := HL3.out.a1
      go_wp2_with fail
      refine (HLV.out _ HL3.out.hb).mono ?_
      rintro e w4 ⟨g, c4, rfl, ho4, hb4⟩
      have HL4 := Lib.hid (HL3.out.keep hb4); clear hb4 a0 a1
      have HO4 := Lib.hid (ho4.mono (B' := w.heap.size + 2) HL3.out.le); clear ho4
      have r0 := HL4.out.b0
      have r1 := HL4.out.b1
      have k0 := HL4.out.f0
      have k1 := HL4.out.f1
      have hl := HL4.out.le
      go_wp2_with fail
      refine bodyPost_ret (v := .tuple #[.agg #[.slice (some ⟨g, 0, none⟩) n c4, .int .i64 h], .bool true]) (by simp [results, Try.results16, go_sem, r0, r1]) rfl ?_
      refine LeavePost.yes HF.out (RowF.pool (RowF.low (RowF.low HO4.out ?_ _) ?_ _) _ ?_) ((HL4.out.hb.setCell ?_ _).setCell ?_ _) <;> simp <;> omega

theorem sLeave_any (A : Option Addr) (n c : Nat) (l : List Fr) (h p : Int) (w : World) (hr : RowAt w w.heap.size A (frsC l)) (hn : n = l.length) (hs : n ≤ 1048576) :
    Calls Try.prog 16 #[.agg #[.slice A n c, .int .i64 h], .int .i64 p] w (LeavePost l h p w) := by
  cases hv : poolB l h
  · exact sLeave_bad A n c l h p w hr hn hs hv
  · by_cases hp : p < 0
    · exact sLeave_neg A n c l h p w hr hn hs hv hp
    · by_cases hx : frameIx l p < l.length
      · by_cases hz : l[frameIx l p].2.1 = 0
        · exact sLeave_zero A n c l h p w hr hn hs hv (by omega) hx hz
        · exact sLeave_some A n c l h p w hr hn hs hv (by omega) hx hz
      · exact sLeave_none A n c l h p w hr hn hs hv (by omega) hx
end Go.Proofs.Ytompbkphdjjpdaa
