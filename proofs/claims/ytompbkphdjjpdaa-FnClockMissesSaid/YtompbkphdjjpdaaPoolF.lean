/- Contracts of passFrame, makeRoom and frameFor of the program (chapter 2). Conditions: the frames lie in a row of the call's own; the hand is one of them. -/
import Derived.Test.YtompbkphdjjpdaaPoolL
import Derived.StillTailTactics
set_option linter.unusedVariables false
set_option linter.unusedSimpArgs false
namespace Go.Proofs.Ytompbkphdjjpdaa
open Go.RowKit Go.ChangeShapes Go.WideShapes

/-! the search alone -/
def roomL : Nat → List Fr → Nat → Option (List Fr × Nat × Nat)
  | 0, _, _ => none
  | k + 1, l, h =>
    if (l.getD h (0, 0, false)).2.1 = 0 then
      (if (l.getD h (0, 0, false)).2.2 = false then some (l, h, (h + 1) % l.length)
       else roomL k (l.set h ((l.getD h (0, 0, false)).1, 0, false)) ((h + 1) % l.length))
    else roomL k l ((h + 1) % l.length)
theorem clockL_room (page : Int) : ∀ (k : Nat) (l : List Fr) (h : Nat), clockL page k l h = (roomL k l h).map fun x => (x.1.set x.2.1 (page, 1, true), x.2.2, if (x.1.getD x.2.1 (0, 0, false)).1 < 0 then 1 else 2)
  | 0, _, _ => rfl
  | k + 1, l, h => by
    rw [clockL, roomL]
    split
    · split
      · rfl
      · exact clockL_room page k _ _
    · exact clockL_room page k _ _
theorem goodF_cool {f : Fr} (h : goodF f = true) (h0 : f.2.1 = 0) (hw : ¬ f.2.2 = false) : goodF (f.1, 0, false) = true := by
  rcases goodF_cases h with h1 | h1
  · exact absurd h1.2.2 hw
  · have h2 : pageF (f.1, 0, false) = true := pageF_iff.2 ⟨h1.1, h1.2.1, Int.le_refl 0, by show (0 : Int) ≤ 3; omega⟩
    unfold goodF
    rw [h2]; simp
theorem getD_lt {l : List Fr} {h : Nat} (hh : h < l.length) : l.getD h (0, 0, false) = l[h] := by
  simp [List.getD_eq_getElem?_getD, List.getElem?_eq_getElem hh]
theorem roomL_some : ∀ (k : Nat) (l l' : List Fr) (h i h' : Nat), h < l.length → (∀ f ∈ l, goodF f = true) → roomL k l h = some (l', i, h') →
    l'.length = l.length ∧ i < l.length ∧ h' < l.length ∧ (l'.getD i (0, 0, false)).2.1 = 0 ∧ (l'.getD i (0, 0, false)).2.2 = false ∧ ∀ f ∈ l', goodF f = true
  | 0, l, l', h, i, h', _, _, e => by simp [roomL] at e
  | k + 1, l, l', h, i, h', hh, hg, e => by
    have hm : (h + 1) % l.length < l.length := Nat.mod_lt _ (by omega)
    rw [roomL] at e
    split at e
    · rename_i h1
      split at e
      · rename_i h2
        injection e with e
        injection e with e1 e
        injection e with e2 e3
        subst e1 e2 e3
        exact ⟨rfl, hh, hm, h1, h2, hg⟩
      · rename_i h2
        have := roomL_some k _ l' _ i h' (by rw [List.length_set]; exact hm) (fun f hf => by
          rcases List.mem_or_eq_of_mem_set hf with h3 | h3
          · exact hg f h3
          · subst h3
            rw [getD_lt hh] at h1 h2 ⊢
            exact goodF_cool (hg _ (List.getElem_mem hh)) h1 h2) e
        rw [List.length_set] at this
        exact this
    · exact roomL_some k l l' _ i h' hm hg e

/-- the pool's own block: the frames' row and the hand -/
def HandAt (w : World) (G g n c h : Nat) : Prop := w.heap[G]? = some (.cells #[.slice (some ⟨g, 0, none⟩) n c, .int .i64 (h : Int)] 28 (0, 0))
section
variable {w w' : World} {G g n c h : Nat}
theorem HandAt.cells (hh : HandAt w G g n c h) : w.cell? ⟨G, 0, none⟩ = some (.slice (some ⟨g, 0, none⟩) n c) ∧ w.cell? ⟨G, 1, none⟩ = some (.int .i64 (h : Int)) ∧ w.frozen? ⟨G, 0, none⟩ = false ∧ w.frozen? ⟨G, 1, none⟩ = false := by
  refine ⟨?_, ?_, frozen_of_row w _ _ _ _ hh, frozen_of_row w _ _ _ _ hh⟩
  · rw [cell_of_row w G 0 _ _ _ hh]; rfl
  · rw [cell_of_row w G 1 _ _ _ hh]; rfl
theorem HandAt.lt (hh : HandAt w G g n c h) : G < w.heap.size := (Array.getElem?_eq_some_iff.1 hh).1
theorem HandAt.keep (hh : HandAt w G g n c h) (hb : Below w.heap.size w w') : HandAt w' G g n c h := (hb.block G hh.lt).trans hh
theorem HandAt.move (hh : HandAt w G g n c h) (h' : Nat) : HandAt (w.setCell ⟨G, 1, none⟩ (.int .i64 (h' : Int))) G g n c h' := by
  unfold HandAt
  rw [heap_setCell_same w G 1 _ _ _ hh]; rfl
theorem HandAt.other (hh : HandAt w G g n c h) {b o : Nat} (hb : b ≠ G) (v : Value) : HandAt (w.setCell ⟨b, o, none⟩ v) G g n c h := by
  unfold HandAt
  rw [heap_setCell_other _ _ _ _ (by simpa using fun e => hb e.symm)]
  exact hh
theorem HandAt.drewN (hh : HandAt w G g n c h) (q : Nat) : HandAt (w.drewN q) G g n c h := hh
end
theorem RowF.far {w : World} {B g n c b o : Nat} {l : List Fr} (h : RowF w B g n c l) (hb : b ≠ g) (v : Value) : RowF (w.setCell ⟨b, o, none⟩ v) B g n c l :=
  ⟨h.1, h.2.kept (grown_setCell (r := b) v) (.inr (by simpa [Value.ownBlock] using fun e => hb e.symm))⟩
theorem RowF.drewN {w : World} {B g n c : Nat} {l : List Fr} (h : RowF w B g n c l) (q : Nat) : RowF (w.drewN q) B g n c l := h.keep (below_drewN _ _)

set_option maxRecDepth 100000 in
set_option maxHeartbeats 1000000 in
theorem pass_any (G g n c h : Nat) (w : World) (hh : HandAt w G g n c h) (hn : h < n) (hs : n ≤ 1048576) :
    Calls Try.prog 132 #[.pointer (some ⟨G, 0, none⟩)] w fun e w' => e = .returned (.pointer (some ⟨g, h * 3, none⟩)) ∧ HandAt w' G g n c ((h + 1) % n) ∧ w.grownBy w' (some G) := by
  obtain ⟨c0, c1, f0, f1⟩ := hh.cells
  have HE := Lib.hid (show (((h + 1) % n : Nat) : Int) = ((h : Int) + 1) % (n : Int) by simp)
  have HH := Lib.hid hh; clear hh
  have i1 : (h : Int) < (n : Int) := by omega
  have i2 : (0 : Int) ≤ (h : Int) := by omega
  have i3 : (0 : Int) < (n : Int) := by omega
  go_enter Try.func132, Try.ntmps132
  go_wp2_with fail
  go_quiet (fail)
  clear c0 c1 f0 f1
  have HH2 := Lib.hid (HH.out.drewN nq)
  have HG2 := Lib.hid (show w.grownBy (w.drewN nq) (some G) from grown_drewN nq)
  generalize w.drewN nq = w2 at *
  obtain ⟨c0, c1, f0, f1⟩ := HH2.out.cells
  have HM := Lib.hid (HH2.out.move ((h + 1) % n))
  rw [HE.out] at HM
  go_wp2_with fail
  go_region
  all_goals go_wp2_with fail
  all_goals go_ret
  all_goals exact ⟨rfl, HM.out.drewN 1, (HG2.out.trans' (grown_setCell _)).trans' grown_drew⟩

/-- what makeRoom leaves -/
def RoomPost (B G g n c : Nat) (l : List Fr) (h : Nat) (w : World) (e : Ending) (w' : World) : Prop :=
  match roomL (2 * n) l h with
  | some (l', i, h') => e = .returned (.pointer (some ⟨g, i * 3, none⟩)) ∧ RowF w' B g n c l' ∧ HandAt w' G g n c h' ∧ Below B w w'
  | none => e = .returned (.pointer none) ∧ Below B w w'
theorem RoomPost.found {B G g n c : Nat} {l l' : List Fr} {h i h' : Nat} {w w' : World} (he : roomL (2 * n) l h = some (l', i, h')) (h1 : RowF w' B g n c l') (h2 : HandAt w' G g n c h') (h3 : Below B w w') :
    RoomPost B G g n c l h w (.returned (.pointer (some ⟨g, i * 3, none⟩))) w' := by unfold RoomPost; rw [he]; exact ⟨rfl, h1, h2, h3⟩
theorem RoomPost.no {B G g n c : Nat} {l : List Fr} {h : Nat} {w w' : World} (he : roomL (2 * n) l h = none) (h3 : Below B w w') :
    RoomPost B G g n c l h w (.returned (.pointer none)) w' := by unfold RoomPost; rw [he]; exact ⟨rfl, h3⟩
theorem roomL_step {k : Nat} {l : List Fr} {h n : Nat} (hh : h < l.length) (hn : n = l.length) :
    roomL (k + 1) l h = if l[h].2.1 = 0 then (if l[h].2.2 = false then some (l, h, (h + 1) % n) else roomL k (l.set h (l[h].1, 0, false)) ((h + 1) % n)) else roomL k l ((h + 1) % n) := by
  rw [roomL, getD_lt hh, ← hn]

set_option maxRecDepth 100000 in
set_option maxHeartbeats 2000000 in
theorem room_any' (B G g n c h : Nat) (l : List Fr) (w : World) (hr : RowF w B g n c l) (hh : HandAt w G g n c h) (hB : B ≤ G) (hGg : G ≠ g) (hn : h < n) (hs : n ≤ 1048576) :
    Calls Try.prog 117 #[.pointer (some ⟨G, 0, none⟩)] w (RoomPost B G g n c l h w) := by
  obtain ⟨c0, c1, f0, f1⟩ := hh.cells
  have hBw : B ≤ w.heap.size := by have := hr.lt; have := hr.ge; omega
  have HR := Lib.hid hr; clear hr
  have HH := Lib.hid hh; clear hh
  have HNL := Lib.hid HR.out.1
  clear c1 f0 f1
  go_enter Try.func117, Try.ntmps117
  go_wp2_with fail
  go_step3
  go_wp2_with fail
  go_step3
  go_wp2_with fail
  clear c0
  go_loopw [3, 4, 11] (fun f _ i wr => ∃ (t : Nat) (l' : List Fr) (h' : Nat), i = .int .i64 t ∧ t ≤ 2 * n ∧ f = .pointer none ∧ h' < n ∧ roomL (2 * n - t) l' h' = roomL (2 * n) l h ∧ RowF wr B g n c l' ∧ HandAt wr G g n c h' ∧ Below B w wr) (fun _ _ i _ => 2 * n - (intOf i).toNat)
  case atStart => exact ⟨0, l, h, rfl, by omega, rfl, hn, rfl, HR.out, HH.out, Below.refl _ _⟩
  case round =>
    obtain ⟨t, l', h', rfl, ht, rfl, hh', he, hr', hha, hb⟩ := hrel
    have HE := Lib.hid he; clear he
    have HR' := Lib.hid hr'; clear hr'
    have HH' := Lib.hid hha; clear hha
    have HB := Lib.hid hb; clear hb
    by_cases hlt : t < 2 * n
    · have HP := Lib.hid (pass_any G g n c h' wr HH'.out hh' hs)
      have hhl : h' < l'.length := by have := HR'.out.1; omega
      have hm : (h' + 1) % n < n := Nat.mod_lt _ (by omega)
      have HST := Lib.hid (show roomL (2 * n) l h = if l'[h'].2.1 = 0 then (if l'[h'].2.2 = false then some (l', h', (h' + 1) % n) else roomL (2 * n - (t + 1)) (l'.set h' (l'[h'].1, 0, false)) ((h' + 1) % n)) else roomL (2 * n - (t + 1)) l' ((h' + 1) % n) by
        rw [← HE.out, show 2 * n - t = (2 * n - (t + 1)) + 1 by omega, roomL_step hhl HR'.out.1])
      generalize hm' : (h' + 1) % n = m at *
      go_wp2_with fail
      refine (HP.out).mono ?_
      rintro e w2 ⟨rfl, hh2, hg2⟩
      have HH2 := Lib.hid hh2
      have HR2 := Lib.hid (show RowF w2 B g n c l' from ⟨HR'.out.1, HR'.out.2.kept hg2 (.inr (by simpa [Value.ownBlock] using fun e => hGg e.symm))⟩)
      have HB2 := Lib.hid (show Below B w w2 from HB.out.grown hg2 (Nat.le_trans hBw HB.out.size) (fun q hq => by injection hq with hq; omega))
      clear hh2 hg2
      obtain ⟨m0, m1, m2, k0, k1, k2⟩ := HR2.out.cells hhl
      have HS2 := Lib.hid (HR2.out.set2 hhl false)
      have hgw := HR2.out.ge
      generalize hx2 : l'[h'].2.1 = x2 at *
      generalize hx3 : l'[h'].2.2 = x3 at *
      clear m0
      by_cases h0 : x2 = 0
      · have q0 : (x2 == 0) = true := by simpa using h0
        cases x3 with
        | false =>
          have HX := Lib.hid (show roomL (2 * n) l h = some (l', h', m) by rw [HST.out, if_pos h0, if_pos rfl])
          clear h0
          go_wp2_with fail
          rw [Exit.noGoto_ret]
          go_ret
          exact RoomPost.found HX.out HR2.out HH2.out HB2.out
        | true =>
          have HX := Lib.hid (show roomL (2 * n - (t + 1)) (l'.set h' (l'[h'].1, x2, false)) m = roomL (2 * n) l h by rw [HST.out, if_pos h0, if_neg (by simp), h0])
          clear h0
          go_wp2_with fail
          go_roundw
          case rel => exact ⟨t + 1, _, m, by go_num, by omega, rfl, hm, HX.out, HS2.out, HH2.out.other (fun e => hGg e.symm) _, HB2.out.setCell (by simpa using hgw) _⟩
          case measure => simp [intOf]; omega
      · have q0 : (x2 == 0) = false := by simpa using h0
        have HX := Lib.hid (show roomL (2 * n - (t + 1)) l' m = roomL (2 * n) l h by rw [HST.out, if_neg h0])
        clear h0
        go_wp2_with fail
        go_roundw
        case rel => exact ⟨t + 1, l', m, by go_num, by omega, rfl, hm, HX.out, HR2.out, HH2.out, HB2.out⟩
        case measure => simp [intOf]; omega
    · have HX := Lib.hid (show roomL (2 * n) l h = none by rw [← HE.out, show 2 * n - t = 0 by omega]; rfl)
      go_wp2_with fail
      rw [Exit.noGoto_ret]
      go_ret
      exact RoomPost.no HX.out HB.out
end Go.Proofs.Ytompbkphdjjpdaa
