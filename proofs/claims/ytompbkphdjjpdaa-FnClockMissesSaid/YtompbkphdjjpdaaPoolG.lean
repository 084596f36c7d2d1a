/- Contracts of frameFor and FetchPage of the program (chapter 2). Conditions: the frames lie in a row; they are few. -/
import Derived.Test.YtompbkphdjjpdaaPoolF
set_option linter.unusedVariables false
set_option linter.unusedSimpArgs false
namespace Go.Proofs.Ytompbkphdjjpdaa
open Go.RowKit Go.ChangeShapes Go.WideShapes

def forL (l : List Fr) (h : Nat) (p : Int) : Option (List Fr × Nat × Nat × Int) :=
  if frameIx l p < l.length then some (l, frameIx l p, h, 0)
  else (roomL (2 * l.length) l h).map fun x => (x.1.set x.2.1 (p, 0, false), x.2.1, x.2.2, if (x.1.getD x.2.1 (0, 0, false)).1 < 0 then 1 else 2)
def ForPost (B G g n c : Nat) (l : List Fr) (h : Nat) (p : Int) (w : World) (e : Ending) (w' : World) : Prop :=
  match forL l h p with
  | some (L, i, h', k) => e = .returned (.tuple #[.pointer (some ⟨g, i * 3, none⟩), .int .i64 k]) ∧ RowF w' B g n c L ∧ HandAt w' G g n c h' ∧ Below B w w'
  | none => e = .returned (.tuple #[.pointer none, .int .i64 (-1)]) ∧ Below B w w'
theorem ForPost.yes {B G g n c : Nat} {l L : List Fr} {h i h' : Nat} {p k : Int} {w w' : World} (he : forL l h p = some (L, i, h', k)) (h1 : RowF w' B g n c L) (h2 : HandAt w' G g n c h') (h3 : Below B w w') :
    ForPost B G g n c l h p w (.returned (.tuple #[.pointer (some ⟨g, i * 3, none⟩), .int .i64 k])) w' := by unfold ForPost; rw [he]; exact ⟨rfl, h1, h2, h3⟩
theorem ForPost.no {B G g n c : Nat} {l : List Fr} {h : Nat} {p : Int} {w w' : World} (he : forL l h p = none) (h3 : Below B w w') :
    ForPost B G g n c l h p w (.returned (.tuple #[.pointer none, .int .i64 (-1)])) w' := by unfold ForPost; rw [he]; exact ⟨rfl, h3⟩

set_option maxRecDepth 100000 in
set_option maxHeartbeats 2000000 in
theorem for_any (B G g n c h : Nat) (l : List Fr) (p : Int) (w : World) (hr : RowF w B g n c l) (hh : HandAt w G g n c h) (hB : B ≤ G) (hGg : G ≠ g) (hn : h < n) (hs : n ≤ 1048576) (hgd : ∀ f ∈ l, goodF f = true) :
    Calls Try.prog 77 #[.pointer (some ⟨G, 0, none⟩), .int .i64 p] w (ForPost B G g n c l h p w) := by
  have HNL := Lib.hid hr.1
  have HFO := Lib.hid (iFrameOf_any B g n c G l h p w hr hs hh.cells.1)
  have HRM := Lib.hid (room_any' B G g n c h l w hr hh hB hGg hn hs)
  have HR := Lib.hid hr
  have HH := Lib.hid hh
  by_cases hix : frameIx l p < l.length
  · have HPT := Lib.hid (show ptrF g l p = .pointer (some ⟨g, frameIx l p * 3, none⟩) by unfold ptrF; rw [if_pos hix])
    have HF := Lib.hid (show forL l h p = some (l, frameIx l p, h, 0) by unfold forL; rw [if_pos hix])
    rw [HPT.out] at HFO
    clear hr hh hgd HRM hix
    go_enter Try.func77, Try.ntmps77
    go_wp2_with fail
    refine (HFO.out).mono ?_
    rintro e w2 ⟨rfl, hw2⟩
    obtain rfl := hw2.symm
    go_wp2_with fail
    go_ret2
    exact ForPost.yes HF.out HR.out HH.out (Below.refl _ _)
  · have HPT := Lib.hid (show ptrF g l p = .pointer none by unfold ptrF; rw [if_neg hix])
    have HF := Lib.hid (show forL l h p = (roomL (2 * n) l h).map fun x => (x.1.set x.2.1 (p, 0, false), x.2.1, x.2.2, if (x.1.getD x.2.1 (0, 0, false)).1 < 0 then 1 else 2) by unfold forL; rw [if_neg hix, HNL.out])
    rw [HPT.out] at HFO
    have hlt := hr.lt
    have hgB := hr.ge
    cases hq : roomL (2 * n) l h with
    | none =>
      have HF2 := Lib.hid (show forL l h p = none by rw [HF.out, hq]; rfl)
      unfold RoomPost at HRM
      rw [hq] at HRM
      clear hr hh hgd hix hq
      go_enter Try.func77, Try.ntmps77
      go_wp2_with fail
      refine (HFO.out).mono ?_
      rintro e w2 ⟨rfl, hw2⟩
      obtain rfl := hw2.symm
      go_wp2_with fail
      refine (HRM.out).mono ?_
      rintro e w3 ⟨rfl, hb3⟩
      have HB3 := Lib.hid hb3; clear hb3
      go_wp2_with fail
      go_ret2
      exact ForPost.no HF2.out HB3.out
    | some x =>
      obtain ⟨l', i, h'⟩ := x
      have hrs := roomL_some (2 * n) l l' h i h' (by rw [← HNL.out]; exact hn) hgd hq
      obtain ⟨hl', hi, _, hp0, hw0, hg'⟩ := hrs
      have hil : i < l'.length := by omega
      rw [getD_lt hil] at hp0 hw0
      have HF2 := Lib.hid (show forL l h p = some (l'.set i (p, 0, false), i, h', if l'[i].1 < 0 then 1 else 2) by rw [HF.out, hq, Option.map_some, getD_lt hil])
      have hgi := goodF_cases (hg' _ (List.getElem_mem hil))
      have hx1 : -1 ≤ l'[i].1 := by rcases hgi with h1 | h1 <;> omega
      unfold RoomPost at HRM
      rw [hq] at HRM
      clear hr hh hgd hix hq hgi hg' HF
      have HE := Lib.hid (fun w => isEmpty_any l'[i].1 l'[i].2.1 l'[i].2.2 w)
      rw [hp0, hw0] at HE
      have HP0 := Lib.hid hp0; have HW0 := Lib.hid hw0; clear hp0 hw0
      go_enter Try.func77, Try.ntmps77
      go_wp2_with fail
      refine (HFO.out).mono ?_
      rintro e w2 ⟨rfl, hw2⟩
      obtain rfl := hw2.symm
      go_wp2_with fail
      refine (HRM.out).mono ?_
      rintro e w3 ⟨rfl, hr3, hh3, hb3⟩
      obtain ⟨m0, m1, m2, k0, k1, k2⟩ := hr3.cells hil
      rw [HP0.out] at m1
      rw [HW0.out] at m2
      have HR3 := Lib.hid hr3
      have HH3 := Lib.hid hh3
      have HB3 := Lib.hid hb3
      clear hr3 hh3 hb3
      have HS0 := Lib.hid (fun W (hb : Below w3.heap.size w3 W) => (HR3.out.keep hb).set0 hil p)
      rw [HP0.out, HW0.out] at HS0
      have HCK := Lib.hid (fun W (hb : Below w3.heap.size w3 W) => (HR3.out.keep hb).cells hil)
      have hg3 := HR3.out.ge
      clear k0 k1 k2
      generalize hxx : l'[i].1 = x1 at *
      clear hxx
      by_cases hneg : x1 < 0
      · obtain rfl : x1 = -1 := by omega
        rw [if_pos (by omega)] at HF2
        rw [show emptyF (-1, 0, false) = true from rfl] at HE
        go_wp2_with fail
        refine (HE.out _).mono ?_
        rintro e w4 ⟨rfl, hb4⟩
        have HB4 := Lib.hid hb4; clear hb4
        obtain ⟨u0, _, _, v0, _, _⟩ := HCK.out _ HB4.out
        go_wp2_with fail
        go_ret2
        exact ForPost.yes HF2.out (HS0.out _ HB4.out) ((HH3.out.keep HB4.out).other (fun e => hGg e.symm) _) ((HB3.out.trans (HB4.out.mono (by have := HB3.out.size; omega))).setCell hg3 _)
      · rw [if_neg hneg] at HF2
        have hem : emptyF (x1, 0, false) = false := by
          cases hq : emptyF (x1, 0, false)
          · rfl
          · have := emptyF_iff.1 hq; exact absurd this.1 (by show ¬ x1 = -1; omega)
        rw [hem] at HE
        clear hem
        go_wp2_with fail
        refine (HE.out _).mono ?_
        rintro e w4 ⟨rfl, hb4⟩
        have HB4 := Lib.hid hb4; clear hb4
        obtain ⟨u0, _, _, v0, _, _⟩ := HCK.out _ HB4.out
        go_wp2_with fail
        go_ret2
        exact ForPost.yes HF2.out (HS0.out _ HB4.out) ((HH3.out.keep HB4.out).other (fun e => hGg e.symm) _) ((HB3.out.trans (HB4.out.mono (by have := HB3.out.size; omega))).setCell hg3 _)
end Go.Proofs.Ytompbkphdjjpdaa
