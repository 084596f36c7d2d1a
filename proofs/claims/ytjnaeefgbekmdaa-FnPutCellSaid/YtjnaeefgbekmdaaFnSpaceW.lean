/- The walk of the law FnSpaceOf. Condition: the code lies in a row. -/
import Derived.Test.YtjnaeefgbekmdaaFnPgD
import Derived.Test.YtjnaeefgbekmdaaPageQ
set_option linter.unusedVariables false
set_option linter.unusedSimpArgs false
namespace Go.Proofs.Ytjnaeefgbekmdaa
open Go.RowKit Go.ChangeShapes Go.WideShapes

theorem Pg.room_bd {s : ByteArray} {l : List Sl} (h : Pg s l) : 0 ≤ roomP l ∧ roomP l ≤ spareP l ∧ spareP l ≤ 48 := by
  have h1 := h.room_le
  have h2 := h.few
  have h3 : (2 * l.length : Nat) ≤ lowP l := by
    refine lowA_ge l 48 _ (by omega) (fun p hp h0 => ?_)
    obtain ⟨a, z, ha, hz, h1, _⟩ := good_cell (h.good p hp) h0
    omega
  have h4 := h.sum (48 - 2 * (l.length : Int))
  unfold spareP at *
  unfold roomP at *
  refine ⟨by omega, h1, by omega⟩

set_option maxRecDepth 100000 in
set_option maxHeartbeats 4000000 in
theorem walk_FnSpaceOf (A : Option Addr) (n c : Nat) (w : World) (h : BytesIn w A n c) :
    Calls Try.prog 8 #[.slice A n c] w fun e w' => e = .returned (.bool true) ∧ Below w.heap.size w w' := by
  have HD := Lib.hid (drawSpaceOf_any A n c w h)
  obtain ⟨hc, hm, _⟩ := h
  unfold maxLen at hm
  by_cases hb : n ≤ 1048576
  · go_enter Try.func8, Try.ntmps8
    go_wp2_with fail
    refine (HD.out).mono ?_
    rintro e w1 ⟨v, rfl, s, l, m, A1, c1, rfl, hml, hm24, hs, hwf, ho, hb1⟩
    have HB1 := Lib.hid hb1
    have HB2 := Lib.hid (hb1.alloc hb1.size (.cells #[.string s, .slice A1 m c1] 25))
    have HX := Lib.hid (PBox.new w1 s A1 m c1)
    have hp : PageAt w1 s A1 m l := ⟨hml, RowAt.of_own ho, hwf, by omega, by omega⟩
    have HA := Lib.hid ((Below.refl w1.heap.size w1).alloc (Nat.le_refl _) (.cells #[.string s, .slice A1 m c1] 25))
    have HI := Lib.hid (fun W (hb : Below w1.heap.size w1 W) => iSpace_any s A1 m c1 l W (hp.below hb))
    have HS := Lib.hid (fun W (hb : Below w1.heap.size w1 W) => sSpace_any s A1 m c1 l W (hp.below hb))
    have HV := Lib.hid (fun W (hb : Below w1.heap.size w1 W) => iValid_any s A1 m c1 l W (hp.below hb))
    have hab : (iValid s l = false ∧ spaceA s l = -1 ∧ spaceB s l = -1) ∨ (0 ≤ spaceA s l ∧ spaceA s l ≤ spaceB s l ∧ spaceB s l ≤ 48) := by
      unfold spaceA spaceB
      cases hv : iValid s l
      · exact .inl ⟨rfl, rfl, rfl⟩
      · exact .inr ((valid_iff s l).1 hv).room_bd
    clear hml hwf ho hb1 hp
    generalize spaceA s l = a at *
    generalize spaceB s l = b at *
    go_wp2_with fail
    refine (HI.out _ HA.out).mono ?_
    rintro e w2 ⟨rfl, hb2⟩
    have HX2 := Lib.hid (HX.out.next hb2)
    have HA2 := Lib.hid (HA.out.trans (hb2.mono HA.out.size)); clear hb2
    have f0 := HX2.out.f0
    have f1 := HX2.out.f1
    have qa : (a == a) = true := by simp
    have qb : (b == b) = true := by simp
    have qc : (a != a) = false := by simp
    have qd : (b != b) = false := by simp
    go_wp2_with fail
    refine (HS.out _ HA2.out).mono ?_
    rintro e w3 ⟨rfl, hb3⟩
    have HX3 := Lib.hid (HX2.out.next hb3)
    have HA3 := Lib.hid (HA2.out.trans (hb3.mono HA2.out.size)); clear hb3 f0 f1
    rcases hab with ⟨hv, rfl, rfl⟩ | ⟨h0, h1, h2⟩
    · rw [hv] at HV
      clear hv
      have f0 := HX3.out.f0
      have f1 := HX3.out.f1
      go_wp2_with fail
      refine (HV.out _ HA3.out).mono ?_
      rintro e w4 ⟨rfl, hb4⟩
      have HA4 := Lib.hid (HA3.out.trans (hb4.mono HA3.out.size)); clear hb4 f0 f1
      go_wp2_with fail
      go_ret
      exact ⟨rfl, HB1.out.trans (HA4.out.mono HB1.out.size)⟩
    · go_wp2_with fail
      go_ret
      exact ⟨rfl, HB1.out.trans (HA3.out.mono HB1.out.size)⟩
  · go_enter Try.func8, Try.ntmps8
    go_wp2
    go_ret
    exact ⟨rfl, Below.refl _ _⟩
end Go.Proofs.Ytjnaeefgbekmdaa
