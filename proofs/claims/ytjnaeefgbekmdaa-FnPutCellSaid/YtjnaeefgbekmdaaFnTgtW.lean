/- The walk of the law FnTightPage. Condition: the code lies in a row. -/
import Derived.Test.YtjnaeefgbekmdaaFnSpaceW
import Derived.Test.YtjnaeefgbekmdaaEqPg
import Derived.Test.YtjnaeefgbekmdaaTgU
set_option linter.unusedVariables false
set_option linter.unusedSimpArgs false
namespace Go.Proofs.Ytjnaeefgbekmdaa
open Go.RowKit Go.ChangeShapes Go.WideShapes

theorem tight_facts {s S : ByteArray} {l L : List Sl} {ok : Bool} (h : tightR s l = ((S, L), ok)) : ok = false ∨ (ok = true ∧ spaceA S L = spaceB s l ∧ spaceB S L = spaceB s l ∧ tightR S L = ((S, L), true) ∧ Wf L ∧ S.size = 48) := by
  unfold tightR at h
  split at h
  · rename_i hv
    injection h with h1 h2
    injection h1 with h3 h4
    have hp := (valid_iff s l).1 hv
    have hp2 := hp.tight
    have hv2 := (valid_iff _ _).2 hp2
    subst h3 h4
    refine .inr ⟨h2.symm, ?_, ?_, ?_, hp2.wf, hp2.size⟩
    · unfold spaceA spaceB; rw [if_pos hv2, if_pos hv, hp.tight_room]
    · unfold spaceB; rw [if_pos hv2, if_pos hv, hp.tight_spare]
    · unfold tightR; rw [if_pos hv2, hp.tightB_tightB, hp.tight_tight]
  · injection h with _ h2
    exact .inl h2.symm
theorem tightR_few {s S : ByteArray} {l L : List Sl} {ok : Bool} (h : tightR s l = ((S, L), ok)) : L.length ≤ l.length := by
  have := tightR_len s l
  rw [h] at this
  exact this

set_option maxRecDepth 100000 in
set_option maxHeartbeats 8000000 in
theorem walk_FnTightPage (A : Option Addr) (n c : Nat) (w : World) (h : BytesIn w A n c) :
    Calls Try.prog 4 #[.slice A n c] w fun e w' => e = .returned (.bool true) ∧ Below w.heap.size w w' := by
  have HD := Lib.hid (drawTightPage_any A n c w h)
  obtain ⟨hc, hm, _⟩ := h
  unfold maxLen at hm
  by_cases hb : n ≤ 1048576
  · go_enter Try.func4, Try.ntmps4
    go_wp2_with fail
    refine (HD.out).mono ?_
    rintro e w1 ⟨v, rfl, s, l, m, A1, c1, rfl, hml, hm24, hs, hwf, ho, hb1⟩
    have HB1 := Lib.hid hb1
    have HX := Lib.hid (PBox.new w1 s A1 m c1)
    have hp : PageAt w1 s A1 m l := ⟨hml, RowAt.of_own ho, hwf, by omega, by omega⟩
    have hA1 := own_none ho
    have HA := Lib.hid ((Below.refl w1.heap.size w1).alloc (Nat.le_refl _) (.cells #[.string s, .slice A1 m c1] 25))
    have HI := Lib.hid (fun W (hb : Below w1.heap.size w1 W) => iTight_any s A1 m c1 l W (hp.below hb) hA1)
    have HS := Lib.hid (fun W (hb : Below w1.heap.size w1 W) => sTightP_any s A1 m c1 l W (hp.below hb) hA1)
    have HSP := Lib.hid (fun W (hb : Below w1.heap.size w1 W) => iSpace_any s A1 m c1 l W (hp.below hb))
    obtain ⟨S, L, ok, hr⟩ : ∃ S L ok, tightR s l = ((S, L), ok) := ⟨_, _, _, rfl⟩
    have HOK := Lib.hid (tight_facts hr)
    have HR := Lib.hid hr
    have hL : L.length ≤ 24 := by have := tightR_few hr; omega
    obtain ⟨mL, hmL⟩ : ∃ mL, L.length = mL := ⟨_, rfl⟩
    have HML := Lib.hid hmL.symm
    rw [hmL] at hL
    clear hml hwf ho hb1 hp hr hmL hA1
    go_wp2_with fail
    refine (HI.out _ HA.out).mono ?_
    intro e w2 hp2
    obtain ⟨A2, c2, rfl, ho2, hb2⟩ := PgbPost.uni HR.out hp2
    rw [← HML.out] at ho2 ⊢
    have HX2 := Lib.hid (HX.out.next hb2)
    have HO2 := Lib.hid ho2
    have HA2 := Lib.hid (HA.out.trans (hb2.mono HA.out.size))
    have HB2 := Lib.hid (HA2.out.alloc HA2.out.size (.cells #[.string S, .slice A2 mL c2] 25))
    clear hb2 ho2 hp2
    have a0 := HX2.out.f0; have a1 := HX2.out.f1; have hla := HX2.out.lt
    go_wp2_with fail
    refine (HS.out _ HB2.out).mono ?_
    intro e w3 hp3
    obtain ⟨A3, c3, rfl, ho3, hb3⟩ := PgbPost.uni HR.out hp3
    rw [← HML.out] at ho3 ⊢
    have HX3 := Lib.hid ((HX2.out.alloc (.cells #[.string S, .slice A2 mL c2] 25)).next hb3)
    have HY3 := Lib.hid ((PBox.new w2 S A2 mL c2).next hb3)
    have HO3 := Lib.hid (ownsRow.next (HO2.out.alloc (.cells #[.string S, .slice A2 mL c2] 25)) hb3)
    have HW3 := Lib.hid ho3
    have HA3 := Lib.hid (HB2.out.trans (hb3.mono HB2.out.size))
    have HB3 := Lib.hid (HA3.out.alloc HA3.out.size (.cells #[.string S, .slice A3 mL c3] 25))
    have HE3 := Lib.hid (equalPage_same S A2 A3 mL c2 c3 L (w3.alloc (.cells #[.string S, .slice A3 mL c3] 25)) (RowAt.of_own (HO3.out.alloc _)) (RowAt.of_own (HW3.out.alloc _)) HML.out (by omega))
    clear hb3 ho3 hp3 a0 a1 hla
    have a0 := HX3.out.f0; have a1 := HX3.out.f1; have hla := HX3.out.lt
    have b0 := HY3.out.f0; have b1 := HY3.out.f1; have hlb := HY3.out.lt
    go_wp2_with fail
    refine (HE3.out).mono ?_
    rintro e w4 ⟨rfl, hb4⟩
    have HX4 := Lib.hid ((HX3.out.alloc (.cells #[.string S, .slice A3 mL c3] 25)).next hb4)
    have HY4 := Lib.hid ((HY3.out.alloc (.cells #[.string S, .slice A3 mL c3] 25)).next hb4)
    have HZ4 := Lib.hid ((PBox.new w3 S A3 mL c3).next hb4)
    have HO4 := Lib.hid (ownsRow.next (HO3.out.alloc (.cells #[.string S, .slice A3 mL c3] 25)) hb4)
    have HW4 := Lib.hid (ownsRow.next (HW3.out.alloc (.cells #[.string S, .slice A3 mL c3] 25)) hb4)
    have HA4 := Lib.hid (HB3.out.trans (hb4.mono HB3.out.size))
    clear hb4 a0 a1 hla b0 b1 hlb
    have a0 := HX4.out.f0; have a1 := HX4.out.f1; have hla := HX4.out.lt
    have b0 := HY4.out.f0; have b1 := HY4.out.f1; have hlb := HY4.out.lt
    have c0 := HZ4.out.f0; have c1 := HZ4.out.f1; have hlc := HZ4.out.lt
    rcases HOK.out with rfl | ⟨rfl, hk1, hk2, hk3, hk4, hk5⟩
    · have HE4 := Lib.hid (equalPage_same S A2 A3 mL c2 c3 L w4 (RowAt.of_own HO4.out) (RowAt.of_own HW4.out) HML.out (by omega))
      go_wp2_with fail
      refine (HE4.out).mono ?_
      rintro e w5 ⟨rfl, hb5⟩
      have HA5 := Lib.hid (HA4.out.trans (hb5.mono HA4.out.size)); clear hb5
      go_wp2_with fail
      go_ret
      exact ⟨rfl, HB1.out.trans (HA5.out.mono HB1.out.size)⟩
    · have HSQ := Lib.hid (fun W (hb : Below w4.heap.size w4 W) => iSpace_any S A2 mL c2 L W ⟨HML.out, RowAt.of_own (ownsRow.next HO4.out hb), hk4, by omega, by omega⟩)
      have HTQ := Lib.hid (fun W (hb : Below w4.heap.size w4 W) => iTight_any S A2 mL c2 L W ⟨HML.out, RowAt.of_own (ownsRow.next HO4.out hb), hk4, by omega, by omega⟩ (own_none HO4.out))
      rw [hk1, hk2] at HSQ
      have HR2 := Lib.hid hk3
      clear hk1 hk2 hk3 hk4 hk5 HOK
      generalize spaceA s l = x at *
      generalize spaceB s l = y at *
      have qy : (y == y) = true := by simp
      go_wp2_with fail
      refine (HSP.out _ HA4.out).mono ?_
      rintro e w5 ⟨rfl, hb5⟩
      have HX5 := Lib.hid (HX4.out.next hb5)
      have HY5 := Lib.hid (HY4.out.next hb5)
      have HC5 := Lib.hid hb5
      have HA5 := Lib.hid (HA4.out.trans (hb5.mono HA4.out.size))
      clear hb5 a0 a1 hla b0 b1 hlb c0 c1 hlc
      have a0 := HX5.out.f0; have a1 := HX5.out.f1; have hla := HX5.out.lt
      have b0 := HY5.out.f0; have b1 := HY5.out.f1; have hlb := HY5.out.lt
      go_wp2_with fail
      refine (HSQ.out _ HC5.out).mono ?_
      rintro e w6 ⟨rfl, hb6⟩
      have HY6 := Lib.hid (HY5.out.next hb6)
      have HC6 := Lib.hid (HC5.out.trans (hb6.mono HC5.out.size))
      have HA6 := Lib.hid (HA5.out.trans (hb6.mono HA5.out.size))
      clear hb6 a0 a1 hla b0 b1 hlb
      have b0 := HY6.out.f0; have b1 := HY6.out.f1; have hlb := HY6.out.lt
      go_wp2_with fail
      refine (HTQ.out _ HC6.out).mono ?_
      intro e w7 hp7
      obtain ⟨A7, c7, rfl, ho7, hb7⟩ := PgbPost.uni HR2.out hp7
      rw [← HML.out] at ho7 ⊢
      have HY7 := Lib.hid (HY6.out.next hb7)
      have HA7 := Lib.hid (HA6.out.trans (hb7.mono HA6.out.size))
      have HB7 := Lib.hid (HA7.out.alloc HA7.out.size (.cells #[.string S, .slice A7 mL c7] 25))
      have HO7 := Lib.hid (ownsRow.next (ownsRow.next HO4.out HC6.out) hb7)
      have HE7 := Lib.hid (equalPage_same S A7 A2 mL c7 c2 L (w7.alloc (.cells #[.string S, .slice A7 mL c7] 25)) (RowAt.of_own (ho7.alloc _)) (RowAt.of_own (HO7.out.alloc _)) HML.out (by omega))
      clear hb7 ho7 hp7 b0 b1 hlb
      have b0 := HY7.out.f0; have b1 := HY7.out.f1; have hlb := HY7.out.lt
      go_wp2_with fail
      refine (HE7.out).mono ?_
      rintro e w8 ⟨rfl, hb8⟩
      have HA8 := Lib.hid (HB7.out.trans (hb8.mono HB7.out.size)); clear hb8
      go_wp2_with fail
      go_ret
      exact ⟨rfl, HB1.out.trans (HA8.out.mono HB1.out.size)⟩
  · go_enter Try.func4, Try.ntmps4
    go_wp2
    go_ret
    exact ⟨rfl, Below.refl _ _⟩
end Go.Proofs.Ytjnaeefgbekmdaa
