/- The walk of the law FnMaySwap. Condition: the code lies in a row. -/
import Derived.Test.YtdpehojcoohjcabDrawAd
import Derived.Test.YtdpehojcoohjcabMayI
import Derived.Test.YtdpehojcoohjcabVwO
import Derived.Test.YtdpehojcoohjcabSwpF
set_option linter.unusedVariables false
set_option linter.unusedSimpArgs false
namespace Go.Proofs.Ytdpehojcoohjcab
open Go.RowKit Go.ChangeShapes Go.WideShapes

theorem own_atMS {w : World} {B n c z : Nat} {e : TypeId} {A : Option Addr} {xs : List Value} (h : w.ownsRow B e z (.slice A n c) n xs) (h0 : 0 < n) : ∃ g, A = some ⟨g, 0, none⟩ ∧ n ≤ c ∧ c ≤ maxLen ∧ B ≤ g := by
  rcases h.2 with ⟨hv, hn⟩ | ⟨g, cap, cur, hv, hg, _, h1, h2, _⟩
  · omega
  · injection hv with h3 _ h4
    subst h3 h4
    exact ⟨g, rfl, h1, h2, hg⟩
theorem row_takeMS {w : World} {B : Nat} {A : Option Addr} {l : List Ac} (h : RowAt w B A (acsC l)) (k : Nat) : RowAt w B A (acsC (l.take k)) := fun h0 => by
  have e : acsC l = acsC (l.take k) ++ acsC (l.drop k) := by rw [← acsC_app, List.take_append_drop]
  obtain ⟨b, off, rfl, hb, hc⟩ := h (by rw [e]; intro h1; exact h0 (List.append_eq_nil_iff.1 h1).1)
  refine ⟨b, off, rfl, hb, fun i v hi => hc i v ?_⟩
  rw [e, List.getElem?_append_left (by
    rcases Nat.lt_or_ge i (acsC (l.take k)).length with h1 | h1
    · exact h1
    · rw [List.getElem?_eq_none h1] at hi; cases hi)]
  exact hi

set_option maxRecDepth 100000 in
set_option maxHeartbeats 8000000 in
theorem walk_FnMaySwap (A : Option Addr) (n0 c0 : Nat) (w : World) (h : BytesIn w A n0 c0) :
    Calls Try.prog 9 #[.slice A n0 c0] w fun e w' => e = .returned (.bool true) ∧ Below w.heap.size w w' := by
  have HD := Lib.hid (drawMaySwap_any A n0 c0 w h)
  obtain ⟨hc, hm, _⟩ := h
  unfold maxLen at hm
  by_cases hb : n0 ≤ 1048576
  rotate_left
  · go_enter Try.func9, Try.ntmps9
    go_wp2
    go_ret
    exact ⟨rfl, Below.refl _ _⟩
  go_enter Try.func9, Try.ntmps9
  go_wp2_with fail
  refine (HD.out).mono ?_
  rintro e w0 ⟨l, A1, n, c, rfl, hn, hs, hwf, ho, hb0⟩
  have HB0 := Lib.hid hb0; clear hb0
  have HB1 := Lib.hid (Below.refl w0.heap.size w0)
  obtain ⟨hnc, hcm⟩ := own_caps ho
  have HRW := Lib.hid (fun W (hb : Below w0.heap.size w0 W) => (((RowAt.of_own ho).below hb).mono hb.size))
  have HI := Lib.hid (fun W (hb : Below w0.heap.size w0 W) => iMay_any A1 n c l W (HRW.out W hb) hn (by omega) hwf hnc hcm)
  have HS := Lib.hid (fun W (hb : Below w0.heap.size w0 W) => sMay_any A1 n c l W (HRW.out W hb) hn (by omega) (own_none ho))
  have HV := Lib.hid (fun W (hb : Below w0.heap.size w0 W) => iView_any A1 n c l W (HRW.out W hb) hn (by omega) hwf)
  have HT := Lib.hid (fun (k : Nat) (hk : k ≤ n) W (hb : Below w0.heap.size w0 W) => iMay_any A1 k c (l.take k) W (row_takeMS (HRW.out W hb) k) (by rw [List.length_take]; omega) (by omega) (fun x hx => hwf x (List.mem_of_mem_take hx)) (by omega) hcm)
  have HAT := Lib.hid (fun h0 => own_atMS ho h0)
  unfold maxLen at hcm
  clear ho hn hwf
  go_wp2_with fail
  refine (HI.out _ HB1.out).mono ?_
  rintro e w2 ⟨rfl, hb2⟩
  have HB2 := Lib.hid (HB1.out.trans (hb2.mono HB1.out.size)); clear hb2
  cases hv : swapB l
  · rw [hv] at HS
    clear hv HI HV HT HAT
    go_wp2_with fail
    refine (HS.out _ HB2.out).mono ?_
    rintro e w3 ⟨rfl, hb3⟩
    have HB3 := Lib.hid (HB2.out.trans (hb3.mono HB2.out.size)); clear hb3
    go_wp2_with fail
    refine (HS.out _ HB3.out).mono ?_
    rintro e w4 ⟨rfl, hb4⟩
    have HB4 := Lib.hid (HB3.out.trans (hb4.mono HB3.out.size)); clear hb4
    go_wp2_with fail
    go_ret
    exact ⟨rfl, HB0.out.trans (HB4.out.mono HB0.out.size)⟩
  · have HVV := Lib.hid (swap_view hv)
    have HTT := Lib.hid (fun k => swapB_take hv k)
    rw [hv] at HS
    clear hv HI
    unfold OrdPost at HV
    rw [HVV.out] at HV
    go_wp2_with fail
    refine (HS.out _ HB2.out).mono ?_
    rintro e w3 ⟨rfl, hb3⟩
    have HB3 := Lib.hid (HB2.out.trans (hb3.mono HB2.out.size)); clear hb3
    go_wp2_with fail
    refine (HV.out _ HB3.out).mono ?_
    rintro e w4 ⟨v4, rfl, ho4, hb4⟩
    have HB4 := Lib.hid (HB3.out.trans (hb4.mono HB3.out.size)); clear hb4 ho4
    cases n with
    | zero =>
      go_wp2_with fail
      go_ret
      exact ⟨rfl, HB0.out.trans (HB4.out.mono HB0.out.size)⟩
    | succ k =>
      obtain ⟨g, hA, _, _, _⟩ := HAT.out (by omega)
      subst hA
      have HK := Lib.hid (HT.out k (by omega) _ HB4.out)
      rw [HTT.out k] at HK
      have h1 : (((k + 1 : Nat) : Int) - 1) = (k : Int) := by omega
      have h2 : (((k + 1 : Nat) : Int) == 0) = false := by simp; omega
      have h3 : ¬ (c : Int) < (k : Int) := by omega
      have h4 : (k : Int) ≤ (c : Int) := by omega
      have h5 : k ≤ c := by omega
      go_wp2_with fail
      refine (HK.out).mono ?_
      rintro e w5 ⟨rfl, hb5⟩
      have HB5 := Lib.hid (HB4.out.trans (hb5.mono HB4.out.size)); clear hb5
      go_wp2_with fail
      go_ret
      exact ⟨rfl, HB0.out.trans (HB5.out.mono HB0.out.size)⟩
end Go.Proofs.Ytdpehojcoohjcab
