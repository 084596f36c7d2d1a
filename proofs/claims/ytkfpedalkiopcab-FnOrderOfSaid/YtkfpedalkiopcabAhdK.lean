/- Contracts of AheadOf of the program and of the model (chapter 8). Conditions: the acts lie in a row; they are few. -/
import Derived.Test.YtkfpedalkiopcabAhdS
import Derived.Test.YtkfpedalkiopcabAhdI
import Derived.Test.YtkfpedalkiopcabAhdJ
set_option linter.unusedVariables false
set_option linter.unusedSimpArgs false
namespace Go.Proofs.Ytkfpedalkiopcab
open Go.RowKit Go.ChangeShapes Go.WideShapes

/-- numbers in a row of the call's own, whatever made it -/
def IntsPostE (E : TypeId) (L : List Int) (w : World) (e : Ending) (w' : World) : Prop := ∃ v, e = .returned v ∧ (∃ (A : Option Addr) (c : Nat), v = .slice A L.length c ∧ w'.ownsRow w.heap.size E 1 (.slice A L.length c) L.length (intC L)) ∧ Below w.heap.size w w'
def ahdR (l : List AcT) : List Int := if actsB l then natI (aheadL l) else []
theorem sAhdV_any (A : Option Addr) (n c : Nat) (l : List Ac) (w : World) (hr : RowAt w w.heap.size A (acsC l)) (hn : n = l.length) (hs : n ≤ 1048576) (hw : WfAc l) :
    Calls Try.prog 18 #[.slice A n c] w (IntsPost (ahdR l) w) := by
  have HV := Lib.hid (sActs_any A n c l w hr hn hs)
  cases hv : actsB l
  · rw [hv] at HV
    have HD := Lib.hid (show ahdR l = [] by simp [ahdR, hv])
    clear hv hr hn
    rw [HD.out]
    go_enter Try.func18, Try.ntmps18
    go_wp2_with fail
    refine HV.out.mono ?_
    rintro e w2 ⟨rfl, hb2⟩
    go_wp2_with fail
    go_ret
    exact ⟨_, rfl, ⟨none, 0, rfl, World.ownsRow_nil _ _ _ _⟩, hb2⟩
  · rw [hv] at HV
    have HD := Lib.hid (show ahdR l = natI (aheadL l) by simp [ahdR, hv])
    have HC := Lib.hid (fun W (hb : Below w.heap.size w W) => sAhead_any A n c l W ((hr.below hb).mono hb.size) hn hs (actsB_ok hv).2)
    clear hv hr hn
    rw [HD.out]
    go_enter Try.func18, Try.ntmps18
    go_wp2_with fail
    refine HV.out.mono ?_
    rintro e w2 ⟨rfl, hb2⟩
    have HB2 := Lib.hid hb2; clear hb2
    go_wp2_with fail
    refine (HC.out _ HB2.out).mono ?_
    rintro e w3 ⟨v, rfl, ⟨A3, c3, rfl, ho⟩, hb3⟩
    go_wp2_with fail
    go_ret
    exact ⟨_, rfl, ⟨A3, c3, rfl, own_mono ho HB2.out.size⟩, HB2.out.trans (hb3.mono HB2.out.size)⟩
theorem iAhdV_any (A : Option Addr) (n c : Nat) (l : List Ac) (w : World) (hr : RowAt w w.heap.size A (acsC l)) (hn : n = l.length) (hs : n ≤ 1048576) (hw : WfAc l) (hnc : n ≤ c) (hcm : c ≤ maxLen) :
    Calls Try.prog 16 #[.slice A n c] w (IntsPostE 53 (ahdR l) w) := by
  have HV := Lib.hid (iActs_any A n c l w hr hn hs)
  cases hv : actsB l
  · rw [hv] at HV
    have HD := Lib.hid (show ahdR l = [] by simp [ahdR, hv])
    clear hv hr hn
    rw [HD.out]
    go_enter Try.func16, Try.ntmps16
    go_wp2_with fail
    refine HV.out.mono ?_
    rintro e w2 ⟨rfl, hb2⟩
    go_wp2_with fail
    go_ret
    exact ⟨_, rfl, ⟨none, 0, rfl, World.ownsRow_nil _ _ _ _⟩, hb2⟩
  · rw [hv] at HV
    have HD := Lib.hid (show ahdR l = natI (aheadL l) by simp [ahdR, hv])
    have hl10 := (actsB_ok hv).1
    have HCS := Lib.hid (fun W => iStand_any A n c W hs)
    have HCA := Lib.hid (fun W (hb : Below w.heap.size w W) A2 c2 (h2 : W.ownsRow w.heap.size 3 1 (.slice A2 n c2) n (intC (upN n))) =>
      iAhead_any A A2 n c n c2 l (List.range n) W ((hr.below hb).mono hb.size) hn hs (actsB_ok hv).2 (RowAt.of_own h2) (by simp) (by omega) (fun q hq => by rw [← hn]; exact List.mem_range.1 hq))
    have HE := Lib.hid (show actsAt l (List.range n) = l by rw [hn]; exact actsAt_range l)
    rw [HE.out] at HCA
    obtain ⟨a0, a1, a2, a3, h4⟩ : ∃ a0 a1 a2 a3 : Int, natI (aheadL l) = [a0, a1, a2, a3] := ⟨_, _, _, _, rfl⟩
    rw [h4] at HCA HD
    simp only [show (intC [a0, a1, a2, a3]).toArray = #[.int .i64 a0, .int .i64 a1, .int .i64 a2, .int .i64 a3] from rfl] at HCA
    clear h4
    have HRN := Lib.hid (fun W => (show RI 53 W.heap.size W.heap.size [a0, a1, a2, a3] (W.alloc (.cells #[.int .i64 a0, .int .i64 a1, .int .i64 a2, .int .i64 a3] 53)) from RI.new W [a0, a1, a2, a3] (by simp [maxLen])))
    have HUL := Lib.hid (upN_len n)
    clear hv hr hn
    rw [HD.out]
    go_enter Try.func16, Try.ntmps16
    go_wp2_with fail
    refine HV.out.mono ?_
    rintro e w2 ⟨rfl, hb2⟩
    have HB2 := Lib.hid hb2; clear hb2
    go_wp2_with fail
    refine (HCS.out _).mono ?_
    rintro e w3 ⟨v, rfl, ⟨A3, c3, rfl, ho⟩, hb3⟩
    rw [HUL.out] at ho
    rw [HUL.out]
    have HO := Lib.hid (own_mono ho HB2.out.size); clear ho
    have HB3 := Lib.hid (HB2.out.trans (hb3.mono HB2.out.size)); clear hb3
    go_wp2_with fail
    refine (HCA.out _ HB3.out A3 c3 HO.out).mono ?_
    rintro e w4 ⟨rfl, hb4⟩
    have HB4 := Lib.hid (HB3.out.trans (hb4.mono HB3.out.size)); clear hb4
    have HRN4 := Lib.hid (HRN.out w4)
    have HB5 := Lib.hid (HB4.out.alloc HB4.out.size (.cells #[.int .i64 a0, .int .i64 a1, .int .i64 a2, .int .i64 a3] 53))
    go_wp2_with fail
    go_ret
    exact ⟨_, rfl, ⟨some ⟨w4.heap.size, 0, none⟩, 4, rfl, own_mono HRN4.out HB4.out.size⟩, HB5.out⟩
end Go.Proofs.Ytkfpedalkiopcab
