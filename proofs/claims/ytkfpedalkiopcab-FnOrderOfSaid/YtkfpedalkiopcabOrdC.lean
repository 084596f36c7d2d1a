/- Contract of OrderOf of the model (chapter 8). Conditions: the acts lie in a row; they are few. -/
import Derived.Test.YtkfpedalkiopcabAhdS
import Derived.Test.YtkfpedalkiopcabLinUp
set_option linter.unusedVariables false
set_option linter.unusedSimpArgs false
namespace Go.Proofs.Ytkfpedalkiopcab
open Go.RowKit Go.ChangeShapes Go.WideShapes

theorem OrdPost.mono {r : Option (List Nat)} {w w2 w' : World} {e : Ending} (h : OrdPost r w2 e w') (hb : Below w.heap.size w w2) : OrdPost r w e w' := by
  obtain ⟨v, h1, ⟨A, c, h2, h3⟩, h4⟩ := h
  exact ⟨v, h1, ⟨A, c, h2, own_mono h3 hb.size⟩, hb.trans (h4.mono hb.size)⟩
theorem sOrd_any (A : Option Addr) (n c : Nat) (l : List Ac) (w : World) (hr : RowAt w w.heap.size A (acsC l)) (hn : n = l.length) (hs : n ≤ 1048576) (hw : WfAc l) :
    Calls Try.prog 22 #[.slice A n c] w (OrdPost (ordR l) w) := by
  have HV := Lib.hid (sActs_any A n c l w hr hn hs)
  cases hv : actsB l
  · rw [hv] at HV
    have HD := Lib.hid (show ordR l = none by simp [ordR, hv])
    clear hv hr hn
    rw [HD.out]
    go_enter Try.func22, Try.ntmps22
    go_wp2_with fail
    refine HV.out.mono ?_
    rintro e w2 ⟨rfl, hb2⟩
    go_wp2_with fail
    go_ret2
    exact ordPost_no hb2
  · rw [hv] at HV
    have HD := Lib.hid (show ordR l = greedy (aheadB l) 4 4 (fun _ => true) by simp [ordR, hv])
    have HC := Lib.hid (fun W (hb : Below w.heap.size w W) => sAhead_any A n c l W ((hr.below hb).mono hb.size) hn hs (actsB_ok hv).2)
    have HL := Lib.hid (fun W A2 c2 (h2 : RowAt W W.heap.size A2 (intC (natI (aheadL l)))) => lineUp_any A2 4 c2 (aheadB l) W h2 (by omega))
    have HLN := Lib.hid (show (natI (aheadL l)).length = 4 by rw [natI_len, aheadL, maskL_len])
    clear hv hr hn
    generalize greedy (aheadB l) 4 4 (fun _ => true) = G at *
    rw [HD.out]
    go_enter Try.func22, Try.ntmps22
    go_wp2_with fail
    refine HV.out.mono ?_
    rintro e w2 ⟨rfl, hb2⟩
    have HB2 := Lib.hid hb2; clear hb2
    go_wp2_with fail
    refine (HC.out _ HB2.out).mono ?_
    rintro e w3 ⟨v, rfl, ⟨A3, c3, rfl, ho⟩, hb3⟩
    rw [HLN.out] at ho
    rw [HLN.out]
    have HO := Lib.hid (RowAt.of_own ho); clear ho
    have HB3 := Lib.hid (HB2.out.trans (hb3.mono HB2.out.size)); clear hb3
    go_wp2_with fail
    refine (HL.out _ A3 c3 HO.out).mono ?_
    rintro e w4 hp
    have HP := Lib.hid (OrdPost.mono hp HB3.out); clear hp
    obtain ⟨v, rfl, HP2⟩ := HP.out
    clear HP
    have HP := Lib.hid HP2; clear HP2
    go_wp2_with fail
    go_ret2
    exact ⟨_, rfl, HP.out⟩
end Go.Proofs.Ytkfpedalkiopcab
