/- Contract of MaySwap of the program (chapter 8). Conditions: the acts lie in a row; they are few. -/
import Derived.Test.YtdpehojcoohjcabOrdI
import Derived.Test.YtdpehojcoohjcabMaySw
set_option linter.unusedVariables false
set_option linter.unusedSimpArgs false
namespace Go.Proofs.Ytdpehojcoohjcab
open Go.RowKit Go.ChangeShapes Go.WideShapes

theorem iMay_any (A : Option Addr) (n c : Nat) (l : List Ac) (w : World) (hr : RowAt w w.heap.size A (acsC l)) (hn : n = l.length) (hs : n ≤ 1048576) (hw : WfAc l) (hnc : n ≤ c) (hcm : c ≤ maxLen) :
    Calls Try.prog 35 #[.slice A n c] w fun e w' => e = .returned (.bool (swapB l)) ∧ Below w.heap.size w w' := by
  have HV := Lib.hid (iOrd_any A n c l w hr hn hs hw hnc hcm)
  rw [swapB_ord]
  clear hr hn hw hcm
  generalize ordR l = r at *
  go_enter Try.func35, Try.ntmps35
  go_wp2_with fail
  refine HV.out.mono ?_
  rintro e w2 ⟨v, rfl, ho, hb2⟩
  have HB2 := Lib.hid hb2; clear hb2 ho
  go_wp2_with fail
  go_ret
  exact ⟨rfl, HB2.out⟩
end Go.Proofs.Ytdpehojcoohjcab
