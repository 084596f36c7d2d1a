/- DiskAfter and RedoRecs, as their exact laws ask for them (chapter 6). Conditions: the records and the numbers lie in rows; they are few. -/
import Derived.Test.YthpfijhmdeciaaaRecQ
import Derived.Test.YthpfijhmdeciaaaRecU
set_option linter.unusedVariables false
set_option linter.unusedSimpArgs false
namespace Go.Proofs.Ythpfijhmdeciaaa
open Go.RowKit Go.ChangeShapes Go.WideShapes

theorem sDiskV_any (A : Option Addr) (n c : Nat) (l : List Rc) (Ak : Option Addr) (nk ck : Nat) (ks : List Int) (w : World) (hr : RowAt w w.heap.size A (rcsC l)) (hn : n = l.length) (hs : n ≤ 1048576) (hw : WfRc l)
    (hrk : RowAt w w.heap.size Ak (insC ks)) (hk : nk = ks.length) (hks : nk ≤ 1048576) (hwk : WfIn ks) (hA : A = none → c = 0) (hAk : Ak = none → ck = 0) (hnc : n ≤ c) :
    Calls Try.prog 16 #[.slice A n c, .slice Ak nk ck] w (IntsPost (diskR l ks) w) := sDisk_any A Ak n c nk ck l ks w hr hn hs hnc hA hrk hk hks
theorem iDiskV_any (A : Option Addr) (n c : Nat) (l : List Rc) (Ak : Option Addr) (nk ck : Nat) (ks : List Int) (w : World) (hr : RowAt w w.heap.size A (rcsC l)) (hn : n = l.length) (hs : n ≤ 1048576) (hw : WfRc l)
    (hrk : RowAt w w.heap.size Ak (insC ks)) (hk : nk = ks.length) (hks : nk ≤ 1048576) (hwk : WfIn ks) :
    Calls Try.prog 15 #[.slice A n c, .slice Ak nk ck] w (IntsPost (diskR l ks) w) := iDisk_any A Ak n c nk ck l ks w hr hn hs hrk hk hks
theorem sRedoV_any (A : Option Addr) (n c : Nat) (l : List Rc) (Ak : Option Addr) (nk ck : Nat) (ks : List Int) (w : World) (hr : RowAt w w.heap.size A (rcsC l)) (hn : n = l.length) (hs : n ≤ 1048576) (hw : WfRc l)
    (hrk : RowAt w w.heap.size Ak (insC ks)) (hk : nk = ks.length) (hks : nk ≤ 1048576) (hwk : WfIn ks) (hA : A = none → c = 0) (hAk : Ak = none → ck = 0) (hnc : n ≤ c) :
    Calls Try.prog 19 #[.slice A n c, .slice Ak nk ck] w (IntsPost (redoR l ks) w) := sRedo_any A Ak n c nk ck l ks w hr hn hs hnc hA hrk hk hks
theorem iRedoV_any (A : Option Addr) (n c : Nat) (l : List Rc) (Ak : Option Addr) (nk ck : Nat) (ks : List Int) (w : World) (hr : RowAt w w.heap.size A (rcsC l)) (hn : n = l.length) (hs : n ≤ 1048576) (hw : WfRc l)
    (hrk : RowAt w w.heap.size Ak (insC ks)) (hk : nk = ks.length) (hks : nk ≤ 1048576) (hwk : WfIn ks) :
    Calls Try.prog 18 #[.slice A n c, .slice Ak nk ck] w (IntsPost (redoR l ks) w) := iRedo_any A Ak n c nk ck l ks w hr hn hs hrk hk hks
end Go.Proofs.Ythpfijhmdeciaaa
