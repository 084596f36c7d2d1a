/- Contracts of the model's draws of keys, cells and pages (chapter 1). No condition. -/
import Derived.Test.YtdpehojcoohjcaaDraw
import Derived.Deep.RegionWith
set_option linter.unusedVariables false
set_option linter.unusedSimpArgs false
namespace Go.Proofs.Ytdpehojcoohjcaa
open Go.RowKit Go.ChangeShapes Go.WideShapes

set_option maxHeartbeats 1000000 in
theorem goodKey_any (r N : Nat) (w : World) (h : Rdr 51 w r N) (hN : N ≤ 900000) :
    Calls Try.prog 29 #[.pointer (some ⟨r, 0, none⟩)] w (StrPost 16 r (N + 3) w) := by
  have HP := Lib.hid (pick_any r N 8 w h (by omega) (by omega))
  go_enter Try.func29, Try.ntmps29
  go_wp2_with fail
  refine (HP.out).mono ?_
  rintro e w1 ⟨v, rfl, h0, hv, hr1, hg1⟩
  have hv8 : v < 8 := by omega
  obtain ⟨k, rfl⟩ := Int.eq_ofNat_of_zero_le h0
  clear hv h0
  have HG := Lib.hid hg1; clear hg1
  have HP2 := Lib.hid (pick_any r (N + 1) 2 w1 hr1 (by omega) (by omega))
  clear hr1
  go_wp2_with fail
  refine (HP2.out).mono ?_
  rintro e w2 ⟨v2, rfl, h0, hv, hr2, hg2⟩
  have HG2 := Lib.hid (And.intro hr2 hg2); clear hg2
  have HP3 := Lib.hid (pick_any r (N + 2) 3 w2 hr2 (by omega) (by omega))
  clear hr2
  go_wp2_with fail
  · refine (HP3.out).mono ?_
    rintro e w3 ⟨v3, rfl, h0, hv, hr3, hg3⟩
    have hv8 : v3 < 3 := by omega
    obtain ⟨k3, rfl⟩ := Int.eq_ofNat_of_zero_le h0
    have HG3 := Lib.hid (And.intro hr3 hg3); clear hr3 hg3
    clear hv h0
    go_wp2_with fail
    go_ret
    refine ⟨_, rfl, ?_, HG3.out.1, (HG.out.trans' HG2.out.2).trans' HG3.out.2⟩
    simp only [ByteArray.size_append, ByteArray.size_extract]
    omega
  · go_ret
    refine ⟨_, rfl, ?_, HG2.out.1.more (by omega), HG.out.trans' HG2.out.2⟩
    simp only [ByteArray.size_extract]
    omega


end Go.Proofs.Ytdpehojcoohjcaa
