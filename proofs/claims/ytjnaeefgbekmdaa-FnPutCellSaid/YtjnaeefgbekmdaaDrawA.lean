/- Contracts of the model's draws of keys, cells and pages (chapter 1). No condition. -/
import Derived.Test.YtjnaeefgbekmdaaDraw
import Derived.Deep.RegionWith
set_option linter.unusedVariables false
set_option linter.unusedSimpArgs false
namespace Go.Proofs.Ytjnaeefgbekmdaa
open Go.RowKit Go.ChangeShapes Go.WideShapes

set_option maxHeartbeats 1000000 in
theorem goodKey_any (r N : Nat) (w : World) (h : Rdr 102 w r N) (hN : N ≤ 900000) :
    Calls Try.prog 94 #[.pointer (some ⟨r, 0, none⟩)] w (StrPost 16 r (N + 3) w) := by
  have HP := Lib.hid (pick_any r N 8 w h (by omega) (by omega))
  go_enter Try.func94, Try.ntmps94
  go_wp2_with fail
  refine (HP.out).mono ?_
  rintro e w1 ⟨v, rfl, h0, hv, hr1, hg1⟩
  have hv8 : v < 8 := by omega
  obtain ⟨k, rfl⟩ := Int.eq_ofNat_of_zero_le h0
  clear hv h0
  have HG := Lib.hid hg1; clear hg1
  have HP2 := Lib.hid (pick_any r (N + 1) 2 w1 hr1 (by omega) (by omega))
  clear hr1
  go_wp2_with fail
  refine (HP2.out).mono ?_
  rintro e w2 ⟨v2, rfl, h0, hv, hr2, hg2⟩
  have HG2 := Lib.hid (And.intro hr2 hg2); clear hg2
  have HP3 := Lib.hid (pick_any r (N + 2) 3 w2 hr2 (by omega) (by omega))
  clear hr2
  go_wp2_with fail
  · refine (HP3.out).mono ?_
    rintro e w3 ⟨v3, rfl, h0, hv, hr3, hg3⟩
    have hv8 : v3 < 3 := by omega
    obtain ⟨k3, rfl⟩ := Int.eq_ofNat_of_zero_le h0
    have HG3 := Lib.hid (And.intro hr3 hg3); clear hr3 hg3
    clear hv h0
    go_wp2_with fail
    go_ret
    refine ⟨_, rfl, ?_, HG3.out.1, (HG.out.trans' HG2.out.2).trans' HG3.out.2⟩
    simp only [ByteArray.size_append, ByteArray.size_extract]
    omega
  · go_ret
    refine ⟨_, rfl, ?_, HG2.out.1.more (by omega), HG.out.trans' HG2.out.2⟩
    simp only [ByteArray.size_extract]
    omega

set_option maxHeartbeats 1000000 in
theorem someCell_any (r N : Nat) (w : World) (h : Rdr 102 w r N) (hN : N ≤ 800000) :
    Calls Try.prog 64 #[.pointer (some ⟨r, 0, none⟩)] w (StrPost 64 r (N + 5) w) := by
  have HP := Lib.hid (pick_any r N 30 w h (by omega) (by omega))
  go_enter Try.func64, Try.ntmps64
  go_wp2_with fail
  refine (HP.out).mono ?_
  rintro e w1 ⟨v, rfl, h0, hv, hr1, hg1⟩
  have HG := Lib.hid hg1; clear hg1
  have HO := Lib.hid (fun cs m c t (hm : cs.size = m) hm0 hm1 hs => ofNew_any r (N + 1) m c cs t w1 hr1 (by omega) hm hm0 hm1 hs)
  have HK := Lib.hid (goodKey_any r (N + 1) w1 hr1 (by omega))
  clear hr1
  go_wp2_with fail
  · refine (HO.out _ _ _ _ (by rfl) (by omega) (by omega) (by rfl)).mono ?_
    rintro e w' ⟨s, rfl, hs, hr⟩
    have HR := Lib.hid hr; clear hr
    go_wp2_with fail
    go_ret
    exact ⟨_, rfl, by omega, HR.out.1.more (by omega), HG.out.trans' HR.out.2⟩
  · refine (HK.out).mono ?_
    rintro e w' ⟨s, rfl, hs, hr⟩
    have HR := Lib.hid hr; clear hr
    have HQ := Lib.hid (goodValue_any r (N + 4) w' HR.out.1 (by omega))
    go_wp2_with fail
    refine (HQ.out).mono ?_
    rintro e w' ⟨s2, rfl, hs2, hr⟩
    have HR2 := Lib.hid hr; clear hr
    go_wp2_with fail
    go_ret
    refine ⟨_, rfl, ?_, HR2.out.1, (HG.out.trans' HR.out.2).trans' HR2.out.2⟩
    have h1 : (⟨#[61]⟩ : ByteArray).size = 1 := rfl
    simp only [ByteArray.size_append, h1]
    omega

end Go.Proofs.Ytjnaeefgbekmdaa
