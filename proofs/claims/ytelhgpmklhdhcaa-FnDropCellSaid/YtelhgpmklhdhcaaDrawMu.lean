/- The drawn change of a text (the model's generator mutate). Condition: the reader lies in its block. -/
import Derived.Test.YtelhgpmklhdhcaaDrawO
import Derived.BigRegion
import Derived.Deep.RegionWith
set_option linter.unusedVariables false
set_option linter.unusedSimpArgs false
namespace Go.Proofs.Ytelhgpmklhdhcaa
open Go.RowKit Go.ChangeShapes Go.WideShapes

theorem ofNewD_any (r N m c : Nat) (cs : Array Value) (t : TypeId) (w : World) (h : Rdr 120 w r N) (hN : N ≤ 1000000) (hm : cs.size = m) (hm0 : 1 ≤ m) (hm1 : m ≤ 1000) (hs : strsB cs.toList = true) :
    Calls Try.prog 112 #[.pointer (some ⟨r, 0, none⟩), .slice (some ⟨w.heap.size, 0, none⟩) m c] (w.alloc (.cells cs t)).drew (StrPost 16 r (N + 1) w) := by
  have hlt := h.lt
  refine (of_any r N w.heap.size m c cs.toList _ ((h.alloc _).drew) hN (by simpa using hm) hm0 hm1 (by
    have h0 : ListAt (w.alloc (.cells cs t)) w.heap.size cs.toList := ListAt.new cs.toList t
    exact fun i v hi => h0 i v hi) (by omega) (strsB_out hs)).mono ?_
  rintro e w' ⟨v, rfl, hv, hr, hg⟩
  obtain ⟨s, rfl⟩ := strsB_out hs v hv
  have := strsB_size hs hv
  exact ⟨s, rfl, by omega, hr, ((World.grownBy_alloc w _ _).trans' grown_drew).trans' hg⟩

set_option maxRecDepth 100000 in
set_option maxHeartbeats 2000000 in
theorem mutate_any (s : ByteArray) (r N : Nat) (w : World) (h : Rdr 120 w r N) (hN : N ≤ 900000) (hs : s.size ≤ 1000) :
    Calls Try.prog 102 #[.pointer (some ⟨r, 0, none⟩), .string s] w (StrPost (s.size + 16) r (N + 3) w) := by
  have HP := Lib.hid (pick_any r N ((s.size : Int) + 1) w h (by omega) (by omega))
  go_enter Try.func102, Try.ntmps102
  go_wp2_with fail
  refine (HP.out).mono ?_
  rintro e w1 ⟨k, rfl, h0, hv, hr1, hg1⟩
  obtain ⟨k, rfl⟩ := Int.eq_ofNat_of_zero_le h0
  have hk : k ≤ s.size := by omega
  clear hv h0
  have HG := Lib.hid hg1; clear hg1
  have HP2 := Lib.hid (pick_any r (N + 1) 5 w1 hr1 (by omega) (by omega))
  clear hr1
  go_wp2_with fail
  refine (HP2.out).mono ?_
  rintro e w2 ⟨x, rfl, h0, hv, hr2, hg2⟩
  have HG2 := Lib.hid (And.intro hr2 hg2); clear hg2
  have HO := Lib.hid (fun cs m c t (hm : cs.size = m) hm0 hm1 hs => ofNew_any r (N + 2) m c cs t w2 hr2 (by omega) hm hm0 hm1 hs)
  have HOD := Lib.hid (fun cs m c t (hm : cs.size = m) hm0 hm1 hs => ofNewD_any r (N + 2) m c cs t w2 hr2 (by omega) hm hm0 hm1 hs)
  clear hr2
  have hend : ∀ (S : ByteArray), S.size ≤ s.size + 16 → StrPost (s.size + 16) r (N + 3) w (.returned (.string S)) w2 := fun S hS => ⟨S, rfl, hS, HG2.out.1.more (by omega), HG.out.trans' HG2.out.2⟩
  have HEND := Lib.hid hend; clear hend
  have hx5 : x = 0 ∨ x = 1 ∨ x = 2 ∨ x = 3 ∨ x = 4 := by omega
  clear h0 hv
  have k0 : ¬ (s.size : Int) < (k : Int) := by omega
  have HFIN := Lib.hid (fun (S T : ByteArray) (w3 : World) (hT : T.size ≤ s.size + 16) (hr : Rdr 120 w3 r (N + 2 + 1)) (hg : w2.grownBy w3 (some r)) => (show StrPost (s.size + 16) r (N + 3) w (.returned (.string T)) w3 from ⟨T, rfl, hT, hr, (HG.out.trans' HG2.out.2).trans' hg⟩))
  rcases hx5 with rfl | rfl | rfl | rfl | rfl
  rotate_left 2
  · go_wp2_with fail
    go_ret
    exact HEND.out _ (by simp only [ByteArray.size_extract]; omega)
  · go_wp2_with fail
    refine (HO.out _ _ _ _ (by rfl) (by omega) (by omega) (by rfl)).mono ?_
    rintro e w3 ⟨S, rfl, hS, hr3, hg3⟩
    have HR3 := Lib.hid (And.intro hr3 hg3); clear hr3 hg3
    go_wp2_with fail
    go_ret
    exact HFIN.out S _ _ (by simp only [ByteArray.size_append]; omega) HR3.out.1 HR3.out.2
  · go_wp2_with fail
    go_ret
    exact HEND.out _ (by omega)
  all_goals by_cases hlt : k < s.size
  rotate_left 1
  · go_wp2_with fail
    go_ret
    exact HEND.out _ (by omega)
  rotate_left 1
  · go_wp2_with fail
    go_ret
    exact HEND.out _ (by omega)
  all_goals
    have k2 : ((k : Int) + 1).toNat = k + 1 := by omega
    have k3 : 0 ≤ (k : Int) + 1 := by omega
    have k4 : IntKind.i64.wrap ((k : Int) + 1) = (k : Int) + 1 := IntWalk.i64_in _ (by omega)
    go_wp2_with fail
    go_region_with (go_at_call 112; refine (HOD.out _ _ _ _ (by rfl) (by omega) (by omega) (by rfl)).mono ?_; rintro e w3 ⟨S, rfl, hS, hr3, hg3⟩)
    all_goals
      have HR3 := Lib.hid (And.intro hr3 hg3); clear hr3 hg3
      go_wp2_with fail
      go_ret
      exact HFIN.out S _ _ (by simp only [ByteArray.size_append, ByteArray.size_extract]; omega) HR3.out.1 HR3.out.2
end Go.Proofs.Ytelhgpmklhdhcaa
