/- Numbers as texts, as the exact laws lay them. Conditions: the numbers are small. -/
import Derived.Test.YtcaekjbalkbliaaKey
import Derived.Test.YtcaekjbalkbliaaMem
import Derived.StillTailTactics
import Derived.Deep.RegionWith
set_option linter.unusedVariables false
set_option linter.unusedSimpArgs false
namespace Go.Proofs.Ytcaekjbalkbliaa
open Go.RowKit Go.ChangeShapes Go.WideShapes

/-- the number's digits ahead of a text -/
def digA (k : Nat) (out : ByteArray) : ByteArray := if h : k = 0 then out else digA (k / 10) (⟨#[UInt8.ofNat (48 + k % 10)]⟩ ++ out)
termination_by k
decreasing_by omega
def mText (k : Int) : ByteArray := if k ≤ 0 then "m0".toUTF8 else ⟨#[109]⟩ ++ digA k.toNat ⟨#[]⟩

set_option maxHeartbeats 1000000 in
set_option maxRecDepth 100000 in
theorem markText_any (k : Int) (w : World) (h0 : 0 < k) (h1 : k ≤ 1000000000) :
    Calls Try.prog 39 #[.int .i64 k] w fun e w' => e = .returned (.string (mText k)) ∧ Below w.heap.size w w' := by
  obtain ⟨kn, rfl⟩ := Int.eq_ofNat_of_zero_le (Int.le_of_lt h0)
  have HM := Lib.hid (show mText (kn : Int) = ⟨#[109]⟩ ++ digA kn ⟨#[]⟩ by unfold mText; rw [if_neg (by omega)]; rfl)
  go_enter Try.func39, Try.ntmps39
  go_wp2_with fail
  go_loopw [0, 3] (fun i o wr => ∃ (q : ByteArray) (j : Nat), o = .string q ∧ i = .int .i64 j ∧ digA j q = digA kn ⟨#[]⟩ ∧ q.size + j ≤ 2000000000 ∧ Below w.heap.size w wr) (fun i _ _ => (intOf i).toNat)
  case atStart => exact ⟨_, kn, rfl, rfl, rfl, by show 0 + kn ≤ _; omega, Below.refl _ _⟩
  case round =>
    obtain ⟨q, j, rfl, rfl, hd, hj, hb⟩ := hrel
    have HB := Lib.hid hb; clear hb
    have HD := Lib.hid hd; clear hd
    by_cases hlt : 0 < j
    · have hdg : (UInt8.ofNat (48 + j % 10)).toNat = 48 + j % 10 := by rw [UInt8.toNat_ofNat']; omega
      have hcv := run_convert_bytes_back (P := Try.prog) (wr.alloc (.cells #[.int .u8 (48 + (j : Int) % 10)] 5)) 90 9 5 ⟨wr.heap.size, 0, none⟩ 1 [UInt8.ofNat (48 + j % 10)] Try.underlying90 Try.underlying5 Try.underlying9 (fun i hi => by
        obtain rfl : i = 0 := by simp at hi; omega
        simp [Addr.add]; omega)
      simp only [List.length_cons, List.length_nil] at hcv
      generalize hdd : (⟨[UInt8.ofNat (48 + j % 10)].toArray⟩ : ByteArray) = dd at *
      have hds : dd.size = 1 := by rw [← hdd]; rfl
      have hd2 : digA (j / 10) (dd ++ q) = digA kn ⟨#[]⟩ := by
        rw [← HD.out, ← hdd]; conv => rhs; unfold digA
        rw [dif_neg (by omega)]
      have HD2 := Lib.hid hd2; clear hd2 hdd hdg
      have hsz : (dd ++ q).size = 1 + q.size := by rw [ByteArray.size_append, hds]
      have hjq : dd.size + q.size ≤ 9223372036854775807 := by omega
      go_wp2_with fail
      go_roundw
      case rel => exact ⟨_, j / 10, rfl, by go_num, HD2.out, by rw [hsz]; omega, HB.out.alloc HB.out.size _⟩
      case measure => simp [intOf]; omega
    · obtain rfl : j = 0 := by omega
      have hq : q = digA kn ⟨#[]⟩ := by rw [← HD.out]; unfold digA; simp
      subst hq
      go_wp2_with fail
      go_ret
      exact ⟨by rw [HM.out]; rfl, HB.out⟩

end Go.Proofs.Ytcaekjbalkbliaa
