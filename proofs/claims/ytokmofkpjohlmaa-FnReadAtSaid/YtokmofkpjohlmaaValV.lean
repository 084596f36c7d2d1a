/- The law's helper valueIn; and what ReadAt has to do with SeenAt: plain. Conditions: the pairs lie in a row; they are few. -/
import Derived.Test.YtokmofkpjohlmaaSeenP
import Derived.Test.YtokmofkpjohlmaaVerR
set_option linter.unusedVariables false
set_option linter.unusedSimpArgs false
namespace Go.Proofs.Ytokmofkpjohlmaa
open Go.RowKit Go.ChangeShapes Go.WideShapes

def valV (l : List Pr) (key : ByteArray) : ByteArray × Bool := match l.find? (fun p => p.1.toList == key.toList) with | some p => (p.2, true) | none => (⟨#[]⟩, false)
theorem valV_of {S : List Pr} {m : List UInt8 → Option Vr} (h : PairsOfM S m) (key : ByteArray) : valV S key = match m key.toList with | some v => (v.2.1, true) | none => (⟨#[]⟩, false) := by
  unfold valV
  cases hf : S.find? (fun p => p.1.toList == key.toList) with
  | some p =>
    have hk : p.1.toList = key.toList := by simpa using List.find?_some hf
    obtain ⟨v, a, b⟩ := (h.2.1 p).1 (List.mem_of_find?_eq_some hf)
    rw [hk] at a
    rw [a, b]
  | none =>
    cases hm : m key.toList with
    | none => rfl
    | some v =>
      have hin := (h.2.1 (v.1, v.2.1)).2 ⟨v, by rw [h.2.2 _ _ hm]; exact hm, rfl⟩
      have := List.find?_eq_none.1 hf _ hin
      rw [h.2.2 _ _ hm] at this
      simp at this
theorem read_seen {l : List Vr} {key : ByteArray} {at_ : Int} (h : readB okVr keyB l key at_ = true) : valV (seenR l at_) key = readK okVr keyB l key at_ := by
  have hb : sweepB okVr l at_ = true := by
    unfold readB at h; unfold sweepB
    simp only [Bool.and_eq_true] at h ⊢
    exact ⟨⟨h.1.1.1, h.1.2⟩, h.2⟩
  rw [seenR_yes hb, valV_of (seenA_pm l at_)]
  unfold readK
  rw [if_pos h]
  rfl
theorem valV_yes {l : List Pr} {key : ByteArray} {k : Nat} (h : k < l.length) (he : l[k].1.toList = key.toList) : valV (l.drop k) key = (l[k].2, true) := by
  rw [List.drop_eq_getElem_cons h]; unfold valV; rw [List.find?_cons, show (l[k].1.toList == key.toList) = true by simpa using he]
theorem valV_no {l : List Pr} {key : ByteArray} {k : Nat} (h : k < l.length) (he : ¬ l[k].1.toList = key.toList) : valV (l.drop k) key = valV (l.drop (k + 1)) key := by
  rw [List.drop_eq_getElem_cons h]; unfold valV; rw [List.find?_cons, show (l[k].1.toList == key.toList) = false by simpa using he]

theorem lValueV_any (A : Option Addr) (n c : Nat) (l : List Pr) (key : ByteArray) (w : World) (hr : RowAt w w.heap.size A (prsC l)) (hn : n = l.length) (hs : n ≤ 1048576) :
    Calls Try.prog 49 #[.slice A n c, .string key] w fun e w' => e = .returned (.tuple #[.string (valV l key).1, .bool (valV l key).2]) ∧ w' = w := by
  have HR := Lib.hid hr; clear hr
  have HN := Lib.hid hn; clear hn
  go_enter Try.func49, Try.ntmps49
  go_wp2_with fail
  go_loopw [6] (fun i wr => ∃ k : Nat, i = .int .i64 k ∧ k ≤ n ∧ wr = w ∧ valV (l.drop k) key = valV l key) (fun i _ => n - (intOf i).toNat)
  case atStart => exact ⟨0, rfl, by omega, rfl, rfl⟩
  case round =>
    obtain ⟨k, rfl, hk, rfl, hv⟩ := hrel
    by_cases hlt : k < n
    · have hkl : k < l.length := by have := HN.out; omega
      obtain ⟨b, off, hA, hbw, e0, e1⟩ := prs_at HR.out hkl
      subst hA
      have hi1 : (k : Int) < (n : Int) := by omega
      by_cases he : l[k].1.toList = key.toList
      · have HE := Lib.hid (show valV l key = (l[k].2, true) by rw [← hv, valV_yes hkl he])
        have q4 : (l[k].1.toList == key.toList) = true := by simpa using he
        clear he hv
        generalize l[k].1 = x0 at *
        generalize l[k].2 = x1 at *
        go_wp2_with fail
        refine bodyPost_ret (v := .tuple #[.string x1, .bool true]) (by simp [results, Try.results49, go_sem]) rfl ?_
        exact ⟨by rw [HE.out], rfl⟩
      · have HE := Lib.hid ((valV_no hkl he).symm.trans hv)
        have q4 : (l[k].1.toList == key.toList) = false := by simpa using he
        clear he hv
        generalize l[k].1 = x0 at *
        go_wp2_with fail
        go_roundw
        case rel => exact ⟨k + 1, by go_num, by omega, by first | rfl | trivial, HE.out⟩
        case measure => simp [intOf]; omega
    · obtain rfl : k = n := by omega
      have HE := Lib.hid (show valV l key = (⟨#[]⟩, false) by rw [← hv, HN.out, List.drop_length]; rfl)
      clear hv
      go_wp2_with fail
      refine bodyPost_ret (v := .tuple #[.string ⟨#[]⟩, .bool false]) (by simp [results, Try.results49, go_sem]) rfl ?_
      exact ⟨by rw [HE.out], rfl⟩
end Go.Proofs.Ytokmofkpjohlmaa
