/- Contracts of freeSlot of both, and what PutCell reckons (chapter 1). Conditions: the slots lie in a row. -/
import Derived.Test.YtelhgpmklhdhcaaDrpS
set_option linter.unusedVariables false
set_option linter.unusedSimpArgs false
namespace Go.Proofs.Ytelhgpmklhdhcaa
open Go.RowKit Go.ChangeShapes Go.WideShapes

set_option maxRecDepth 100000 in
set_option maxHeartbeats 1000000 in
theorem iFree_any (A : Option Addr) (n c : Nat) (l : List Sl) (w : World) (hr : RowAt w w.heap.size A (slC l)) (hn : n = l.length) (hs : n ≤ 1048576) (hg : ∀ p ∈ l, freeB p.1 p.2 = !decide (0 ≤ p.1)) :
    Calls Try.prog 66 #[.slice A n c] w fun e w' => e = .returned (.int .i64 (freeIx l)) ∧ Below w.heap.size w w' := by
  have HR := Lib.hid hr; clear hr
  have HN := Lib.hid hn; clear hn
  have HG := Lib.hid hg; clear hg
  go_enter Try.func66, Try.ntmps66
  go_wp2_with fail
  go_loopw [7] (fun i wr => ∃ k : Nat, i = .int .i64 k ∧ k ≤ n ∧ (∀ j (hj : j < l.length), j < k → 0 ≤ l[j].1) ∧ Below w.heap.size w wr) (fun i _ => n - (intOf i).toNat)
  case atStart => exact ⟨0, rfl, Nat.zero_le _, fun j hj hk => by omega, Below.refl _ _⟩
  case round =>
    obtain ⟨k, rfl, hk, hf, hb⟩ := hrel
    have HF := Lib.hid hf; clear hf
    have HB := Lib.hid hb; clear hb
    by_cases hlt : k < n
    · have hkl : k < l.length := by have := HN.out; omega
      obtain ⟨b, off, rfl, hbw, e0, e1⟩ := slots_at (HR.out.below HB.out) hkl
      have HC := Lib.hid (fun w => isFree_any l[k].1 l[k].2 w)
      rw [HG.out l[k] (List.getElem_mem hkl)] at HC
      by_cases hx : 0 ≤ l[k].1
      · have HF2 := Lib.hid (show ∀ j (hj : j < l.length), j < k + 1 → 0 ≤ l[j].1 from fun j hj hkj => by
          rcases Nat.lt_or_ge j k with h | h
          · exact HF.out j hj h
          · obtain rfl : j = k := by omega
            exact hx)
        rw [show (!decide (0 ≤ l[k].1)) = false by simp [hx]] at HC
        generalize l[k].1 = x1 at *
        generalize l[k].2 = x2 at *
        go_wp2_with fail
        refine (HC.out _).mono ?_
        rintro e w3 ⟨rfl, hb3⟩
        have HB3 := Lib.hid (HB.out.trans ((((Below.refl wr.heap.size wr).alloc (Nat.le_refl _) _).trans (hb3.mono (by simp))).mono HB.out.size)); clear hb3
        go_wp2_with fail
        go_roundw
        case rel => exact ⟨k + 1, by go_num, by omega, HF2.out, HB3.out⟩
        case measure => simp [intOf]; omega
      · have HE := Lib.hid (freeIx_at hkl HF.out hx)
        rw [show (!decide (0 ≤ l[k].1)) = true by simp [hx]] at HC
        generalize l[k].1 = x1 at *
        generalize l[k].2 = x2 at *
        clear hx
        go_wp2_with fail
        refine (HC.out _).mono ?_
        rintro e w3 ⟨rfl, hb3⟩
        have HB3 := Lib.hid (HB.out.trans ((((Below.refl wr.heap.size wr).alloc (Nat.le_refl _) _).trans (hb3.mono (by simp))).mono HB.out.size)); clear hb3
        go_wp2_with fail
        go_ret
        exact ⟨by rw [HE.out]; rfl, HB3.out⟩
    · obtain rfl : k = n := by omega
      have HE := Lib.hid (freeIx_all (sl := l) (fun j hj => HF.out j hj (by have := HN.out; omega)))
      go_wp2_with fail
      go_ret
      exact ⟨by rw [HE.out, ← HN.out]; rfl, HB.out⟩

set_option maxRecDepth 100000 in
set_option maxHeartbeats 1000000 in
theorem sFree_any (s : ByteArray) (A : Option Addr) (n c : Nat) (l : List Sl) (w : World) (h : PageAt w s A n l) :
    Calls Try.prog 126 #[.agg #[.string s, .slice A n c]] w fun e w' => e = .returned (.int .i64 (freeIx l)) ∧ Below w.heap.size w w' := by
  obtain ⟨hn, hr, _, _, hs⟩ := h
  have HR := Lib.hid hr; clear hr
  have HN := Lib.hid hn; clear hn
  have HB0 := Lib.hid ((Below.refl w.heap.size w).alloc (Nat.le_refl _) (.cells #[.string s, .slice A n c] 25))
  have hc1 : (w.alloc (.cells #[.string s, .slice A n c] 25)).cell? ⟨w.heap.size, 1, none⟩ = some (.slice A n c) := by simp
  have HC1 := Lib.hid hc1; clear hc1
  obtain ⟨W, hW⟩ : ∃ W, w.alloc (.cells #[.string s, .slice A n c] 25) = W := ⟨_, rfl⟩
  rw [hW] at HB0 HC1
  go_enter Try.func126, Try.ntmps126
  have hc1 := HC1.out
  go_wp2_with fail
  clear hW hc1
  go_loop [3] (fun i => ∃ k : Nat, i = .int .i64 k ∧ k ≤ n ∧ (∀ j (hj : j < l.length), j < k → 0 ≤ l[j].1)) (fun i => n - (intOf i).toNat)
  case atStart => exact ⟨0, rfl, Nat.zero_le _, fun j hj hk => by omega⟩
  case round =>
    obtain ⟨k, rfl, hk, hf⟩ := hrel
    have HF := Lib.hid hf; clear hf
    have hc1 := HC1.out
    by_cases hlt : k < n
    · have hkl : k < l.length := by have := HN.out; omega
      obtain ⟨b, off, rfl, hbw, e0, e1⟩ := slots_at (HR.out.below HB0.out) hkl
      by_cases hx : 0 ≤ l[k].1
      · have HF2 := Lib.hid (show ∀ j (hj : j < l.length), j < k + 1 → 0 ≤ l[j].1 from fun j hj hkj => by
          rcases Nat.lt_or_ge j k with h | h
          · exact HF.out j hj h
          · obtain rfl : j = k := by omega
            exact hx)
        generalize l[k].1 = x1 at *
        generalize l[k].2 = x2 at *
        go_wp2_with fail
        go_round
        case rel => exact ⟨k + 1, by go_num, by omega, HF2.out⟩
        case measure => simp [intOf]; omega
      · have HE := Lib.hid (freeIx_at hkl HF.out hx)
        generalize l[k].1 = x1 at *
        generalize l[k].2 = x2 at *
        go_wp2_with fail
        go_ret
        exact ⟨by rw [HE.out]; rfl, HB0.out⟩
    · obtain rfl : k = n := by omega
      have HE := Lib.hid (freeIx_all (sl := l) (fun j hj => HF.out j hj (by have := HN.out; omega)))
      go_wp2_with fail
      go_ret
      exact ⟨by rw [HE.out, ← HN.out]; rfl, HB0.out⟩

/-! what PutCell answers -/
def putOne (s : ByteArray) (sl : List Sl) (c : ByteArray) : ByteArray × List Sl := (putB s (putAt sl c).toNat c, putL (putAt sl c, (c.size : Int)) sl)
def putR (s : ByteArray) (sl : List Sl) (c : ByteArray) : ((ByteArray × List Sl) × Int) × Bool :=
  if (iValid s sl && cellB c) = true then
    if fitsP sl c = true then ((putOne s sl c, (freeIx sl : Int)), true)
    else if fitsP (tightL 48 sl) c = true then ((putOne (tightB s sl) (tightL 48 sl) c, (freeIx sl : Int)), true)
    else (((⟨#[]⟩, []), -1), false)
  else (((⟨#[]⟩, []), -1), false)
/-- a page, a slot and whether it is there -/
def Pg3Post (r : ((ByteArray × List Sl) × Int) × Bool) (w : World) (e : Ending) (w' : World) : Prop := ∃ v, e = .returned (.tuple #[v, .int .i64 r.1.2, .bool r.2]) ∧ OwnPage w.heap.size r.1.1.1 r.1.1.2 v w' ∧ Below w.heap.size w w'
theorem noPut_post {r : ((ByteArray × List Sl) × Int) × Bool} {w : World} (h : r = (((⟨#[]⟩, []), -1), false)) (W : World) (hb : Below w.heap.size w W) : Pg3Post r w (.returned (.tuple #[.agg #[.string ⟨#[]⟩, .slice none 0 0], .int .i64 (-1), .bool false])) W := by
  rw [h]; exact ⟨_, rfl, noPage_own _ _, hb⟩
theorem putL_fresh (q : Sl) (sl : List Sl) : (sl ++ List.replicate (putN sl - sl.length) (-1, 0)).set (freeIx sl) q = putL q sl := by
  rw [putN_eq]
  split
  · rw [Nat.sub_self, List.replicate_zero, List.append_nil, putL_set q sl (by assumption)]
  · have h := freeIx_le sl
    have e : freeIx sl = sl.length := by omega
    rw [putL_app q sl e, e, show sl.length + 1 - sl.length = 1 by omega, List.set_append_right _ _ (Nat.le_refl _), Nat.sub_self]
    rfl
theorem put_bytes {s c : ByteArray} {a : Nat} (h48 : s.size = 48) (h : a + c.size ≤ 48) : s.extract 0 a ++ c ++ s.extract (a + c.size) 48 = putB s a c := by
  have h1 : s.data.toList.length = 48 := by simpa using h48
  have e1 : s.extract 0 a = ofL (s.data.toList.take a) := by have := cutS_seg s 0 a; unfold cutS segL at this; simpa using this
  have e2 : s.extract (a + c.size) 48 = ofL (s.data.toList.drop (a + c.size)) := by
    have := cutS_seg s (a + c.size) (48 - (a + c.size))
    unfold cutS segL at this
    rw [show a + c.size + (48 - (a + c.size)) = 48 by omega] at this
    rw [this, List.take_of_length_le (by simp; omega)]
  unfold putB
  rw [e1, e2, ← ofL_app, ← ofL_app, ofL_of]
theorem PgBox.set {b : Nat} {s : ByteArray} {A : Option Addr} {n c : Nat} {W : World} (h : PgBox b s A n c W) (s' : ByteArray) (A' : Option Addr) (n' c' : Nat) : PgBox b s' A' n' c' ((W.setCell ⟨b, 0, none⟩ (.string s')).setCell ⟨b, 1, none⟩ (.slice A' n' c')) := by
  obtain ⟨f0, f1, r0, r1, z0, z1, hl⟩ := h
  have hb : Below (b + 1) W W := Below.refl _ _
  refine ⟨?_, ?_, ?_, ?_, ?_, ?_, by simpa using hl⟩
  · go_simp
  · go_simp
  · go_simp
  · go_simp
  · simpa [go_sem] using z0
  · simpa [go_sem] using z1
end Go.Proofs.Ytelhgpmklhdhcaa
