/- The contract of mergeRuns of the model (chapter 4). Conditions: the items lie in rows; they are few. -/
import Derived.Test.YtofpdelolniklaaPutIt
import Derived.Test.YtofpdelolniklaaAppR
import Derived.Test.YtofpdelolniklaaExLv
set_option linter.unusedVariables false
set_option linter.unusedSimpArgs false
namespace Go.Proofs.Ytofpdelolniklaa
open Go.RowKit Go.ChangeShapes Go.WideShapes

/-- the items of a newer run over those of an older one -/
def mrgK (fresh old : List It) : List It := fresh.foldl (fun a p => putK keyIt p a) old
theorem mrgK_step {l o : List It} {k : Nat} (h : k < l.length) : mrgK (l.take (k + 1)) o = putK keyIt l[k] (mrgK (l.take k) o) := by
  rw [List.take_succ_eq_append_getElem h]; unfold mrgK; rw [List.foldl_append]; rfl
theorem mrgK_len (l o : List It) : ∀ k, k ≤ l.length → (mrgK (l.take k) o).length ≤ o.length + k
  | 0, _ => by simp [mrgK]
  | k + 1, h => by
    rw [mrgK_step (by omega)]
    have := mrgK_len l o k (by omega)
    have := (putK_len (key := keyIt) (l[k]'(by omega)) (mrgK (l.take k) o)).2
    omega
theorem mrgK_all {P : It → Prop} {l o : List It} (hl : ∀ p ∈ l, P p) (ho : ∀ p ∈ o, P p) : ∀ k, k ≤ l.length → ∀ p ∈ mrgK (l.take k) o, P p
  | 0, _, p, hp => ho p (by simpa [mrgK] using hp)
  | k + 1, h, p, hp => by
    rw [mrgK_step (by omega)] at hp
    rcases putK_mem hp with h1 | h1
    · rw [h1]; exact hl _ (List.getElem_mem _)
    · exact mrgK_all hl ho k (by omega) p h1
def keptI (last : Bool) (p : It) : Bool := !last || !p.2.2
def mrgS (fresh old : List It) (last : Bool) : List It := (mrgK fresh old).filter (keptI last)
theorem mrgS_len (l o : List It) (b : Bool) : (mrgS l o b).length ≤ o.length + l.length := by
  have h1 := mrgK_len l o l.length (Nat.le_refl _)
  rw [List.take_length] at h1
  exact Nat.le_trans (List.length_filter_le _ _) h1
theorem mrgS_all {P : It → Prop} {l o : List It} (hl : ∀ p ∈ l, P p) (ho : ∀ p ∈ o, P p) (b : Bool) : ∀ p ∈ mrgS l o b, P p := fun p hp => by
  have := mrgK_all hl ho l.length (Nat.le_refl _) p
  rw [List.take_length] at this
  exact this (List.mem_filter.1 hp).1
theorem filt_step {l : List It} {b : Bool} {k : Nat} (h : k < l.length) : (l.take (k + 1)).filter (keptI b) = (l.take k).filter (keptI b) ++ (if keptI b l[k] = true then [l[k]] else []) := by
  rw [List.take_succ_eq_append_getElem h, List.filter_append]
  cases hk : keptI b l[k] <;> simp [hk]
theorem its_one (l : List It) : ∀ u ∈ itsC l, u.oneCell' = true := by
  intro u hu
  obtain ⟨p, _, hp⟩ := List.mem_flatMap.1 hu
  simp [itC] at hp
  rcases hp with rfl | rfl | rfl <;> rfl
theorem own_shape {w : World} {B n z : Nat} {e : TypeId} {v : Value} {xs : List Value} (h : w.ownsRow B e z v n xs) : ∃ (A : Option Addr) (c : Nat), v = .slice A n c := by
  rcases h.2 with ⟨h1, h2⟩ | ⟨g, N, cur, h1, _⟩
  · exact ⟨none, 0, h1.trans (by rw [h2])⟩
  · exact ⟨_, _, h1⟩
theorem own_start (w : World) (e : TypeId) (z : Nat) : (w.alloc (.cells #[] e)).ownsRow w.heap.size e z (.slice (some ⟨w.heap.size, 0, none⟩) 0 0) 0 [] :=
  ⟨by simp, .inr ⟨w.heap.size, 0, #[], rfl, by omega, heap_alloc_new w _, by simp, by simp [maxLen], by simp, by simp⟩⟩
theorem own_keep {W W' : World} {B n c z k : Nat} {A : Option Addr} {e : TypeId} {xs : List Value} (h : W.ownsRow B e z (.slice A n c) k xs) (hb : Below W.heap.size W W') : W'.ownsRow B e z (.slice A n c) k xs :=
  h.kept (grown_of_below (row := none) hb) (by cases A <;> simp [Value.ownBlock])

set_option maxRecDepth 100000 in
set_option maxHeartbeats 4000000 in
theorem sMerge_any (A1 A2 : Option Addr) (n1 c1 n2 c2 : Nat) (l1 l2 : List It) (b : Bool) (w : World) (hr1 : RowAt w w.heap.size A1 (itsC l1)) (hn1 : n1 = l1.length) (hr2 : RowAt w w.heap.size A2 (itsC l2)) (hn2 : n2 = l2.length) (hA2 : A2 = none → c2 = 0) (hs1 : n1 ≤ 500000) (hs2 : n2 ≤ 500000) :
    Calls Try.prog 59 #[.slice A1 n1 c1, .slice A2 n2 c2, .bool b] w (PutItPost (mrgS l1 l2 b) w) := by
  obtain ⟨i0, hi0, hz0, hz1, hz2⟩ := info_parts itInfo
  have HI := Lib.hid (And.intro hi0 (And.intro hz0 (And.intro hz1 hz2))); clear hi0 hz0 hz1 hz2
  have HR1 := Lib.hid hr1; clear hr1
  have HR2 := Lib.hid hr2; clear hr2
  have HN1 := Lib.hid hn1; clear hn1
  have HN2 := Lib.hid hn2; clear hn2
  have HB0 := Lib.hid ((Below.refl w.heap.size w).alloc (Nat.le_refl _) (.cells #[] 31))
  have HO0 := Lib.hid (own_start w 31 3)
  go_enter Try.func59, Try.ntmps59
  go_wp2_with (at_builtin; refine wpList_append_row rfl _ _ 23 rfl w.heap.size 31 i0 (.agg #[.string ⟨#[]⟩, .string ⟨#[]⟩, .bool false]) 3 40 Try.underlying23 HI.out.1 HI.out.2.1 HI.out.2.2.1 HI.out.2.2.2 rfl (by decide) _ 0 [] rfl HO0.out A2 n2 c2 w.heap.size (itsC l2) rfl hA2 ?c0 (HR2.out.below HB0.out) (its_one l2) ?c3 ?c4 ?c5 ?_)
  case c0 => rw [itsC_len, ← HN2.out]
  case c3 => unfold maxLen; omega
  case c4 => omega
  case c5 => exact HB0.out.size
  intro v1 w1 hown1 hgrow1
  have hb1 : Below w.heap.size w w1 := HB0.out.grown hgrow1 HB0.out.size (fun q hq => (HO0.out.lt q hq).1)
  obtain ⟨A3, c3, rfl⟩ := own_shape hown1
  have HB1 := Lib.hid hb1
  have HO1 := Lib.hid hown1
  clear hb1 hown1 hgrow1 hA2
  go_wp2_with fail
  go_loopw [7, 8] (fun q i wr => ∃ (k m : Nat) (out : List It) (A' : Option Addr) (c' : Nat), q = .slice A' m c' ∧ i = .int .i64 k ∧ k ≤ n1 ∧ m = out.length ∧ mrgK (l1.take k) l2 = out ∧ wr.ownsRow w.heap.size 31 3 (.slice A' m c') m (itsC out) ∧ Below w.heap.size w wr) (fun _ i _ => n1 - (intOf i).toNat)
  case atStart => exact ⟨0, n2, l2, _, _, rfl, rfl, by omega, HN2.out, by simp [mrgK], HO1.out, HB1.out⟩
  case round =>
    obtain ⟨k, m, out, A', c', rfl, rfl, hk, hm, hout, ho, hb⟩ := hrel
    have HM := Lib.hid hm; clear hm
    have HOUT := Lib.hid hout; clear hout
    have HO := Lib.hid ho; clear ho
    have HB := Lib.hid hb; clear hb
    have hmk : m ≤ n2 + k := by have h1 := mrgK_len l1 l2 k (by rw [← HN1.out]; exact hk); rw [HOUT.out, ← HM.out, ← HN2.out] at h1; exact h1
    by_cases hlt : k < n1
    · have hkl : k < l1.length := by have := HN1.out; omega
      obtain ⟨bb, off, hA, hbw, e0, e1, e2⟩ := its_at (HR1.out.below HB.out) hkl
      subst hA
      have HX := Lib.hid (show mrgK (l1.take (k + 1)) l2 = putK keyIt (l1[k].1, l1[k].2.1, l1[k].2.2) out by rw [mrgK_step hkl, HOUT.out])
      have hi1 : (k : Int) < (n1 : Int) := by omega
      have hbs : bb < wr.heap.size := Nat.lt_of_lt_of_le hbw HB.out.size
      have HP := Lib.hid (sPutIt_any A' m c' out l1[k].1 l1[k].2.1 l1[k].2.2 wr (RowAt.of_own HO.out) HM.out (by omega))
      generalize l1[k].1 = x0 at *
      generalize l1[k].2.1 = x1 at *
      generalize l1[k].2.2 = x2 at *
      generalize putK keyIt (x0, x1, x2) out = L at *
      go_wp2_with fail
      refine (HP.out).mono ?_
      rintro e w5 ⟨v, rfl, ⟨A5, c5, rfl, ho5⟩, hb5⟩
      have HO5 := Lib.hid (own_leL ho5 HB.out.size)
      have HB5 := Lib.hid (HB.out.trans (hb5.mono HB.out.size)); clear hb5 ho5
      go_wp2_with fail
      go_roundw
      case rel => exact ⟨k + 1, L.length, L, A5, c5, rfl, by go_num, by omega, rfl, HX.out, HO5.out, HB5.out⟩
      case measure => simp [intOf]; omega
    · obtain rfl : k = n1 := by omega
      have HF := Lib.hid (show mrgK l1 l2 = out by rw [← HOUT.out, HN1.out, List.take_length])
      have HB6 := Lib.hid ((Below.refl wr.heap.size wr).alloc (Nat.le_refl _) (.cells #[] 31))
      have HO6 := Lib.hid (own_start wr 31 3)
      have HRA := Lib.hid (RowAt.of_own HO.out)
      go_wp2_with fail
      go_loopw [9, 10] (fun q i wx => ∃ (j mm : Nat) (o2 : List It) (A2' : Option Addr) (c2' : Nat), q = .slice A2' mm c2' ∧ i = .int .i64 j ∧ j ≤ m ∧ mm = o2.length ∧ (out.take j).filter (keptI b) = o2 ∧ wx.ownsRow wr.heap.size 31 3 (.slice A2' mm c2') mm (itsC o2) ∧ Below wr.heap.size wr wx) (fun _ i _ => m - (intOf i).toNat)
      case atStart => exact ⟨0, 0, [], _, _, rfl, rfl, by omega, rfl, by simp, HO6.out, HB6.out⟩
      case round =>
        rename World => wx
        obtain ⟨j, mm, o2, A2', c2', rfl, rfl, hj, hmm, ho2e, ho2, hbx⟩ := hrel
        have HM2 := Lib.hid hmm; clear hmm
        have HOUT2 := Lib.hid ho2e; clear ho2e
        have HO2 := Lib.hid ho2; clear ho2
        have HBX := Lib.hid hbx; clear hbx
        have hmj : mm ≤ j := by
          have h1 := List.length_filter_le (keptI b) (out.take j)
          rw [HOUT2.out, List.length_take] at h1
          have := HM2.out
          omega
        by_cases hjm : j < m
        · have hjl : j < out.length := by have := HM.out; omega
          obtain ⟨bb, off, hA, hbw, e0, e1, e2⟩ := its_at (HRA.out.below HBX.out) hjl
          subst hA
          have hi1 : (j : Int) < (m : Int) := by omega
          have hbs : bb < wx.heap.size := Nat.lt_of_lt_of_le hbw HBX.out.size
          have HX := Lib.hid (show (out.take (j + 1)).filter (keptI b) = o2 ++ (if (!b || !out[j].2.2) = true then [(out[j].1, out[j].2.1, out[j].2.2)] else []) by rw [filt_step hjl, HOUT2.out]; rfl)
          have HO7 := Lib.hid (fun o => own_keep HO2.out ((Below.refl wx.heap.size wx).alloc (Nat.le_refl _) o))
          generalize out[j].1 = x0 at *
          generalize out[j].2.1 = x1 at *
          generalize out[j].2.2 = x2 at *
          by_cases hkp : (!b || !x2) = true
          · rw [if_pos hkp] at HX
            have hkp2 : b = false ∨ (b = true ∧ x2 = false) := by cases b <;> cases x2 <;> simp_all
            clear hkp
            rcases hkp2 with rfl | ⟨rfl, rfl⟩
            · go_wp2_with (at_builtin; refine wpList_append_own _ rfl _ _ 23 rfl wr.heap.size 31 i0 (.agg #[.string ⟨#[]⟩, .string ⟨#[]⟩, .bool false]) 3 40 Try.underlying23 HI.out.1 HI.out.2.1 HI.out.2.2.1 HI.out.2.2.2 rfl (by decide) (.slice A2' mm c2') mm (itsC o2) rfl (HO7.out _) ⟨wx.heap.size, 0, none⟩ 1 1 [.string x0, .string x1, .bool x2] rfl rfl ?c1 ?c2 ?c3 ?c4 ?c5 ?_)
              case c1 => exact fun j u hj => cells_new _ _ _ j u hj
              case c2 => intro u hu; simp at hu; rcases hu with rfl | rfl | rfl <;> rfl
              case c3 => unfold maxLen; omega
              case c4 => omega
              case c5 => have := HBX.out.size; simp; omega
              intro v8 w8 hown8 hgrow8 _
              have hb8 : Below wr.heap.size wr w8 := ((HBX.out.alloc HBX.out.size _).grown hgrow8 (by have := HBX.out.size; simp; omega) (fun q hq => (HO2.out.lt q hq).1))
              obtain ⟨A8, c8, rfl⟩ := own_shape hown8
              rw [show itsC o2 ++ [.string x0, .string x1, .bool x2] = itsC (o2 ++ [(x0, x1, x2)]) from (itsC_snoc o2 (x0, x1, x2)).symm] at hown8
              have HO8 := Lib.hid hown8
              have HB8 := Lib.hid hb8
              have HL8 := Lib.hid (show mm + 1 = (o2 ++ [(x0, x1, x2)]).length by rw [List.length_append, ← HM2.out]; rfl)
              clear hown8 hgrow8 hb8
              go_wp2_with fail
              go_roundw
              all_goals first
                | exact ⟨j + 1, mm + 1, _, A8, c8, rfl, by go_num, by omega, HL8.out, HX.out, HO8.out, HB8.out⟩
                | (simp [intOf]; omega)
            · go_wp2_with (at_builtin; refine wpList_append_own _ rfl _ _ 23 rfl wr.heap.size 31 i0 (.agg #[.string ⟨#[]⟩, .string ⟨#[]⟩, .bool false]) 3 40 Try.underlying23 HI.out.1 HI.out.2.1 HI.out.2.2.1 HI.out.2.2.2 rfl (by decide) (.slice A2' mm c2') mm (itsC o2) rfl (HO7.out _) ⟨wx.heap.size, 0, none⟩ 1 1 [.string x0, .string x1, .bool false] rfl rfl ?c1 ?c2 ?c3 ?c4 ?c5 ?_)
              case c1 => exact fun j u hj => cells_new _ _ _ j u hj
              case c2 => intro u hu; simp at hu; rcases hu with rfl | rfl | rfl <;> rfl
              case c3 => unfold maxLen; omega
              case c4 => omega
              case c5 => have := HBX.out.size; simp; omega
              intro v8 w8 hown8 hgrow8 _
              have hb8 : Below wr.heap.size wr w8 := ((HBX.out.alloc HBX.out.size _).grown hgrow8 (by have := HBX.out.size; simp; omega) (fun q hq => (HO2.out.lt q hq).1))
              obtain ⟨A8, c8, rfl⟩ := own_shape hown8
              rw [show itsC o2 ++ [.string x0, .string x1, .bool false] = itsC (o2 ++ [(x0, x1, false)]) from (itsC_snoc o2 (x0, x1, false)).symm] at hown8
              have HO8 := Lib.hid hown8
              have HB8 := Lib.hid hb8
              have HL8 := Lib.hid (show mm + 1 = (o2 ++ [(x0, x1, false)]).length by rw [List.length_append, ← HM2.out]; rfl)
              clear hown8 hgrow8 hb8
              go_wp2_with fail
              go_roundw
              all_goals first
                | exact ⟨j + 1, mm + 1, _, A8, c8, rfl, by go_num, by omega, HL8.out, HX.out, HO8.out, HB8.out⟩
                | (simp [intOf]; omega)
          · rw [if_neg hkp, List.append_nil] at HX
            have hkp2 : b = true ∧ x2 = true := by cases b <;> cases x2 <;> simp_all
            obtain ⟨rfl, rfl⟩ := hkp2
            clear hkp
            go_wp2_with fail
            go_roundw
            case rel => exact ⟨j + 1, mm, o2, A2', c2', rfl, by go_num, by omega, HM2.out, HX.out, HO2.out, HBX.out⟩
            case measure => simp [intOf]; omega
        · obtain rfl : j = m := by omega
          have HF2 := Lib.hid (show mrgS l1 l2 b = o2 by unfold mrgS; rw [HF.out, ← HOUT2.out, HM.out, List.take_length])
          go_wp2_with fail
          go_ret
          rw [HF2.out]
          refine ⟨.slice A2' mm c2', rfl, ⟨A2', c2', congrArg (fun z => Value.slice A2' z c2') HM2.out, ?_⟩, HB.out.trans (HBX.out.mono HB.out.size)⟩
          have := own_leL HO2.out HB.out.size
          rw [HM2.out] at this
          exact this
end Go.Proofs.Ytofpdelolniklaa
