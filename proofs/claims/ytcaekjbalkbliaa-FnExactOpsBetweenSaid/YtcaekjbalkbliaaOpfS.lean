/- Contract of opsFor of the model (chapter 5). Conditions: the pairs lie in rows; they are few. -/
import Derived.Test.YtcaekjbalkbliaaOpfM
import Derived.Test.YtcaekjbalkbliaaExOp
import Derived.Test.YtcaekjbalkbliaaPutPr
import Derived.Test.YtcaekjbalkbliaaOut
import Derived.BigRegion
import Derived.Deep.RegionWith
set_option linter.unusedVariables false
set_option linter.unusedSimpArgs false
namespace Go.Proofs.Ytcaekjbalkbliaa
open Go.RowKit Go.ChangeShapes Go.WideShapes

theorem step_append_ownF {P : Program} {w : World} {ops : Array Oper} {o : Oper} {a : Act} {K : Act → World → Prop} {Q : Exit → Act → World → Prop} {E : Prop} (hgd : o.guard = none) (s x : Operand) (t : TypeId)
    (ho : o.op = .call { callee := .builtin .append, args := #[s, x], argTypes := #[t, t] })
    (base : Nat) (e : TypeId) (i : TypeInfo) (z : Value) (size bytes : Nat) (ht : P.underlying t = some (.slice e)) (hi : P.info? e = some i) (hz : i.zero = some z)
    (hsize : i.size = size) (hby : i.bytes = bytes) (hzs : z.cells.size = size) (hsz : 0 < size)
    (v : Value) (n : Nat) (xs : List Value) (hs : a.eval s = v) (hown : w.ownsRow base e size v n xs)
    (ad : Addr) (m c : Nat) (news : List Value) (hx : a.eval x = .slice (some ad) m c) (hl : news.length = m * size) (hnews : ∀ j u, news[j]? = some u → w.cell? (ad.add j) = some u) (h1 : ∀ u ∈ news, u.oneCell' = true)
    (h63 : n + m ≤ maxLen) (hbytes : (n + m) * bytes ≤ 140737488355328) (hbase : base ≤ w.heap.size)
    (h : ∀ v' w', w'.ownsRow base e size v' (n + m) (xs ++ news) → w.grownBy w' v.ownBlock → (v' = .slice none 0 0 ↔ v = .slice none 0 0 ∧ m = 0) → K (a.put o.dst v') w') :
    if Region.wanted o (yielded ops a.tmps) = true then Oper.wp P o a w K Q else E := by
  have hw : Region.wanted o (yielded ops a.tmps) = true := by simp [Region.wanted, hgd]
  rw [if_pos hw]
  exact wp_append_own w s x t ho base e i z size bytes ht hi hz hsize hby hzs hsz v n xs hs hown ad m c news hx hl hnews h1 h63 hbytes hbase h
theorem at_world {p : World → Prop} (W0 W : World) (B : Nat) (hb : Below B W0 W) (h : ∀ W', Below B W0 W' → p W') : p W := h W hb
def OpsFPost (L : List Cg) (w : World) (e : Ending) (w' : World) : Prop := ∃ A c, e = .returned (.slice A L.length c) ∧ OutR 62 3 w (cgsC L) L.length A c w'
set_option maxRecDepth 100000 in
set_option maxHeartbeats 16000000 in
theorem sOpf_any (A1 : Option Addr) (n1 c1 : Nat) (l1 : List Pr) (A2 : Option Addr) (n2 c2 : Nat) (l2 : List Pr) (w : World) (hr1 : RowAt w w.heap.size A1 (prsC l1)) (hn1 : n1 = l1.length) (hs1 : n1 ≤ 1048576) (hr2 : RowAt w w.heap.size A2 (prsC l2)) (hn2 : n2 = l2.length) (hs2 : n2 ≤ 1048576) :
    Calls Try.prog 31 #[.slice A1 n1 c1, .slice A2 n2 c2] w (OpsFPost (opsF l1 l2) w) := by
  obtain ⟨i0, hi0, hz0, hz1, hz2⟩ := info_parts cgInfo
  have HI := Lib.hid (And.intro hi0 (And.intro hz0 (And.intro hz1 hz2))); clear hi0 hz0 hz1 hz2
  have HR1 := Lib.hid hr1; clear hr1
  have HN1 := Lib.hid hn1; clear hn1
  have HR2 := Lib.hid hr2; clear hr2
  have HN2 := Lib.hid hn2; clear hn2
  have HO0 := Lib.hid (OutR.empty 62 3 w)
  go_enter Try.func31, Try.ntmps31
  go_wp2_with fail
  go_loopw [5, 6, 7] (fun q a b wr => ∃ (i k m : Nat) (out : List Cg) (A' : Option Addr) (c' : Nat), q = .slice A' m c' ∧ a = .int .i64 i ∧ b = .int .i64 k ∧ i ≤ n1 ∧ k ≤ n2 ∧ m = out.length ∧ m ≤ i + k ∧ out ++ opsF (l1.drop i) (l2.drop k) = opsF l1 l2 ∧ OutR 62 3 w (cgsC out) m A' c' wr) (fun _ a b _ => (n1 - (intOf a).toNat) + (n2 - (intOf b).toNat))
  case atStart => exact ⟨0, 0, 0, [], _, _, rfl, rfl, rfl, by omega, by omega, rfl, by omega, rfl, HO0.out⟩
  case round =>
    obtain ⟨i, k, m, out, A', c', rfl, rfl, rfl, hi, hk, hm, hmk, hinv, ho⟩ := hrel
    have HM := Lib.hid hm; clear hm
    have HINV := Lib.hid hinv; clear hinv
    have HO := Lib.hid ho; clear ho HO0
    have HOK := Lib.hid (fun W (hb : Below wr.heap.size wr W) => HO.out.keep hb)
    have hm21 : m ≤ 2097152 := by omega
    by_cases hil : i < n1
    · have hil1 : i < l1.length := by have := HN1.out; omega
      obtain ⟨b1, off1, hA1, hbw1, _⟩ := prs_at (HR1.out.below HO.out.2) hil1
      subst hA1
      obtain ⟨e0, e1⟩ := prs_in (HR1.out.below HO.out.2) hil1
      have hbs1 : b1 < wr.heap.size := Nat.lt_of_lt_of_le hbw1 HO.out.2.size
      have hi1 : (i : Int) < (n1 : Int) := by omega
      have hi1b : ((i : Int) == (n1 : Int)) = false := by simp; omega
      by_cases hkl : k < n2
      · have hkl2 : k < l2.length := by have := HN2.out; omega
        obtain ⟨b2, off2, hA2, hbw2, _⟩ := prs_at (HR2.out.below HO.out.2) hkl2
        subst hA2
        obtain ⟨d0, d1⟩ := prs_in (HR2.out.below HO.out.2) hkl2
        have hbs2 : b2 < wr.heap.size := Nat.lt_of_lt_of_le hbw2 HO.out.2.size
        have HE2 := Lib.hid (fun W (hb : Below w.heap.size w W) => prs_in (HR2.out.below hb) hkl2)
        have hk1 : (k : Int) < (n2 : Int) := by omega
        have hk1b : ((k : Int) == (n2 : Int)) = false := by simp; omega
        cases h1 : ltS l1[i].1 l2[k].1
        · cases h2 : ltS l2[k].1 l1[i].1
          · have HST := Lib.hid (opsF_stepS hil1 hkl2 h1 h2)
            have q1 : Op.bytesLess l1[i].1.toList l2[k].1.toList = false := h1
            have q2 : Op.bytesLess l2[k].1.toList l1[i].1.toList = false := h2
            clear h1 h2
            generalize l1[i].1 = x0 at *
            generalize l1[i].2 = x1 at *
            generalize l2[k].1 = y0 at *
            generalize l2[k].2 = y1 at *
            by_cases he : y1 = x1
            · subst he
              rw [if_pos rfl] at HST
              go_wp2_with fail
              go_quiet (fail)
              go_wp2_with fail
              go_quiet (fail)
              go_wp2_with fail
              go_quiet (fail)
              go_wp2_with fail
              go_roundw
              case rel => exact ⟨i + 1, k + 1, m, out, A', c', rfl, by go_num, by go_num, by omega, by omega, HM.out, by omega, by rw [← HINV.out, HST.out], HOK.out _ (by repeat (first | with_reducible exact Below.refl _ _ | with_reducible refine Below.drew ?_ | with_reducible refine Below.trans ?_ (below_drewN _ _) | (refine Below.alloc ?_ (by simp) _)))⟩
              case measure => simp [intOf]; omega
            · rw [if_neg he] at HST
              have q3 : (x1.toList == y1.toList) = false := by
                rw [beq_eq_false_iff_ne]
                exact fun e => he (toList_inj e).symm
              clear he
              go_wp2_with fail
              go_quiet (fail)
              go_wp2_with fail
              go_quiet (fail)
              go_wp2_with fail
              go_quiet (fail)
              go_wp2_with fail
              refine wp_region_any (by kernel_rfl) ?_
              try (change wpAny _ _ _ _ _ _ _ (World.drew _))
              refine at_world (p := fun W => wpAny _ _ _ _ _ _ _ W) wr _ wr.heap.size (by repeat (first | with_reducible exact Below.refl _ _ | with_reducible refine Below.drew ?_ | with_reducible refine Below.trans ?_ (below_drewN _ _) | (refine Below.alloc ?_ (by simp) _))) ?_
              intro W0 hbW
              have HO1 := Lib.hid (HOK.out W0 hbW)
              obtain ⟨d0, d1⟩ := HE2.out W0 (HO.out.2.trans (hbW.mono HO.out.2.size))
              have HSZ1 := Lib.hid HO1.out.2.size
              have HOL := Lib.hid (fun o => HO1.out.keep ((Below.refl W0.heap.size W0).alloc (Nat.le_refl _) o))
              have hbase : w.heap.size ≤ (W0.alloc (.cells #[.string y0, .string y1, .bool false] 62)).heap.size := by have := HSZ1.out; simp; omega
              have HCA := Lib.hid (cells_at0 W0 [.string y0, .string y1, .bool false] 62)
              refine wpAny_take (i := 0) (v := ?_) rfl (by kernel_rfl) (by kernel_rfl) (by kernel_rfl) (fun _ _ _ h => h) (Or.inl ⟨by kernel_rfl, ?_⟩) ?_
              rotate_left
              · (intro w; go_simp; first | done | with_reducible rfl)
              conv => arg 7; simp [Act.put]
              refine wpAny_take (i := 1) (v := ?_) rfl (by kernel_rfl) (by kernel_rfl) (by kernel_rfl) (fun _ _ _ h => h) (Or.inl ⟨by kernel_rfl, ?_⟩) ?_
              rotate_left
              · (intro w; go_simp; first | done | with_reducible rfl)
              conv => arg 7; simp [Act.put]
              refine wpAny_take (i := 2) (v := ?_) rfl (by kernel_rfl) (by kernel_rfl) (by kernel_rfl) (fun _ _ _ h => h) (Or.inl ⟨by kernel_rfl, ?_⟩) ?_
              rotate_left
              · (intro w; go_simp; first | done | with_reducible rfl)
              conv => arg 7; simp [Act.put]
              refine wpAny_take (i := 3) (v := ?_) rfl (by kernel_rfl) (by kernel_rfl) (by kernel_rfl) (fun _ _ _ h => h) (Or.inl ⟨by kernel_rfl, ?_⟩) ?_
              rotate_left
              · (intro w; go_simp; first | done | with_reducible rfl)
              conv => arg 7; simp [Act.put]
              refine wpAny_take (i := 4) (v := ?_) rfl (by kernel_rfl) (by kernel_rfl) (by kernel_rfl) (fun _ _ _ h => h) (Or.inl ⟨by kernel_rfl, ?_⟩) ?_
              rotate_left
              · (intro w; go_simp; first | done | with_reducible rfl)
              conv => arg 7; simp [Act.put]
              refine wpAny_take (i := 6) (v := ?_) rfl (by kernel_rfl) (by kernel_rfl) (by kernel_rfl) (fun _ _ _ h => h) (Or.inl ⟨by kernel_rfl, ?_⟩) ?_
              rotate_left
              · (intro w; go_simp; first | done | with_reducible rfl)
              conv => arg 7; simp [Act.put]
              refine wpAny_take (i := 7) (v := ?_) rfl (by kernel_rfl) (by kernel_rfl) (by kernel_rfl) (fun _ _ _ h => h) (Or.inl ⟨by kernel_rfl, ?_⟩) ?_
              rotate_left
              · (intro w; go_simp; first | done | with_reducible rfl)
              conv => arg 7; simp [Act.put]
              refine wpAny_take (i := 8) (v := ?_) rfl (by kernel_rfl) (by kernel_rfl) (by kernel_rfl) (fun _ _ _ h => h) (Or.inl ⟨by kernel_rfl, ?_⟩) ?_
              rotate_left
              · (intro w; go_simp; first | done | with_reducible rfl)
              conv => arg 7; simp [Act.put]
              refine wpAny_take (i := 9) (v := ?_) rfl (by kernel_rfl) (by kernel_rfl) (by kernel_rfl) (fun _ _ _ h => h) (Or.inl ⟨by kernel_rfl, ?_⟩) ?_
              rotate_left
              · (intro w; go_simp; first | done | with_reducible rfl)
              conv => arg 7; simp [Act.put]
              refine wpAny_ready (rs := [5, 10]) (by kernel_rfl) (by simp) ?_
              refine AllReady.cons rfl (fun K hK => ?_) (AllReady.cons rfl (fun K hK => ?_) AllReady.nil)
              · go_simp
                refine hK _ _ ?_; clear hK K
                refine wpAny_ready (rs := [10]) (by kernel_rfl) (by simp) ?_
                refine AllReady.cons rfl (fun K hK => ?_) AllReady.nil
                go_simp
                refine hK _ _ ?_; clear hK K
                refine wpAny_take (i := 11) (v := ?_) rfl (by kernel_rfl) (by kernel_rfl) (by kernel_rfl) (fun _ _ _ h => h) (Or.inl ⟨by kernel_rfl, ?_⟩) ?_
                rotate_left
                · (intro w; go_simp; first | done | with_reducible rfl)
                conv => arg 7; simp [Act.put]
                refine wpAny_ready (rs := [12]) (by kernel_rfl) (by simp) ?_
                refine AllReady.cons rfl (fun K hK => ?_) AllReady.nil
                go_simp
                refine hK _ _ ?_; clear hK K
                refine wpAny_ready (rs := [13]) (by kernel_rfl) (by simp) ?_
                refine AllReady.cons rfl (fun K hK => ?_) (AllReady.nil)
                refine step_append_ownF (by rfl) _ _ 24 (by rfl) w.heap.size 62 i0 (.agg #[.string ⟨#[]⟩, .string ⟨#[]⟩, .bool false]) 3 40 Try.underlying24 HI.out.1 HI.out.2.1 HI.out.2.2.1 HI.out.2.2.2 rfl (by decide) (.slice A' m c') m (cgsC out) (by rfl) (HOL.out _).1 ⟨W0.heap.size, 0, none⟩ 1 1 [.string y0, .string y1, .bool false] (by rfl) (by rfl) (fun j u hj => HCA.out j u hj) (by intro u hu; simp at hu; rcases hu with rfl | rfl | rfl <;> rfl) (by unfold maxLen; omega) (by omega) hbase ?_
                intro v' w4 hown' hgrow _
                obtain ⟨A4, c4, rfl, ho4⟩ := (HOL.out _).app hown' hgrow
                have HO4 := Lib.hid ho4; clear ho4 hown' hgrow
                refine hK _ _ ?_; clear hK K
                conv => arg 7; simp [Act.put]
                refine wpAny_take (i := 14) (v := ?_) rfl (by kernel_rfl) (by kernel_rfl) (by kernel_rfl) (fun _ _ _ h => h) (Or.inl ⟨by kernel_rfl, ?_⟩) ?_
                rotate_left
                · (intro w; go_simp; first | done | with_reducible rfl)
                conv => arg 7; simp [Act.put]
                refine wpAny_done (by kernel_rfl) ?_ _
                go_wp2_with fail
                go_roundw
                case rel => exact ⟨i + 1, k + 1, m + 1, out ++ [(y0, y1, false)], A4, c4, rfl, by go_num, by go_num, by omega, by omega, by rw [List.length_append, ← HM.out]; rfl, by omega, by rw [← HINV.out, HST.out, List.append_assoc]; rfl, by rw [cgsC_snoc]; exact HO4.out⟩
                case measure => simp [intOf]; omega
              · go_simp
                refine hK _ _ ?_; clear hK K
                refine wpAny_ready (rs := [5]) (by kernel_rfl) (by simp) ?_
                refine AllReady.cons rfl (fun K hK => ?_) AllReady.nil
                go_simp
                refine hK _ _ ?_; clear hK K
                refine wpAny_take (i := 11) (v := ?_) rfl (by kernel_rfl) (by kernel_rfl) (by kernel_rfl) (fun _ _ _ h => h) (Or.inl ⟨by kernel_rfl, ?_⟩) ?_
                rotate_left
                · (intro w; go_simp; first | done | with_reducible rfl)
                conv => arg 7; simp [Act.put]
                refine wpAny_ready (rs := [12]) (by kernel_rfl) (by simp) ?_
                refine AllReady.cons rfl (fun K hK => ?_) AllReady.nil
                go_simp
                refine hK _ _ ?_; clear hK K
                refine wpAny_ready (rs := [13]) (by kernel_rfl) (by simp) ?_
                refine AllReady.cons rfl (fun K hK => ?_) (AllReady.nil)
                refine step_append_ownF (by rfl) _ _ 24 (by rfl) w.heap.size 62 i0 (.agg #[.string ⟨#[]⟩, .string ⟨#[]⟩, .bool false]) 3 40 Try.underlying24 HI.out.1 HI.out.2.1 HI.out.2.2.1 HI.out.2.2.2 rfl (by decide) (.slice A' m c') m (cgsC out) (by rfl) (HOL.out _).1 ⟨W0.heap.size, 0, none⟩ 1 1 [.string y0, .string y1, .bool false] (by rfl) (by rfl) (fun j u hj => HCA.out j u hj) (by intro u hu; simp at hu; rcases hu with rfl | rfl | rfl <;> rfl) (by unfold maxLen; omega) (by omega) hbase ?_
                intro v' w4 hown' hgrow _
                obtain ⟨A4, c4, rfl, ho4⟩ := (HOL.out _).app hown' hgrow
                have HO4 := Lib.hid ho4; clear ho4 hown' hgrow
                refine hK _ _ ?_; clear hK K
                conv => arg 7; simp [Act.put]
                refine wpAny_take (i := 14) (v := ?_) rfl (by kernel_rfl) (by kernel_rfl) (by kernel_rfl) (fun _ _ _ h => h) (Or.inl ⟨by kernel_rfl, ?_⟩) ?_
                rotate_left
                · (intro w; go_simp; first | done | with_reducible rfl)
                conv => arg 7; simp [Act.put]
                refine wpAny_done (by kernel_rfl) ?_ _
                go_wp2_with fail
                go_roundw
                case rel => exact ⟨i + 1, k + 1, m + 1, out ++ [(y0, y1, false)], A4, c4, rfl, by go_num, by go_num, by omega, by omega, by rw [List.length_append, ← HM.out]; rfl, by omega, by rw [← HINV.out, HST.out, List.append_assoc]; rfl, by rw [cgsC_snoc]; exact HO4.out⟩
                case measure => simp [intOf]; omega
          · have HST := Lib.hid (opsF_stepN hkl2 (.inr ⟨hil1, h1, h2⟩))
            have q1 : Op.bytesLess l1[i].1.toList l2[k].1.toList = false := h1
            have q2 : Op.bytesLess l2[k].1.toList l1[i].1.toList = true := h2
            clear h1 h2
            generalize l1[i].1 = x0 at *
            generalize l1[i].2 = x1 at *
            generalize l2[k].1 = y0 at *
            generalize l2[k].2 = y1 at *
            go_wp2_with fail
            go_quiet (fail)
            go_wp2_with fail
            go_quiet (fail)
            go_wp2_with fail
            refine wp_region_any (by kernel_rfl) ?_
            try (change wpAny _ _ _ _ _ _ _ (World.drew _))
            refine at_world (p := fun W => wpAny _ _ _ _ _ _ _ W) wr _ wr.heap.size (by repeat (first | with_reducible exact Below.refl _ _ | with_reducible refine Below.drew ?_ | with_reducible refine Below.trans ?_ (below_drewN _ _) | (refine Below.alloc ?_ (by simp) _))) ?_
            intro W0 hbW
            have HO1 := Lib.hid (HOK.out W0 hbW)
            obtain ⟨d0, d1⟩ := HE2.out W0 (HO.out.2.trans (hbW.mono HO.out.2.size))
            have HSZ1 := Lib.hid HO1.out.2.size
            have HOL := Lib.hid (fun o => HO1.out.keep ((Below.refl W0.heap.size W0).alloc (Nat.le_refl _) o))
            have hbase : w.heap.size ≤ (W0.alloc (.cells #[.string y0, .string y1, .bool false] 62)).heap.size := by have := HSZ1.out; simp; omega
            have HCA := Lib.hid (cells_at0 W0 [.string y0, .string y1, .bool false] 62)
            refine wpAny_take (i := 0) (v := ?_) rfl (by kernel_rfl) (by kernel_rfl) (by kernel_rfl) (fun _ _ _ h => h) (Or.inl ⟨by kernel_rfl, ?_⟩) ?_
            rotate_left
            · (intro w; go_simp; first | done | with_reducible rfl)
            conv => arg 7; simp [Act.put]
            refine wpAny_take (i := 1) (v := ?_) rfl (by kernel_rfl) (by kernel_rfl) (by kernel_rfl) (fun _ _ _ h => h) (Or.inl ⟨by kernel_rfl, ?_⟩) ?_
            rotate_left
            · (intro w; go_simp; first | done | with_reducible rfl)
            conv => arg 7; simp [Act.put]
            refine wpAny_take (i := 2) (v := ?_) rfl (by kernel_rfl) (by kernel_rfl) (by kernel_rfl) (fun _ _ _ h => h) (Or.inl ⟨by kernel_rfl, ?_⟩) ?_
            rotate_left
            · (intro w; go_simp; first | done | with_reducible rfl)
            conv => arg 7; simp [Act.put]
            refine wpAny_take (i := 3) (v := ?_) rfl (by kernel_rfl) (by kernel_rfl) (by kernel_rfl) (fun _ _ _ h => h) (Or.inl ⟨by kernel_rfl, ?_⟩) ?_
            rotate_left
            · (intro w; go_simp; first | done | with_reducible rfl)
            conv => arg 7; simp [Act.put]
            refine wpAny_take (i := 4) (v := ?_) rfl (by kernel_rfl) (by kernel_rfl) (by kernel_rfl) (fun _ _ _ h => h) (Or.inl ⟨by kernel_rfl, ?_⟩) ?_
            rotate_left
            · (intro w; go_simp; first | done | with_reducible rfl)
            conv => arg 7; simp [Act.put]
            refine wpAny_take (i := 6) (v := ?_) rfl (by kernel_rfl) (by kernel_rfl) (by kernel_rfl) (fun _ _ _ h => h) (Or.inl ⟨by kernel_rfl, ?_⟩) ?_
            rotate_left
            · (intro w; go_simp; first | done | with_reducible rfl)
            conv => arg 7; simp [Act.put]
            refine wpAny_take (i := 7) (v := ?_) rfl (by kernel_rfl) (by kernel_rfl) (by kernel_rfl) (fun _ _ _ h => h) (Or.inl ⟨by kernel_rfl, ?_⟩) ?_
            rotate_left
            · (intro w; go_simp; first | done | with_reducible rfl)
            conv => arg 7; simp [Act.put]
            refine wpAny_take (i := 8) (v := ?_) rfl (by kernel_rfl) (by kernel_rfl) (by kernel_rfl) (fun _ _ _ h => h) (Or.inl ⟨by kernel_rfl, ?_⟩) ?_
            rotate_left
            · (intro w; go_simp; first | done | with_reducible rfl)
            conv => arg 7; simp [Act.put]
            refine wpAny_take (i := 9) (v := ?_) rfl (by kernel_rfl) (by kernel_rfl) (by kernel_rfl) (fun _ _ _ h => h) (Or.inl ⟨by kernel_rfl, ?_⟩) ?_
            rotate_left
            · (intro w; go_simp; first | done | with_reducible rfl)
            conv => arg 7; simp [Act.put]
            refine wpAny_ready (rs := [5, 10]) (by kernel_rfl) (by simp) ?_
            refine AllReady.cons rfl (fun K hK => ?_) (AllReady.cons rfl (fun K hK => ?_) AllReady.nil)
            · go_simp
              refine hK _ _ ?_; clear hK K
              refine wpAny_ready (rs := [10]) (by kernel_rfl) (by simp) ?_
              refine AllReady.cons rfl (fun K hK => ?_) AllReady.nil
              go_simp
              refine hK _ _ ?_; clear hK K
              refine wpAny_take (i := 11) (v := ?_) rfl (by kernel_rfl) (by kernel_rfl) (by kernel_rfl) (fun _ _ _ h => h) (Or.inl ⟨by kernel_rfl, ?_⟩) ?_
              rotate_left
              · (intro w; go_simp; first | done | with_reducible rfl)
              conv => arg 7; simp [Act.put]
              refine wpAny_ready (rs := [12]) (by kernel_rfl) (by simp) ?_
              refine AllReady.cons rfl (fun K hK => ?_) AllReady.nil
              go_simp
              refine hK _ _ ?_; clear hK K
              refine wpAny_ready (rs := [13]) (by kernel_rfl) (by simp) ?_
              refine AllReady.cons rfl (fun K hK => ?_) (AllReady.nil)
              refine step_append_ownF (by rfl) _ _ 24 (by rfl) w.heap.size 62 i0 (.agg #[.string ⟨#[]⟩, .string ⟨#[]⟩, .bool false]) 3 40 Try.underlying24 HI.out.1 HI.out.2.1 HI.out.2.2.1 HI.out.2.2.2 rfl (by decide) (.slice A' m c') m (cgsC out) (by rfl) (HOL.out _).1 ⟨W0.heap.size, 0, none⟩ 1 1 [.string y0, .string y1, .bool false] (by rfl) (by rfl) (fun j u hj => HCA.out j u hj) (by intro u hu; simp at hu; rcases hu with rfl | rfl | rfl <;> rfl) (by unfold maxLen; omega) (by omega) hbase ?_
              intro v' w4 hown' hgrow _
              obtain ⟨A4, c4, rfl, ho4⟩ := (HOL.out _).app hown' hgrow
              have HO4 := Lib.hid ho4; clear ho4 hown' hgrow
              refine hK _ _ ?_; clear hK K
              conv => arg 7; simp [Act.put]
              refine wpAny_take (i := 14) (v := ?_) rfl (by kernel_rfl) (by kernel_rfl) (by kernel_rfl) (fun _ _ _ h => h) (Or.inl ⟨by kernel_rfl, ?_⟩) ?_
              rotate_left
              · (intro w; go_simp; first | done | with_reducible rfl)
              conv => arg 7; simp [Act.put]
              refine wpAny_done (by kernel_rfl) ?_ _
              go_wp2_with fail
              go_roundw
              case rel => exact ⟨i, k + 1, m + 1, out ++ [(y0, y1, false)], A4, c4, rfl, rfl, by go_num, by omega, by omega, by rw [List.length_append, ← HM.out]; rfl, by omega, by rw [← HINV.out, HST.out, List.append_assoc]; rfl, by rw [cgsC_snoc]; exact HO4.out⟩
              case measure => simp [intOf]; omega
            · go_simp
              refine hK _ _ ?_; clear hK K
              refine wpAny_ready (rs := [5]) (by kernel_rfl) (by simp) ?_
              refine AllReady.cons rfl (fun K hK => ?_) AllReady.nil
              go_simp
              refine hK _ _ ?_; clear hK K
              refine wpAny_take (i := 11) (v := ?_) rfl (by kernel_rfl) (by kernel_rfl) (by kernel_rfl) (fun _ _ _ h => h) (Or.inl ⟨by kernel_rfl, ?_⟩) ?_
              rotate_left
              · (intro w; go_simp; first | done | with_reducible rfl)
              conv => arg 7; simp [Act.put]
              refine wpAny_ready (rs := [12]) (by kernel_rfl) (by simp) ?_
              refine AllReady.cons rfl (fun K hK => ?_) AllReady.nil
              go_simp
              refine hK _ _ ?_; clear hK K
              refine wpAny_ready (rs := [13]) (by kernel_rfl) (by simp) ?_
              refine AllReady.cons rfl (fun K hK => ?_) (AllReady.nil)
              refine step_append_ownF (by rfl) _ _ 24 (by rfl) w.heap.size 62 i0 (.agg #[.string ⟨#[]⟩, .string ⟨#[]⟩, .bool false]) 3 40 Try.underlying24 HI.out.1 HI.out.2.1 HI.out.2.2.1 HI.out.2.2.2 rfl (by decide) (.slice A' m c') m (cgsC out) (by rfl) (HOL.out _).1 ⟨W0.heap.size, 0, none⟩ 1 1 [.string y0, .string y1, .bool false] (by rfl) (by rfl) (fun j u hj => HCA.out j u hj) (by intro u hu; simp at hu; rcases hu with rfl | rfl | rfl <;> rfl) (by unfold maxLen; omega) (by omega) hbase ?_
              intro v' w4 hown' hgrow _
              obtain ⟨A4, c4, rfl, ho4⟩ := (HOL.out _).app hown' hgrow
              have HO4 := Lib.hid ho4; clear ho4 hown' hgrow
              refine hK _ _ ?_; clear hK K
              conv => arg 7; simp [Act.put]
              refine wpAny_take (i := 14) (v := ?_) rfl (by kernel_rfl) (by kernel_rfl) (by kernel_rfl) (fun _ _ _ h => h) (Or.inl ⟨by kernel_rfl, ?_⟩) ?_
              rotate_left
              · (intro w; go_simp; first | done | with_reducible rfl)
              conv => arg 7; simp [Act.put]
              refine wpAny_done (by kernel_rfl) ?_ _
              go_wp2_with fail
              go_roundw
              case rel => exact ⟨i, k + 1, m + 1, out ++ [(y0, y1, false)], A4, c4, rfl, rfl, by go_num, by omega, by omega, by rw [List.length_append, ← HM.out]; rfl, by omega, by rw [← HINV.out, HST.out, List.append_assoc]; rfl, by rw [cgsC_snoc]; exact HO4.out⟩
              case measure => simp [intOf]; omega
        · have HST := Lib.hid (opsF_stepG hil1 (.inr ⟨hkl2, h1⟩))
          have q1 : Op.bytesLess l1[i].1.toList l2[k].1.toList = true := h1
          clear h1
          generalize l1[i].1 = x0 at *
          generalize l1[i].2 = x1 at *
          generalize l2[k].1 = y0 at *
          generalize l2[k].2 = y1 at *
          go_wp2_with fail
          go_quiet (fail)
          go_wp2_with (at_builtin; refine wpList_append_own _ rfl _ _ 24 rfl w.heap.size 62 i0 (.agg #[.string ⟨#[]⟩, .string ⟨#[]⟩, .bool false]) 3 40 Try.underlying24 HI.out.1 HI.out.2.1 HI.out.2.2.1 HI.out.2.2.2 rfl (by decide) (.slice A' m c') m (cgsC out) rfl (HOK.out _ ?c0).1 ⟨wr.heap.size, 0, none⟩ 1 1 [.string x0, .string ⟨#[]⟩, .bool true] rfl rfl ?c1 ?c2 ?c3 ?c4 ?c5 ?_)
          try (case c0 => repeat (first | with_reducible exact Below.refl _ _ | with_reducible refine Below.drew ?_ | with_reducible refine Below.trans ?_ (below_drewN _ _) | (refine Below.alloc ?_ (by simp) _)))
          try (case c1 =>
            intro j u hj
            have h9 := cells_at0 (wr.drewN nq) [.string x0, .string ⟨#[]⟩, .bool true] 62 j u hj
            simpa using h9)
          try (case c2 => first | exact ⟨rfl, rfl, rfl⟩ | (intro u hu; simp at hu; rcases hu with rfl | rfl | rfl <;> rfl))
          try (case c3 => first | omega | (unfold maxLen; omega))
          try (case c4 => omega)
          try (case c5 => have := HO.out.2.size; simp <;> omega)
          intro v' w4 hown' hgrow _
          obtain ⟨A4, c4, rfl, ho4⟩ := (HOK.out _ (by repeat (first | with_reducible exact Below.refl _ _ | with_reducible refine Below.drew ?_ | with_reducible refine Below.trans ?_ (below_drewN _ _) | (refine Below.alloc ?_ (by simp) _)))).app hown' hgrow
          have HO4 := Lib.hid ho4; clear ho4 hown' hgrow
          go_wp2_with fail
          go_roundw
          case rel => exact ⟨i + 1, k, m + 1, out ++ [(x0, ⟨#[]⟩, true)], A4, c4, rfl, by go_num, rfl, by omega, by omega, by rw [List.length_append, ← HM.out]; rfl, by omega, by rw [← HINV.out, HST.out, List.append_assoc]; rfl, by rw [cgsC_snoc]; exact HO4.out⟩
          case measure => simp [intOf]; omega
      · obtain rfl : k = n2 := by omega
        have HST := Lib.hid (opsF_stepG hil1 (t := l2) (k := k) (.inl (by rw [← HN2.out]; omega)))
        generalize l1[i].1 = x0 at *
        generalize l1[i].2 = x1 at *
        have hk1b : ((k : Int) == (k : Int)) = true := by simp
        go_wp2_with fail
        go_quiet (fail)
        go_wp2_with (at_builtin; refine wpList_append_own _ rfl _ _ 24 rfl w.heap.size 62 i0 (.agg #[.string ⟨#[]⟩, .string ⟨#[]⟩, .bool false]) 3 40 Try.underlying24 HI.out.1 HI.out.2.1 HI.out.2.2.1 HI.out.2.2.2 rfl (by decide) (.slice A' m c') m (cgsC out) rfl (HOK.out _ ?c0).1 ⟨wr.heap.size, 0, none⟩ 1 1 [.string x0, .string ⟨#[]⟩, .bool true] rfl rfl ?c1 ?c2 ?c3 ?c4 ?c5 ?_)
        try (case c0 => repeat (first | with_reducible exact Below.refl _ _ | with_reducible refine Below.drew ?_ | with_reducible refine Below.trans ?_ (below_drewN _ _) | (refine Below.alloc ?_ (by simp) _)))
        try (case c1 =>
          intro j u hj
          have h9 := cells_at0 (wr.drewN nq) [.string x0, .string ⟨#[]⟩, .bool true] 62 j u hj
          simpa using h9)
        try (case c2 => first | exact ⟨rfl, rfl, rfl⟩ | (intro u hu; simp at hu; rcases hu with rfl | rfl | rfl <;> rfl))
        try (case c3 => first | omega | (unfold maxLen; omega))
        try (case c4 => omega)
        try (case c5 => have := HO.out.2.size; simp <;> omega)
        intro v' w4 hown' hgrow _
        obtain ⟨A4, c4, rfl, ho4⟩ := (HOK.out _ (by repeat (first | with_reducible exact Below.refl _ _ | with_reducible refine Below.drew ?_ | with_reducible refine Below.trans ?_ (below_drewN _ _) | (refine Below.alloc ?_ (by simp) _)))).app hown' hgrow
        have HO4 := Lib.hid ho4; clear ho4 hown' hgrow
        go_wp2_with fail
        go_roundw
        case rel => exact ⟨i + 1, k, m + 1, out ++ [(x0, ⟨#[]⟩, true)], A4, c4, rfl, by go_num, rfl, by omega, by omega, by rw [List.length_append, ← HM.out]; rfl, by omega, by rw [← HINV.out, HST.out, List.append_assoc]; rfl, by rw [cgsC_snoc]; exact HO4.out⟩
        case measure => simp [intOf]; omega
    · obtain rfl : i = n1 := by omega
      by_cases hkl : k < n2
      · have hkl2 : k < l2.length := by have := HN2.out; omega
        obtain ⟨b2, off2, hA2, hbw2, _⟩ := prs_at (HR2.out.below HO.out.2) hkl2
        subst hA2
        obtain ⟨d0, d1⟩ := prs_in (HR2.out.below HO.out.2) hkl2
        have hbs2 : b2 < wr.heap.size := Nat.lt_of_lt_of_le hbw2 HO.out.2.size
        have HE2 := Lib.hid (fun W (hb : Below w.heap.size w W) => prs_in (HR2.out.below hb) hkl2)
        have hk1 : (k : Int) < (n2 : Int) := by omega
        have hk1b : ((k : Int) == (n2 : Int)) = false := by simp; omega
        have HST := Lib.hid (opsF_stepN hkl2 (f := l1) (i := i) (.inl (by rw [← HN1.out]; omega)))
        generalize l2[k].1 = y0 at *
        generalize l2[k].2 = y1 at *
        go_wp2_with fail
        go_quiet (fail)
        go_wp2_with fail
        go_quiet (fail)
        go_wp2_with fail
        refine wp_region_any (by kernel_rfl) ?_
        try (change wpAny _ _ _ _ _ _ _ (World.drew _))
        refine at_world (p := fun W => wpAny _ _ _ _ _ _ _ W) wr _ wr.heap.size (by repeat (first | with_reducible exact Below.refl _ _ | with_reducible refine Below.drew ?_ | with_reducible refine Below.trans ?_ (below_drewN _ _) | (refine Below.alloc ?_ (by simp) _))) ?_
        intro W0 hbW
        have HO1 := Lib.hid (HOK.out W0 hbW)
        obtain ⟨d0, d1⟩ := HE2.out W0 (HO.out.2.trans (hbW.mono HO.out.2.size))
        have HSZ1 := Lib.hid HO1.out.2.size
        have HOL := Lib.hid (fun o => HO1.out.keep ((Below.refl W0.heap.size W0).alloc (Nat.le_refl _) o))
        have hbase : w.heap.size ≤ (W0.alloc (.cells #[.string y0, .string y1, .bool false] 62)).heap.size := by have := HSZ1.out; simp; omega
        have HCA := Lib.hid (cells_at0 W0 [.string y0, .string y1, .bool false] 62)
        refine wpAny_take (i := 0) (v := ?_) rfl (by kernel_rfl) (by kernel_rfl) (by kernel_rfl) (fun _ _ _ h => h) (Or.inl ⟨by kernel_rfl, ?_⟩) ?_
        rotate_left
        · (intro w; go_simp; first | done | with_reducible rfl)
        conv => arg 7; simp [Act.put]
        refine wpAny_take (i := 1) (v := ?_) rfl (by kernel_rfl) (by kernel_rfl) (by kernel_rfl) (fun _ _ _ h => h) (Or.inl ⟨by kernel_rfl, ?_⟩) ?_
        rotate_left
        · (intro w; go_simp; first | done | with_reducible rfl)
        conv => arg 7; simp [Act.put]
        refine wpAny_take (i := 2) (v := ?_) rfl (by kernel_rfl) (by kernel_rfl) (by kernel_rfl) (fun _ _ _ h => h) (Or.inl ⟨by kernel_rfl, ?_⟩) ?_
        rotate_left
        · (intro w; go_simp; first | done | with_reducible rfl)
        conv => arg 7; simp [Act.put]
        refine wpAny_take (i := 3) (v := ?_) rfl (by kernel_rfl) (by kernel_rfl) (by kernel_rfl) (fun _ _ _ h => h) (Or.inl ⟨by kernel_rfl, ?_⟩) ?_
        rotate_left
        · (intro w; go_simp; first | done | with_reducible rfl)
        conv => arg 7; simp [Act.put]
        refine wpAny_take (i := 4) (v := ?_) rfl (by kernel_rfl) (by kernel_rfl) (by kernel_rfl) (fun _ _ _ h => h) (Or.inl ⟨by kernel_rfl, ?_⟩) ?_
        rotate_left
        · (intro w; go_simp; first | done | with_reducible rfl)
        conv => arg 7; simp [Act.put]
        refine wpAny_take (i := 6) (v := ?_) rfl (by kernel_rfl) (by kernel_rfl) (by kernel_rfl) (fun _ _ _ h => h) (Or.inl ⟨by kernel_rfl, ?_⟩) ?_
        rotate_left
        · (intro w; go_simp; first | done | with_reducible rfl)
        conv => arg 7; simp [Act.put]
        refine wpAny_take (i := 7) (v := ?_) rfl (by kernel_rfl) (by kernel_rfl) (by kernel_rfl) (fun _ _ _ h => h) (Or.inl ⟨by kernel_rfl, ?_⟩) ?_
        rotate_left
        · (intro w; go_simp; first | done | with_reducible rfl)
        conv => arg 7; simp [Act.put]
        refine wpAny_take (i := 8) (v := ?_) rfl (by kernel_rfl) (by kernel_rfl) (by kernel_rfl) (fun _ _ _ h => h) (Or.inl ⟨by kernel_rfl, ?_⟩) ?_
        rotate_left
        · (intro w; go_simp; first | done | with_reducible rfl)
        conv => arg 7; simp [Act.put]
        refine wpAny_take (i := 9) (v := ?_) rfl (by kernel_rfl) (by kernel_rfl) (by kernel_rfl) (fun _ _ _ h => h) (Or.inl ⟨by kernel_rfl, ?_⟩) ?_
        rotate_left
        · (intro w; go_simp; first | done | with_reducible rfl)
        conv => arg 7; simp [Act.put]
        refine wpAny_ready (rs := [5, 10]) (by kernel_rfl) (by simp) ?_
        refine AllReady.cons rfl (fun K hK => ?_) (AllReady.cons rfl (fun K hK => ?_) AllReady.nil)
        · go_simp
          refine hK _ _ ?_; clear hK K
          refine wpAny_ready (rs := [10]) (by kernel_rfl) (by simp) ?_
          refine AllReady.cons rfl (fun K hK => ?_) AllReady.nil
          go_simp
          refine hK _ _ ?_; clear hK K
          refine wpAny_take (i := 11) (v := ?_) rfl (by kernel_rfl) (by kernel_rfl) (by kernel_rfl) (fun _ _ _ h => h) (Or.inl ⟨by kernel_rfl, ?_⟩) ?_
          rotate_left
          · (intro w; go_simp; first | done | with_reducible rfl)
          conv => arg 7; simp [Act.put]
          refine wpAny_ready (rs := [12]) (by kernel_rfl) (by simp) ?_
          refine AllReady.cons rfl (fun K hK => ?_) AllReady.nil
          go_simp
          refine hK _ _ ?_; clear hK K
          refine wpAny_ready (rs := [13]) (by kernel_rfl) (by simp) ?_
          refine AllReady.cons rfl (fun K hK => ?_) (AllReady.nil)
          refine step_append_ownF (by rfl) _ _ 24 (by rfl) w.heap.size 62 i0 (.agg #[.string ⟨#[]⟩, .string ⟨#[]⟩, .bool false]) 3 40 Try.underlying24 HI.out.1 HI.out.2.1 HI.out.2.2.1 HI.out.2.2.2 rfl (by decide) (.slice A' m c') m (cgsC out) (by rfl) (HOL.out _).1 ⟨W0.heap.size, 0, none⟩ 1 1 [.string y0, .string y1, .bool false] (by rfl) (by rfl) (fun j u hj => HCA.out j u hj) (by intro u hu; simp at hu; rcases hu with rfl | rfl | rfl <;> rfl) (by unfold maxLen; omega) (by omega) hbase ?_
          intro v' w4 hown' hgrow _
          obtain ⟨A4, c4, rfl, ho4⟩ := (HOL.out _).app hown' hgrow
          have HO4 := Lib.hid ho4; clear ho4 hown' hgrow
          refine hK _ _ ?_; clear hK K
          conv => arg 7; simp [Act.put]
          refine wpAny_take (i := 14) (v := ?_) rfl (by kernel_rfl) (by kernel_rfl) (by kernel_rfl) (fun _ _ _ h => h) (Or.inl ⟨by kernel_rfl, ?_⟩) ?_
          rotate_left
          · (intro w; go_simp; first | done | with_reducible rfl)
          conv => arg 7; simp [Act.put]
          refine wpAny_done (by kernel_rfl) ?_ _
          go_wp2_with fail
          go_roundw
          case rel => exact ⟨i, k + 1, m + 1, out ++ [(y0, y1, false)], A4, c4, rfl, rfl, by go_num, by omega, by omega, by rw [List.length_append, ← HM.out]; rfl, by omega, by rw [← HINV.out, HST.out, List.append_assoc]; rfl, by rw [cgsC_snoc]; exact HO4.out⟩
          case measure => simp [intOf]; omega
        · go_simp
          refine hK _ _ ?_; clear hK K
          refine wpAny_ready (rs := [5]) (by kernel_rfl) (by simp) ?_
          refine AllReady.cons rfl (fun K hK => ?_) AllReady.nil
          go_simp
          refine hK _ _ ?_; clear hK K
          refine wpAny_take (i := 11) (v := ?_) rfl (by kernel_rfl) (by kernel_rfl) (by kernel_rfl) (fun _ _ _ h => h) (Or.inl ⟨by kernel_rfl, ?_⟩) ?_
          rotate_left
          · (intro w; go_simp; first | done | with_reducible rfl)
          conv => arg 7; simp [Act.put]
          refine wpAny_ready (rs := [12]) (by kernel_rfl) (by simp) ?_
          refine AllReady.cons rfl (fun K hK => ?_) AllReady.nil
          go_simp
          refine hK _ _ ?_; clear hK K
          refine wpAny_ready (rs := [13]) (by kernel_rfl) (by simp) ?_
          refine AllReady.cons rfl (fun K hK => ?_) (AllReady.nil)
          refine step_append_ownF (by rfl) _ _ 24 (by rfl) w.heap.size 62 i0 (.agg #[.string ⟨#[]⟩, .string ⟨#[]⟩, .bool false]) 3 40 Try.underlying24 HI.out.1 HI.out.2.1 HI.out.2.2.1 HI.out.2.2.2 rfl (by decide) (.slice A' m c') m (cgsC out) (by rfl) (HOL.out _).1 ⟨W0.heap.size, 0, none⟩ 1 1 [.string y0, .string y1, .bool false] (by rfl) (by rfl) (fun j u hj => HCA.out j u hj) (by intro u hu; simp at hu; rcases hu with rfl | rfl | rfl <;> rfl) (by unfold maxLen; omega) (by omega) hbase ?_
          intro v' w4 hown' hgrow _
          obtain ⟨A4, c4, rfl, ho4⟩ := (HOL.out _).app hown' hgrow
          have HO4 := Lib.hid ho4; clear ho4 hown' hgrow
          refine hK _ _ ?_; clear hK K
          conv => arg 7; simp [Act.put]
          refine wpAny_take (i := 14) (v := ?_) rfl (by kernel_rfl) (by kernel_rfl) (by kernel_rfl) (fun _ _ _ h => h) (Or.inl ⟨by kernel_rfl, ?_⟩) ?_
          rotate_left
          · (intro w; go_simp; first | done | with_reducible rfl)
          conv => arg 7; simp [Act.put]
          refine wpAny_done (by kernel_rfl) ?_ _
          go_wp2_with fail
          go_roundw
          case rel => exact ⟨i, k + 1, m + 1, out ++ [(y0, y1, false)], A4, c4, rfl, rfl, by go_num, by omega, by omega, by rw [List.length_append, ← HM.out]; rfl, by omega, by rw [← HINV.out, HST.out, List.append_assoc]; rfl, by rw [cgsC_snoc]; exact HO4.out⟩
          case measure => simp [intOf]; omega
      · obtain rfl : k = n2 := by omega
        have HF := Lib.hid (show opsF l1 l2 = out by rw [← HINV.out, opsF_end (by rw [← HN1.out]; omega) (by rw [← HN2.out]; omega), List.append_nil])
        go_wp2_with fail
        go_ret
        rw [HF.out]
        have hM := HM.out
        subst hM
        exact ⟨A', c', rfl, HO.out⟩
end Go.Proofs.Ytcaekjbalkbliaa
