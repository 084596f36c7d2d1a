/- The contracts of pairsOf and PairsOf of the model (chapter 4). Conditions: the rows lie in memory; the levels are valid. -/
import Derived.Test.YtofpdelolniklaaFlatC
import Derived.Deep.RegionWith
import Derived.Maps.AppendAt
set_option linter.unusedVariables false
set_option linter.unusedSimpArgs false
namespace Go.Proofs.Ytofpdelolniklaa
open Go.RowKit Go.ChangeShapes Go.WideShapes

theorem step_append_ownP {P : Program} {w : World} {ops : Array Oper} {o : Oper} {a : Act} {K : Act → World → Prop} {Q : Exit → Act → World → Prop} {E : Prop} (hgd : o.guard = none) (s x : Operand) (t : TypeId)
    (ho : o.op = .call { callee := .builtin .append, args := #[s, x], argTypes := #[t, t] })
    (base : Nat) (e : TypeId) (i : TypeInfo) (z : Value) (size bytes : Nat) (ht : P.underlying t = some (.slice e)) (hi : P.info? e = some i) (hz : i.zero = some z)
    (hsize : i.size = size) (hby : i.bytes = bytes) (hzs : z.cells.size = size) (hsz : 0 < size)
    (v : Value) (n : Nat) (xs : List Value) (hs : a.eval s = v) (hown : w.ownsRow base e size v n xs)
    (ad : Addr) (m c : Nat) (news : List Value) (hx : a.eval x = .slice (some ad) m c) (hl : news.length = m * size) (hnews : ∀ j u, news[j]? = some u → w.cell? (ad.add j) = some u) (h1 : ∀ u ∈ news, u.oneCell' = true)
    (h63 : n + m ≤ maxLen) (hbytes : (n + m) * bytes ≤ 140737488355328) (hbase : base ≤ w.heap.size)
    (h : ∀ v' w', w'.ownsRow base e size v' (n + m) (xs ++ news) → w.grownBy w' v.ownBlock → (v' = .slice none 0 0 ↔ v = .slice none 0 0 ∧ m = 0) → K (a.put o.dst v') w') :
    if Region.wanted o (yielded ops a.tmps) = true then Oper.wp P o a w K Q else E := by
  have hw : Region.wanted o (yielded ops a.tmps) = true := by simp [Region.wanted, hgd]
  rw [if_pos hw]
  exact wp_append_own w s x t ho base e i z size bytes ht hi hz hsize hby hzs hsz v n xs hs hown ad m c news hx hl hnews h1 h63 hbytes hbase h
theorem pairL_step {l : List It} {k : Nat} (h : k < l.length) : pairL (l.take (k + 1)) = pairL (l.take k) ++ (if l[k].2.2 = true then [] else [(l[k].1, l[k].2.1)]) := by
  rw [List.take_succ_eq_append_getElem h]
  unfold pairL
  rw [heldL_snoc]
  cases hg : l[k].2.2 <;> simp

set_option maxRecDepth 100000 in
set_option maxHeartbeats 8000000 in
theorem sPairsOf_any (A : Option Addr) (n c : Nat) (l : List It) (w : World) (hr : RowAt w w.heap.size A (itsC l)) (hn : n = l.length) (hs : n ≤ 1048576) :
    Calls Try.prog 73 #[.slice A n c] w (PrsPost (pairL l) w) := by
  obtain ⟨i0, hi0, hz0, hz1, hz2⟩ := info_parts prInfo
  have HI := Lib.hid (And.intro hi0 (And.intro hz0 (And.intro hz1 hz2))); clear hi0 hz0 hz1 hz2
  have HR := Lib.hid hr
  have HN := Lib.hid hn
  clear hr hn
  have HB0 := Lib.hid ((Below.refl w.heap.size w).alloc (Nat.le_refl _) (.cells #[] 88))
  have HO0 := Lib.hid (own_start w 88 2)
  go_enter Try.func73, Try.ntmps73
  go_wp2_with fail
  go_loopw [3, 4] (fun q i wr => ∃ (k m : Nat) (f : List Pr) (A' : Option Addr) (c' : Nat), q = .slice A' m c' ∧ i = .int .i64 k ∧ k ≤ n ∧ m = f.length ∧ m ≤ k ∧ pairL (l.take k) = f ∧ wr.ownsRow w.heap.size 88 2 (.slice A' m c') m (prsC f) ∧ Below w.heap.size w wr) (fun _ i _ => n - (intOf i).toNat)
  case atStart => exact ⟨0, 0, [], _, _, rfl, rfl, by omega, rfl, by omega, rfl, HO0.out, HB0.out⟩
  case round =>
    obtain ⟨k, m, f, A', c', rfl, rfl, hk, hm, hmk, hf, ho, hb⟩ := hrel
    have HM := Lib.hid hm
    have HF := Lib.hid hf
    have HO := Lib.hid ho
    have HB := Lib.hid hb
    clear hm hf ho hb
    by_cases hlt : k < n
    · have hkl : k < l.length := by have := HN.out; omega
      obtain ⟨bb, off, hA, hbw, e0, e1, e2⟩ := its_at (HR.out.below HB.out) hkl
      subst hA
      have HX := Lib.hid (pairL_step hkl)
      have hi1 : (k : Int) < (n : Int) := by omega
      have hi0 : (0 : Int) ≤ (k : Int) := by omega
      have hiw : IntKind.i64.wrap (k : Int) = (k : Int) := IntWalk.i64_in _ (by omega)
      have hbs : bb < wr.heap.size := Nat.lt_of_lt_of_le hbw HB.out.size
      rw [HF.out] at HX
      generalize l[k].1 = x0 at *
      generalize l[k].2.1 = x1 at *
      generalize l[k].2.2 = x2 at *
      clear HF
      cases x2 with
      | true =>
        have HX2 := Lib.hid (show pairL (l.take (k + 1)) = f by rw [HX.out]; simp)
        clear HX
        go_wp2_with fail
        go_roundw
        case rel => exact ⟨k + 1, m, f, A', c', rfl, by go_num, by omega, HM.out, by omega, HX2.out, HO.out, HB.out⟩
        case measure => simp [intOf]; omega
      | false =>
        have HX2 := Lib.hid (show pairL (l.take (k + 1)) = f ++ [(x0, x1)] by rw [HX.out]; simp)
        clear HX
        go_wp2_with fail

        refine wp_region_any (by kernel_rfl) ?_
        try (change wpAny _ _ _ _ _ _ _ (World.drew _))
        have HBD := Lib.hid (show Below w.heap.size w wr.drew from HB.out.trans (below_drewN _ 1))
        have hbd : Below wr.heap.size wr wr.drew := below_drewN _ 1
        have HOD := Lib.hid (own_keep HO.out hbd)
        have d0 := (hbd.cell (p := ⟨bb, off + k * 3, none⟩) hbs).trans e0
        have d1 := (hbd.cell (p := ⟨bb, off + k * 3 + 1, none⟩) hbs).trans e1
        clear e0 e1 e2 HO HB hbs hbd
        generalize wr.drew = W0 at *
        refine wpAny_take (i := 0) (v := ?_) rfl (by kernel_rfl) (by kernel_rfl) (by kernel_rfl) (fun _ _ _ h => h) (Or.inl ⟨by kernel_rfl, ?_⟩) ?_
        rotate_left
        · (intro w; go_simp; first | done | with_reducible rfl)
        conv => arg 7; simp [Act.put]
        refine wpAny_take (i := 1) (v := ?_) rfl (by kernel_rfl) (by kernel_rfl) (by kernel_rfl) (fun _ _ _ h => h) (Or.inl ⟨by kernel_rfl, ?_⟩) ?_
        rotate_left
        · (intro w; go_simp; first | done | with_reducible rfl)
        conv => arg 7; simp [Act.put]
        refine wpAny_take (i := 2) (v := ?_) rfl (by kernel_rfl) (by kernel_rfl) (by kernel_rfl) (fun _ _ _ h => h) (Or.inl ⟨by kernel_rfl, ?_⟩) ?_
        rotate_left
        · (intro w; go_simp; first | done | with_reducible rfl)
        conv => arg 7; simp [Act.put]
        refine wpAny_take (i := 3) (v := ?_) rfl (by kernel_rfl) (by kernel_rfl) (by kernel_rfl) (fun _ _ _ h => h) (Or.inl ⟨by kernel_rfl, ?_⟩) ?_
        rotate_left
        · (intro w; go_simp; first | done | with_reducible rfl)
        conv => arg 7; simp [Act.put]
        refine wpAny_take (i := 4) (v := ?_) rfl (by kernel_rfl) (by kernel_rfl) (by kernel_rfl) (fun _ _ _ h => h) (Or.inl ⟨by kernel_rfl, ?_⟩) ?_
        rotate_left
        · (intro w; go_simp; first | done | with_reducible rfl)
        conv => arg 7; simp [Act.put]
        refine wpAny_take (i := 6) (v := ?_) rfl (by kernel_rfl) (by kernel_rfl) (by kernel_rfl) (fun _ _ _ h => h) (Or.inl ⟨by kernel_rfl, ?_⟩) ?_
        rotate_left
        · (intro w; go_simp; first | done | with_reducible rfl)
        conv => arg 7; simp [Act.put]
        refine wpAny_take (i := 7) (v := ?_) rfl (by kernel_rfl) (by kernel_rfl) (by kernel_rfl) (fun _ _ _ h => h) (Or.inl ⟨by kernel_rfl, ?_⟩) ?_
        rotate_left
        · (intro w; go_simp; first | done | with_reducible rfl)
        conv => arg 7; simp [Act.put]
        refine wpAny_take (i := 8) (v := ?_) rfl (by kernel_rfl) (by kernel_rfl) (by kernel_rfl) (fun _ _ _ h => h) (Or.inl ⟨by kernel_rfl, ?_⟩) ?_
        rotate_left
        · (intro w; go_simp; first | done | with_reducible rfl)
        conv => arg 7; simp [Act.put]
        refine wpAny_take (i := 9) (v := ?_) rfl (by kernel_rfl) (by kernel_rfl) (by kernel_rfl) (fun _ _ _ h => h) (Or.inl ⟨by kernel_rfl, ?_⟩) ?_
        rotate_left
        · (intro w; go_simp; first | done | with_reducible rfl)
        conv => arg 7; simp [Act.put]
        refine wpAny_ready (rs := [5, 10]) (by kernel_rfl) (by simp) ?_
        refine AllReady.cons rfl (fun K hK => ?_) (AllReady.cons rfl (fun K hK => ?_) AllReady.nil)
        · go_simp
          refine hK _ _ ?_; clear hK K
          refine wpAny_ready (rs := [10]) (by kernel_rfl) (by simp) ?_
          refine AllReady.cons rfl (fun K hK => ?_) AllReady.nil
          go_simp
          refine hK _ _ ?_; clear hK K
          refine wpAny_take (i := 11) (v := ?_) rfl (by kernel_rfl) (by kernel_rfl) (by kernel_rfl) (fun _ _ _ h => h) (Or.inl ⟨by kernel_rfl, ?_⟩) ?_
          rotate_left
          · (intro w; go_simp; first | done | with_reducible rfl)
          conv => arg 7; simp [Act.put]
          refine wpAny_ready (rs := [12]) (by kernel_rfl) (by simp) ?_
          refine AllReady.cons rfl (fun K hK => ?_) AllReady.nil
          go_simp
          refine hK _ _ ?_; clear hK K
          have HB1 := Lib.hid (HBD.out.alloc HBD.out.size (.cells #[.string x0, .string x1] 88))
          have HO1 := Lib.hid (HOD.out.alloc (.cells #[.string x0, .string x1] 88))
          have hs1 : w.heap.size ≤ (W0.alloc (.cells #[.string x0, .string x1] 88)).heap.size := HB1.out.size
          have HC1 := Lib.hid (fun j u (hj : ([.string x0, .string x1] : List Value)[j]? = some u) => cells_at0 W0 [.string x0, .string x1] 88 j u hj)
          refine wpAny_ready (rs := [13]) (by kernel_rfl) (by simp) ?_
          refine AllReady.cons rfl (fun K hK => ?_) AllReady.nil
          refine step_append_ownP (by rfl) _ _ 34 (by rfl) w.heap.size 88 i0 (.agg #[.string ⟨#[]⟩, .string ⟨#[]⟩]) 2 32 Try.underlying34 HI.out.1 HI.out.2.1 HI.out.2.2.1 HI.out.2.2.2 rfl (by decide) (.slice A' m c') m (prsC f) (by rfl) HO1.out ⟨W0.heap.size, 0, none⟩ 1 1 [.string x0, .string x1] (by rfl) (by rfl) HC1.out (by intro u hu; simp at hu; rcases hu with rfl | rfl <;> rfl) (by unfold maxLen; omega) (by omega) hs1 ?_
          intro v3 W4 hown3 hgr3 _
          have hb3 := HB1.out.grown hgr3 hs1 (fun q hq => (HO1.out.lt q hq).1)
          obtain ⟨A4, c4, rfl⟩ := own_shape hown3
          rw [show prsC f ++ [.string x0, .string x1] = prsC (f ++ [(x0, x1)]) from (prsC_snoc f (x0, x1)).symm] at hown3
          have HO3 := Lib.hid hown3
          have HB3 := Lib.hid hb3
          have HL3 := Lib.hid (show m + 1 = (f ++ [(x0, x1)]).length by rw [List.length_append, ← HM.out]; rfl)
          clear hown3 hgr3 hb3
          refine hK _ _ ?_; clear hK K
          conv => arg 7; simp [Act.put]
          refine wpAny_take (i := 14) (v := ?_) rfl (by kernel_rfl) (by kernel_rfl) (by kernel_rfl) (fun _ _ _ h => h) (Or.inl ⟨by kernel_rfl, ?_⟩) ?_
          rotate_left
          · (intro w; go_simp; first | done | with_reducible rfl)
          conv => arg 7; simp [Act.put]
          refine wpAny_done (by kernel_rfl) ?_ _
          go_wp2_with fail
          go_roundw
          case rel => exact ⟨k + 1, m + 1, f ++ [(x0, x1)], A4, c4, rfl, by go_num, by omega, HL3.out, by omega, HX2.out, HO3.out, HB3.out⟩
          case measure => simp [intOf]; omega
        · go_simp
          refine hK _ _ ?_; clear hK K
          refine wpAny_ready (rs := [5]) (by kernel_rfl) (by simp) ?_
          refine AllReady.cons rfl (fun K hK => ?_) AllReady.nil
          go_simp
          refine hK _ _ ?_; clear hK K
          refine wpAny_take (i := 11) (v := ?_) rfl (by kernel_rfl) (by kernel_rfl) (by kernel_rfl) (fun _ _ _ h => h) (Or.inl ⟨by kernel_rfl, ?_⟩) ?_
          rotate_left
          · (intro w; go_simp; first | done | with_reducible rfl)
          conv => arg 7; simp [Act.put]
          refine wpAny_ready (rs := [12]) (by kernel_rfl) (by simp) ?_
          refine AllReady.cons rfl (fun K hK => ?_) AllReady.nil
          go_simp
          refine hK _ _ ?_; clear hK K
          have HB1 := Lib.hid (HBD.out.alloc HBD.out.size (.cells #[.string x0, .string x1] 88))
          have HO1 := Lib.hid (HOD.out.alloc (.cells #[.string x0, .string x1] 88))
          have hs1 : w.heap.size ≤ (W0.alloc (.cells #[.string x0, .string x1] 88)).heap.size := HB1.out.size
          have HC1 := Lib.hid (fun j u (hj : ([.string x0, .string x1] : List Value)[j]? = some u) => cells_at0 W0 [.string x0, .string x1] 88 j u hj)
          refine wpAny_ready (rs := [13]) (by kernel_rfl) (by simp) ?_
          refine AllReady.cons rfl (fun K hK => ?_) AllReady.nil
          refine step_append_ownP (by rfl) _ _ 34 (by rfl) w.heap.size 88 i0 (.agg #[.string ⟨#[]⟩, .string ⟨#[]⟩]) 2 32 Try.underlying34 HI.out.1 HI.out.2.1 HI.out.2.2.1 HI.out.2.2.2 rfl (by decide) (.slice A' m c') m (prsC f) (by rfl) HO1.out ⟨W0.heap.size, 0, none⟩ 1 1 [.string x0, .string x1] (by rfl) (by rfl) HC1.out (by intro u hu; simp at hu; rcases hu with rfl | rfl <;> rfl) (by unfold maxLen; omega) (by omega) hs1 ?_
          intro v3 W4 hown3 hgr3 _
          have hb3 := HB1.out.grown hgr3 hs1 (fun q hq => (HO1.out.lt q hq).1)
          obtain ⟨A4, c4, rfl⟩ := own_shape hown3
          rw [show prsC f ++ [.string x0, .string x1] = prsC (f ++ [(x0, x1)]) from (prsC_snoc f (x0, x1)).symm] at hown3
          have HO3 := Lib.hid hown3
          have HB3 := Lib.hid hb3
          have HL3 := Lib.hid (show m + 1 = (f ++ [(x0, x1)]).length by rw [List.length_append, ← HM.out]; rfl)
          clear hown3 hgr3 hb3
          refine hK _ _ ?_; clear hK K
          conv => arg 7; simp [Act.put]
          refine wpAny_take (i := 14) (v := ?_) rfl (by kernel_rfl) (by kernel_rfl) (by kernel_rfl) (fun _ _ _ h => h) (Or.inl ⟨by kernel_rfl, ?_⟩) ?_
          rotate_left
          · (intro w; go_simp; first | done | with_reducible rfl)
          conv => arg 7; simp [Act.put]
          refine wpAny_done (by kernel_rfl) ?_ _
          go_wp2_with fail
          go_roundw
          case rel => exact ⟨k + 1, m + 1, f ++ [(x0, x1)], A4, c4, rfl, by go_num, by omega, HL3.out, by omega, HX2.out, HO3.out, HB3.out⟩
          case measure => simp [intOf]; omega
    · obtain rfl : k = n := by omega
      have HE := Lib.hid (show f = pairL l by rw [← HF.out, HN.out, List.take_length])
      go_wp2_with fail
      refine bodyPost_ret (v := .slice A' m c') (by simp [results, Try.results73, go_sem]) rfl ?_
      refine ⟨_, rfl, ⟨A', c', ?_, ?_⟩, HB.out⟩
      · have h1 := HM.out; rw [HE.out] at h1; rw [h1]
      · rw [← HE.out, ← HM.out]; exact HO.out

theorem sPairs_any (A : Option Addr) (n c : Nat) (L : List (List It)) (w : World) (hr : LvAt w w.heap.size A L) (hn : n = L.length) (hs : n ≤ 1048576) (hw : ∀ r ∈ L, r.length ≤ 1048576 ∧ WfIt r) (hv : levB L = true) :
    Calls Try.prog 24 #[.slice A n c] w (PrsPost (pairL (flatL L)) w) := by
  have HV := Lib.hid (sLev_any A n c L w hr hn hs hw)
  rw [hv] at HV
  have HF := Lib.hid (fun W (hb : Below w.heap.size w W) => sFlat_any A n c L W ((hr.below hb).mono hb.size) hn hv)
  have HLN := Lib.hid (show (flatL L).length ≤ 1048576 by
    have h1 := flat_few (levB_run hv).1 (fun r hr => run_len40 ((levB_run hv).2 r hr)) L.length (Nat.le_refl _)
    have h2 := (levB_run hv).1
    rw [List.take_length] at h1
    omega)
  clear hr hn hw hv
  go_enter Try.func24, Try.ntmps24
  go_wp2_with fail
  refine (HV.out).mono ?_
  rintro e w2 ⟨rfl, hb2⟩
  have HB2 := Lib.hid hb2; clear hb2
  go_wp2_with fail
  refine (HF.out _ HB2.out).mono ?_
  rintro e w3 ⟨v, rfl, ⟨A3, c3, rfl, ho3⟩, hb3⟩
  have HB3 := Lib.hid (HB2.out.trans (hb3.mono HB2.out.size))
  have HP := Lib.hid (sPairsOf_any A3 _ c3 (flatL L) w3 (RowAt.of_own ho3) rfl HLN.out)
  clear hb3 ho3 HF HV
  generalize (flatL L).length = ln at *
  go_wp2_with fail
  refine (HP.out).mono ?_
  rintro e w4 ⟨v, rfl, ⟨A4, c4, rfl, ho4⟩, hb4⟩
  have HO4 := Lib.hid (show OwnPr w.heap.size (pairL (flatL L)) (.slice A4 (pairL (flatL L)).length c4) w4 from ⟨A4, c4, rfl, own_leL ho4 HB3.out.size⟩)
  have HB4 := Lib.hid (HB3.out.trans (hb4.mono HB3.out.size))
  clear ho4 hb4
  generalize (pairL (flatL L)).length = pl at *
  go_wp2_with fail
  refine bodyPost_ret (v := .slice A4 pl c4) (by simp [results, Try.results24, go_sem]) rfl ?_
  exact ⟨_, rfl, HO4.out, HB4.out⟩
end Go.Proofs.Ytofpdelolniklaa
