/- The drawn levels (the model's generator someLevels). Condition: the reader lies in its block. -/
import Derived.Test.YtofpdelolniklaaDrawRn
import Derived.Test.YtofpdelolniklaaPshR
set_option linter.unusedVariables false
set_option linter.unusedSimpArgs false
namespace Go.Proofs.Ytofpdelolniklaa
open Go.RowKit Go.ChangeShapes Go.WideShapes

theorem own_facts {w : World} {B n c z : Nat} {e : TypeId} {A : Option Addr} {xs : List Value} (h : w.ownsRow B e z (.slice A n c) n xs) : n ≤ c ∧ ∀ ad, A = some ad → ad.spot = none := by
  rcases h.2 with ⟨hv, hn⟩ | ⟨g, cap, cur, hv, _, _, h1, _⟩
  · injection hv with h1 h2 h3
    subst h1
    exact ⟨by omega, fun ad h => by cases h⟩
  · injection hv with h2 _ h3
    subst h2 h3
    exact ⟨h1, fun ad h => by injection h with h; rw [← h]⟩
theorem own_new (w : World) (x : Value) (e : TypeId) (hx : x.oneCell' = true) : (w.alloc (.cells #[x] e)).ownsRow w.heap.size e 1 (.slice (some ⟨w.heap.size, 0, none⟩) 1 1) 1 [x] :=
  ⟨by simp, .inr ⟨w.heap.size, 1, #[x], rfl, by omega, heap_alloc_new w _, by simp, by simp [maxLen], by simp, by simp⟩⟩
/-- levels of the call's own beside the reader -/
structure LvD (r M : Nat) (w : World) (L : List (List It)) (A : Option Addr) (m c : Nat) (W : World) : Prop where
  len : m = L.length
  rows : ∃ hs : List Hd, hs.length = m ∧ RowD r M 23 1 w A m c (hdsC hs) W ∧ InnLv w.heap.size W hs L
section
variable {r M M' : Nat} {w W W' : World} {L K : List (List It)} {A : Option Addr} {m c : Nat}
theorem LvD.rd (h : LvD r M w L A m c W) : Rdr 121 W r M := by obtain ⟨_, _, h, _⟩ := h.rows; exact h.rd
theorem LvD.gr (h : LvD r M w L A m c W) : w.grownBy W (some r) := by obtain ⟨_, _, h, _⟩ := h.rows; exact h.gr
theorem LvD.facts (h : LvD r M w L A m c W) : m ≤ c ∧ (∀ ad, A = some ad → ad.spot = none) ∧ (A = none → c = 0) := by
  obtain ⟨_, _, h, _⟩ := h.rows; exact ⟨(own_facts h.own).1, (own_facts h.own).2, own_cap0 h.own⟩
theorem LvD.lv (h : LvD r M w L A m c W) : LvAt W W.heap.size A L := by
  obtain ⟨hs, h1, h2, h3⟩ := h.rows
  exact ⟨hs, by rw [h1]; exact h.len, h2.row, h3.rows⟩
theorem LvD.grow (h : LvD r M w L A m c W) (hr : r < w.heap.size) (hg : W.grownBy W' (some r)) (hR : Rdr 121 W' r M') : LvD r M' w L A m c W' := by
  obtain ⟨hs, h1, h2, h3⟩ := h.rows
  refine ⟨h.len, hs, h1, h2.grow hr hg hR, fun i a b => ⟨(h3 i a b).1, (h3 i a b).2.kept hg ?_⟩⟩
  cases hq : (Value.slice hs[i].1 hs[i].2.1 hs[i].2.2).ownBlock with
  | none => exact .inl rfl
  | some q => exact .inr (fun e => by injection e with e; have := ((h3 i a b).2.lt q hq).1; omega)
theorem LvD.keep (h : LvD r M w L A m c W) (hb : Below W.heap.size W W') : LvD r M w L A m c W' := by
  obtain ⟨hs, h1, h2, h3⟩ := h.rows
  exact ⟨h.len, hs, h1, h2.keep hb, h3.keep hb⟩
theorem LvD.more (h : LvD r M w L A m c W) (hm : M ≤ M') : LvD r M' w L A m c W := by
  obtain ⟨hs, h1, h2, h3⟩ := h.rows
  exact ⟨h.len, hs, h1, h2.more hm, h3⟩
theorem LvD.new {v : Value} (h : LvD r M w L A m c W) (hb : Below W.heap.size W W') (ho : OwnLv W.heap.size K v W') : ∃ A' c', v = .slice A' K.length c' ∧ LvD r M w K A' K.length c' W' := by
  obtain ⟨A', c', hs, e1, e2, e3, e4⟩ := ho
  have hs1 := h.gr.size
  exact ⟨A', c', e1, rfl, hs, e2, ⟨own_le e3 hs1, h.rd.below hb h.rd.lt, grown_far h.gr (grown_of_below (row := none) hb) (fun q hq => by cases hq)⟩, fun i a b => ⟨(e4 i a b).1, own_le (e4 i a b).2 hs1⟩⟩
theorem InnLv.cons {B : Nat} {W : World} {hs : List Hd} {L : List (List It)} {A : Option Addr} {n c : Nat} {x : List It} (h : InnLv B W hs L) (hn : n = x.length) (ho : W.ownsRow B 31 3 (.slice A n c) n (itsC x)) : InnLv B W ((A, n, c) :: hs) (x :: L)
  | 0, _, _ => ⟨hn, by subst hn; exact ho⟩
  | i + 1, a, b => by have := h i (by simpa using a) (by simpa using b); simpa using this
end
def LvFew (n : Nat) (L : List (List It)) : Prop := L.length ≤ n ∧ ∀ x ∈ L, x.length ≤ 40 ∧ FewI x
theorem levB_few {L : List (List It)} (h : levB L = true) (hf : ∀ x ∈ L, FewI x) : LvFew 6 L := by
  unfold levB at h
  simp only [Bool.and_eq_true, decide_eq_true_eq, List.all_eq_true] at h
  refine ⟨h.1, fun x hx => ⟨?_, hf x hx⟩⟩
  have := h.2 x hx
  unfold okRun runB at this
  simp only [Bool.and_eq_true, decide_eq_true_eq] at this
  exact this.2.1
theorem LvFew.sum {n : Nat} {L : List (List It)} (h : LvFew n L) : sumL L ≤ 40 * L.length := by
  have := h.2
  clear h
  induction L with
  | nil => simp [sumL]
  | cons a L ih =>
    rw [sumL_cons, List.length_cons]
    have h1 := (this a List.mem_cons_self).1
    have h2 := ih (fun x hx => this x (List.mem_cons_of_mem _ hx))
    omega
def LevDrawn (r M : Nat) (w : World) (e : Ending) (w' : World) : Prop := ∃ (L : List (List It)) (A : Option Addr) (m c : Nat), e = .returned (.slice A m c) ∧ LvFew 8 L ∧ LvD r M w L A m c w'

set_option maxRecDepth 100000 in
set_option maxHeartbeats 4000000 in
theorem someLevels_any (r N : Nat) (w : World) (h : Rdr 121 w r N) (hN : N ≤ 600000) :
    Calls Try.prog 63 #[.pointer (some ⟨r, 0, none⟩)] w (LevDrawn r (N + 3000) w) := by
  obtain ⟨j0, hi0, hz0, hz1, hz2⟩ := info_parts lvInfo
  have HJ := Lib.hid (And.intro hi0 (And.intro hz0 (And.intro hz1 hz2))); clear hi0 hz0 hz1 hz2
  have hrl := h.lt
  have HS := Lib.hid (show LvD r N w [] (some ⟨w.heap.size, 0, none⟩) 0 0 (w.alloc (.cells #[] 23)) from ⟨rfl, [], rfl, RowD.start h 23 1, fun i a => by simp at a⟩)
  clear h
  have ho1 := fun cs m c t hm hm0 hm1 hs => oneNew_any 0 5 r N m c cs t _ HS.out.rd (by omega) hm hm0 hm1 hs
  simp only [World.size_alloc] at ho1
  have HO1 := Lib.hid ho1; clear ho1
  go_enter Try.func63, Try.ntmps63
  go_wp2_with fail
  refine (HO1.out _ _ _ _ (by rfl) (by omega) (by omega) (by rfl)).mono ?_
  rintro e w1 ⟨nn, rfl, hn1, hn2, hr1, hg1⟩
  have HS1 := Lib.hid (HS.out.grow hrl hg1 hr1); clear hr1 hg1
  obtain ⟨n, rfl⟩ := Int.eq_ofNat_of_zero_le hn1
  go_wp2_with fail
  go_loopw [3, 4] (fun q i wr => ∃ (L : List (List It)) (A : Option Addr) (m c k : Nat), q = .slice A m c ∧ i = .int .i64 k ∧ k ≤ 5 ∧ LvFew 6 L ∧ LvD r (N + 1 + 300 * (5 - k)) w L A m c wr) (fun _ i _ => (intOf i).toNat)
  case atStart => exact ⟨[], _, 0, _, n, rfl, rfl, by omega, ⟨by simp, fun x hx => by cases hx⟩, HS1.out.more (by omega)⟩
  case round =>
    obtain ⟨L, A, m, c, k, rfl, rfl, hk5, hfew, hd⟩ := hrel
    have HF := Lib.hid hfew; clear hfew
    have HD := Lib.hid hd; clear hd
    have hm6 : m ≤ 6 := by have := HD.out.len; have := HF.out.1; omega
    clear HS HS1 HO1
    cases k with
    | succ k =>
      have hpos : (0 : Int) < ((k + 1 : Nat) : Int) := by omega
      have HOP := Lib.hid (someOps_any r _ wr HD.out.rd (by omega))
      go_wp2_with fail
      refine (HOP.out).mono ?_
      rintro e w2 ⟨ops, A2, m2, c2, rfl, hm2, hm13, hf2, hr2⟩
      have HD2 := Lib.hid (HD.out.grow hrl hr2.gr hr2.rd)
      have HLM := Lib.hid (show (memK ops).length ≤ 13 by have := memK_len ops ops.length (Nat.le_refl _); rw [List.take_length] at this; omega)
      have HFM := Lib.hid (show FewI (memK ops) by have := memK_few hf2 ops.length (Nat.le_refl _); rw [List.take_length] at this; exact this)
      have HMM := Lib.hid (sMem_any A2 m2 c2 ops w2 hr2.row hm2 (by omega))
      clear hr2 hm2 hf2
      generalize memK ops = X at *
      go_wp2_with fail
      refine (HMM.out).mono ?_
      rintro e w3 ⟨v, rfl, ⟨A3, c3, rfl, ho3⟩, hb3⟩
      have HD3 := Lib.hid (HD2.out.keep hb3)
      have HO3 := Lib.hid ho3
      clear hb3 ho3
      have hX13 := HLM.out
      have HP := Lib.hid (sPushRun_any A m c L A3 X.length c3 X w3 HD3.out.lv HD3.out.len HD3.out.facts.1 HD3.out.facts.2.1 HD3.out.facts.2.2 (RowAt.of_own HO3.out) rfl (own_cap0 HO3.out)
        (by have := HF.out.sum; have := HF.out.1; omega) (by omega) HFM.out.wf (fun x hx => (HF.out.2 x hx).2.wf))
      have HOK := Lib.hid (fun (hk : pushOk L X = true) => (show LvFew 6 (pushK X L) from levB_few (by unfold pushOk at hk; rw [Bool.and_eq_true] at hk; exact hk.2) (fun x hx => (pushK_all (P := fun p => p.1.size ≤ 16 ∧ p.2.1.size ≤ 16) HFM.out (fun y hy => (HF.out.2 y hy).2) x hx).1)))
      unfold PushPost at HP
      generalize pushOk L X = ok at *
      generalize pushK X L = K at *
      generalize X.length = xl at *
      go_wp2_with fail
      refine (HP.out).mono ?_
      rintro e w4 ⟨v, rfl, hy, hn, hb4⟩
      cases ok
      · obtain rfl := hn rfl
        have HD4 := Lib.hid (HD3.out.keep hb4)
        clear hb4 hy hn
        go_wp2_with fail
        go_roundw
        case rel => exact ⟨L, A, m, c, k, rfl, by go_num, by omega, HF.out, HD4.out.more (by omega)⟩
        case measure => simp [intOf] <;> omega
      · obtain ⟨A4, c4, rfl, hd4⟩ := HD3.out.new hb4 (hy rfl)
        have HD4 := Lib.hid hd4
        clear hb4 hy hn hd4
        go_wp2_with fail
        go_roundw
        case rel => exact ⟨K, A4, K.length, c4, k, rfl, by go_num, by omega, HOK.out (by first | rfl | trivial), HD4.out.more (by omega)⟩
        case measure => simp [intOf] <;> omega
    | zero =>
      have HP3 := Lib.hid (pick_any r _ 3 wr HD.out.rd (by omega) (by omega))
      go_wp2_with fail
      refine (HP3.out).mono ?_
      rintro e w3 ⟨x, rfl, hx0, hxn, hr3, hg3⟩
      have HD3 := Lib.hid (HD.out.grow hrl hg3 hr3); clear hr3 hg3
      by_cases hx : x = 0
      · subst hx
        have HOP := Lib.hid (someOps_any r _ w3 HD3.out.rd (by omega))
        go_wp2_with fail
        refine (HOP.out).mono ?_
        rintro e w4 ⟨ops, A2, m2, c2, rfl, hm2, hm13, hf2, hr2⟩
        have HD4 := Lib.hid (HD3.out.grow hrl hr2.gr hr2.rd)
        have HLM := Lib.hid (show (memK ops).length ≤ 13 by have := memK_len ops ops.length (Nat.le_refl _); rw [List.take_length] at this; omega)
        have HFM := Lib.hid (show FewI (memK ops) by have := memK_few hf2 ops.length (Nat.le_refl _); rw [List.take_length] at this; exact this)
        have HMM := Lib.hid (sMem_any A2 m2 c2 ops w4 hr2.row hm2 (by omega))
        clear hr2 hm2 hf2
        generalize memK ops = X at *
        go_wp2_with fail
        refine (HMM.out).mono ?_
        rintro e w5 ⟨v, rfl, ⟨A5, c5, rfl, ho5⟩, hb5⟩
        have HD5 := Lib.hid (HD4.out.keep hb5)
        have HO5 := Lib.hid (own_le ho5 HD4.out.gr.size)
        clear hb5 ho5
        have hX13 := HLM.out
        obtain ⟨xl, hxl⟩ : ∃ xl, X.length = xl := ⟨_, rfl⟩
        have HXL := Lib.hid hxl.symm
        rw [hxl] at HO5 hX13 ⊢
        clear hxl
        rcases Nat.eq_zero_or_pos xl with hz | hz
        · have hz1 : ¬ (0 : Int) < (xl : Int) := by omega
          have HZ := Lib.hid hz; clear hz
          have HPK := Lib.hid (pick_any r _ 40 w5 HD5.out.rd (by omega) (by omega))
          go_wp2_with fail
          refine (HPK.out).mono ?_
          rintro e w8 ⟨y, rfl, hy0, hyn, hr8, hg8⟩
          have HD8 := Lib.hid (HD5.out.grow hrl hg8 hr8); clear hr8 hg8
          by_cases hy : y = 0
          · subst hy
            obtain ⟨hs, e1, e2, e3⟩ := HD8.out.rows
            have HSL := Lib.hid e1
            have HW1 := Lib.hid ((Below.refl w8.heap.size w8).alloc (Nat.le_refl _) (.cells #[] 31))
            have HW2 := Lib.hid (HW1.out.alloc HW1.out.size (.cells #[.slice (some ⟨w8.heap.size, 0, none⟩) 0 0] 23))
            have HRD := Lib.hid (e2.keep HW2.out)
            have HIN := Lib.hid (e3.keep HW2.out)
            have HEM := Lib.hid (own_le (own_keep (own_start w8 31 3) ((Below.refl (w8.alloc (.cells #[] 31)).heap.size (w8.alloc (.cells #[] 31))).alloc (Nat.le_refl _) (.cells #[.slice (some ⟨w8.heap.size, 0, none⟩) 0 0] 23))) e2.gr.size)
            have HNR := Lib.hid (row_new (w8.alloc (.cells #[] 31)) [.slice (some ⟨w8.heap.size, 0, none⟩) 0 0] 23 (w8.heap.size + 1) (by simp))
            have hws : w.heap.size ≤ w8.heap.size := e2.gr.size
            clear e1 e2 e3
            go_wp2_with (at_builtin; refine wpList_append_row rfl _ _ 29 rfl w.heap.size 23 j0 (.slice none 0 0) 1 24 Try.underlying29 HJ.out.1 HJ.out.2.1 HJ.out.2.2.1 HJ.out.2.2.2 rfl (by decide) _ m (hdsC hs) rfl HRD.out.own (some ⟨w8.heap.size + 1, 0, none⟩) 1 1 _ [.slice (some ⟨w8.heap.size, 0, none⟩) 0 0] rfl ?z0 ?a0 HNR.out ?b0 ?d0 ?e0 ?f0 ?_)
            try (case z0 => first | assumption | (intro h; cases h; done))
            try (case a0 => rfl)
            try (case b0 => first | exact hds_one _ | rfl | (intro u hu; simp at hu; subst hu; rfl))
            try (case d0 => unfold maxLen; omega)
            try (case e0 => omega)
            try (case f0 => first | omega | (simp; omega))
            intro v9 w9 hown9 hgrow9
            obtain ⟨A9, c9, rfl, hr9⟩ := HRD.out.app hrl hown9 hgrow9
            have hin9 : InnLv w.heap.size w9 hs L := HIN.out.grow HRD.out.own hgrow9
            have hem9 : w9.ownsRow w.heap.size 31 3 (.slice (some ⟨w8.heap.size, 0, none⟩) 0 0) 0 [] := HEM.out.kept hgrow9 (by
              exact .inr (fun e => own_apart HEM.out HRD.out.own types_apart w8.heap.size rfl e.symm))
            have HX9 := Lib.hid (show LvD r _ w (L ++ [[]]) A9 (m + 1) c9 w9 from ⟨by rw [List.length_append, ← HD5.out.len]; rfl, hs ++ [(some ⟨w8.heap.size, 0, none⟩, 0, 0)], by rw [List.length_append, HSL.out]; rfl, by rw [hdsC_snoc]; exact hr9, fun i a b => by
              rcases Nat.lt_or_ge i hs.length with h1 | h1
              · rw [List.getElem_append_left h1, List.getElem_append_left (by rw [← HD5.out.len, ← HSL.out]; exact h1)]
                exact hin9 i h1 (by rw [← HD5.out.len, ← HSL.out]; exact h1)
              · have h2 : i = hs.length := by simp at a; omega
                subst h2
                rw [List.getElem_append_right h1, List.getElem_append_right (by rw [← HD5.out.len, ← HSL.out]; exact Nat.le_refl _)]
                simp only [Nat.sub_self, List.getElem_cons_zero, ← HD5.out.len, HSL.out]
                exact ⟨rfl, hem9⟩⟩)
            clear hown9 hgrow9 hr9 hin9 hem9
            go_wp2_with fail
            go_ret
            exact ⟨L ++ [[]], A9, m + 1, c9, rfl, ⟨by have := HF.out.1; simp; omega, fun x hx => by
              rcases List.mem_append.1 hx with h1 | h1
              · exact HF.out.2 x h1
              · rw [List.mem_singleton.1 h1]; exact ⟨by simp, FewI.nil⟩⟩, HX9.out.more (by omega)⟩
          · have q0 : (y == 0) = false := by simpa using hy
            clear hy
            go_wp2_with fail
            go_ret
            exact ⟨L, A, m, c, rfl, ⟨by have := HF.out.1; omega, HF.out.2⟩, HD8.out.more (by omega)⟩
        · have hz1 : (0 : Int) < (xl : Int) := by omega
          obtain ⟨hs, e1, e2, e3⟩ := HD5.out.rows
          have HSL := Lib.hid e1
          have HB6 := Lib.hid ((Below.refl w5.heap.size w5).alloc (Nat.le_refl _) (.cells #[.slice A5 xl c5] 23))
          have HRD := Lib.hid (e2.keep HB6.out)
          have HIN := Lib.hid ((e3.keep HB6.out).cons (x := X) HXL.out (own_keep HO5.out HB6.out))
          have HNW := Lib.hid (own_le (own_new w5 (.slice A5 xl c5) 23 rfl) e2.gr.size)
          have HNR := Lib.hid (show RowAt (w5.alloc (.cells #[.slice A5 xl c5] 23)) (w5.alloc (.cells #[.slice A5 xl c5] 23)).heap.size A (hdsC hs) from HRD.out.row)
          have hws : w.heap.size ≤ w5.heap.size := e2.gr.size
          have hcz := HD5.out.facts.2.2
          clear e1 e2 e3 hz
          go_wp2_with (at_builtin; refine wpList_append_row rfl _ _ 29 rfl w.heap.size 23 j0 (.slice none 0 0) 1 24 Try.underlying29 HJ.out.1 HJ.out.2.1 HJ.out.2.2.1 HJ.out.2.2.2 rfl (by decide) _ 1 [.slice A5 xl c5] rfl HNW.out A m c _ (hdsC hs) rfl ?z50 ?a50 HNR.out ?b50 ?d50 ?e50 ?f50 ?_)
          try (case z50 => first | assumption | (intro h; cases h; done))
          try (case a50 => (rw [hdsC_len, HSL.out]; try rw [Nat.mul_one]))
          try (case b50 => first | exact hds_one _ | rfl | (intro u hu; simp at hu; subst hu; rfl))
          try (case d50 => unfold maxLen; omega)
          try (case e50 => omega)
          try (case f50 => first | omega | (simp; omega))
          intro v6 w6 hown6 hgrow6
          have hn6 : RowD r _ 23 1 w (some ⟨w5.heap.size, 0, none⟩) 1 1 [.slice A5 xl c5] (w5.alloc (.cells #[.slice A5 xl c5] 23)) := ⟨HNW.out, HRD.out.rd, HRD.out.gr⟩
          obtain ⟨A6, c6, rfl, hr6⟩ := hn6.app hrl hown6 hgrow6
          have HD6 := Lib.hid (show LvD r _ w (X :: L) A6 (1 + m) c6 w6 from ⟨by rw [List.length_cons, ← HD5.out.len]; omega, (A5, xl, c5) :: hs, by rw [List.length_cons, HSL.out]; omega, by simpa [hdsC, hdC] using hr6, HIN.out.grow HNW.out hgrow6⟩)
          have HF6 := Lib.hid (show LvFew 7 (X :: L) from ⟨by have := HF.out.1; simp; omega, fun x hx => by
            rcases List.mem_cons.1 hx with h1 | h1
            · rw [h1]; exact ⟨by rw [← HXL.out]; omega, HFM.out⟩
            · exact HF.out.2 x h1⟩)
          clear hown6 hgrow6 hn6 hr6
          obtain ⟨m6, hm6e⟩ : ∃ m6, m6 = 1 + m := ⟨_, rfl⟩
          rw [← hm6e] at HD6 ⊢
          have hm6b : m6 ≤ 7 := by omega
          clear hm6e
          generalize X :: L = L6 at *
          have HPK := Lib.hid (pick_any r _ 40 w6 HD6.out.rd (by omega) (by omega))
          go_wp2_with fail
          refine (HPK.out).mono ?_
          rintro e w8 ⟨y, rfl, hy0, hyn, hr8, hg8⟩
          have HD8 := Lib.hid (HD6.out.grow hrl hg8 hr8); clear hr8 hg8
          by_cases hy : y = 0
          · subst hy
            obtain ⟨hs, e1, e2, e3⟩ := HD8.out.rows
            have HSL := Lib.hid e1
            have HW1 := Lib.hid ((Below.refl w8.heap.size w8).alloc (Nat.le_refl _) (.cells #[] 31))
            have HW2 := Lib.hid (HW1.out.alloc HW1.out.size (.cells #[.slice (some ⟨w8.heap.size, 0, none⟩) 0 0] 23))
            have HRD := Lib.hid (e2.keep HW2.out)
            have HIN := Lib.hid (e3.keep HW2.out)
            have HEM := Lib.hid (own_le (own_keep (own_start w8 31 3) ((Below.refl (w8.alloc (.cells #[] 31)).heap.size (w8.alloc (.cells #[] 31))).alloc (Nat.le_refl _) (.cells #[.slice (some ⟨w8.heap.size, 0, none⟩) 0 0] 23))) e2.gr.size)
            have HNR := Lib.hid (row_new (w8.alloc (.cells #[] 31)) [.slice (some ⟨w8.heap.size, 0, none⟩) 0 0] 23 (w8.heap.size + 1) (by simp))
            have hws : w.heap.size ≤ w8.heap.size := e2.gr.size
            clear e1 e2 e3
            go_wp2_with (at_builtin; refine wpList_append_row rfl _ _ 29 rfl w.heap.size 23 j0 (.slice none 0 0) 1 24 Try.underlying29 HJ.out.1 HJ.out.2.1 HJ.out.2.2.1 HJ.out.2.2.2 rfl (by decide) _ m6 (hdsC hs) rfl HRD.out.own (some ⟨w8.heap.size + 1, 0, none⟩) 1 1 _ [.slice (some ⟨w8.heap.size, 0, none⟩) 0 0] rfl ?z1 ?a1 HNR.out ?b1 ?d1 ?e1 ?f1 ?_)
            try (case z1 => first | assumption | (intro h; cases h; done))
            try (case a1 => rfl)
            try (case b1 => first | exact hds_one _ | rfl | (intro u hu; simp at hu; subst hu; rfl))
            try (case d1 => unfold maxLen; omega)
            try (case e1 => omega)
            try (case f1 => first | omega | (simp; omega))
            intro v9 w9 hown9 hgrow9
            obtain ⟨A9, c9, rfl, hr9⟩ := HRD.out.app hrl hown9 hgrow9
            have hin9 : InnLv w.heap.size w9 hs L6 := HIN.out.grow HRD.out.own hgrow9
            have hem9 : w9.ownsRow w.heap.size 31 3 (.slice (some ⟨w8.heap.size, 0, none⟩) 0 0) 0 [] := HEM.out.kept hgrow9 (by
              exact .inr (fun e => own_apart HEM.out HRD.out.own types_apart w8.heap.size rfl e.symm))
            have HX9 := Lib.hid (show LvD r _ w (L6 ++ [[]]) A9 (m6 + 1) c9 w9 from ⟨by rw [List.length_append, ← HD6.out.len]; rfl, hs ++ [(some ⟨w8.heap.size, 0, none⟩, 0, 0)], by rw [List.length_append, HSL.out]; rfl, by rw [hdsC_snoc]; exact hr9, fun i a b => by
              rcases Nat.lt_or_ge i hs.length with h1 | h1
              · rw [List.getElem_append_left h1, List.getElem_append_left (by rw [← HD6.out.len, ← HSL.out]; exact h1)]
                exact hin9 i h1 (by rw [← HD6.out.len, ← HSL.out]; exact h1)
              · have h2 : i = hs.length := by simp at a; omega
                subst h2
                rw [List.getElem_append_right h1, List.getElem_append_right (by rw [← HD6.out.len, ← HSL.out]; exact Nat.le_refl _)]
                simp only [Nat.sub_self, List.getElem_cons_zero, ← HD6.out.len, HSL.out]
                exact ⟨rfl, hem9⟩⟩)
            clear hown9 hgrow9 hr9 hin9 hem9
            go_wp2_with fail
            go_ret
            exact ⟨L6 ++ [[]], A9, m6 + 1, c9, rfl, ⟨by have := HF6.out.1; simp; omega, fun x hx => by
              rcases List.mem_append.1 hx with h1 | h1
              · exact HF6.out.2 x h1
              · rw [List.mem_singleton.1 h1]; exact ⟨by simp, FewI.nil⟩⟩, HX9.out.more (by omega)⟩
          · have q0 : (y == 0) = false := by simpa using hy
            clear hy
            go_wp2_with fail
            go_ret
            exact ⟨L6, A6, m6, c6, rfl, ⟨by have := HF6.out.1; omega, HF6.out.2⟩, HD8.out.more (by omega)⟩
      · have q0 : (x == 0) = false := by simpa using hx
        clear hx
        have HPK := Lib.hid (pick_any r _ 40 w3 HD3.out.rd (by omega) (by omega))
        go_wp2_with fail
        refine (HPK.out).mono ?_
        rintro e w8 ⟨y, rfl, hy0, hyn, hr8, hg8⟩
        have HD8 := Lib.hid (HD3.out.grow hrl hg8 hr8); clear hr8 hg8
        by_cases hy : y = 0
        · subst hy
          obtain ⟨hs, e1, e2, e3⟩ := HD8.out.rows
          have HSL := Lib.hid e1
          have HW1 := Lib.hid ((Below.refl w8.heap.size w8).alloc (Nat.le_refl _) (.cells #[] 31))
          have HW2 := Lib.hid (HW1.out.alloc HW1.out.size (.cells #[.slice (some ⟨w8.heap.size, 0, none⟩) 0 0] 23))
          have HRD := Lib.hid (e2.keep HW2.out)
          have HIN := Lib.hid (e3.keep HW2.out)
          have HEM := Lib.hid (own_le (own_keep (own_start w8 31 3) ((Below.refl (w8.alloc (.cells #[] 31)).heap.size (w8.alloc (.cells #[] 31))).alloc (Nat.le_refl _) (.cells #[.slice (some ⟨w8.heap.size, 0, none⟩) 0 0] 23))) e2.gr.size)
          have HNR := Lib.hid (row_new (w8.alloc (.cells #[] 31)) [.slice (some ⟨w8.heap.size, 0, none⟩) 0 0] 23 (w8.heap.size + 1) (by simp))
          have hws : w.heap.size ≤ w8.heap.size := e2.gr.size
          clear e1 e2 e3
          go_wp2_with (at_builtin; refine wpList_append_row rfl _ _ 29 rfl w.heap.size 23 j0 (.slice none 0 0) 1 24 Try.underlying29 HJ.out.1 HJ.out.2.1 HJ.out.2.2.1 HJ.out.2.2.2 rfl (by decide) _ m (hdsC hs) rfl HRD.out.own (some ⟨w8.heap.size + 1, 0, none⟩) 1 1 _ [.slice (some ⟨w8.heap.size, 0, none⟩) 0 0] rfl ?z2 ?a2 HNR.out ?b2 ?d2 ?e2 ?f2 ?_)
          try (case z2 => first | assumption | (intro h; cases h; done))
          try (case a2 => rfl)
          try (case b2 => first | exact hds_one _ | rfl | (intro u hu; simp at hu; subst hu; rfl))
          try (case d2 => unfold maxLen; omega)
          try (case e2 => omega)
          try (case f2 => first | omega | (simp; omega))
          intro v9 w9 hown9 hgrow9
          obtain ⟨A9, c9, rfl, hr9⟩ := HRD.out.app hrl hown9 hgrow9
          have hin9 : InnLv w.heap.size w9 hs L := HIN.out.grow HRD.out.own hgrow9
          have hem9 : w9.ownsRow w.heap.size 31 3 (.slice (some ⟨w8.heap.size, 0, none⟩) 0 0) 0 [] := HEM.out.kept hgrow9 (by
            exact .inr (fun e => own_apart HEM.out HRD.out.own types_apart w8.heap.size rfl e.symm))
          have HX9 := Lib.hid (show LvD r _ w (L ++ [[]]) A9 (m + 1) c9 w9 from ⟨by rw [List.length_append, ← HD3.out.len]; rfl, hs ++ [(some ⟨w8.heap.size, 0, none⟩, 0, 0)], by rw [List.length_append, HSL.out]; rfl, by rw [hdsC_snoc]; exact hr9, fun i a b => by
            rcases Nat.lt_or_ge i hs.length with h1 | h1
            · rw [List.getElem_append_left h1, List.getElem_append_left (by rw [← HD3.out.len, ← HSL.out]; exact h1)]
              exact hin9 i h1 (by rw [← HD3.out.len, ← HSL.out]; exact h1)
            · have h2 : i = hs.length := by simp at a; omega
              subst h2
              rw [List.getElem_append_right h1, List.getElem_append_right (by rw [← HD3.out.len, ← HSL.out]; exact Nat.le_refl _)]
              simp only [Nat.sub_self, List.getElem_cons_zero, ← HD3.out.len, HSL.out]
              exact ⟨rfl, hem9⟩⟩)
          clear hown9 hgrow9 hr9 hin9 hem9
          go_wp2_with fail
          go_ret
          exact ⟨L ++ [[]], A9, m + 1, c9, rfl, ⟨by have := HF.out.1; simp; omega, fun x hx => by
            rcases List.mem_append.1 hx with h1 | h1
            · exact HF.out.2 x h1
            · rw [List.mem_singleton.1 h1]; exact ⟨by simp, FewI.nil⟩⟩, HX9.out.more (by omega)⟩
        · have q0 : (y == 0) = false := by simpa using hy
          clear hy
          go_wp2_with fail
          go_ret
          exact ⟨L, A, m, c, rfl, ⟨by have := HF.out.1; omega, HF.out.2⟩, HD8.out.more (by omega)⟩
end Go.Proofs.Ytofpdelolniklaa
