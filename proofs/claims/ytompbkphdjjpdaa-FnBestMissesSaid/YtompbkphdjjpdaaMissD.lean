/- Contracts of the program's OldMisses and BestMisses (chapter 2). Conditions: the trace lies in a row; it is short. -/
import Derived.Test.YtompbkphdjjpdaaMissC
set_option linter.unusedVariables false
set_option linter.unusedSimpArgs false
namespace Go.Proofs.Ytompbkphdjjpdaa
open Go.RowKit Go.ChangeShapes Go.WideShapes

def over {α : Type} : List α → Nat → List α → List α
  | xs, _, [] => xs
  | xs, o, v :: vs => over (xs.set o v) (o + 1) vs
theorem over_eq {α : Type} : ∀ (vs xs : List α) (o : Nat), o + vs.length = xs.length → over xs o vs = xs.take o ++ vs
  | [], xs, o, h => by simp at h; rw [over, List.append_nil, List.take_of_length_le (by omega)]
  | v :: vs, xs, o, h => by
    rw [over, over_eq vs _ _ (by rw [List.length_set]; simp at h; omega)]
    simp at h
    rw [List.take_succ_eq_append_getElem (by rw [List.length_set]; omega)]
    rw [List.take_set, List.set_eq_of_length_le (by rw [List.length_take]; omega)]
    simp
theorem ownsRow_setCells {B g n c : Nat} {e : TypeId} : ∀ (vs : List Value) (o : Nat) (xs : List Value) (w : World), w.ownsRow B e 1 (.slice (some ⟨g, 0, none⟩) n c) n xs →
    (w.setCells g o vs).ownsRow B e 1 (.slice (some ⟨g, 0, none⟩) n c) n (over xs o vs) ∧ w.grownBy (w.setCells g o vs) (some g)
  | [], o, xs, w, h => ⟨h, ⟨rfl, rfl, rfl, Nat.le_refl _, fun _ _ _ => rfl⟩⟩
  | v :: vs, o, xs, w, h => by
    have h1 := h.stored o v
    have h2 := ownsRow_setCells vs (o + 1) _ _ h1.1
    exact ⟨h2.1, h1.2.trans' h2.2⟩
theorem ownsRow_less {w : World} {B g n c k : Nat} {e : TypeId} {xs : List Value} (h : w.ownsRow B e 1 (.slice (some ⟨g, 0, none⟩) n c) n xs) (hk : k ≤ n) : w.ownsRow B e 1 (.slice (some ⟨g, 0, none⟩) k c) k (xs.take k) := by
  have hl := h.1
  refine ⟨by rw [List.length_take]; omega, ?_⟩
  rcases h.2 with ⟨h1, _⟩ | ⟨g', cap, cur, h1, h2, h3, h4, h5, h6, h7⟩
  · cases h1
  · injection h1 with a1 a2 a3
    injection a1 with a1
    injection a1 with a1
    subst a1 a3
    refine .inr ⟨g, c, cur, rfl, h2, h3, by omega, h5, h6, ?_⟩
    rw [← h7, List.take_take]
    congr 1
    omega
theorem own_ptr {w : World} {B n c z : Nat} {e : TypeId} {T : Option Addr} {xs : List Value} (h : w.ownsRow B e z (.slice T n c) n xs) (hn : 0 < n) : ∃ g, T = some ⟨g, 0, none⟩ ∧ n ≤ c ∧ c ≤ maxLen := by
  rcases h.2 with ⟨h1, h2⟩ | ⟨g', cap, cur, h1, h2, h3, h4, h5, h6, h7⟩
  · omega
  · injection h1 with a1 a2 a3
    subst a1 a3
    exact ⟨_, rfl, h4, h5⟩
/-- one number is struck out of a row of the call's own -/
def DelPost (B n c i : Nat) (t : List Int) (T : Option Addr) (w : World) (e : Ending) (w' : World) : Prop :=
  e = .returned (.slice T (n - 1) c) ∧ w'.ownsRow B 3 1 (.slice T (n - 1) c) (n - 1) (intC (t.eraseIdx i)) ∧ w.grownBy w' (Value.slice T n c).ownBlock
theorem delete_any (B n c i : Nat) (t : List Int) (T : Option Addr) (w : World) (h : w.ownsRow B 3 1 (.slice T n c) n (intC t)) (hn : n = t.length) (hi : i < n) :
    Calls Try.prog 115 #[.slice T n c, .int .i64 (i : Int), .int .i64 ((i : Int) + 1)] w (DelPost B n c i t T w) := by
  obtain ⟨g, rfl, hnc, hcm⟩ := own_ptr h (by omega)
  unfold maxLen at hcm
  have hc : ∀ j, j < t.length → w.cell? ⟨g, 0 + j, none⟩ = some (.int .i64 (t.getD j 0)) := fun j hj => by
    rw [Nat.zero_add, h.cellAt j (by omega), intC_at hj, getD_int hj]
  have := Try.slices_Delete_int_cells g 0 n c i (i + 1) t w (by omega) hnc (by omega) (by omega) (by omega) hc (fun j hj => h.frozenAt _)
  refine Calls.mono this ?_
  rintro e w' ⟨he, q, rfl⟩
  have hq : (w.drewN q).ownsRow B 3 1 (.slice (some ⟨g, 0, none⟩) n c) n (intC t) := h
  have hs := ownsRow_setCells (((t.take n).take i ++ (t.take n).drop (i + 1) ++ List.replicate (i + 1 - i) 0).map (Value.int .i64)) 0 _ _ hq
  have hl : ((t.take n).take i ++ (t.take n).drop (i + 1) ++ List.replicate (i + 1 - i) (0 : Int)).length = t.length := by
    simp; omega
  rw [over_eq _ _ _ (by rw [List.length_map, hl, intC_len]; omega)] at hs
  have hd := ownsRow_less hs.1 (k := n - 1) (by omega)
  refine ⟨by rw [he]; congr 2; omega, ?_, (grown_drewN q).trans' hs.2⟩
  have e1 : t.take n = t := List.take_of_length_le (by omega)
  have e2 : (List.take 0 (intC t) ++ List.map (Value.int .i64) ((t.take n).take i ++ (t.take n).drop (i + 1) ++ List.replicate (i + 1 - i) 0)).take (n - 1) = intC (t.eraseIdx i) := by
    rw [e1, List.eraseIdx_eq_take_drop_succ, List.take_zero, List.nil_append, List.map_append]
    rw [List.take_append_of_le_length (by simp; omega)]
    rw [List.take_of_length_le (by simp; omega)]
    rfl
  rw [e2] at hd
  exact hd
/-- the pages that are there, while the program goes on -/
structure MsAt (w : World) (t : List Int) (T : Option Addr) (mm ct : Nat) (W : World) : Prop where
  len : mm = t.length
  own : W.ownsRow w.heap.size 3 1 (.slice T mm ct) mm (intC t)
  hb : Below w.heap.size w W
def missR (ch : List Int → Nat → List Int → Nat) (m : Int) (l : List Int) : Int := if (countB m && traceB l) = true then (missI ch m.toNat l : Int) else -1
theorem missS_hit {ch : Nat → List Int → Nat} {n : Nat} {l : List Int} {k : Nat} (h : (missS ch n l k).1.contains (l.getD k 0) = true) : missS ch n l (k + 1) = missS ch n l k := by rw [missS, if_pos h]
theorem missS_miss {ch : Nat → List Int → Nat} {n : Nat} {l : List Int} {k : Nat} (h : (missS ch n l k).1.contains (l.getD k 0) = false) : missS ch n l (k + 1) = ((if (missS ch n l k).1.length = n then (missS ch n l k).1.eraseIdx (ch k (missS ch n l k).1) else (missS ch n l k).1) ++ [l.getD k 0], (missS ch n l k).2 + 1) := by
  rw [missS, if_neg (by rw [h]; simp)]

theorem below_cellOf {w W : World} (hb : Below w.heap.size w W) {a : Addr} {v : Value} (hc : w.cell? a = some v) : W.cell? a = some v := (hb.cell (World.block_lt_of_cell? w a hc)).trans hc
theorem MsAt.append {w wr w' : World} {t : List Int} {T : Option Addr} {mm ct : Nat} {v' : Value} {x : Int} (hb : Below w.heap.size w wr) (ho : wr.ownsRow w.heap.size 3 1 (.slice T mm ct) mm (intC t))
    (hown' : w'.ownsRow w.heap.size 3 1 v' (mm + 1) (intC t ++ [.int .i64 x])) (hg : wr.grownBy w' (Value.slice T mm ct).ownBlock) (hm : t.length = mm) : ∃ T' ct', v' = .slice T' (mm + 1) ct' ∧ MsAt w (t ++ [x]) T' (mm + 1) ct' w' := by
  obtain ⟨T', ct', rfl⟩ : ∃ (T' : Option Addr) (ct' : Nat), v' = .slice T' (mm + 1) ct' := by
    rcases hown'.2 with ⟨a1, a2⟩ | ⟨g, N, cur, a1, _⟩
    · omega
    · exact ⟨_, _, a1⟩
  refine ⟨T', ct', rfl, by simp; omega, ?_, hb.grown hg hb.size (fun q hq => (ho.lt q hq).1)⟩
  rw [intC_app]; exact hown'

set_option maxRecDepth 100000 in
set_option maxHeartbeats 8000000 in
theorem iByOld_any (m : Int) (A : Option Addr) (n c g : Nat) (l : List Int) (w : World) (hg : w.cell? ⟨g, 0, none⟩ = some (.slice A n c)) (hr : RowAt w w.heap.size A (intC l)) (hn : n = l.length) (hs : n ≤ 1048576) (hnc : n ≤ c) :
    Calls Try.prog 66 #[.int .i64 m, .slice A n c, .func (.func 67) #[] #[.pointer (some ⟨g, 0, none⟩)]] w fun e w' => e = .returned (.int .i64 (missR oldCh m l)) ∧ Below w.heap.size w w' := by
  have HC := Lib.hid (isCount_any m w)
  have HT := Lib.hid (iTrace_any A n c l w hr hn hs)
  cases hc : countB m
  · rw [hc] at HC
    have HF := Lib.hid (show missR oldCh m l = -1 by unfold missR; rw [hc]; rfl)
    rw [HF.out]
    clear hc hr hn hg
    go_enter Try.func66, Try.ntmps66
    go_wp2_with fail
    refine (HC.out).mono ?_
    rintro e w2 ⟨rfl, hw2⟩
    obtain rfl := hw2.symm
    go_wp2_with fail
    go_ret
    exact ⟨rfl, Below.refl _ _⟩
  · rw [hc] at HC
    cases ht : traceB l
    · rw [ht] at HT
      have HF := Lib.hid (show missR oldCh m l = -1 by unfold missR; rw [ht]; simp)
      rw [HF.out]
      clear hc hr hn hg ht
      go_enter Try.func66, Try.ntmps66
      go_wp2_with fail
      refine (HC.out).mono ?_
      rintro e w2 ⟨rfl, hw2⟩
      obtain rfl := hw2.symm
      go_wp2_with fail
      refine (HT.out).mono ?_
      rintro e w3 ⟨rfl, hw3⟩
      obtain rfl := hw3.symm
      go_wp2_with fail
      go_ret
      exact ⟨rfl, Below.refl _ _⟩
    · rw [ht] at HT
      have HF0 := Lib.hid (show missR oldCh m l = (missI oldCh m.toNat l : Int) by unfold missR; rw [hc, ht]; rfl)
      obtain ⟨h1, h5⟩ : 1 ≤ m ∧ m ≤ 5 := by
        unfold countB at hc
        simpa only [Bool.and_eq_true, decide_eq_true_eq] using hc
      have hn30 : n ≤ 30 := by
        unfold traceB at ht
        simp only [Bool.and_eq_true, decide_eq_true_eq] at ht
        rw [hn]; exact ht.1
      obtain ⟨M, rfl⟩ := Int.eq_ofNat_of_zero_le (show 0 ≤ m by omega)
      rw [HF0.out, Int.toNat_natCast]
      clear HF0 hc ht
      obtain ⟨i0, hi0, hz0, hz1, hz2⟩ := info_parts intInfo
      have HI := Lib.hid (And.intro hi0 (And.intro hz0 (And.intro hz1 hz2))); clear hi0 hz0 hz1 hz2
      have HG := Lib.hid hg; clear hg
      have HR := Lib.hid hr; clear hr
      have HN := Lib.hid hn; clear hn
      have hM1 : 1 ≤ M := by omega
      have hM5 : M ≤ 5 := by omega
      have HLN := Lib.hid (fun k => missS_len (oldCh l) M l hM1 (oldIn l) k)
      go_enter Try.func66, Try.ntmps66
      go_wp2_with fail
      refine (HC.out).mono ?_
      rintro e w2 ⟨rfl, hw2⟩
      obtain rfl := hw2.symm
      go_wp2_with fail
      refine (HT.out).mono ?_
      rintro e w3 ⟨rfl, hw3⟩
      obtain rfl := hw3.symm
      go_wp2_with fail
      go_loopw [7, 8, 22] (fun tv mv i wr => ∃ (k mm : Nat) (T : Option Addr) (ct : Nat), k ≤ n ∧ i = .int .i64 k ∧ mv = .int .i64 ((missS (oldCh l) M l k).2 : Int) ∧ tv = .slice T mm ct ∧ MsAt w (missS (oldCh l) M l k).1 T mm ct wr) (fun _ _ i _ => n - (intOf i).toNat)
      case atStart => exact ⟨0, 0, none, 0, by omega, rfl, rfl, rfl, rfl, World.ownsRow_nil _ _ _ _, Below.refl _ _⟩
      case round =>
        obtain ⟨k, mm, T, ct, hk, rfl, rfl, rfl, hms⟩ := hrel
        have HMS := Lib.hid hms; clear hms
        obtain ⟨hl1, hl2, hl3⟩ := HLN.out k
        have hmm : mm ≤ M := by rw [HMS.out.len]; exact hl1
        by_cases hlt : k < n
        · have hkl : k < l.length := by have := HN.out; omega
          obtain ⟨b, off, rfl, hbw, e0⟩ := ints_at (HR.out.below HMS.out.hb) hkl
          have hget : l.getD k 0 = l[k] := getD_int hkl
          have HST := Lib.hid (fun (h : (missS (oldCh l) M l k).1.contains l[k] = true) => (missS_hit (ch := oldCh l) (n := M) (l := l) (k := k) (by rw [hget]; exact h)))
          have HSM := Lib.hid (fun (h : (missS (oldCh l) M l k).1.contains l[k] = false) => (missS_miss (ch := oldCh l) (n := M) (l := l) (k := k) (by rw [hget]; exact h)))
          rw [hget] at HSM
          clear hget
          have HCO := Lib.hid (contains_any T mm ct (missS (oldCh l) M l k).1 l[k] wr (RowAt.of_own HMS.out.own) HMS.out.len (by omega))
          have HCH := Lib.hid (iOldCh_any T mm ct (missS (oldCh l) M l k).1 g (some ⟨b, off, none⟩) n c l k wr (RowAt.of_own HMS.out.own) HMS.out.len (by omega) (below_cellOf HMS.out.hb HG.out) ((HR.out.below HMS.out.hb).mono HMS.out.hb.size) HN.out hs hnc hlt)
          have HIN := Lib.hid (oldIn l k (missS (oldCh l) M l k).1)
          generalize hS : missS (oldCh l) M l k = S at *
          obtain ⟨t, mc⟩ := S
          simp only at HMS HCO HCH HIN HST HSM hl1 hl2 hl3
          clear hS
          generalize l[k] = x at *
          have i0' : (0 : Int) ≤ (k : Int) := by omega
          have i1' : (k : Int) < (n : Int) := by omega
          cases hcx : t.contains x
          · rw [hcx] at HCO
            have HSK := Lib.hid (HSM.out hcx)
            clear hcx
            go_wp2_with fail
            refine (HCO.out).mono ?_
            rintro e w4 ⟨rfl, hw4⟩
            obtain rfl := hw4.symm
            by_cases hf : mm = M
            · have hne : t ≠ [] := by intro e; have := HMS.out.len; rw [e] at this; simp at this; omega
              have hj := HIN.out hne
              generalize oldCh l k t = j at *
              have HSE := Lib.hid (show missS (oldCh l) M l (k + 1) = (t.eraseIdx j ++ [x], mc + 1) by rw [HSK.out, if_pos (by rw [← HMS.out.len]; exact hf)])
              have HTL := Lib.hid (show (t.eraseIdx j).length = mm - 1 by rw [List.length_eraseIdx, if_pos hj, HMS.out.len])
              have qf : ((mm : Int) == (M : Int)) = true := by simp; omega
              have hjm : j < mm := by rw [HMS.out.len]; exact hj
              clear hf hne
              go_wp2_with fail
              refine (HCH.out).mono ?_
              rintro e w5 ⟨rfl, q, hq⟩
              have HBQ := Lib.hid (show Below wr.heap.size wr w5 by rw [hq]; exact below_drewN _ _)
              have HO5 := Lib.hid (HMS.out.own.kept (grown_of_below (row := none) HBQ.out) (by cases T <;> simp [Value.ownBlock]))
              clear hq
              go_wp2_with fail
              refine (delete_any w.heap.size mm ct j t T w5 HO5.out HMS.out.len hjm).mono ?_
              rintro e w6 ⟨rfl, ho6, hg6⟩
              have HB6 := Lib.hid (Below.grown (HMS.out.hb.trans (HBQ.out.mono HMS.out.hb.size)) hg6 (by have := HBQ.out.size; have := HMS.out.hb.size; omega) (fun q hq => (HO5.out.lt q hq).1))
              have HO6 := Lib.hid (ho6.alloc (.cells #[.int .i64 x] 3)); clear ho6 hg6
              have HB7 := Lib.hid (HB6.out.alloc HB6.out.size (.cells #[.int .i64 x] 3))
              go_wp2_with (at_builtin; refine wpList_append_own _ rfl _ _ 35 rfl w.heap.size 3 i0 (.int .i64 0) 1 8 Try.underlying35 HI.out.1 HI.out.2.1 HI.out.2.2.1 HI.out.2.2.2 rfl (by decide) (.slice T (mm - 1) ct) (mm - 1) (intC (t.eraseIdx j)) rfl HO6.out ⟨w6.heap.size, 0, none⟩ 1 1 [.int .i64 x] rfl rfl ?c1 ?c2 ?c3 ?c4 ?c5 ?_)
              case c1 =>
                intro j u hj
                match j, hj with
                | 0, hj => simp at hj; subst hj; simp [Addr.add]
              case c2 => first | rfl | (intro u hu; simp at hu; subst hu; rfl)
              case c3 => unfold maxLen; omega
              case c4 => omega
              case c5 => have := HB7.out.size; simpa using this
              · intro v' w7 hown' hgrow _
                obtain ⟨T', ct', rfl, hms'⟩ := MsAt.append (w := w) HB7.out HO6.out hown' hgrow HTL.out
                have HMS7 := Lib.hid hms'; clear hms' hown' hgrow
                go_wp2_with fail
                go_roundw
                case rel => exact ⟨k + 1, mm - 1 + 1, T', ct', by omega, by go_num, by rw [HSE.out]; rfl, rfl, by rw [HSE.out]; exact HMS7.out⟩
                case measure => simp [intOf]; omega
            · have HSE := Lib.hid (show missS (oldCh l) M l (k + 1) = (t ++ [x], mc + 1) by rw [HSK.out, if_neg (by rw [← HMS.out.len]; exact hf)])
              have qf : ((mm : Int) == (M : Int)) = false := by simp; omega
              clear hf
              have HO6 := Lib.hid (HMS.out.own.alloc (.cells #[.int .i64 x] 3))
              have HB7 := Lib.hid (HMS.out.hb.alloc HMS.out.hb.size (.cells #[.int .i64 x] 3))
              go_wp2_with (at_builtin; refine wpList_append_own _ rfl _ _ 35 rfl w.heap.size 3 i0 (.int .i64 0) 1 8 Try.underlying35 HI.out.1 HI.out.2.1 HI.out.2.2.1 HI.out.2.2.2 rfl (by decide) (.slice T mm ct) mm (intC t) rfl HO6.out ⟨wr.heap.size, 0, none⟩ 1 1 [.int .i64 x] rfl rfl ?c1 ?c2 ?c3 ?c4 ?c5 ?_)
              case c1 =>
                intro j u hj
                match j, hj with
                | 0, hj => simp at hj; subst hj; simp [Addr.add]
              case c2 => first | rfl | (intro u hu; simp at hu; subst hu; rfl)
              case c3 => unfold maxLen; omega
              case c4 => omega
              case c5 => have := HB7.out.size; simpa using this
              · intro v' w7 hown' hgrow _
                obtain ⟨T', ct', rfl, hms'⟩ := MsAt.append (w := w) HB7.out HO6.out hown' hgrow HMS.out.len.symm
                have HMS7 := Lib.hid hms'; clear hms' hown' hgrow
                go_wp2_with fail
                go_roundw
                case rel => exact ⟨k + 1, mm + 1, T', ct', by omega, by go_num, by rw [HSE.out]; rfl, rfl, by rw [HSE.out]; exact HMS7.out⟩
                case measure => simp [intOf]; omega
          · rw [hcx] at HCO
            have HSK := Lib.hid (HST.out hcx)
            clear hcx
            go_wp2_with fail
            refine (HCO.out).mono ?_
            rintro e w4 ⟨rfl, hw4⟩
            obtain rfl := hw4.symm
            go_wp2_with fail
            go_roundw
            case rel => exact ⟨k + 1, mm, T, ct, by omega, by go_num, by rw [HSK.out], rfl, by rw [HSK.out]; exact HMS.out⟩
            case measure => simp [intOf]; omega
        · obtain rfl : k = n := by omega
          have HE := Lib.hid (show (missS (oldCh l) M l k).2 = missI oldCh M l by unfold missI; rw [HN.out])
          generalize (missS (oldCh l) M l k).2 = z at *
          go_wp2_with fail
          go_ret
          exact ⟨by rw [← HE.out]; rfl, HMS.out.hb⟩

set_option maxRecDepth 100000 in
set_option maxHeartbeats 1000000 in
theorem iOld_any (m : Int) (A : Option Addr) (n c : Nat) (l : List Int) (w : World) (hr : RowAt w w.heap.size A (intC l)) (hn : n = l.length) (hs : n ≤ 1048576) (hnc : n ≤ c) :
    Calls Try.prog 24 #[.int .i64 m, .slice A n c] w fun e w' => e = .returned (.int .i64 (missR oldCh m l)) ∧ Below w.heap.size w w' := by
  have HB0 := Lib.hid ((Below.refl w.heap.size w).alloc (Nat.le_refl _) (.cells #[.slice A n c] 35))
  have HB := Lib.hid (iByOld_any m A n c w.heap.size l (w.alloc (.cells #[.slice A n c] 35)) (by simp) ((hr.below HB0.out).mono (by simp)) hn hs hnc)
  clear hr hn
  generalize missR oldCh m l = z at *
  go_enter Try.func24, Try.ntmps24
  go_wp2_with fail
  refine (HB.out).mono ?_
  rintro e w2 ⟨rfl, hb2⟩
  have HB2 := Lib.hid (HB0.out.trans (hb2.mono HB0.out.size)); clear hb2
  go_wp2_with fail
  go_ret
  exact ⟨rfl, HB2.out⟩

set_option maxRecDepth 100000 in
set_option maxHeartbeats 8000000 in
theorem iByBest_any (m : Int) (A : Option Addr) (n c g : Nat) (l : List Int) (w : World) (hg : w.cell? ⟨g, 0, none⟩ = some (.slice A n c)) (hr : RowAt w w.heap.size A (intC l)) (hn : n = l.length) (hs : n ≤ 1048576) (hnc : n ≤ c) :
    Calls Try.prog 66 #[.int .i64 m, .slice A n c, .func (.func 69) #[] #[.pointer (some ⟨g, 0, none⟩)]] w fun e w' => e = .returned (.int .i64 (missR bestCh m l)) ∧ Below w.heap.size w w' := by
  have HC := Lib.hid (isCount_any m w)
  have HT := Lib.hid (iTrace_any A n c l w hr hn hs)
  cases hc : countB m
  · rw [hc] at HC
    have HF := Lib.hid (show missR bestCh m l = -1 by unfold missR; rw [hc]; rfl)
    rw [HF.out]
    clear hc hr hn hg
    go_enter Try.func66, Try.ntmps66
    go_wp2_with fail
    refine (HC.out).mono ?_
    rintro e w2 ⟨rfl, hw2⟩
    obtain rfl := hw2.symm
    go_wp2_with fail
    go_ret
    exact ⟨rfl, Below.refl _ _⟩
  · rw [hc] at HC
    cases ht : traceB l
    · rw [ht] at HT
      have HF := Lib.hid (show missR bestCh m l = -1 by unfold missR; rw [ht]; simp)
      rw [HF.out]
      clear hc hr hn hg ht
      go_enter Try.func66, Try.ntmps66
      go_wp2_with fail
      refine (HC.out).mono ?_
      rintro e w2 ⟨rfl, hw2⟩
      obtain rfl := hw2.symm
      go_wp2_with fail
      refine (HT.out).mono ?_
      rintro e w3 ⟨rfl, hw3⟩
      obtain rfl := hw3.symm
      go_wp2_with fail
      go_ret
      exact ⟨rfl, Below.refl _ _⟩
    · rw [ht] at HT
      have HF0 := Lib.hid (show missR bestCh m l = (missI bestCh m.toNat l : Int) by unfold missR; rw [hc, ht]; rfl)
      obtain ⟨h1, h5⟩ : 1 ≤ m ∧ m ≤ 5 := by
        unfold countB at hc
        simpa only [Bool.and_eq_true, decide_eq_true_eq] using hc
      have hn30 : n ≤ 30 := by
        unfold traceB at ht
        simp only [Bool.and_eq_true, decide_eq_true_eq] at ht
        rw [hn]; exact ht.1
      obtain ⟨M, rfl⟩ := Int.eq_ofNat_of_zero_le (show 0 ≤ m by omega)
      rw [HF0.out, Int.toNat_natCast]
      clear HF0 hc ht
      obtain ⟨i0, hi0, hz0, hz1, hz2⟩ := info_parts intInfo
      have HI := Lib.hid (And.intro hi0 (And.intro hz0 (And.intro hz1 hz2))); clear hi0 hz0 hz1 hz2
      have HG := Lib.hid hg; clear hg
      have HR := Lib.hid hr; clear hr
      have HN := Lib.hid hn; clear hn
      have hM1 : 1 ≤ M := by omega
      have hM5 : M ≤ 5 := by omega
      have HLN := Lib.hid (fun k => missS_len (bestCh l) M l hM1 (bestIn l) k)
      go_enter Try.func66, Try.ntmps66
      go_wp2_with fail
      refine (HC.out).mono ?_
      rintro e w2 ⟨rfl, hw2⟩
      obtain rfl := hw2.symm
      go_wp2_with fail
      refine (HT.out).mono ?_
      rintro e w3 ⟨rfl, hw3⟩
      obtain rfl := hw3.symm
      go_wp2_with fail
      go_loopw [7, 8, 22] (fun tv mv i wr => ∃ (k mm : Nat) (T : Option Addr) (ct : Nat), k ≤ n ∧ i = .int .i64 k ∧ mv = .int .i64 ((missS (bestCh l) M l k).2 : Int) ∧ tv = .slice T mm ct ∧ MsAt w (missS (bestCh l) M l k).1 T mm ct wr) (fun _ _ i _ => n - (intOf i).toNat)
      case atStart => exact ⟨0, 0, none, 0, by omega, rfl, rfl, rfl, rfl, World.ownsRow_nil _ _ _ _, Below.refl _ _⟩
      case round =>
        obtain ⟨k, mm, T, ct, hk, rfl, rfl, rfl, hms⟩ := hrel
        have HMS := Lib.hid hms; clear hms
        obtain ⟨hl1, hl2, hl3⟩ := HLN.out k
        have hmm : mm ≤ M := by rw [HMS.out.len]; exact hl1
        by_cases hlt : k < n
        · have hkl : k < l.length := by have := HN.out; omega
          obtain ⟨b, off, rfl, hbw, e0⟩ := ints_at (HR.out.below HMS.out.hb) hkl
          have hget : l.getD k 0 = l[k] := getD_int hkl
          have HST := Lib.hid (fun (h : (missS (bestCh l) M l k).1.contains l[k] = true) => (missS_hit (ch := bestCh l) (n := M) (l := l) (k := k) (by rw [hget]; exact h)))
          have HSM := Lib.hid (fun (h : (missS (bestCh l) M l k).1.contains l[k] = false) => (missS_miss (ch := bestCh l) (n := M) (l := l) (k := k) (by rw [hget]; exact h)))
          rw [hget] at HSM
          clear hget
          have HCO := Lib.hid (contains_any T mm ct (missS (bestCh l) M l k).1 l[k] wr (RowAt.of_own HMS.out.own) HMS.out.len (by omega))
          have HCH := Lib.hid (iBestCh_any T mm ct (missS (bestCh l) M l k).1 g (some ⟨b, off, none⟩) n c l k wr (RowAt.of_own HMS.out.own) HMS.out.len (by omega) (below_cellOf HMS.out.hb HG.out) ((HR.out.below HMS.out.hb).mono HMS.out.hb.size) HN.out hs hnc hlt)
          have HIN := Lib.hid (bestIn l k (missS (bestCh l) M l k).1)
          generalize hS : missS (bestCh l) M l k = S at *
          obtain ⟨t, mc⟩ := S
          simp only at HMS HCO HCH HIN HST HSM hl1 hl2 hl3
          clear hS
          generalize l[k] = x at *
          have i0' : (0 : Int) ≤ (k : Int) := by omega
          have i1' : (k : Int) < (n : Int) := by omega
          cases hcx : t.contains x
          · rw [hcx] at HCO
            have HSK := Lib.hid (HSM.out hcx)
            clear hcx
            go_wp2_with fail
            refine (HCO.out).mono ?_
            rintro e w4 ⟨rfl, hw4⟩
            obtain rfl := hw4.symm
            by_cases hf : mm = M
            · have hne : t ≠ [] := by intro e; have := HMS.out.len; rw [e] at this; simp at this; omega
              have hj := HIN.out hne
              generalize bestCh l k t = j at *
              have HSE := Lib.hid (show missS (bestCh l) M l (k + 1) = (t.eraseIdx j ++ [x], mc + 1) by rw [HSK.out, if_pos (by rw [← HMS.out.len]; exact hf)])
              have HTL := Lib.hid (show (t.eraseIdx j).length = mm - 1 by rw [List.length_eraseIdx, if_pos hj, HMS.out.len])
              have qf : ((mm : Int) == (M : Int)) = true := by simp; omega
              have hjm : j < mm := by rw [HMS.out.len]; exact hj
              clear hf hne
              go_wp2_with fail
              refine (HCH.out).mono ?_
              rintro e w5 ⟨rfl, q, hq⟩
              have HBQ := Lib.hid (show Below wr.heap.size wr w5 by rw [hq]; exact below_drewN _ _)
              have HO5 := Lib.hid (HMS.out.own.kept (grown_of_below (row := none) HBQ.out) (by cases T <;> simp [Value.ownBlock]))
              clear hq
              go_wp2_with fail
              refine (delete_any w.heap.size mm ct j t T w5 HO5.out HMS.out.len hjm).mono ?_
              rintro e w6 ⟨rfl, ho6, hg6⟩
              have HB6 := Lib.hid (Below.grown (HMS.out.hb.trans (HBQ.out.mono HMS.out.hb.size)) hg6 (by have := HBQ.out.size; have := HMS.out.hb.size; omega) (fun q hq => (HO5.out.lt q hq).1))
              have HO6 := Lib.hid (ho6.alloc (.cells #[.int .i64 x] 3)); clear ho6 hg6
              have HB7 := Lib.hid (HB6.out.alloc HB6.out.size (.cells #[.int .i64 x] 3))
              go_wp2_with (at_builtin; refine wpList_append_own _ rfl _ _ 35 rfl w.heap.size 3 i0 (.int .i64 0) 1 8 Try.underlying35 HI.out.1 HI.out.2.1 HI.out.2.2.1 HI.out.2.2.2 rfl (by decide) (.slice T (mm - 1) ct) (mm - 1) (intC (t.eraseIdx j)) rfl HO6.out ⟨w6.heap.size, 0, none⟩ 1 1 [.int .i64 x] rfl rfl ?c1 ?c2 ?c3 ?c4 ?c5 ?_)
              case c1 =>
                intro j u hj
                match j, hj with
                | 0, hj => simp at hj; subst hj; simp [Addr.add]
              case c2 => first | rfl | (intro u hu; simp at hu; subst hu; rfl)
              case c3 => unfold maxLen; omega
              case c4 => omega
              case c5 => have := HB7.out.size; simpa using this
              · intro v' w7 hown' hgrow _
                obtain ⟨T', ct', rfl, hms'⟩ := MsAt.append (w := w) HB7.out HO6.out hown' hgrow HTL.out
                have HMS7 := Lib.hid hms'; clear hms' hown' hgrow
                go_wp2_with fail
                go_roundw
                case rel => exact ⟨k + 1, mm - 1 + 1, T', ct', by omega, by go_num, by rw [HSE.out]; rfl, rfl, by rw [HSE.out]; exact HMS7.out⟩
                case measure => simp [intOf]; omega
            · have HSE := Lib.hid (show missS (bestCh l) M l (k + 1) = (t ++ [x], mc + 1) by rw [HSK.out, if_neg (by rw [← HMS.out.len]; exact hf)])
              have qf : ((mm : Int) == (M : Int)) = false := by simp; omega
              clear hf
              have HO6 := Lib.hid (HMS.out.own.alloc (.cells #[.int .i64 x] 3))
              have HB7 := Lib.hid (HMS.out.hb.alloc HMS.out.hb.size (.cells #[.int .i64 x] 3))
              go_wp2_with (at_builtin; refine wpList_append_own _ rfl _ _ 35 rfl w.heap.size 3 i0 (.int .i64 0) 1 8 Try.underlying35 HI.out.1 HI.out.2.1 HI.out.2.2.1 HI.out.2.2.2 rfl (by decide) (.slice T mm ct) mm (intC t) rfl HO6.out ⟨wr.heap.size, 0, none⟩ 1 1 [.int .i64 x] rfl rfl ?c1 ?c2 ?c3 ?c4 ?c5 ?_)
              case c1 =>
                intro j u hj
                match j, hj with
                | 0, hj => simp at hj; subst hj; simp [Addr.add]
              case c2 => first | rfl | (intro u hu; simp at hu; subst hu; rfl)
              case c3 => unfold maxLen; omega
              case c4 => omega
              case c5 => have := HB7.out.size; simpa using this
              · intro v' w7 hown' hgrow _
                obtain ⟨T', ct', rfl, hms'⟩ := MsAt.append (w := w) HB7.out HO6.out hown' hgrow HMS.out.len.symm
                have HMS7 := Lib.hid hms'; clear hms' hown' hgrow
                go_wp2_with fail
                go_roundw
                case rel => exact ⟨k + 1, mm + 1, T', ct', by omega, by go_num, by rw [HSE.out]; rfl, rfl, by rw [HSE.out]; exact HMS7.out⟩
                case measure => simp [intOf]; omega
          · rw [hcx] at HCO
            have HSK := Lib.hid (HST.out hcx)
            clear hcx
            go_wp2_with fail
            refine (HCO.out).mono ?_
            rintro e w4 ⟨rfl, hw4⟩
            obtain rfl := hw4.symm
            go_wp2_with fail
            go_roundw
            case rel => exact ⟨k + 1, mm, T, ct, by omega, by go_num, by rw [HSK.out], rfl, by rw [HSK.out]; exact HMS.out⟩
            case measure => simp [intOf]; omega
        · obtain rfl : k = n := by omega
          have HE := Lib.hid (show (missS (bestCh l) M l k).2 = missI bestCh M l by unfold missI; rw [HN.out])
          generalize (missS (bestCh l) M l k).2 = z at *
          go_wp2_with fail
          go_ret
          exact ⟨by rw [← HE.out]; rfl, HMS.out.hb⟩

set_option maxRecDepth 100000 in
set_option maxHeartbeats 1000000 in
theorem iBest_any (m : Int) (A : Option Addr) (n c : Nat) (l : List Int) (w : World) (hr : RowAt w w.heap.size A (intC l)) (hn : n = l.length) (hs : n ≤ 1048576) (hnc : n ≤ c) :
    Calls Try.prog 27 #[.int .i64 m, .slice A n c] w fun e w' => e = .returned (.int .i64 (missR bestCh m l)) ∧ Below w.heap.size w w' := by
  have HB0 := Lib.hid ((Below.refl w.heap.size w).alloc (Nat.le_refl _) (.cells #[.slice A n c] 35))
  have HB := Lib.hid (iByBest_any m A n c w.heap.size l (w.alloc (.cells #[.slice A n c] 35)) (by simp) ((hr.below HB0.out).mono (by simp)) hn hs hnc)
  clear hr hn
  generalize missR bestCh m l = z at *
  go_enter Try.func27, Try.ntmps27
  go_wp2_with fail
  refine (HB.out).mono ?_
  rintro e w2 ⟨rfl, hb2⟩
  have HB2 := Lib.hid (HB0.out.trans (hb2.mono HB0.out.size)); clear hb2
  go_wp2_with fail
  go_ret
  exact ⟨rfl, HB2.out⟩

end Go.Proofs.Ytompbkphdjjpdaa
