/- Contract of viewsBy of the program (chapter 8). Conditions: the acts lie in a row, as do the places; the places are those of acts. -/
import Derived.Test.YtdpehojcoohjcabRowI
import Derived.StillTailTactics
import Derived.Deep.QuietTactic
set_option linter.unusedVariables false
set_option linter.unusedSimpArgs false
namespace Go.Proofs.Ytdpehojcoohjcab
open Go.RowKit Go.ChangeShapes Go.WideShapes

/-- the room for what is read, k of the last ones being written -/
def seenI (k : Nat) : List Int := List.replicate 10 0 ++ (List.replicate k (-1) ++ List.replicate (3 - k) 0)
theorem seenI_len (k : Nat) (h : k ≤ 3) : (seenI k).length = 13 := by simp [seenI]; omega
theorem seenI_succ (k : Nat) (h : k < 3) : (seenI k).set (10 + k) (-1) = seenI (k + 1) := by
  match k, h with
  | 0, _ => rfl
  | 1, _ => rfl
  | 2, _ => rfl
theorem viewRow_snoc (l : List AcT) : ∀ (Q : List Nat) (V last : List Int) (q : Nat), viewRow l V last (Q ++ [q]) = (viewRow l V last Q).set q (readV (lastR last (actsAt l Q)) (l.getD q (0, 0, false)))
  | [], V, last, q => rfl
  | a :: Q, V, last, q => by
    show viewRow l (V.set a (readV last (l.getD a (0, 0, false)))) (stepW last (l.getD a (0, 0, false))) (Q ++ [q]) = _
    rw [viewRow_snoc l Q]; rfl
theorem viewsF_len (l : List AcT) (Q : List Nat) : (viewsF l Q).length = 13 := by
  unfold viewsF; rw [viewV_eq, List.length_append, viewRow_len, lastR_len]; simp [last0]
/-- one place more -/
theorem viewsF_snoc {l : List AcT} {Q : List Nat} {q : Nat} (hq : q < l.length) (h10 : q < 10) {t : Nat} (ht : t < 3) (h : l[q].2.1 = (t : Int)) :
    viewsF l (Q ++ [q]) = if l[q].2.2 then ((viewsF l Q).set q (-2)).set (10 + t) l[q].1 else (viewsF l Q).set q ((viewsF l Q).getD (10 + t) 0) := by
  have hg : l.getD q (0, 0, false) = l[q] := by simp [List.getD_eq_getElem?_getD, hq]
  have hV : (viewRow l (List.replicate 10 0) last0 Q).length = 10 := by rw [viewRow_len]; simp
  have hl : (lastR last0 (actsAt l Q)).length = 3 := by rw [lastR_len]; rfl
  have ha : actsAt l (Q ++ [q]) = actsAt l Q ++ [l[q]] := by simp [actsAt, hq]
  unfold viewsF
  rw [viewV_eq, viewV_eq, viewRow_snoc, ha, lastR_snoc, hg]
  generalize viewRow l (List.replicate 10 0) last0 Q = V at *
  generalize lastR last0 (actsAt l Q) = la at *
  unfold readV stepW
  rw [h]
  cases l[q].2.2
  · simp only [Bool.false_eq_true, if_false]
    rw [List.set_append_left _ _ (by omega)]
    congr 2
    rw [List.getD_eq_getElem?_getD, List.getD_eq_getElem?_getD, List.getElem?_append_right (by omega), hV]
    simp
  · simp only [if_true]
    rw [List.set_append_left _ _ (by omega), List.set_append_right _ _ (by rw [List.length_set]; omega), List.length_set, hV]
    simp

set_option maxRecDepth 100000 in
set_option maxHeartbeats 8000000 in
theorem iViews_any (A1 A2 : Option Addr) (n c m c2 : Nat) (l : List Ac) (P : List Nat) (w : World) (hr : RowAt w w.heap.size A1 (acsC l)) (hn : n = l.length) (hs : n ≤ 10) (hok : ∀ x ∈ l, okAc x = true)
    (hr2 : RowAt w w.heap.size A2 (intC (natI P))) (hm : m = P.length) (hs2 : m ≤ 1048576) (hP : ∀ q ∈ P, q < l.length) :
    Calls Try.prog 40 #[.slice A1 n c, .slice A2 m c2] w fun e w' => e = .returned (.agg (intC (viewsF l P)).toArray) ∧ Below w.heap.size w w' := by
  have HR := Lib.hid hr; clear hr
  have HN := Lib.hid hn; clear hn
  have HR2 := Lib.hid hr2; clear hr2
  have HM := Lib.hid hm; clear hm
  have HOK := Lib.hid hok; clear hok
  have HP := Lib.hid hP; clear hP
  have HS0 := Lib.hid (show RI 56 w.heap.size w.heap.size [0, 0, 0, 0, 0, 0, 0, 0, 0, 0, 0, 0, 0] (w.alloc (.cells #[.int .i64 0, .int .i64 0, .int .i64 0, .int .i64 0, .int .i64 0, .int .i64 0, .int .i64 0, .int .i64 0, .int .i64 0, .int .i64 0, .int .i64 0, .int .i64 0, .int .i64 0] 56)) from RI.new w [0, 0, 0, 0, 0, 0, 0, 0, 0, 0, 0, 0, 0] (by simp [maxLen]))
  have HS1 := Lib.hid (HS0.out.keep ((Below.refl _ _).alloc (Nat.le_refl _) (.cells #[.int .i64 0, .int .i64 0, .int .i64 0, .int .i64 0, .int .i64 0, .int .i64 0, .int .i64 0, .int .i64 0, .int .i64 0, .int .i64 0, .int .i64 0, .int .i64 0, .int .i64 0] 56)))
  have HS2 := Lib.hid (show RI 56 (w.heap.size + 1) (w.heap.size + 1) (seenI 0) ((w.alloc (.cells #[.int .i64 0, .int .i64 0, .int .i64 0, .int .i64 0, .int .i64 0, .int .i64 0, .int .i64 0, .int .i64 0, .int .i64 0, .int .i64 0, .int .i64 0, .int .i64 0, .int .i64 0] 56)).alloc (.cells #[.int .i64 0, .int .i64 0, .int .i64 0, .int .i64 0, .int .i64 0, .int .i64 0, .int .i64 0, .int .i64 0, .int .i64 0, .int .i64 0, .int .i64 0, .int .i64 0, .int .i64 0] 56)) from by
    have := RI.new (e := 56) (w.alloc (.cells #[.int .i64 0, .int .i64 0, .int .i64 0, .int .i64 0, .int .i64 0, .int .i64 0, .int .i64 0, .int .i64 0, .int .i64 0, .int .i64 0, .int .i64 0, .int .i64 0, .int .i64 0] 56)) (seenI 0) (by simp [maxLen, seenI])
    rw [show (w.alloc (.cells #[.int .i64 0, .int .i64 0, .int .i64 0, .int .i64 0, .int .i64 0, .int .i64 0, .int .i64 0, .int .i64 0, .int .i64 0, .int .i64 0, .int .i64 0, .int .i64 0, .int .i64 0] 56)).heap.size = w.heap.size + 1 by simp] at this
    exact this)
  have HB0 := Lib.hid (((Below.refl w.heap.size w).alloc (Nat.le_refl _) (.cells #[.int .i64 0, .int .i64 0, .int .i64 0, .int .i64 0, .int .i64 0, .int .i64 0, .int .i64 0, .int .i64 0, .int .i64 0, .int .i64 0, .int .i64 0, .int .i64 0, .int .i64 0] 56)).alloc (by simp) (.cells #[.int .i64 0, .int .i64 0, .int .i64 0, .int .i64 0, .int .i64 0, .int .i64 0, .int .i64 0, .int .i64 0, .int .i64 0, .int .i64 0, .int .i64 0, .int .i64 0, .int .i64 0] 56))
  go_enter Try.func40, Try.ntmps40
  go_wp2_with fail
  go_loopw [12] (fun i wr => ∃ (k : Nat), i = .int .i64 k ∧ k ≤ 3 ∧ RI 56 (w.heap.size + 1) (w.heap.size + 1) (seenI k) wr ∧ RI 56 w.heap.size w.heap.size [0, 0, 0, 0, 0, 0, 0, 0, 0, 0, 0, 0, 0] wr ∧ Below w.heap.size w wr) (fun i _ => 3 - (intOf i).toNat)
  case atStart => exact ⟨0, rfl, by omega, HS2.out, HS1.out, HB0.out⟩
  case round =>
    clear HS0 HS1 HS2 HB0
    obtain ⟨k, rfl, hk, hRI, hR0, hb⟩ := hrel
    have HRI := Lib.hid hRI; clear hRI
    have HR0 := Lib.hid hR0; clear hR0
    have HB := Lib.hid hb; clear hb
    by_cases hlt : k < 3
    · have hi1 : (k : Int) < 3 := by omega
      have hi2 : (0 : Int) ≤ (k : Int) := by omega
      obtain ⟨c0, z0⟩ := HRI.out.cell (k := 10 + k) (by rw [seenI_len k (by omega)]; omega)
      have HPUT := Lib.hid (show RI 56 (w.heap.size + 1) (w.heap.size + 1) (seenI (k + 1)) (wr.setCell ⟨w.heap.size + 1, 10 + k, none⟩ (.int .i64 (-1))) by
        rw [← seenI_succ k hlt]; exact HRI.out.put _ _)
      have HR0P := Lib.hid (fun v => (HR0.out.kept (grown_setCell (w := wr) (r := w.heap.size + 1) (o := 10 + k) v) (by simp [Value.ownBlock]) : RI 56 w.heap.size w.heap.size [0, 0, 0, 0, 0, 0, 0, 0, 0, 0, 0, 0, 0] _))
      have hbi : w.heap.size + 1 < wr.heap.size := HRI.out.ge.2
      go_wp2_with fail
      go_roundw
      case rel => exact ⟨k + 1, by go_num, by omega, HPUT.out, HR0P.out _, HB.out.setCell (p := ⟨w.heap.size + 1, 10 + k, none⟩) (by simp) _⟩
      case measure => simp [intOf]; omega
    · obtain rfl : k = 3 := by omega
      have HRI2 := Lib.hid (show RI 56 (w.heap.size + 1) (w.heap.size + 1) (viewsF l (P.take 0)) wr from HRI.out)
      clear HRI
      go_wp2_with fail
      go_loopw [21] (fun i wr => ∃ (k : Nat), i = .int .i64 k ∧ k ≤ m ∧ RI 56 (w.heap.size + 1) (w.heap.size + 1) (viewsF l (P.take k)) wr ∧ RI 56 w.heap.size w.heap.size [0, 0, 0, 0, 0, 0, 0, 0, 0, 0, 0, 0, 0] wr ∧ Below w.heap.size w wr) (fun i _ => m - (intOf i).toNat)
      case atStart => exact ⟨0, rfl, by omega, HRI2.out, HR0.out, HB.out⟩
      case round =>
        clear HRI2 HR0 HB
        obtain ⟨k, rfl, hk, hRI, hR0, hb⟩ := hrel
        have HRI := Lib.hid hRI; clear hRI
        have HR0 := Lib.hid hR0; clear hR0
        have HB := Lib.hid hb; clear hb
        rename World => wx
        by_cases hlt : k < m
        · have hkP : k < P.length := by have := HM.out; omega
          obtain ⟨b2, off2, hA2, hb2w, p0⟩ := ints_at (l := natI P) (HR2.out.below HB.out) (k := k) (by rw [natI_len]; exact hkP)
          subst hA2
          have hpk : P[k] < l.length := HP.out _ (List.getElem_mem hkP)
          have HPK := Lib.hid (show (natI P)[k]'(by rw [natI_len]; exact hkP) = ((P[k] : Nat) : Int) by simp [natI])
          rw [HPK.out] at p0
          clear HPK
          have HTK := Lib.hid (show P.take (k + 1) = P.take k ++ [P[k]] from List.take_succ_eq_append_getElem hkP)
          obtain ⟨q, hpke⟩ : ∃ x, P[k] = x := ⟨_, rfl⟩
          rw [hpke] at p0 hpk HTK
          clear hpke
          obtain ⟨b, off, hA, hbw, e0, e1, e2⟩ := acs_at (HR.out.below HB.out) hpk
          subst hA
          obtain ⟨t, ht3, ht⟩ := okAc_th (HOK.out _ (List.getElem_mem hpk))
          have hq10 : q < 10 := by have := HN.out; omega
          have HSN := Lib.hid (viewsF_snoc (Q := P.take k) hpk hq10 ht3 ht)
          rw [← HTK.out] at HSN
          rw [ht] at e1
          have HLN := Lib.hid (viewsF_len l (P.take k))
          clear ht HTK
          generalize l[q].1 = x0 at *
          generalize l[q].2.2 = x2 at *
          generalize viewsF l (P.take k) = L at *
          obtain ⟨c0, z0⟩ := HRI.out.cell (k := q) (by rw [HLN.out]; omega)
          obtain ⟨c1, z1⟩ := HRI.out.cell (k := 10 + t) (by rw [HLN.out]; omega)
          have hbi : w.heap.size + 1 < wx.heap.size := HRI.out.ge.2
          have hbs : b < wx.heap.size := Nat.lt_of_lt_of_le hbw HB.out.size
          have hi0 : (k : Int) < (m : Int) := by omega
          have hi1 : (q : Int) < (n : Int) := by have := HN.out; omega
          have hi2 : (q : Int) < 13 := by omega
          have hi3 : (0 : Int) ≤ (q : Int) := by omega
          have hi4 : (t : Int) < 3 := by omega
          have hi5 : (0 : Int) ≤ (t : Int) := by omega
          have HR0P := Lib.hid (fun W (h : RI 56 w.heap.size w.heap.size [0, 0, 0, 0, 0, 0, 0, 0, 0, 0, 0, 0, 0] W) o v => (h.kept (grown_setCell (w := W) (r := w.heap.size + 1) (o := o) v) (by simp [Value.ownBlock]) : RI 56 w.heap.size w.heap.size [0, 0, 0, 0, 0, 0, 0, 0, 0, 0, 0, 0, 0] _))
          generalize L.getD (10 + t) 0 = y at *
          cases x2
          · have HE := Lib.hid (show viewsF l (P.take (k + 1)) = L.set q y from HSN.out)
            have HB1 := Lib.hid (HB.out.setCell (p := ⟨w.heap.size + 1, q, none⟩) (by simp) (.int .i64 y))
            go_wp2_with fail
            go_roundw
            case rel => exact ⟨k + 1, by go_num, by omega, by rw [HE.out]; exact (HRI.out.put q _).keep ((Below.refl _ _).alloc (Nat.le_refl _) _), RI.keep (HR0P.out _ HR0.out _ _) ((Below.refl _ _).alloc (Nat.le_refl _) _), HB1.out.alloc HB1.out.size _⟩
            case measure => simp [intOf]; omega
          · have HE := Lib.hid (show viewsF l (P.take (k + 1)) = (L.set q (-2)).set (10 + t) x0 from HSN.out)
            have HB2 := Lib.hid ((HB.out.setCell (p := ⟨w.heap.size + 1, q, none⟩) (by simp) (.int .i64 (-2))).setCell (p := ⟨w.heap.size + 1, 10 + t, none⟩) (by simp) (.int .i64 x0))
            go_wp2_with fail
            go_roundw
            case rel => exact ⟨k + 1, by go_num, by omega, by rw [HE.out]; exact ((HRI.out.put q _).put (10 + t) _).keep ((Below.refl _ _).alloc (Nat.le_refl _) _), RI.keep (HR0P.out _ (HR0P.out _ HR0.out _ _) _ _) ((Below.refl _ _).alloc (Nat.le_refl _) _), HB2.out.alloc HB2.out.size _⟩
            case measure => simp [intOf]; omega
        · obtain rfl : k = m := by omega
          have HX := Lib.hid (show viewsF l (P.take k) = viewsF l P by rw [HM.out, List.take_length])
          rw [HX.out] at HRI
          have hLN := viewsF_len l P
          obtain ⟨L, hL⟩ : ∃ L, viewsF l P = L := ⟨_, rfl⟩
          rw [hL] at HRI hLN
          have HLQ := Lib.hid hL
          clear hL HX
          obtain ⟨s0, s1, s2, s3, s4, s5, s6, s7, s8, s9, s10, s11, s12, rfl⟩ : ∃ s0 s1 s2 s3 s4 s5 s6 s7 s8 s9 s10 s11 s12, L = [s0, s1, s2, s3, s4, s5, s6, s7, s8, s9, s10, s11, s12] := by
            match L, hLN with
            | [s0, s1, s2, s3, s4, s5, s6, s7, s8, s9, s10, s11, s12], _ => exact ⟨s0, s1, s2, s3, s4, s5, s6, s7, s8, s9, s10, s11, s12, rfl⟩
          have k0 := (HRI.out.cell (k := 0) (by simp)).1
          have k1 := (HRI.out.cell (k := 1) (by simp)).1
          have k2 := (HRI.out.cell (k := 2) (by simp)).1
          have k3 := (HRI.out.cell (k := 3) (by simp)).1
          have k4 := (HRI.out.cell (k := 4) (by simp)).1
          have k5 := (HRI.out.cell (k := 5) (by simp)).1
          have k6 := (HRI.out.cell (k := 6) (by simp)).1
          have k7 := (HRI.out.cell (k := 7) (by simp)).1
          have k8 := (HRI.out.cell (k := 8) (by simp)).1
          have k9 := (HRI.out.cell (k := 9) (by simp)).1
          have k10 := (HRI.out.cell (k := 10) (by simp)).1
          have k11 := (HRI.out.cell (k := 11) (by simp)).1
          have k12 := (HRI.out.cell (k := 12) (by simp)).1
          obtain ⟨m0, z0⟩ := HR0.out.cell (k := 0) (by simp)
          obtain ⟨m1, z1⟩ := HR0.out.cell (k := 1) (by simp)
          obtain ⟨m2, z2⟩ := HR0.out.cell (k := 2) (by simp)
          obtain ⟨m3, z3⟩ := HR0.out.cell (k := 3) (by simp)
          obtain ⟨m4, z4⟩ := HR0.out.cell (k := 4) (by simp)
          obtain ⟨m5, z5⟩ := HR0.out.cell (k := 5) (by simp)
          obtain ⟨m6, z6⟩ := HR0.out.cell (k := 6) (by simp)
          obtain ⟨m7, z7⟩ := HR0.out.cell (k := 7) (by simp)
          obtain ⟨m8, z8⟩ := HR0.out.cell (k := 8) (by simp)
          obtain ⟨m9, z9⟩ := HR0.out.cell (k := 9) (by simp)
          obtain ⟨m10, z10⟩ := HR0.out.cell (k := 10) (by simp)
          obtain ⟨m11, z11⟩ := HR0.out.cell (k := 11) (by simp)
          obtain ⟨m12, z12⟩ := HR0.out.cell (k := 12) (by simp)
          simp at k0 k1 k2 k3 k4 k5 k6 k7 k8 k9 k10 k11 k12 m0 m1 m2 m3 m4 m5 m6 m7 m8 m9 m10 m11 m12
          have hsz : w.heap.size < wx.heap.size := HR0.out.ge.2
          have hsz1 : w.heap.size + 1 < wx.heap.size := HRI.out.ge.2
          have HBR := Lib.hid (fun v0 v1 v2 v3 v4 v5 v6 v7 v8 v9 v10 v11 v12 => (show Below w.heap.size w (((((((((((((wx.setCell ⟨w.heap.size, 0, none⟩ v0).setCell ⟨w.heap.size, 1, none⟩ v1).setCell ⟨w.heap.size, 2, none⟩ v2).setCell ⟨w.heap.size, 3, none⟩ v3).setCell ⟨w.heap.size, 4, none⟩ v4).setCell ⟨w.heap.size, 5, none⟩ v5).setCell ⟨w.heap.size, 6, none⟩ v6).setCell ⟨w.heap.size, 7, none⟩ v7).setCell ⟨w.heap.size, 8, none⟩ v8).setCell ⟨w.heap.size, 9, none⟩ v9).setCell ⟨w.heap.size, 10, none⟩ v10).setCell ⟨w.heap.size, 11, none⟩ v11).setCell ⟨w.heap.size, 12, none⟩ v12) from (((((((((((((HB.out.setCell (Nat.le_refl _) v0).setCell (Nat.le_refl _) v1).setCell (Nat.le_refl _) v2).setCell (Nat.le_refl _) v3).setCell (Nat.le_refl _) v4).setCell (Nat.le_refl _) v5).setCell (Nat.le_refl _) v6).setCell (Nat.le_refl _) v7).setCell (Nat.le_refl _) v8).setCell (Nat.le_refl _) v9).setCell (Nat.le_refl _) v10).setCell (Nat.le_refl _) v11).setCell (Nat.le_refl _) v12)))
          have HF4 := Lib.hid (show RI 56 w.heap.size w.heap.size [s0, s1, s2, s3, s4, s5, s6, s7, s8, s9, s10, s11, s12] _ from (((((((((((((HR0.out.put 0 s0).put 1 s1).put 2 s2).put 3 s3).put 4 s4).put 5 s5).put 6 s6).put 7 s7).put 8 s8).put 9 s9).put 10 s10).put 11 s11).put 12 s12))
          go_wp2_with fail
          refine bodyPost_ret (results_cell_row rfl _ _ w.heap.size 56 _ _ _ rfl HF4.out.block Try.underlying56 rfl (by kernel_rfl)) rfl ?_
          exact ⟨by rw [HLQ.out], HBR.out _ _ _ _ _ _ _ _ _ _ _ _ _⟩
end Go.Proofs.Ytdpehojcoohjcab
