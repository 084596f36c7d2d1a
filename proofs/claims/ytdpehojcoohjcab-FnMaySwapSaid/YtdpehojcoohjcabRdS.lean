/- Contracts of readsOf and ReadsOf of the model (chapter 8). Conditions: the acts lie in a row; they are valid, where it is asked. -/
import Derived.Test.YtdpehojcoohjcabRowI
import Derived.Test.YtdpehojcoohjcabOut
import Derived.Deep.AppendLies
import Derived.StillTailTactics
set_option linter.unusedVariables false
set_option linter.unusedSimpArgs false
namespace Go.Proofs.Ytdpehojcoohjcab
open Go.RowKit Go.ChangeShapes Go.WideShapes

theorem ri_news {e : TypeId} {B g : Nat} {L : List Int} {W : World} (h : RI e B g L W) {j : Nat} {u : Value} (hj : (intC L)[j]? = some u) : W.cell? ((⟨g, 0, none⟩ : Addr).add j) = some u := by
  have hl : j < L.length := by
    rcases Nat.lt_or_ge j L.length with h1 | h1
    · exact h1
    · rw [List.getElem?_eq_none (by rw [intC_len]; exact h1)] at hj; cases hj
  rw [add_zero_off, Nat.zero_add, (h.cell hl).1]
  rw [intC_at hl] at hj
  rw [← hj]; simp [List.getD_eq_getElem?_getD, hl]
theorem at_worldR {p : World → Prop} (W0 W : World) (B : Nat) (hb : Below B W0 W) (h : ∀ W', Below B W0 W' → p W') : p W := h W hb
def lastI (k : Nat) : List Int := List.replicate k (-1) ++ List.replicate (3 - k) 0
theorem lastI_len (k : Nat) (h : k ≤ 3) : (lastI k).length = 3 := by simp [lastI]; omega
theorem lastI_succ (k : Nat) (h : k < 3) : (lastI k).set k (-1) = lastI (k + 1) := by
  match k, h with
  | 0, _ => rfl
  | 1, _ => rfl
  | 2, _ => rfl
theorem intC_snoc (L : List Int) (x : Int) : intC (L ++ [x]) = intC L ++ [.int .i64 x] := by simp [intC]
theorem own_leR {w : World} {B B' n z : Nat} {e : TypeId} {v : Value} {xs : List Value} (h : w.ownsRow B e z v n xs) (hB : B' ≤ B) : w.ownsRow B' e z v n xs := by
  refine ⟨h.1, ?_⟩
  rcases h.2 with h | ⟨g, cap, cur, hv, hg, r⟩
  · exact .inl h
  · exact .inr ⟨g, cap, cur, hv, by omega, r⟩
theorem out_set {T : TypeId} {z : Nat} {w : World} {cs : List Value} {m : Nat} {A : Option Addr} {c : Nat} {W : World} (h : OutR T z w cs m A c W) {g o : Nat} (hne : ∀ q, blkOf A = some q → q ≠ g) (hg : w.heap.size ≤ g) (v : Value) : OutR T z w cs m A c (W.setCell ⟨g, o, none⟩ v) :=
  ⟨h.1.kept (grown_setCell (w := W) (r := g) (o := o) v) (by
    rw [blk_slice]
    cases hq : blkOf A with
    | none => exact .inl rfl
    | some q => exact .inr (fun e => hne q hq (by injection e))), h.2.setCell (p := ⟨g, o, none⟩) hg v⟩
theorem reads_step {l : List AcT} {k : Nat} (hk : k < l.length) {t : Nat} (h : l[k].2.1 = (t : Int)) :
    readsR last0 (l.take (k + 1)) = readsR last0 (l.take k) ++ [if l[k].2.2 then -2 else (lastR last0 (l.take k)).getD t 0] ∧
    lastR last0 (l.take (k + 1)) = if l[k].2.2 then (lastR last0 (l.take k)).set t l[k].1 else lastR last0 (l.take k) := by
  rw [List.take_succ_eq_append_getElem hk, readsR_snoc, lastR_snoc]
  unfold readV stepW
  rw [h]
  exact ⟨rfl, rfl⟩

set_option maxRecDepth 100000 in
set_option maxHeartbeats 8000000 in
theorem sReads_any (A : Option Addr) (n c : Nat) (l : List Ac) (w : World) (hr : RowAt w w.heap.size A (acsC l)) (hn : n = l.length) (hs : n ≤ 1048576) (hok : ∀ x ∈ l, okAc x = true) :
    Calls Try.prog 38 #[.slice A n c] w (IntsPost (readsL l) w) := by
  obtain ⟨i0, hi0, hz0, hz1, hz2⟩ := info_parts intInfo
  have hb2 : i0.bytes * 3 ≤ 281474976710656 := by rw [hz2]; omega
  have HI := Lib.hid (And.intro hi0 (And.intro hz0 (And.intro hz1 hz2))); clear hi0 hz0 hz1 hz2
  have HR := Lib.hid hr; clear hr
  have HN := Lib.hid hn; clear hn
  have HOK := Lib.hid hok; clear hok
  have HO0 := Lib.hid (OutR.empty 3 1 w)
  go_enter Try.func38, Try.ntmps38
  go_wp2_with ((refine wpList_make_full _ rfl _ _ 24 rfl (w.heap.size + 1) 3 i0 (.int .i64 0) 1 Try.underlying24 HI.out.1 HI.out.2.1 HI.out.2.2.1 .i64 .i64 _ _ 3 rfl rfl rfl rfl hb2 (by unfold maxLen; omega) (by simp) ?_
                intro w1 hown hg1))
  have HG1 := Lib.hid hg1
  have HZ0 := Lib.hid (show RI 3 (w.heap.size + 1) (w.heap.size + 1) (lastI 0) w1 from RI.made (by simpa using hown))
  have HO1 := Lib.hid (HO0.out.keep ((Below.refl _ _).grown hg1 (Nat.le_refl _) (by simp)))
  clear hown hg1 hb2 HO0
  go_loopw [5] (fun i wr => ∃ (k : Nat), i = .int .i64 k ∧ k ≤ 3 ∧ RI 3 (w.heap.size + 1) (w.heap.size + 1) (lastI k) wr ∧ OutR 3 1 w [] 0 (some ⟨w.heap.size, 0, none⟩) 0 wr) (fun i _ => 3 - (intOf i).toNat)
  case atStart => exact ⟨0, rfl, by omega, HZ0.out, HO1.out⟩
  case round =>
    clear HZ0 HO1 HG1
    obtain ⟨k, rfl, hk, hRI, hO⟩ := hrel
    have HRI := Lib.hid hRI; clear hRI
    have HO := Lib.hid hO; clear hO
    by_cases hlt : k < 3
    · have hi1 : (k : Int) < 3 := by omega
      have hi2 : (0 : Int) ≤ (k : Int) := by omega
      obtain ⟨c0, z0⟩ := HRI.out.cell (k := k) (by rw [lastI_len k (by omega)]; omega)
      have HPUT := Lib.hid (show RI 3 (w.heap.size + 1) (w.heap.size + 1) (lastI (k + 1)) (wr.setCell ⟨w.heap.size + 1, k, none⟩ (.int .i64 (-1))) by
        rw [← lastI_succ k hlt]; exact HRI.out.put _ _)
      have hbi : w.heap.size + 1 < wr.heap.size := HRI.out.ge.2
      go_wp2_with fail
      go_roundw
      case rel => exact ⟨k + 1, by go_num, by omega, HPUT.out, out_set HO.out (fun q hq => by cases hq; simp) (by omega) _⟩
      case measure => simp [intOf]; omega
    · have hk3 : k = 3 := by omega
      have hn3 : ¬ (k : Int) < 3 := by omega
      have HRI2 := Lib.hid (show RI 3 (w.heap.size + 1) (w.heap.size + 1) (lastR last0 (l.take 0)) wr by have h := HRI.out; rw [hk3] at h; exact h)
      clear HRI hk3
      go_wp2_with fail
      go_loopw [3, 6] (fun q i wr => ∃ (k m : Nat) (A' : Option Addr) (c' : Nat), q = .slice A' m c' ∧ i = .int .i64 k ∧ k ≤ n ∧ m = k ∧ (∀ q, blkOf A' = some q → q ≠ w.heap.size + 1) ∧ RI 3 (w.heap.size + 1) (w.heap.size + 1) (lastR last0 (l.take k)) wr ∧ OutR 3 1 w (intC (readsR last0 (l.take k))) m A' c' wr) (fun _ i _ => n - (intOf i).toNat)
      case atStart => exact ⟨0, 0, _, _, rfl, rfl, by omega, rfl, fun q hq => by cases hq; simp, HRI2.out, HO.out⟩
      case round =>
        clear HRI2 HO
        obtain ⟨k, m, A', c', rfl, rfl, hk, hmk, hbk, hRI, hO⟩ := hrel
        have HRI := Lib.hid hRI; clear hRI
        have HO := Lib.hid hO; clear hO
        have HBK := Lib.hid hbk; clear hbk
        rename World => wx
        have hbi : w.heap.size + 1 < wx.heap.size := HRI.out.ge.2
        by_cases hlt : k < n
        · have hkl : k < l.length := by have := HN.out; omega
          obtain ⟨b, off, hA, hbw, e0, e1, e2⟩ := acs_at (HR.out.below HO.out.2) hkl
          subst hA
          obtain ⟨t, ht3, ht⟩ := okAc_th (HOK.out _ (List.getElem_mem hkl))
          have HST := Lib.hid (reads_step hkl ht)
          rw [ht] at e1
          have HLL := Lib.hid (show (lastR last0 (l.take k)).length = 3 by rw [lastR_len]; rfl)
          clear ht
          generalize l[k].1 = x0 at *
          generalize l[k].2.2 = x2 at *
          generalize readsR last0 (l.take k) = R at *
          generalize lastR last0 (l.take k) = L at *
          obtain ⟨c0, z0⟩ := HRI.out.cell (k := t) (by rw [HLL.out]; omega)
          have hbs : b < wx.heap.size := Nat.lt_of_lt_of_le hbw HO.out.2.size
          have hi0 : (k : Int) < (n : Int) := by omega
          have hi4 : (t : Int) < 3 := by omega
          have hi5 : (0 : Int) ≤ (t : Int) := by omega
          subst hmk
          generalize L.getD t 0 = y at *
          have HGR := Lib.hid (fun (W : World) (h : RI 3 (w.heap.size + 1) (w.heap.size + 1) L W) W' (hg : W.grownBy W' (Value.slice A' m c').ownBlock) => (show RI 3 (w.heap.size + 1) (w.heap.size + 1) L W' from h.kept hg (.inr (fun e => HBK.out (w.heap.size + 1) (by rw [← blk_slice]; exact e.symm) rfl))))
          cases x2
          · have HE := Lib.hid (And.intro (show readsR last0 (l.take (m + 1)) = R ++ [y] from HST.out.1) (show lastR last0 (l.take (m + 1)) = L from HST.out.2))
            have HOK2 := Lib.hid (fun o => HO.out.keep ((Below.refl wx.heap.size wx).alloc (Nat.le_refl _) o))
            have HRK2 := Lib.hid (fun o => HRI.out.keep ((Below.refl wx.heap.size wx).alloc (Nat.le_refl _) o))
            go_wp2_with (at_builtin; refine wpList_append_lies _ rfl _ _ 24 rfl w.heap.size 3 i0 (.int .i64 0) 1 8 Try.underlying24 HI.out.1 HI.out.2.1 HI.out.2.2.1 HI.out.2.2.2 rfl (by decide) (.slice A' m c') m (intC R) rfl (HOK2.out _).1 ⟨wx.heap.size, 0, none⟩ 1 1 [.int .i64 y] rfl rfl ?c1 ?c2 ?c3 ?c4 ?c5 ?c6 _ rfl ?_)
            try (case c1 => exact fun j u hj => cells_at0 _ _ _ j u hj)
            try (case c2 => first | exact rfl | (intro u hu; simp at hu; rcases hu with rfl <;> rfl))
            try (case c3 => decide)
            try (case c4 => first | omega | (unfold maxLen; omega))
            try (case c5 => omega)
            try (case c6 => first | omega | (have := HO.out.2.size; simp; omega))
            intro g cap w4 hown' hgrow hat hlt4
            obtain ⟨A4, c4, hv4, ho4⟩ := (HOK2.out _).app hown' hgrow
            cases hv4
            have HO4 := Lib.hid ho4
            have HR4 := Lib.hid (HGR.out _ (HRK2.out _) _ hgrow)
            have hgG : g ≠ w.heap.size + 1 := by
              rcases hat with h | h
              · exact HBK.out g (by rw [← blk_slice]; exact h)
              · have := h; first | omega | (simp at this; omega)
            clear ho4 hown' hgrow hat hlt4
            go_wp2_with fail
            go_roundw
            case rel => exact ⟨m + 1, m + 1, _, _, rfl, by go_num, by omega, rfl, fun q hq => by cases hq; exact hgG, by rw [HE.out.2]; exact HR4.out, by rw [HE.out.1, intC_snoc]; exact HO4.out⟩
            case measure => simp [intOf]; omega
          · have HE := Lib.hid (And.intro (show readsR last0 (l.take (m + 1)) = R ++ [-2] from HST.out.1) (show lastR last0 (l.take (m + 1)) = L.set t x0 from HST.out.2))
            go_wp2_with fail
            go_still_tail 11, (by kernel_rfl)
            refine at_worldR (p := fun W => wpList _ _ _ _ _ W) wx _ wx.heap.size (by repeat (first | with_reducible exact Below.refl _ _ | with_reducible refine Below.drew ?_ | with_reducible refine Below.trans ?_ (below_drewN _ _))) ?_
            intro W0 hb0
            have HOa := Lib.hid (HO.out.keep hb0)
            have HRa := Lib.hid (HRI.out.keep hb0)
            have hbi0 : w.heap.size + 1 < W0.heap.size := Nat.lt_of_lt_of_le hbi hb0.size
            clear hb0 z0 c0 hbi
            obtain ⟨c0, z0⟩ := HRa.out.cell (k := t) (by rw [HLL.out]; omega)
            have HOb := Lib.hid (out_set HOa.out (g := w.heap.size + 1) (o := t) HBK.out (by omega) (.int .i64 x0))
            have HRb := Lib.hid (show RI 3 (w.heap.size + 1) (w.heap.size + 1) (L.set t x0) (W0.setCell ⟨w.heap.size + 1, t, none⟩ (.int .i64 x0)) from HRa.out.put t x0)
            have hsz : (W0.setCell ⟨w.heap.size + 1, t, none⟩ (.int .i64 x0)).heap.size = W0.heap.size := by simp
            have HOK2 := Lib.hid (fun o => HOb.out.keep ((Below.refl _ (W0.setCell ⟨w.heap.size + 1, t, none⟩ (.int .i64 x0))).alloc (Nat.le_refl _) o))
            have HRK2 := Lib.hid (fun o => HRb.out.keep ((Below.refl _ (W0.setCell ⟨w.heap.size + 1, t, none⟩ (.int .i64 x0))).alloc (Nat.le_refl _) o))
            have HGR := Lib.hid (fun (W : World) (h : RI 3 (w.heap.size + 1) (w.heap.size + 1) (L.set t x0) W) W' (hg : W.grownBy W' (Value.slice A' m c').ownBlock) => (show RI 3 (w.heap.size + 1) (w.heap.size + 1) (L.set t x0) W' from h.kept hg (.inr (fun e => HBK.out (w.heap.size + 1) (by rw [← blk_slice]; exact e.symm) rfl))))
            go_wp2_with (at_builtin; refine wpList_append_lies _ rfl _ _ 24 rfl w.heap.size 3 i0 (.int .i64 0) 1 8 Try.underlying24 HI.out.1 HI.out.2.1 HI.out.2.2.1 HI.out.2.2.2 rfl (by decide) (.slice A' m c') m (intC R) rfl (HOK2.out _).1 ⟨W0.heap.size, 0, none⟩ 1 1 [.int .i64 (-2)] rfl rfl ?c1 ?c2 ?c3 ?c4 ?c5 ?c6 _ rfl ?_)
            try (case c1 => exact fun j u hj => by rw [← hsz]; exact cells_at0 _ _ _ j u hj)
            try (case c2 => first | exact rfl | (intro u hu; simp at hu; rcases hu with rfl <;> rfl))
            try (case c3 => decide)
            try (case c4 => first | omega | (unfold maxLen; omega))
            try (case c5 => omega)
            try (case c6 => first | omega | (simp; omega))
            intro g cap w4 hown' hgrow hat hlt4
            obtain ⟨A4, c4, hv4, ho4⟩ := (HOK2.out _).app hown' hgrow
            cases hv4
            have HO4 := Lib.hid ho4
            have HR4 := Lib.hid (HGR.out _ (HRK2.out _) _ hgrow)
            have hgG : g ≠ w.heap.size + 1 := by
              rcases hat with h | h
              · exact HBK.out g (by rw [← blk_slice]; exact h)
              · have := h; first | omega | (simp at this; omega)
            clear ho4 hown' hgrow hat hlt4
            go_wp2_with fail
            go_roundw
            case rel => exact ⟨m + 1, m + 1, _, _, rfl, by go_num, by omega, rfl, fun q hq => by cases hq; exact hgG, by rw [HE.out.2]; exact HR4.out, by rw [HE.out.1, intC_snoc]; exact HO4.out⟩
            case measure => simp [intOf]; omega
        · obtain rfl : k = n := by omega
          have HE := Lib.hid (And.intro (show readsR last0 (l.take k) = readsR last0 l by rw [HN.out, List.take_length]) (show lastR last0 (l.take k) = lastR last0 l by rw [HN.out, List.take_length]))
          rw [HE.out.1] at HO
          rw [HE.out.2] at HRI
          have HLL := Lib.hid (show (lastR last0 l).length = 3 by rw [lastR_len]; rfl)
          have HLR := Lib.hid (readsR_len l last0)
          have HRL := Lib.hid (show readsL l = readsR last0 l ++ lastR last0 l from rfl)
          clear HE
          generalize readsR last0 l = R at *
          generalize lastR last0 l = L at *
          subst hmk
          have hnl := hlt
          go_wp2_with (at_builtin; refine wpList_append_own _ rfl _ _ 24 rfl w.heap.size 3 i0 (.int .i64 0) 1 8 Try.underlying24 HI.out.1 HI.out.2.1 HI.out.2.2.1 HI.out.2.2.2 rfl (by decide) (.slice A' m c') m (intC R) rfl HO.out.1 ⟨w.heap.size + 1, 0, none⟩ 3 3 (intC L) rfl (by rw [intC_len, HLL.out]) ?c1 ?c2 ?c4 ?c5 ?c6 ?_)
          try (case c1 => intro j u hj; exact ri_news HRI.out hj)
          try (case c2 => intro u hu; unfold intC at hu; rw [List.mem_map] at hu; obtain ⟨x, _, rfl⟩ := hu; rfl)
          try (case c4 => first | omega | (unfold maxLen; omega))
          try (case c5 => omega)
          try (case c6 => first | omega | exact HO.out.2.size)
          intro v' w4 hown' hgrow _
          obtain ⟨A4, c4, rfl, ho4⟩ := HO.out.app hown' hgrow
          have HO4 := Lib.hid ho4
          clear ho4 hown' hgrow
          go_wp2_with fail
          go_ret
          rw [HRL.out]
          refine ⟨_, rfl, ⟨A4, c4, ?_, ?_⟩, HO4.out.2⟩
          · rw [List.length_append, HLL.out, HLR.out, ← HN.out]; rfl
          · have := HO4.out.1
            rw [List.length_append, HLL.out, HLR.out, ← HN.out]
            rw [show intC (R ++ L) = intC R ++ intC L by simp [intC]]
            exact this
theorem IntsPost.monoR {L : List Int} {w w2 w' : World} {e : Ending} (h : IntsPost L w2 e w') (hb : Below w.heap.size w w2) : IntsPost L w e w' := by
  obtain ⟨v, h1, ⟨A, c, h2, h3⟩, h4⟩ := h
  exact ⟨v, h1, ⟨A, c, h2, own_leR h3 hb.size⟩, hb.trans (h4.mono hb.size)⟩
def rdsR (l : List AcT) : List Int := if actsB l then readsL l else []
theorem sReadsV_any (A : Option Addr) (n c : Nat) (l : List Ac) (w : World) (hr : RowAt w w.heap.size A (acsC l)) (hn : n = l.length) (hs : n ≤ 1048576) (hw : WfAc l) :
    Calls Try.prog 11 #[.slice A n c] w (IntsPost (rdsR l) w) := by
  have HV := Lib.hid (sActs_any A n c l w hr hn hs)
  cases hv : actsB l
  · rw [hv] at HV
    rw [show rdsR l = [] by simp [rdsR, hv]]
    clear hv hr hn hw
    go_enter Try.func11, Try.ntmps11
    go_wp2_with fail
    refine HV.out.mono ?_
    rintro e w2 ⟨rfl, hb2⟩
    have HB2 := Lib.hid hb2; clear hb2
    go_wp2_with fail
    go_ret
    exact ⟨_, rfl, ⟨none, 0, rfl, World.ownsRow_nil _ _ _ _⟩, HB2.out⟩
  · rw [hv] at HV
    have HC := Lib.hid (fun W (hb : Below w.heap.size w W) => sReads_any A n c l W ((hr.below hb).mono hb.size) hn hs (actsB_ok hv).2)
    rw [show rdsR l = readsL l by simp [rdsR, hv]]
    clear hv hr hn hw
    generalize readsL l = R at *
    go_enter Try.func11, Try.ntmps11
    go_wp2_with fail
    refine HV.out.mono ?_
    rintro e w2 ⟨rfl, hb2⟩
    have HB2 := Lib.hid hb2; clear hb2
    go_wp2_with fail
    refine (HC.out _ HB2.out).mono ?_
    intro e w3 hp
    obtain ⟨v, rfl, HP⟩ := hp.monoR HB2.out
    have HP2 := Lib.hid HP; clear HP hp
    go_wp2_with fail
    go_ret
    exact ⟨_, rfl, HP2.out⟩
end Go.Proofs.Ytdpehojcoohjcab
