/- The contracts of copyLevels and PushRun of the model (chapter 4). Conditions: the rows lie in memory; they are few. -/
import Derived.Test.YtofpdelolniklaaPushS
set_option linter.unusedVariables false
set_option linter.unusedSimpArgs false
namespace Go.Proofs.Ytofpdelolniklaa
open Go.RowKit Go.ChangeShapes Go.WideShapes

/-- rows of elements of different types lie in different blocks -/
theorem own_apart {w : World} {B1 B2 z1 z2 n1 n2 c1 c2 k1 k2 : Nat} {e1 e2 : TypeId} {A1 A2 : Option Addr} {xs1 xs2 : List Value} (h1 : w.ownsRow B1 e1 z1 (.slice A1 n1 c1) k1 xs1) (h2 : w.ownsRow B2 e2 z2 (.slice A2 n2 c2) k2 xs2) (he : e1 ≠ e2) : ∀ q, (Value.slice A1 n1 c1).ownBlock = some q → (Value.slice A2 n2 c2).ownBlock ≠ some q := fun q hq hq2 => by
  rcases h1.2 with ⟨hv, _⟩ | ⟨g, cap, cur, hv, _, hh, _⟩
  · rw [hv] at hq; cases hq
  · rcases h2.2 with ⟨hv2, _⟩ | ⟨g2, cap2, cur2, hv2, _, hh2, _⟩
    · rw [hv2] at hq2; cases hq2
    · rw [hv] at hq; rw [hv2] at hq2
      have a1 : g = q := by simpa [Value.ownBlock] using hq
      have a2 : g2 = q := by simpa [Value.ownBlock] using hq2
      subst a1 a2
      rw [hh] at hh2
      injection hh2 with hh2
      injection hh2 with _ h3
      exact he h3
theorem types_apart : 31 ≠ 23 := by decide
/-- while the levels are copied -/
structure CpRel (w : World) (L : List (List It)) (k : Nat) (A : Option Addr) (c : Nat) (W : World) : Prop where
  le : k ≤ L.length
  rows : ∃ hs : List Hd, hs.length = k ∧ W.ownsRow w.heap.size 23 1 (.slice A k c) k (hdsC hs) ∧ InnLv w.heap.size W hs L
  hb : Below w.heap.size w W
theorem InnLv.keep {B : Nat} {W W' : World} {hs : List Hd} {L : List (List It)} (h : InnLv B W hs L) (hb : Below W.heap.size W W') : InnLv B W' hs L := fun i a b => ⟨(h i a b).1, own_keep (h i a b).2 hb⟩
theorem InnLv.grow {B B2 : Nat} {W W' : World} {hs : List Hd} {L : List (List It)} {A : Option Addr} {n c k : Nat} {xs : List Value} (h : InnLv B W hs L) (ho : W.ownsRow B2 23 1 (.slice A n c) k xs) (hg : W.grownBy W' (Value.slice A n c).ownBlock) : InnLv B W' hs L := fun i a b => ⟨(h i a b).1, (h i a b).2.kept hg (by
  cases hq : (Value.slice hs[i].1 hs[i].2.1 hs[i].2.2).ownBlock with
  | none => exact .inl rfl
  | some q => exact .inr (fun e => own_apart (h i a b).2 ho types_apart q hq e.symm))⟩
theorem InnLv.snoc {B : Nat} {W : World} {hs : List Hd} {L : List (List It)} {A : Option Addr} {c : Nat} (h : InnLv B W hs L) (hk : hs.length < L.length) (ho : W.ownsRow B 31 3 (.slice A (L[hs.length]'hk).length c) (L[hs.length]'hk).length (itsC (L[hs.length]'hk))) : InnLv B W (hs ++ [(A, (L[hs.length]'hk).length, c)]) L := fun i a b => by
  rcases Nat.lt_or_ge i hs.length with h1 | h1
  · rw [List.getElem_append_left h1]; exact h i h1 b
  · obtain rfl : i = hs.length := by simp at a; omega
    rw [List.getElem_append_right h1]
    simp only [Nat.sub_self, List.getElem_cons_zero]
    exact ⟨trivial, ho⟩

set_option maxRecDepth 100000 in
set_option maxHeartbeats 2000000 in
theorem sCopyLv_any (AL : Option Addr) (n c : Nat) (L : List (List It)) (w : World) (hL : LvAt w w.heap.size AL L) (hn : n = L.length) (hs : n ≤ 100000) (hsm : ∀ r ∈ L, r.length ≤ 500000) :
    Calls Try.prog 82 #[.slice AL n c] w (LvPost L w) := by
  obtain ⟨i0, hi0, hz0, hz1, hz2⟩ := info_parts itInfo
  have HI := Lib.hid (And.intro hi0 (And.intro hz0 (And.intro hz1 hz2))); clear hi0 hz0 hz1 hz2
  obtain ⟨j0, hi0, hz0, hz1, hz2⟩ := info_parts lvInfo
  have HJ := Lib.hid (And.intro hi0 (And.intro hz0 (And.intro hz1 hz2))); clear hi0 hz0 hz1 hz2
  have HL := Lib.hid hL; clear hL
  have HN := Lib.hid hn; clear hn
  have HSM := Lib.hid hsm; clear hsm
  have HC0 := Lib.hid (show CpRel w L 0 (some ⟨w.heap.size, 0, none⟩) 0 (w.alloc (.cells #[] 23)) from ⟨by omega, ⟨[], rfl, own_start w _ 1, fun i a => by simp at a⟩, (Below.refl _ _).alloc (Nat.le_refl _) _⟩)
  go_enter Try.func82, Try.ntmps82
  go_wp2_with fail
  go_loopw [3, 4] (fun q i wr => ∃ (k : Nat) (A : Option Addr) (c' : Nat), q = .slice A k c' ∧ i = .int .i64 k ∧ k ≤ n ∧ CpRel w L k A c' wr) (fun _ i _ => n - (intOf i).toNat)
  case atStart => exact ⟨0, _, _, rfl, rfl, by omega, HC0.out⟩
  case round =>
    obtain ⟨k, A, c', rfl, rfl, hk, hc⟩ := hrel
    clear HC0
    have HC := Lib.hid hc; clear hc
    by_cases hlt : k < n
    · have hkl : k < L.length := by have := HN.out; omega
      obtain ⟨b, off, AH, cH, hA, hbw, e0, hcz, hrow⟩ := (HL.out.below HC.out.hb).at0 hkl
      subst hA
      have hbs : b < wr.heap.size := Nat.lt_of_lt_of_le hbw HC.out.hb.size
      have hi1 : (k : Int) < (n : Int) := by omega
      obtain ⟨rl, hrl⟩ : ∃ rl, L[k].length = rl := ⟨_, rfl⟩
      have hrs : rl ≤ 500000 := by rw [← hrl]; exact HSM.out _ (List.getElem_mem hkl)
      have HRL := Lib.hid hrl
      rw [hrl] at e0
      clear hrl
      have HB1 := Lib.hid ((Below.refl wr.heap.size wr).alloc (Nat.le_refl _) (.cells #[] 31))
      have HO1 := Lib.hid (own_start wr 31 3)
      have HRW := Lib.hid ((hrow.mono HC.out.hb.size).below HB1.out)
      clear hrow
      go_wp2_with (at_builtin; refine wpList_append_row rfl _ _ 23 rfl wr.heap.size 31 i0 (.agg #[.string ⟨#[]⟩, .string ⟨#[]⟩, .bool false]) 3 40 Try.underlying23 HI.out.1 HI.out.2.1 HI.out.2.2.1 HI.out.2.2.2 rfl (by decide) _ 0 [] rfl HO1.out AH rl cH wr.heap.size (itsC L[k]) rfl hcz ?c0 HRW.out (its_one L[k]) ?c3 ?c4 ?c5 ?_)
      try (case c0 => rw [itsC_len, HRL.out])
      try (case c3 => unfold maxLen; omega)
      try (case c4 => omega)
      try (case c5 => exact HB1.out.size)
      intro v5 w5 hown5 hgrow5
      have hb5 : Below wr.heap.size wr w5 := HB1.out.grown hgrow5 HB1.out.size (fun q hq => (HO1.out.lt q hq).1)
      obtain ⟨A5, c5, rfl⟩ := own_shape hown5
      have HO5 := Lib.hid (show w5.ownsRow wr.heap.size 31 3 (.slice A5 rl c5) rl (itsC L[k]) by simpa using hown5)
      have HB5 := Lib.hid hb5
      clear hown5 hgrow5 hb5
      obtain ⟨hs, hsl, hso, hsi⟩ := HC.out.rows
      have HSL := Lib.hid hsl; clear hsl
      have HSO := Lib.hid (own_keep (own_keep hso HB5.out) ((Below.refl w5.heap.size w5).alloc (Nat.le_refl _) (.cells #[.slice A5 rl c5] 23))); clear hso
      have HSI := Lib.hid ((hsi.keep HB5.out).keep ((Below.refl w5.heap.size w5).alloc (Nat.le_refl _) (.cells #[.slice A5 rl c5] 23))); clear hsi
      have HNR := Lib.hid (row_new w5 [.slice A5 rl c5] 23 w5.heap.size rfl)
      have HBX := Lib.hid (show Below w.heap.size w (w5.alloc (.cells #[.slice A5 rl c5] 23)) from (HC.out.hb.trans (HB5.out.mono HC.out.hb.size)).alloc (Nat.le_trans HC.out.hb.size HB5.out.size) _)
      go_wp2_with (at_builtin; refine wpList_append_row rfl _ _ 29 rfl w.heap.size 23 j0 (.slice none 0 0) 1 24 Try.underlying29 HJ.out.1 HJ.out.2.1 HJ.out.2.2.1 HJ.out.2.2.2 rfl (by decide) _ k (hdsC hs) rfl HSO.out (some ⟨w5.heap.size, 0, none⟩) 1 1 _ [.slice A5 rl c5] rfl ?dz rfl HNR.out ?d2 ?d3 ?d4 ?d5 ?_)
      try (case dz => exact fun h => (by cases h))
      try (case d2 => first | rfl | (intro u hu; simp at hu; subst hu; rfl))
      try (case d3 => unfold maxLen; omega)
      try (case d4 => omega)
      try (case d5 => exact HBX.out.size)
      intro v6 w6 hown6 hgrow6
      obtain ⟨A6, c6, rfl⟩ := own_shape hown6
      have hb6 : Below w.heap.size w w6 := HBX.out.grown hgrow6 HBX.out.size (fun q hq => (HSO.out.lt q hq).1)
      have hin : InnLv w.heap.size w6 hs L := HSI.out.grow HSO.out hgrow6
      have ho6 : w6.ownsRow w.heap.size 31 3 (.slice A5 rl c5) rl (itsC L[k]) := (own_leL (own_keep HO5.out ((Below.refl w5.heap.size w5).alloc (Nat.le_refl _) (.cells #[.slice A5 rl c5] 23))) HC.out.hb.size).kept hgrow6 (by
        cases hq : (Value.slice A5 rl c5).ownBlock with
        | none => exact .inl rfl
        | some q => exact .inr (fun e => own_apart (own_keep HO5.out ((Below.refl w5.heap.size w5).alloc (Nat.le_refl _) (.cells #[.slice A5 rl c5] 23))) HSO.out types_apart q hq e.symm))
      have HC6 := Lib.hid (show CpRel w L (k + 1) A6 c6 w6 from ⟨hkl, ⟨hs ++ [(A5, rl, c5)], by rw [List.length_append, HSL.out]; rfl, by rw [hdsC_snoc]; exact hown6, by
        have h2 := HSL.out
        have h3 := HRL.out
        subst h2 h3
        exact hin.snoc hkl ho6⟩, hb6⟩)
      clear hown6 hgrow6 hb6 hin ho6
      go_wp2_with fail
      go_roundw
      case rel => exact ⟨k + 1, A6, c6, rfl, by go_num, by omega, HC6.out⟩
      case measure => simp [intOf]; omega
    · obtain rfl : k = n := by omega
      obtain ⟨hs, hsl, hso, hsi⟩ := HC.out.rows
      have HP := Lib.hid (show OwnLv w.heap.size L (.slice A k c') wr by
        have h9 := HN.out
        rw [h9] at hsl hso ⊢
        exact ⟨A, c', hs, rfl, hsl, hso, hsi⟩)
      clear hsl hso hsi
      go_wp2_with fail
      go_ret
      exact ⟨_, rfl, HP.out, HC.out.hb⟩

theorem pushGo_all {P : It → Prop} : ∀ (L : List (List It)) (now : List It), (∀ p ∈ now, P p) → (∀ r ∈ L, ∀ p ∈ r, P p) → (∀ p ∈ (pushGo now L).1, P p) ∧ (∀ r ∈ (pushGo now L).2, r ∈ L)
  | [], now, h1, _ => ⟨h1, fun r h => by simp [pushGo] at h⟩
  | r :: L, now, h1, h2 => by
    unfold pushGo
    split
    · have ih := pushGo_all L (mrgS now r L.isEmpty) (mrgS_all h1 (h2 r List.mem_cons_self) _) (fun r' hr' => h2 r' (List.mem_cons_of_mem _ hr'))
      exact ⟨ih.1, fun r' hr' => List.mem_cons_of_mem _ (ih.2 r' hr')⟩
    · exact ⟨h1, fun r' hr' => hr'⟩
theorem sumL_mem {L : List (List It)} {r : List It} (h : r ∈ L) : r.length ≤ sumL L := by
  induction L with
  | nil => cases h
  | cons a L ih =>
    rw [sumL_cons]
    rcases List.mem_cons.1 h with h | h
    · rw [h]; omega
    · have := ih h; omega
theorem pushGo_len : ∀ (L : List (List It)) (now : List It), (pushGo now L).1.length + sumL (pushGo now L).2 ≤ now.length + sumL L ∧ (pushGo now L).2.length ≤ L.length
  | [], now => by simp [pushGo]
  | r :: L, now => by
    unfold pushGo
    split
    · have ih := pushGo_len L (mrgS now r L.isEmpty)
      have := mrgS_len now r L.isEmpty
      rw [sumL_cons, List.length_cons]
      omega
    · exact ⟨Nat.le_refl _, Nat.le_refl _⟩
theorem pushLast_len (p : List It × List (List It)) : (pushLast p).length ≤ p.1.length := by
  unfold pushLast
  split
  · have := mrgS_len p.1 [] true; simpa using this
  · exact Nat.le_refl _
theorem pushK_all {P : It → Prop} {run : List It} {L : List (List It)} (h1 : ∀ p ∈ run, P p) (h2 : ∀ r ∈ L, ∀ p ∈ r, P p) : ∀ r ∈ pushK run L, (∀ p ∈ r, P p) ∧ r.length ≤ run.length + sumL L := by
  have hg := pushGo_all L run h1 h2
  have hl := (pushGo_len L run).1
  intro r hr
  unfold pushK at hr
  rcases List.mem_append.1 hr with h | h
  · split at h
    · rw [List.mem_singleton.1 h]
      refine ⟨?_, by have := pushLast_len (pushGo run L); omega⟩
      unfold pushLast
      split
      · exact mrgS_all hg.1 (fun p hp => by cases hp) _
      · exact hg.1
    · cases h
  · have := sumL_mem h
    exact ⟨h2 r (hg.2 r h), by omega⟩
theorem pushK_len (run : List It) (L : List (List It)) : (pushK run L).length ≤ L.length + 1 := by
  have := (pushGo_len L run).2
  unfold pushK
  split <;> simp <;> omega
/-- levels that are pushed, if they may be -/
def pushOk (L : List (List It)) (run : List It) : Bool := levB L && runB run && levB (pushK run L)
def PushPost (L : List (List It)) (run : List It) (w : World) (e : Ending) (w' : World) : Prop := ∃ v, e = .returned (.tuple #[v, .bool (pushOk L run)]) ∧ (pushOk L run = true → OwnLv w.heap.size (pushK run L) v w') ∧ (pushOk L run = false → v = .slice none 0 0) ∧ Below w.heap.size w w'
set_option maxRecDepth 100000 in
set_option maxHeartbeats 2000000 in
theorem sPushRun_any (AL : Option Addr) (nL cL : Nat) (L : List (List It)) (A1 : Option Addr) (n1 c1 : Nat) (run : List It) (w : World) (hL : LvAt w w.heap.size AL L) (hnL : nL = L.length) (hle : nL ≤ cL) (hsp : ∀ ad, AL = some ad → ad.spot = none) (hAL : AL = none → cL = 0)
    (hr1 : RowAt w w.heap.size A1 (itsC run)) (hn1 : n1 = run.length) (hA1 : A1 = none → c1 = 0) (hsum : run.length + sumL L ≤ 90000) (hsL : nL ≤ 90000) (hw1 : WfIt run) (hw2 : ∀ r ∈ L, WfIt r) :
    Calls Try.prog 35 #[.slice AL nL cL, .slice A1 n1 c1] w (PushPost L run w) := by
  have hlen : ∀ r ∈ L, r.length ≤ 1048576 ∧ WfIt r := fun r hr => ⟨by have := sumL_mem hr; omega, hw2 r hr⟩
  have HV := Lib.hid (sLev_any AL nL cL L w hL hnL (by omega) hlen)
  have HR := Lib.hid (fun W (hb : Below w.heap.size w W) => sRun_any A1 n1 c1 run W ((hr1.below hb).mono hb.size) hn1 (by omega) hw1)
  have HP := Lib.hid (fun W (hb : Below w.heap.size w W) => sPush_any AL nL cL L A1 n1 c1 run W ((hL.below hb).mono hb.size) hnL hle hsp hAL ((hr1.below hb).mono hb.size) hn1 hA1 (by omega) (by omega))
  have HK := Lib.hid (pushK_all (P := GoodIt) hw1 hw2)
  have HKL := Lib.hid (pushK_len run L)
  have hnl : L.length ≤ 90000 := by omega
  clear hL hnL hle hsp hAL hr1 hn1 hA1 hw1 hw2 hlen hsL
  cases h1 : levB L
  · rw [h1] at HV
    have HO := Lib.hid (show pushOk L run = false by unfold pushOk; rw [h1]; rfl)
    clear h1
    unfold PushPost
    rw [HO.out]
    go_enter Try.func35, Try.ntmps35
    go_wp2_with fail
    refine (HV.out).mono ?_
    rintro e w2 ⟨rfl, hb2⟩
    have HB := Lib.hid hb2; clear hb2
    go_wp2_with fail
    refine bodyPost_ret (v := .tuple #[.slice none 0 0, .bool false]) (by simp [results, Try.results35, go_sem]) rfl ?_
    exact ⟨_, rfl, fun h => (by cases h), fun _ => rfl, HB.out⟩
  · rw [h1] at HV
    cases h2 : runB run
    · rw [h2] at HR
      have HO := Lib.hid (show pushOk L run = false by unfold pushOk; rw [h2]; simp)
      clear h1 h2
      unfold PushPost
      rw [HO.out]
      go_enter Try.func35, Try.ntmps35
      go_wp2_with fail
      refine (HV.out).mono ?_
      rintro e w2 ⟨rfl, hb2⟩
      have HB := Lib.hid hb2; clear hb2
      go_wp2_with fail
      refine (HR.out _ HB.out).mono ?_
      rintro e w3 ⟨rfl, hb3⟩
      have HB3 := Lib.hid (HB.out.trans (hb3.mono HB.out.size)); clear hb3
      go_wp2_with fail
      refine bodyPost_ret (v := .tuple #[.slice none 0 0, .bool false]) (by simp [results, Try.results35, go_sem]) rfl ?_
      exact ⟨_, rfl, fun h => (by cases h), fun _ => rfl, HB3.out⟩
    · rw [h2] at HR
      have HO := Lib.hid (show pushOk L run = levB (pushK run L) by unfold pushOk; rw [h1, h2]; simp)
      clear h1 h2
      unfold PushPost
      rw [HO.out]
      generalize pushK run L = K at *
      have hkl : K.length ≤ 90001 := by have := HKL.out; omega
      go_enter Try.func35, Try.ntmps35
      go_wp2_with fail
      refine (HV.out).mono ?_
      rintro e w2 ⟨rfl, hb2⟩
      have HB := Lib.hid hb2; clear hb2
      go_wp2_with fail
      refine (HR.out _ HB.out).mono ?_
      rintro e w3 ⟨rfl, hb3⟩
      have HB3 := Lib.hid (HB.out.trans (hb3.mono HB.out.size)); clear hb3
      go_wp2_with fail
      refine (HP.out _ HB3.out).mono ?_
      rintro e w4 ⟨v, rfl, hlo⟩
      have HB4 := Lib.hid (show Below w.heap.size w w4 by
        obtain ⟨_, _, _, _, _, _, _, _, _, hb⟩ := hlo
        exact HB3.out.trans (hb.mono HB3.out.size))
      obtain ⟨A4, m4, c4, rfl, hm4, ha4⟩ := hlo.at_
      have hm4s : m4 ≤ 90001 := by omega
      have HM4 := Lib.hid hm4
      have HA4 := Lib.hid ha4
      have HV4 := Lib.hid (sLev_any A4 m4 c4 K w4 ha4 hm4 (by omega) (fun r hr => ⟨by have := (HK.out r hr).2; omega, (HK.out r hr).1⟩))
      clear hlo hm4 ha4
      cases h3 : levB K
      · rw [h3] at HV4
        have HL3 := Lib.hid h3
        clear h3
        go_wp2_with fail
        refine (HV4.out).mono ?_
        rintro e w5 ⟨rfl, hb5⟩
        have HB5 := Lib.hid (HB4.out.trans (hb5.mono HB4.out.size)); clear hb5
        go_wp2_with fail
        refine bodyPost_ret (v := .tuple #[.slice none 0 0, .bool false]) (by simp [results, Try.results35, go_sem]) rfl ?_
        rw [HL3.out]
        exact ⟨_, rfl, fun h => (by cases h), fun _ => rfl, HB5.out⟩
      · rw [h3] at HV4
        have HL3 := Lib.hid h3
        clear h3
        go_wp2_with fail
        refine (HV4.out).mono ?_
        rintro e w5 ⟨rfl, hb5⟩
        have HB5 := Lib.hid (HB4.out.trans (hb5.mono HB4.out.size))
        have HC := Lib.hid (sCopyLv_any A4 m4 c4 K w5 ((HA4.out.below hb5).mono hb5.size) HM4.out (by omega) (fun r hr => by have := (HK.out r hr).2; omega))
        clear hb5
        go_wp2_with fail
        refine (HC.out).mono ?_
        rintro e w6 ⟨v6, rfl, hv6, hb6⟩
        have HB6 := Lib.hid (HB5.out.trans (hb6.mono HB5.out.size))
        have HV6 := Lib.hid (show OwnLv w.heap.size K v6 w6 by
          obtain ⟨A, c, hs, e1, e2, e3, e4⟩ := hv6
          exact ⟨A, c, hs, e1, e2, own_leL e3 HB5.out.size, fun i a b => ⟨(e4 i a b).1, own_leL (e4 i a b).2 HB5.out.size⟩⟩)
        clear hb6 hv6
        go_wp2_with fail
        refine bodyPost_ret (v := .tuple #[v6, .bool true]) (by simp [results, Try.results35, go_sem]) rfl ?_
        rw [HL3.out]
        exact ⟨_, rfl, fun _ => HV6.out, fun h => (by cases h), HB6.out⟩
end Go.Proofs.Ytofpdelolniklaa
