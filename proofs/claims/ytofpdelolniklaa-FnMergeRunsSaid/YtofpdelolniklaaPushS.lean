/- The contract of push of the model (chapter 4). Conditions: the rows lie in memory; they are few. -/
import Derived.Test.YtofpdelolniklaaMrgS
import Derived.Test.YtofpdelolniklaaLevC
set_option linter.unusedVariables false
set_option linter.unusedSimpArgs false
namespace Go.Proofs.Ytofpdelolniklaa
open Go.RowKit Go.ChangeShapes Go.WideShapes

/-- a run that is merged with the levels that are too small, and the levels that are left -/
def pushGo : List It → List (List It) → List It × List (List It)
  | now, [] => (now, [])
  | now, r :: rest => if r.length < 2 * now.length then pushGo (mrgS now r rest.isEmpty) rest else (now, r :: rest)
def pushLast (p : List It × List (List It)) : List It := if p.2.isEmpty then mrgS p.1 [] true else p.1
def pushK (run : List It) (L : List (List It)) : List (List It) := (if 0 < (pushLast (pushGo run L)).length then [pushLast (pushGo run L)] else []) ++ (pushGo run L).2
def sumL (L : List (List It)) : Nat := (L.map List.length).sum
theorem sumL_cons (r : List It) (L : List (List It)) : sumL (r :: L) = r.length + sumL L := by simp [sumL]
theorem lv_tail (ad : Addr) (n c : Nat) (h1 : 1 ≤ n) (h2 : n ≤ c) (hs : ad.spot = none) : ∃ ad' : Addr, ad'.spot = none ∧ (∀ W, (Instr.sliceAt 29 (.slice (some ad) n c) (some (.int .i64 1)) none none).run Try.prog W = .ok (.slice (some ad') (n - 1) (c - 1)) W) ∧
    ∀ (W : World) (B : Nat) (r : List It) (L : List (List It)), LvAt W B (some ad) (r :: L) → n = L.length + 1 → LvAt W B (some ad') L := by
  obtain ⟨b, off, sp⟩ := ad
  subst hs
  have hu : Try.prog.underlying 29 = some (.slice (Try.prog.elem 29)) := by kernel_rfl
  have hz : ∀ W, (sizeOf (Try.prog.elem 29)).run Try.prog W = .ok 1 W := fun W => by kernel_rfl
  have hi : (1 : Int) = ((1 : Nat) : Int) := rfl
  by_cases h3 : 1 < c
  · refine ⟨⟨b, off + 1, none⟩, rfl, fun W => ?_, fun W B r L hl hn => ?_⟩
    · rw [hi, run_sliceAt_slice (h := hu), run_slice_l (ht := hu) (h0 := by omega) (h1 := by omega), hz]
      simp only [Result.andThen_ok, sliced, Int.toNat_natCast, Option.map_some, Nat.mul_one]
      rw [if_neg (by omega), add_zero_off]
    · obtain ⟨hs, e1, e2, e3⟩ := hl
      match hs, e1 with
      | [], e1 => simp at e1
      | h0 :: hs, e1 =>
        refine ⟨hs, by simpa using e1, fun hne => ?_, fun i a c => ?_⟩
        · obtain ⟨b2, off2, e, hb, hc⟩ := e2 (by simp [hdsC, hdC])
          injection e with e; injection e with e4 e5; subst e4 e5
          refine ⟨b, off + 1, rfl, hb, fun i v hv => ?_⟩
          have := hc (i + 1) v (by simpa [hdsC, hdC] using hv)
          rw [Nat.add_assoc, Nat.add_comm 1 i]; exact this
        · have := e3 (i + 1) (by simp; omega) (by simp; omega)
          simpa using this
  · refine ⟨⟨b, off, none⟩, rfl, fun W => ?_, fun W B r L hl hn => ?_⟩
    · rw [hi, run_sliceAt_slice (h := hu), run_slice_l (ht := hu) (h0 := by omega) (h1 := by omega), hz]
      simp only [Result.andThen_ok, sliced, Int.toNat_natCast, Option.map_some, Nat.mul_one]
      rw [if_pos (by omega)]
    · have : L = [] := List.eq_nil_of_length_eq_zero (by omega)
      subst this
      exact ⟨[], rfl, RowAt.nil _ _ _, fun i a => by simp at a⟩
theorem hds_one (l : List Hd) : ∀ u ∈ hdsC l, u.oneCell' = true := by
  intro u hu
  obtain ⟨p, _, hp⟩ := List.mem_flatMap.1 hu
  simp [hdC] at hp
  rw [hp]; rfl
theorem row_new (w : World) (xs : List Value) (t : TypeId) (g : Nat) (hg : w.heap.size = g) : RowAt (w.alloc (.cells xs.toArray t)) (g + 1) (some ⟨g, 0, none⟩) xs := fun _ => by
  subst hg
  exact ⟨_, 0, rfl, Nat.lt_succ_self _, fun i v hi => by
    have := cells_new w xs t i v hi
    rw [add_zero_off] at this; exact this⟩
/-- while it is pushed -/
structure PsRel (w : World) (run : List It) (L : List (List It)) (now : List It) (rest : List (List It)) (AN : Option Addr) (mN cN : Nat) (AR : Option Addr) (mR cR : Nat) (W : World) : Prop where
  go : pushGo now rest = pushGo run L
  mn : mN = now.length
  mr : mR = rest.length
  le : mR ≤ cR
  sp : ∀ ad, AR = some ad → ad.spot = none
  cz : AR = none → cR = 0
  few : mR ≤ L.length
  own : W.ownsRow w.heap.size 31 3 (.slice AN mN cN) mN (itsC now)
  lv : LvAt W W.heap.size AR rest
  hb : Below w.heap.size w W
  sum : now.length + sumL rest ≤ run.length + sumL L
theorem PsRel.keep {w W W' : World} {run now : List It} {L rest : List (List It)} {AN AR : Option Addr} {mN cN mR cR : Nat} (h : PsRel w run L now rest AN mN cN AR mR cR W) (hb : Below W.heap.size W W') : PsRel w run L now rest AN mN cN AR mR cR W' :=
  { h with own := own_keep h.own hb, lv := (h.lv.below hb).mono hb.size, hb := h.hb.trans (hb.mono h.hb.size) }
/-- levels that a slice in a row of the call's own leads to -/
def LvOut (L : List (List It)) (w : World) (v : Value) (w' : World) : Prop := ∃ (A : Option Addr) (m c : Nat) (hs : List Hd), v = .slice A m c ∧ m = L.length ∧ hs.length = m ∧ w'.ownsRow w.heap.size 23 1 (.slice A m c) m (hdsC hs) ∧
  (∀ (i : Nat) (h1 : i < hs.length) (h2 : i < L.length), hs[i].2.1 = L[i].length ∧ (hs[i].1 = none → hs[i].2.2 = 0) ∧ RowAt w' w'.heap.size hs[i].1 (itsC L[i])) ∧ Below w.heap.size w w'
theorem LvOut.at_ {L : List (List It)} {w w' : World} {v : Value} (h : LvOut L w v w') : ∃ (A : Option Addr) (m c : Nat), v = .slice A m c ∧ m = L.length ∧ LvAt w' w'.heap.size A L := by
  obtain ⟨A, m, c, hs, h1, h2, h3, h4, h5, _⟩ := h
  exact ⟨A, m, c, h1, h2, hs, by omega, RowAt.of_own h4, h5⟩

theorem LvOut.fin {w W W9 : World} {L' : List (List It)} {hs : List Hd} {A : Option Addr} {m c : Nat} (hB : Below w.heap.size w W) (h9 : Below W.heap.size W W9) (hm : m = L'.length) (hl : hs.length = m) (ho : W9.ownsRow W.heap.size 23 1 (.slice A m c) m (hdsC hs))
    (hrows : ∀ (i : Nat) (h1 : i < hs.length) (h2 : i < L'.length), hs[i].2.1 = L'[i].length ∧ (hs[i].1 = none → hs[i].2.2 = 0) ∧ RowAt W W.heap.size hs[i].1 (itsC L'[i])) : LvOut L' w (.slice A m c) W9 :=
  ⟨A, m, c, hs, rfl, hm, hl, own_leL ho hB.size, fun i a b => ⟨(hrows i a b).1, (hrows i a b).2.1, ((hrows i a b).2.2.below h9).mono h9.size⟩, hB.trans (h9.mono hB.size)⟩
theorem rows_cons {W : World} {hs : List Hd} {L' : List (List It)} {AX : Option Addr} {mm cX : Nat} {nw : List It} (hm : mm = nw.length) (hz : AX = none → cX = 0) (hr : RowAt W W.heap.size AX (itsC nw))
    (hrows : ∀ (i : Nat) (h1 : i < hs.length) (h2 : i < L'.length), hs[i].2.1 = L'[i].length ∧ (hs[i].1 = none → hs[i].2.2 = 0) ∧ RowAt W W.heap.size hs[i].1 (itsC L'[i])) :
    ∀ (i : Nat) (h1 : i < ((AX, mm, cX) :: hs : List Hd).length) (h2 : i < (nw :: L').length), ((AX, mm, cX) :: hs : List Hd)[i].2.1 = (nw :: L')[i].length ∧ (((AX, mm, cX) :: hs : List Hd)[i].1 = none → ((AX, mm, cX) :: hs : List Hd)[i].2.2 = 0) ∧ RowAt W W.heap.size ((AX, mm, cX) :: hs : List Hd)[i].1 (itsC (nw :: L')[i])
  | 0, _, _ => ⟨hm, hz, hr⟩
  | i + 1, a, b => by
    have := hrows i (by simpa using a) (by simpa using b)
    simpa using this
set_option maxRecDepth 100000 in
set_option maxHeartbeats 4000000 in
theorem sPush_any (AL : Option Addr) (nL cL : Nat) (L : List (List It)) (A1 : Option Addr) (n1 c1 : Nat) (run : List It) (w : World) (hL : LvAt w w.heap.size AL L) (hnL : nL = L.length) (hle : nL ≤ cL) (hsp : ∀ ad, AL = some ad → ad.spot = none) (hAL : AL = none → cL = 0)
    (hr1 : RowAt w w.heap.size A1 (itsC run)) (hn1 : n1 = run.length) (hA1 : A1 = none → c1 = 0) (hsum : run.length + sumL L ≤ 100000) (hsL : nL ≤ 100000) :
    Calls Try.prog 81 #[.slice AL nL cL, .slice A1 n1 c1] w fun e w' => ∃ v, e = .returned v ∧ LvOut (pushK run L) w v w' := by
  obtain ⟨i0, hi0, hz0, hz1, hz2⟩ := info_parts itInfo
  have HI := Lib.hid (And.intro hi0 (And.intro hz0 (And.intro hz1 hz2))); clear hi0 hz0 hz1 hz2
  obtain ⟨j0, hi0, hz0, hz1, hz2⟩ := info_parts lvInfo
  have HJ := Lib.hid (And.intro hi0 (And.intro hz0 (And.intro hz1 hz2))); clear hi0 hz0 hz1 hz2
  have HL := Lib.hid hL; clear hL
  have HNL := Lib.hid hnL; clear hnL
  have HR1 := Lib.hid hr1; clear hr1
  have HN1 := Lib.hid hn1; clear hn1
  have HSP := Lib.hid hsp; clear hsp
  have hn1s : n1 ≤ 100000 := by have := HN1.out; omega
  have HB0 := Lib.hid ((Below.refl w.heap.size w).alloc (Nat.le_refl _) (.cells #[] 31))
  have HO0 := Lib.hid (own_start w 31 3)
  go_enter Try.func81, Try.ntmps81
  go_wp2_with (at_builtin; refine wpList_append_row rfl _ _ 23 rfl w.heap.size 31 i0 (.agg #[.string ⟨#[]⟩, .string ⟨#[]⟩, .bool false]) 3 40 Try.underlying23 HI.out.1 HI.out.2.1 HI.out.2.2.1 HI.out.2.2.2 rfl (by decide) _ 0 [] rfl HO0.out A1 n1 c1 w.heap.size (itsC run) rfl hA1 ?c0_0 (HR1.out.below HB0.out) (its_one run) ?c3_0 ?c4_0 ?c5_0 ?_)
  case c0_0 => rw [itsC_len, ← HN1.out]
  case c3_0 => unfold maxLen; omega
  case c4_0 => omega
  case c5_0 => exact HB0.out.size
  intro v1 w1 hown1 hgrow1
  have hb1 : Below w.heap.size w w1 := HB0.out.grown hgrow1 HB0.out.size (fun q hq => (HO0.out.lt q hq).1)
  obtain ⟨A3, c3, rfl⟩ := own_shape hown1
  have HP1 := Lib.hid (show PsRel w run L run L A3 n1 c3 AL nL cL w1 from { go := rfl, mn := HN1.out, mr := HNL.out, le := hle, sp := HSP.out, cz := hAL, few := by rw [← HNL.out]; exact Nat.le_refl _, own := by simpa using hown1, lv := (HL.out.below hb1).mono hb1.size, hb := hb1, sum := Nat.le_refl _ })
  clear hb1 hown1 hgrow1 hA1 hAL
  go_wp2_with fail
  go_loopw [5, 6] (fun q s wr => ∃ (now : List It) (rest : List (List It)) (AN : Option Addr) (mN cN : Nat) (AR : Option Addr) (mR cR : Nat), q = .slice AN mN cN ∧ s = .slice AR mR cR ∧ PsRel w run L now rest AN mN cN AR mR cR wr) (fun _ s _ => match s with | .slice _ k _ => k | _ => 0)
  case atStart => exact ⟨run, L, _, _, _, _, _, _, rfl, rfl, HP1.out⟩
  case round =>
    obtain ⟨now, rest, AN, mN, cN, AR, mR, cR, rfl, rfl, hp⟩ := hrel
    have HP := Lib.hid hp; clear hp
    clear HP1
    have hmN : mN ≤ 100000 := by have := HP.out.mn; have := HP.out.sum; omega
    cases rest with
    | cons r rest =>
      obtain ⟨k, rfl⟩ : ∃ k, mR = k + 1 := ⟨rest.length, by have := HP.out.mr; simpa using this⟩
      have hkr : k = rest.length := by have := HP.out.mr; simpa using this
      have HKR := Lib.hid hkr; clear hkr
      obtain ⟨b, off, AH, cH, hA, hbw, e0, hcz, hrow⟩ := HP.out.lv.at0 (k := 0) (by simp)
      subst hA
      simp only [List.getElem_cons_zero, Nat.add_zero] at e0 hrow
      have hmr : r.length ≤ 100000 := by have := HP.out.sum; rw [sumL_cons] at this; omega
      have hcR := HP.out.le
      have hgo : (0 : Int) < ((k + 1 : Nat) : Int) := by omega
      obtain ⟨ad', hsp', hcut, htl⟩ := lv_tail ⟨b, off, none⟩ (k + 1) cR (by omega) hcR rfl
      have HTL := Lib.hid htl; clear htl
      have HSP' := Lib.hid hsp'; clear hsp'
      have HG := Lib.hid (show pushGo now (r :: rest) = if r.length < 2 * now.length then pushGo (mrgS now r rest.isEmpty) rest else (now, r :: rest) from rfl)
      have HMN := Lib.hid HP.out.mn
      obtain ⟨rl, hrl⟩ : ∃ rl, r.length = rl := ⟨_, rfl⟩
      have HRL := Lib.hid hrl
      rw [hrl] at e0 hmr
      clear hrl
      by_cases hbig : rl < 2 * mN
      · have hc1 : (rl : Int) < 2 * (mN : Int) := by omega
        obtain ⟨fl, hfl, hfl2⟩ : ∃ fl : Bool, fl = rest.isEmpty ∧ ((k : Int) + 1 == 1) = fl := by
          refine ⟨rest.isEmpty, rfl, ?_⟩
          have := HKR.out
          cases rest with
          | nil => simp at this; subst this; rfl
          | cons a t => simp at this ⊢; omega
        have HM := Lib.hid (sMerge_any AN AH mN cN rl cH now r fl wr (RowAt.of_own HP.out.own) HP.out.mn hrow HRL.out.symm hcz (by omega) (by omega))
        have HX := Lib.hid (show pushGo (mrgS now r fl) rest = pushGo run L by rw [← HP.out.go, HG.out, if_pos (by rw [HRL.out, ← HMN.out]; exact hbig), hfl])
        have HLN := Lib.hid (mrgS_len now r fl)
        clear hfl hcz hrow
        generalize mrgS now r fl = nw at *
        go_wp2_with fail
        refine (HM.out).mono ?_
        rintro e w5 ⟨v, rfl, ⟨A5, c5, rfl, ho5⟩, hb5⟩
        have HP5 := Lib.hid (show PsRel w run L nw rest A5 nw.length c5 (some ad') (k + 1 - 1) (cR - 1) w5 from
          { go := HX.out, mn := rfl, mr := by rw [← HKR.out]; omega, le := by omega, sp := fun ad h => by injection h with h; rw [← h]; exact HSP'.out, cz := fun h => (by cases h), few := by have := HP.out.few; omega,
            own := own_leL ho5 HP.out.hb.size, lv := HTL.out w5 _ r rest ((HP.out.lv.below hb5).mono hb5.size) (by rw [← HKR.out]),
            hb := HP.out.hb.trans (hb5.mono HP.out.hb.size), sum := by have := HP.out.sum; have := HLN.out; rw [sumL_cons] at *; omega })
        clear hb5 ho5
        go_wp2_with fail
        go_roundw
        case rel => exact ⟨nw, rest, A5, nw.length, c5, some ad', k + 1 - 1, cR - 1, rfl, rfl, HP5.out⟩
        case measure => simp
      · have hc1 : ¬ (rl : Int) < 2 * (mN : Int) := by omega
        have hk1 : ((k : Int) + 1 == 0) = false := by simp; omega
        have HPK := Lib.hid (show pushK run L = (if 0 < now.length then [now] else []) ++ (r :: rest) by
          have hg : pushGo run L = (now, r :: rest) := by rw [← HP.out.go, HG.out, if_neg (by rw [HRL.out, ← HMN.out]; omega)]
          unfold pushK pushLast
          rw [hg]
          rfl)
        have HMM := HMN
        have HMR := Lib.hid (show k + 1 = (r :: rest).length by rw [HKR.out]; rfl)
        have HRS := Lib.hid (show ∃ hs : List Hd, hs.length = k + 1 ∧ RowAt wr wr.heap.size (some ⟨b, off, none⟩) (hdsC hs) ∧ ∀ (i : Nat) (h1 : i < hs.length) (h2 : i < (r :: rest).length), hs[i].2.1 = (r :: rest)[i].length ∧ (hs[i].1 = none → hs[i].2.2 = 0) ∧ RowAt wr wr.heap.size hs[i].1 (itsC (r :: rest)[i]) by
          obtain ⟨hs, e1, e2, e3⟩ := HP.out.lv
          exact ⟨hs, by rw [e1, ← HMR.out], e2, e3⟩)
        have HOWN := Lib.hid HP.out.own
        have HB := Lib.hid HP.out.hb
        have hcz9 := HP.out.cz
        have hk9 : k ≤ 100000 := by have := HP.out.few; have := HNL.out; omega
        clear hcz hrow hcut HG
        obtain ⟨hs, hsl, hsr, hsrows⟩ := HRS.out
        have HSR := Lib.hid hsr
        have HSL := Lib.hid hsl
        have HROWS := Lib.hid hsrows
        clear hsl hsr hsrows
        have HOUT := Lib.hid (own_start wr 23 1)
        have HBO := Lib.hid ((Below.refl wr.heap.size wr).alloc (Nat.le_refl _) (.cells #[] 23))
        rcases Nat.eq_zero_or_pos mN with hz0 | hz0
        · have HPK2 := Lib.hid (show pushK run L = (r :: rest) by rw [HPK.out, if_neg (by rw [← HMM.out]; omega)]; rfl)
          have hz1 : ¬ (0 : Int) < (mN : Int) := by omega
          have HZ0 := Lib.hid hz0; clear hz0
          go_wp2_with (at_builtin; refine wpList_append_row rfl _ _ 29 rfl wr.heap.size 23 j0 (.slice none 0 0) 1 24 Try.underlying29 HJ.out.1 HJ.out.2.1 HJ.out.2.2.1 HJ.out.2.2.2 rfl (by decide) _ 0 [] rfl HOUT.out (some ⟨b, off, none⟩) (k + 1) cR wr.heap.size (hdsC hs) rfl hcz9 ?c0_1 (HSR.out.below HBO.out) (hds_one hs) ?c3_1 ?c4_1 ?c5_1 ?_)
          try (case c0_1 => first | (rw [hdsC_len, HSL.out]; done) | (rw [hdsC_len, HSL.out, Nat.mul_one]))
          case c3_1 => unfold maxLen; omega
          case c4_1 => omega
          try (case c5_1 => exact HBO.out.size)
          intro v8 w8 hown8 hgrow8
          have hb8 : Below wr.heap.size wr w8 := HBO.out.grown hgrow8 HBO.out.size (fun q hq => (HOUT.out.lt q hq).1)
          obtain ⟨A8, c8, rfl⟩ := own_shape hown8
          have HO8 := Lib.hid hown8
          have HB8 := Lib.hid hb8
          clear hown8 hgrow8 hb8
          go_wp2_with fail
          go_ret
          refine ⟨_, rfl, ?_⟩
          rw [HPK2.out]
          exact LvOut.fin HB.out HB8.out HMR.out HSL.out (by simpa using HO8.out) HROWS.out
        · have HPK2 := Lib.hid (show pushK run L = now :: (r :: rest) by rw [HPK.out, if_pos (by rw [← HMM.out]; omega)]; rfl)
          have hz1 : (0 : Int) < (mN : Int) := by omega
          have HRX := Lib.hid (rows_cons (cX := cN) HMM.out (own_cap0 HOWN.out) (RowAt.of_own HOWN.out) HROWS.out)
          have HOA := Lib.hid (own_keep HOUT.out ((Below.refl (wr.alloc (.cells #[] 23)).heap.size (wr.alloc (.cells #[] 23))).alloc (Nat.le_refl _) (.cells #[.slice AN mN cN] 23)))
          have HBA := Lib.hid (fun o => HBO.out.alloc HBO.out.size o)
          have HNR := Lib.hid (row_new (wr.alloc (.cells #[] 23)) [.slice AN mN cN] 23 (wr.heap.size + 1) (by simp))
          go_wp2_with (at_builtin; refine wpList_append_row rfl _ _ 29 rfl wr.heap.size 23 j0 (.slice none 0 0) 1 24 Try.underlying29 HJ.out.1 HJ.out.2.1 HJ.out.2.2.1 HJ.out.2.2.2 rfl (by decide) _ 0 [] rfl HOA.out (some ⟨wr.heap.size + 1, 0, none⟩) 1 1 _ [.slice AN mN cN] rfl ?cz_2 rfl HNR.out ?c2_2 ?c3_2 ?c4_2 ?c5_2 ?_)
          try (case cz_2 => exact fun h => (by cases h))
          try (case c2_2 => first | rfl | (intro u hu; simp at hu; subst hu; rfl))
          try (case c3_2 => unfold maxLen; omega)
          try (case c4_2 => omega)
          try (case c5_2 => first | (simp; done) | omega | (simp; omega))
          intro v7 w7 hown7 hgrow7
          have hb7 : Below wr.heap.size wr w7 := (HBA.out _).grown hgrow7 (by simp; omega) (fun q hq => (HOUT.out.lt q hq).1)
          obtain ⟨A7, c7, rfl⟩ := own_shape hown7
          have HO7 := Lib.hid hown7
          have HB7 := Lib.hid hb7
          clear hown7 hgrow7 hb7
          go_wp2_with (at_builtin; refine wpList_append_row rfl _ _ 29 rfl wr.heap.size 23 j0 (.slice none 0 0) 1 24 Try.underlying29 HJ.out.1 HJ.out.2.1 HJ.out.2.2.1 HJ.out.2.2.2 rfl (by decide) _ _ _ rfl HO7.out (some ⟨b, off, none⟩) (k + 1) cR wr.heap.size (hdsC hs) rfl hcz9 ?c0_3 (HSR.out.below HB7.out) (hds_one hs) ?c3_3 ?c4_3 ?c5_3 ?_)
          try (case c0_3 => first | (rw [hdsC_len, HSL.out]; done) | (rw [hdsC_len, HSL.out, Nat.mul_one]))
          case c3_3 => unfold maxLen; omega
          case c4_3 => omega
          try (case c5_3 => exact HB7.out.size)
          intro v8 w8 hown8 hgrow8
          have hb8 : Below wr.heap.size wr w8 := HB7.out.grown hgrow8 HB7.out.size (fun q hq => (HO7.out.lt q hq).1)
          obtain ⟨A8, c8, rfl⟩ := own_shape hown8
          have HO8 := Lib.hid hown8
          have HB8 := Lib.hid hb8
          clear hown8 hgrow8 hb8
          go_wp2_with fail
          go_ret
          refine ⟨_, rfl, ?_⟩
          rw [HPK2.out]
          exact LvOut.fin HB.out HB8.out (by simp [← HMR.out]; omega) (by simp [HSL.out]; omega) (by simpa [hdsC, hdC] using HO8.out) HRX.out
    | nil =>
      obtain rfl : mR = 0 := by have := HP.out.mr; simpa using this
      have HB1 := Lib.hid ((Below.refl wr.heap.size wr).alloc (Nat.le_refl _) (.cells #[] 31))
      have HM := Lib.hid (sMerge_any AN (some ⟨wr.heap.size, 0, none⟩) mN cN 0 0 now [] true (wr.alloc (.cells #[] 31)) (RowAt.of_own (own_keep HP.out.own HB1.out)) HP.out.mn (RowAt.nil _ _ _) rfl (fun h => (by cases h)) (by omega) (by omega))
      have HPK := Lib.hid (show pushK run L = (if 0 < (mrgS now [] true).length then [mrgS now [] true] else []) ++ [] by
        have hg : pushGo run L = (now, []) := by rw [← HP.out.go]; rfl
        unfold pushK pushLast
        rw [hg]
        rfl)
      have HLN := Lib.hid (mrgS_len now [] true)
      have HMN := Lib.hid HP.out.mn
      generalize mrgS now [] true = nw at *
      go_wp2_with fail
      refine (HM.out).mono ?_
      rintro e w5 ⟨v, rfl, ⟨A5, c5, rfl, ho5⟩, hb5⟩
      obtain ⟨mm, hmm⟩ : ∃ mm, nw.length = mm := ⟨_, rfl⟩
      rw [hmm] at ho5
      have HMM := Lib.hid hmm.symm
      have hmm2 : mm ≤ 100000 := by have := HLN.out; have := HMN.out; simp at *; omega
      rw [hmm]
      clear hmm
      have hb15 : Below wr.heap.size wr w5 := HB1.out.trans (hb5.mono HB1.out.size)
      have HOWN := Lib.hid (own_leL ho5 (show w.heap.size ≤ (wr.alloc (.cells #[] 31)).heap.size from Nat.le_trans HP.out.hb.size HB1.out.size))
      have HB := Lib.hid (HP.out.hb.trans (hb15.mono HP.out.hb.size))
      have HMR := Lib.hid (show 0 = ([] : List (List It)).length from rfl)
      have HRS := Lib.hid (show ∃ hs : List Hd, hs.length = 0 ∧ RowAt w5 w5.heap.size AR (hdsC hs) ∧ ∀ (i : Nat) (h1 : i < hs.length) (h2 : i < ([] : List (List It)).length), hs[i].2.1 = ([] : List (List It))[i].length ∧ (hs[i].1 = none → hs[i].2.2 = 0) ∧ RowAt w5 w5.heap.size hs[i].1 (itsC ([] : List (List It))[i]) from
        ⟨[], rfl, RowAt.nil _ _ _, fun i a => by simp at a⟩)
      have hcz9 := HP.out.cz
      clear hb5 ho5 hb15
      obtain ⟨hs, hsl, hsr, hsrows⟩ := HRS.out
      have HSR := Lib.hid hsr
      have HSL := Lib.hid hsl
      have HROWS := Lib.hid hsrows
      clear hsl hsr hsrows
      have HOUT := Lib.hid (own_start w5 23 1)
      have HBO := Lib.hid ((Below.refl w5.heap.size w5).alloc (Nat.le_refl _) (.cells #[] 23))
      rcases Nat.eq_zero_or_pos mm with hz0 | hz0
      · have HPK2 := Lib.hid (show pushK run L = [] by rw [HPK.out, if_neg (by rw [← HMM.out]; omega)]; rfl)
        have hz1 : ¬ (0 : Int) < (mm : Int) := by omega
        have HZ0 := Lib.hid hz0; clear hz0
        go_wp2_with (at_builtin; refine wpList_append_row rfl _ _ 29 rfl w5.heap.size 23 j0 (.slice none 0 0) 1 24 Try.underlying29 HJ.out.1 HJ.out.2.1 HJ.out.2.2.1 HJ.out.2.2.2 rfl (by decide) _ 0 [] rfl HOUT.out AR 0 cR w5.heap.size (hdsC hs) rfl hcz9 ?c0_7 (HSR.out.below HBO.out) (hds_one hs) ?c3_7 ?c4_7 ?c5_7 ?_)
        try (case c0_7 => first | (rw [hdsC_len, HSL.out]; done) | (rw [hdsC_len, HSL.out, Nat.mul_one]))
        try (case c3_7 => unfold maxLen; omega)
        try (case c4_7 => omega)
        try (case c5_7 => exact HBO.out.size)
        intro v8 w8 hown8 hgrow8
        have hb8 : Below w5.heap.size w5 w8 := HBO.out.grown hgrow8 HBO.out.size (fun q hq => (HOUT.out.lt q hq).1)
        obtain ⟨A8, c8, rfl⟩ := own_shape hown8
        have HO8 := Lib.hid hown8
        have HB8 := Lib.hid hb8
        clear hown8 hgrow8 hb8
        go_wp2_with fail
        go_ret
        refine ⟨_, rfl, ?_⟩
        rw [HPK2.out]
        exact LvOut.fin HB.out HB8.out HMR.out HSL.out (by simpa using HO8.out) HROWS.out
      · have HPK2 := Lib.hid (show pushK run L = nw :: [] by rw [HPK.out, if_pos (by rw [← HMM.out]; omega)]; rfl)
        have hz1 : (0 : Int) < (mm : Int) := by omega
        have HRX := Lib.hid (rows_cons (cX := c5) HMM.out (own_cap0 HOWN.out) (RowAt.of_own HOWN.out) HROWS.out)
        have HOA := Lib.hid (own_keep HOUT.out ((Below.refl (w5.alloc (.cells #[] 23)).heap.size (w5.alloc (.cells #[] 23))).alloc (Nat.le_refl _) (.cells #[.slice A5 mm c5] 23)))
        have HBA := Lib.hid (fun o => HBO.out.alloc HBO.out.size o)
        have HNR := Lib.hid (row_new (w5.alloc (.cells #[] 23)) [.slice A5 mm c5] 23 (w5.heap.size + 1) (by simp))
        go_wp2_with (at_builtin; refine wpList_append_row rfl _ _ 29 rfl w5.heap.size 23 j0 (.slice none 0 0) 1 24 Try.underlying29 HJ.out.1 HJ.out.2.1 HJ.out.2.2.1 HJ.out.2.2.2 rfl (by decide) _ 0 [] rfl HOA.out (some ⟨w5.heap.size + 1, 0, none⟩) 1 1 _ [.slice A5 mm c5] rfl ?cz_8 rfl HNR.out ?c2_8 ?c3_8 ?c4_8 ?c5_8 ?_)
        try (case cz_8 => exact fun h => (by cases h))
        try (case c2_8 => first | rfl | (intro u hu; simp at hu; subst hu; rfl))
        try (case c3_8 => unfold maxLen; omega)
        try (case c4_8 => omega)
        try (case c5_8 => first | (simp; done) | omega | (simp; omega))
        intro v7 w7 hown7 hgrow7
        have hb7 : Below w5.heap.size w5 w7 := (HBA.out _).grown hgrow7 (by simp; omega) (fun q hq => (HOUT.out.lt q hq).1)
        obtain ⟨A7, c7, rfl⟩ := own_shape hown7
        have HO7 := Lib.hid hown7
        have HB7 := Lib.hid hb7
        clear hown7 hgrow7 hb7
        go_wp2_with (at_builtin; refine wpList_append_row rfl _ _ 29 rfl w5.heap.size 23 j0 (.slice none 0 0) 1 24 Try.underlying29 HJ.out.1 HJ.out.2.1 HJ.out.2.2.1 HJ.out.2.2.2 rfl (by decide) _ _ _ rfl HO7.out AR 0 cR w5.heap.size (hdsC hs) rfl hcz9 ?c0_9 (HSR.out.below HB7.out) (hds_one hs) ?c3_9 ?c4_9 ?c5_9 ?_)
        try (case c0_9 => first | (rw [hdsC_len, HSL.out]; done) | (rw [hdsC_len, HSL.out, Nat.mul_one]))
        try (case c3_9 => unfold maxLen; omega)
        try (case c4_9 => omega)
        try (case c5_9 => exact HB7.out.size)
        intro v8 w8 hown8 hgrow8
        have hb8 : Below w5.heap.size w5 w8 := HB7.out.grown hgrow8 HB7.out.size (fun q hq => (HO7.out.lt q hq).1)
        obtain ⟨A8, c8, rfl⟩ := own_shape hown8
        have HO8 := Lib.hid hown8
        have HB8 := Lib.hid hb8
        clear hown8 hgrow8 hb8
        go_wp2_with fail
        go_ret
        refine ⟨_, rfl, ?_⟩
        rw [HPK2.out]
        exact LvOut.fin HB.out HB8.out (by first | (simp [← HMR.out]; done) | (simp [← HMR.out]; omega)) (by first | (simp [HSL.out]; done) | (simp [HSL.out]; omega)) (by simpa [hdsC, hdC] using HO8.out) HRX.out
end Go.Proofs.Ytofpdelolniklaa
