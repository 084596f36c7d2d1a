/- Contract of oneByOne of the model (chapter 8). Conditions: the acts and the order lie in rows; they are few. -/
import Derived.Test.YtdpehojcoohjcabRdS
import Derived.Deep.QuietTactic
import Derived.BigQuiet
set_option linter.unusedVariables false
set_option linter.unusedSimpArgs false
namespace Go.Proofs.Ytdpehojcoohjcab
open Go.RowKit Go.ChangeShapes Go.WideShapes

theorem own_apartV {w : World} {B1 B2 z1 z2 n1 n2 c1 c2 k1 k2 : Nat} {e1 e2 : TypeId} {A1 A2 : Option Addr} {xs1 xs2 : List Value} (h1 : w.ownsRow B1 e1 z1 (.slice A1 n1 c1) k1 xs1) (h2 : w.ownsRow B2 e2 z2 (.slice A2 n2 c2) k2 xs2) (he : e1 ≠ e2) : ∀ q, (Value.slice A1 n1 c1).ownBlock = some q → (Value.slice A2 n2 c2).ownBlock ≠ some q := fun q hq hq2 => by
  rcases h1.2 with ⟨hv, _⟩ | ⟨g, cap, cur, hv, _, hh, _⟩
  · rw [hv] at hq; cases hq
  · rcases h2.2 with ⟨hv2, _⟩ | ⟨g2, cap2, cur2, hv2, _, hh2, _⟩
    · rw [hv2] at hq2; cases hq2
    · rw [hv] at hq; rw [hv2] at hq2
      have a1 : g = q := by simpa [Value.ownBlock] using hq
      have a2 : g2 = q := by simpa [Value.ownBlock] using hq2
      subst a1 a2
      rw [hh] at hh2
      injection hh2 with hh2
      injection hh2 with _ h3
      exact he h3
theorem OutR.other {T T2 : TypeId} {z z2 : Nat} {w W W' : World} {cs cs2 : List Value} {m m2 c c2 : Nat} {A A2 : Option Addr} (h : OutR T z w cs m A c W) (h2 : OutR T2 z2 w cs2 m2 A2 c2 W) (he : T ≠ T2) (hg : W.grownBy W' (Value.slice A2 m2 c2).ownBlock) : OutR T z w cs m A c W' :=
  ⟨h.1.kept hg (by
    cases hq : (Value.slice A m c).ownBlock with
    | none => exact .inl rfl
    | some q => exact .inr (fun e => own_apartV h.1 h2.1 he q hq e.symm)), h.2.grown hg h.2.size (fun q hq => (h2.1.lt q hq).1)⟩
theorem act_int : 47 ≠ 3 := by decide
theorem int_act : 3 ≠ 47 := by decide
/-- the places of the first parties of an order, and of some of the next one -/
def partP (l : List AcT) (o : List Nat) (k i p : Nat) : List Nat := turnP l (o.take k) ++ (List.range i).filter (fun i => decide ((l.getD i (0, 0, false)).1 = (p : Int)))
theorem partP_zero (l : List AcT) (o : List Nat) (k p : Nat) : partP l o k 0 p = turnP l (o.take k) := by unfold partP; simp
theorem partP_end {l : List AcT} {o : List Nat} {k : Nat} (hk : k < o.length) : partP l o k l.length o[k] = turnP l (o.take (k + 1)) := by
  unfold partP turnP
  rw [List.take_succ_eq_append_getElem hk, List.flatMap_append]
  simp
theorem partP_yes {l : List AcT} {o : List Nat} {k i p : Nat} (hi : i < l.length) (h : l[i].1 = (p : Int)) : partP l o k (i + 1) p = partP l o k i p ++ [i] := by
  unfold partP
  rw [List.range_succ, List.filter_append]
  simp [List.getD_eq_getElem?_getD, hi, h]
theorem partP_no {l : List AcT} {o : List Nat} {k i p : Nat} (hi : i < l.length) (h : ¬ l[i].1 = (p : Int)) : partP l o k (i + 1) p = partP l o k i p := by
  unfold partP
  rw [List.range_succ, List.filter_append]
  simp [List.getD_eq_getElem?_getD, hi, h]
theorem actsAt_snoc {l : List AcT} {Q : List Nat} {i : Nat} (hi : i < l.length) : actsAt l (Q ++ [i]) = actsAt l Q ++ [l[i]] := by simp [actsAt, hi]
theorem actsAt_len (l : List AcT) (Q : List Nat) : (actsAt l Q).length = Q.length := by simp [actsAt]
theorem natI_snoc (Q : List Nat) (i : Nat) : intC (natI (Q ++ [i])) = intC (natI Q) ++ [.int .i64 (i : Int)] := by simp [natI, intC]

set_option maxRecDepth 100000 in
set_option maxHeartbeats 8000000 in
theorem sOne_any (A : Option Addr) (n c : Nat) (l : List Ac) (A2 : Option Addr) (m c2 : Nat) (o : List Nat) (w : World) (hr : RowAt w w.heap.size A (acsC l)) (hn : n = l.length) (hs : n ≤ 10)
    (hr2 : RowAt w w.heap.size A2 (intC (natI o))) (hm : m = o.length) (hs2 : m ≤ 4) :
    Calls Try.prog 86 #[.slice A n c, .slice A2 m c2] w fun e w' => ∃ (B1 B2 : Option Addr) (d1 d2 k : Nat), e = .returned (.tuple #[.slice B1 k d1, .slice B2 k d2]) ∧ k = (turnP l o).length ∧
      OutR 47 3 w (acsC (actsAt l (turnP l o))) k B1 d1 w' ∧ OutR 3 1 w (intC (natI (turnP l o))) k B2 d2 w' := by
  obtain ⟨i0, hi0, hz0, hz1, hz2⟩ := info_parts intInfo
  have HI := Lib.hid (And.intro hi0 (And.intro hz0 (And.intro hz1 hz2))); clear hi0 hz0 hz1 hz2
  obtain ⟨i1, hi0, hz0, hz1, hz2⟩ := info_parts acInfo
  have HJ := Lib.hid (And.intro hi0 (And.intro hz0 (And.intro hz1 hz2))); clear hi0 hz0 hz1 hz2
  have HAT := Lib.hid (fun W (hb : Below w.heap.size w W) k (hk : k < l.length) => acs_at (hr.below hb) hk)
  have HIT := Lib.hid (fun W (hb : Below w.heap.size w W) k (hk : k < o.length) => (show ∃ b off, A2 = some ⟨b, off, none⟩ ∧ b < w.heap.size ∧ W.cell? ⟨b, off + k, none⟩ = some (.int .i64 (o[k] : Int)) by
    obtain ⟨b, off, h1, h2, h3⟩ := ints_at (hr2.below hb) (k := k) (by rw [natI_len]; exact hk)
    exact ⟨b, off, h1, h2, by rw [h3]; simp [natI]⟩))
  have HN := Lib.hid hn
  have HM := Lib.hid hm
  clear hr hr2 hn hm
  have HO1 := Lib.hid ((OutR.empty 47 3 w).keep ((Below.refl _ _).alloc (Nat.le_refl _) (.cells #[] 3)))
  have HO2 := Lib.hid (show OutR 3 1 w [] 0 (some ⟨w.heap.size + 1, 0, none⟩) 0 ((w.alloc (.cells #[] 47)).alloc (.cells #[] 3)) by
    have h1 := OutR.empty 3 1 (w.alloc (.cells #[] 47))
    have h2 : (w.alloc (.cells #[] 47)).heap.size = w.heap.size + 1 := by simp
    rw [h2] at h1
    exact ⟨own_leR h1.1 (by omega), ((Below.refl w.heap.size w).alloc (Nat.le_refl _) _).alloc (by simp) _⟩)
  go_enter Try.func86, Try.ntmps86
  go_wp2_with fail
  go_loopw [6, 7, 8] (fun q1 q2 i wr => ∃ (k mm : Nat) (Q : List Nat) (B1 B2 : Option Addr) (d1 d2 : Nat), q1 = .slice B1 mm d1 ∧ q2 = .slice B2 mm d2 ∧ i = .int .i64 k ∧ k ≤ m ∧ Q = turnP l (o.take k) ∧ mm = Q.length ∧ mm ≤ 10 * k ∧ OutR 47 3 w (acsC (actsAt l Q)) mm B1 d1 wr ∧ OutR 3 1 w (intC (natI Q)) mm B2 d2 wr) (fun _ _ i _ => m - (intOf i).toNat)
  case atStart => exact ⟨0, 0, [], _, _, _, _, rfl, rfl, rfl, by omega, rfl, rfl, by omega, HO1.out, HO2.out⟩
  case round =>
    clear HO1 HO2
    obtain ⟨k, mm, Q, B1, B2, d1, d2, rfl, rfl, rfl, hk, hQ, hmm, hm10, ho1, ho2⟩ := hrel
    have HO1 := Lib.hid ho1; clear ho1
    have HO2 := Lib.hid ho2; clear ho2
    have HQ := Lib.hid hQ; clear hQ
    have HMM := Lib.hid hmm; clear hmm
    by_cases hlt : k < m
    · have hko : k < o.length := by have := HM.out; omega
      have hi1 : (k : Int) < (m : Int) := by omega
      have HEND := Lib.hid (partP_end (l := l) hko)
      have HZ := Lib.hid (show Q = partP l o k 0 o[k] by rw [partP_zero]; exact HQ.out)
      have HIK := Lib.hid (fun W hb => HIT.out W hb k hko)
      generalize o[k] = p at *
      have hm11 : mm ≤ 10 * k + 0 := by omega
      go_wp2_with fail
      go_loopw [6, 7, 9] (fun q1 q2 j wr => ∃ (i mm : Nat) (Q : List Nat) (B1 B2 : Option Addr) (d1 d2 : Nat), q1 = .slice B1 mm d1 ∧ q2 = .slice B2 mm d2 ∧ j = .int .i64 i ∧ i ≤ n ∧ Q = partP l o k i p ∧ mm = Q.length ∧ mm ≤ 10 * k + i ∧ OutR 47 3 w (acsC (actsAt l Q)) mm B1 d1 wr ∧ OutR 3 1 w (intC (natI Q)) mm B2 d2 wr) (fun _ _ j _ => n - (intOf j).toNat)
      case atStart => exact ⟨0, mm, Q, B1, B2, d1, d2, rfl, rfl, rfl, by omega, HZ.out, HMM.out, hm11, HO1.out, HO2.out⟩
      case round =>
        clear HO1 HO2 HQ HMM HZ hm10 hm11
        obtain ⟨i, mm, Q, B1, B2, d1, d2, rfl, rfl, rfl, hi, hQ, hmm, hm10, ho1, ho2⟩ := hrel
        have HO1 := Lib.hid ho1; clear ho1
        have HO2 := Lib.hid ho2; clear ho2
        have HQ := Lib.hid hQ; clear hQ
        have HMM := Lib.hid hmm; clear hmm
        rename World => wx
        by_cases hlt2 : i < n
        · have hil : i < l.length := by have := HN.out; omega
          obtain ⟨b, off, hA, hbw, e0, e1, e2⟩ := HAT.out _ HO1.out.2 i hil
          subst hA
          obtain ⟨b2, off2, hA2, hbw2, f0⟩ := HIK.out _ HO1.out.2
          subst hA2
          have hi2 : (i : Int) < (n : Int) := by omega
          have HYES := Lib.hid (fun (h : l[i].1 = (p : Int)) => And.intro (show Q ++ [i] = partP l o k (i + 1) p by rw [partP_yes hil h, HQ.out]) (actsAt_snoc (Q := Q) hil))
          have HNO := Lib.hid (fun (h : ¬ l[i].1 = (p : Int)) => (show Q = partP l o k (i + 1) p by rw [partP_no hil h, HQ.out]))
          rw [show l[i] = (l[i].1, l[i].2.1, l[i].2.2) from rfl] at HYES
          dsimp only at HYES
          generalize l[i].1 = x0 at *
          generalize l[i].2.1 = x1 at *
          generalize l[i].2.2 = x2 at *
          by_cases hq : x0 = (p : Int)
          · have HY := Lib.hid (HYES.out hq)
            clear HYES HNO
            subst hq
            have hqq : ((p : Int) == (p : Int)) = true := by simp
            have hbs : b < wx.heap.size := Nat.lt_of_lt_of_le hbw HO1.out.2.size
            go_wp2_with fail
            go_quiet (fail)
            refine at_worldR (p := fun W => Exit.then _ _ _ _ W) wx _ wx.heap.size (by repeat (first | with_reducible exact Below.refl _ _ | with_reducible refine Below.drew ?_ | with_reducible refine Below.trans ?_ (below_drewN _ _) | exact below_drewN _ _)) ?_
            intro W0 hb0
            have g0 := (hb0.cell (p := ⟨b, off + i * 3, none⟩) hbs).trans e0
            have g1 := (hb0.cell (p := ⟨b, off + i * 3 + 1, none⟩) hbs).trans e1
            have g2 := (hb0.cell (p := ⟨b, off + i * 3 + 2, none⟩) hbs).trans e2
            have HA1 := Lib.hid (fun o => (HO1.out.keep hb0).keep ((Below.refl W0.heap.size W0).alloc (Nat.le_refl _) o))
            have HA2 := Lib.hid (fun o => (HO2.out.keep hb0).keep ((Below.refl W0.heap.size W0).alloc (Nat.le_refl _) o))
            have hbb : b < W0.heap.size := Nat.lt_of_lt_of_le hbs hb0.size
            have hbc := hbw
            have hw0 : w.heap.size ≤ W0.heap.size := Nat.le_trans HO1.out.2.size hb0.size
            clear hb0 e0 e1 e2 HO1 HO2
            go_wp2_with (at_builtin; refine wpList_append_own _ rfl _ _ 26 rfl w.heap.size 47 i1 (.agg #[.int .i64 0, .int .i64 0, .bool false]) 3 24 Try.underlying26 HJ.out.1 HJ.out.2.1 HJ.out.2.2.1 HJ.out.2.2.2 rfl (by decide) (.slice B1 mm d1) mm (acsC (actsAt l Q)) rfl (HA1.out _).1 ⟨W0.heap.size, 0, none⟩ 1 1 [.int .i64 (p : Int), .int .i64 x1, .bool x2] rfl rfl ?c1 ?c2 ?c4 ?c5 ?c6 ?_)
            try (case c1 => exact fun j u hj => cells_at0 _ _ _ j u hj)
            try (case c2 => first | exact ⟨rfl, rfl, rfl⟩ | (intro u hu; simp at hu; rcases hu with rfl | rfl | rfl <;> rfl))
            try (case c4 => first | omega | (unfold maxLen; omega))
            try (case c5 => omega)
            try (case c6 => first | omega | (simp; omega))
            intro v' w4 hown' hgrow _
            obtain ⟨B3, d3, rfl, ho3⟩ := (HA1.out _).app hown' hgrow
            have HO3 := Lib.hid ho3
            have HO4 := Lib.hid ((HA2.out _).other (HA1.out _) int_act hgrow)
            clear ho3 hown' hgrow HA1 HA2 g0 g1 g2
            have HA3 := Lib.hid (fun o => HO3.out.keep ((Below.refl w4.heap.size w4).alloc (Nat.le_refl _) o))
            have HA4 := Lib.hid (fun o => HO4.out.keep ((Below.refl w4.heap.size w4).alloc (Nat.le_refl _) o))
            go_wp2_with (at_builtin; refine wpList_append_own _ rfl _ _ 24 rfl w.heap.size 3 i0 (.int .i64 0) 1 8 Try.underlying24 HI.out.1 HI.out.2.1 HI.out.2.2.1 HI.out.2.2.2 rfl (by decide) (.slice B2 mm d2) mm (intC (natI Q)) rfl (HA4.out _).1 ⟨w4.heap.size, 0, none⟩ 1 1 [.int .i64 (i : Int)] rfl rfl ?c1 ?c2 ?c4 ?c5 ?c6 ?_)
            try (case c1 => exact fun j u hj => cells_at0 _ _ _ j u hj)
            try (case c2 => first | exact rfl | (intro u hu; simp at hu; rcases hu with rfl <;> rfl))
            try (case c4 => first | omega | (unfold maxLen; omega))
            try (case c5 => omega)
            try (case c6 => first | omega | (have := HO4.out.2.size; simp; omega))
            intro v' w5 hown' hgrow _
            obtain ⟨B4, d4, rfl, ho4⟩ := (HA4.out _).app hown' hgrow
            have HO5 := Lib.hid ho4
            have HO6 := Lib.hid ((HA3.out _).other (HA4.out _) act_int hgrow)
            clear ho4 hown' hgrow HA3 HA4
            go_wp2_with fail
            go_roundw
            case rel => exact ⟨i + 1, mm + 1, Q ++ [i], B3, B4, d3, d4, rfl, rfl, by go_num, by omega, HY.out.1, by rw [List.length_append, ← HMM.out]; rfl, by omega, by rw [HY.out.2, acsC_snoc]; exact HO6.out, by rw [natI_snoc]; exact HO5.out⟩
            case measure => simp [intOf]; omega
          · have HN2 := Lib.hid (HNO.out hq)
            clear HYES HNO
            have hqq : (x0 == (p : Int)) = false := by simpa using hq
            go_wp2_with fail
            go_quiet (fail)
            go_wp2_with fail
            go_roundw
            case rel => exact ⟨i + 1, mm, Q, B1, B2, d1, d2, rfl, rfl, by go_num, by omega, HN2.out, HMM.out, by omega, HO1.out.keep (below_drewN _ _), HO2.out.keep (below_drewN _ _)⟩
            case measure => simp [intOf]; omega
        · obtain rfl : i = n := by omega
          have HE := Lib.hid (show Q = turnP l (o.take (k + 1)) by rw [HQ.out, HN.out, HEND.out])
          go_wp2_with fail
          go_roundw
          case rel => exact ⟨k + 1, mm, Q, B1, B2, d1, d2, rfl, rfl, by go_num, by omega, HE.out, HMM.out, by omega, HO1.out, HO2.out⟩
          case measure => simp [intOf]; omega
    · obtain rfl : k = m := by omega
      have HE := Lib.hid (show Q = turnP l o by rw [HQ.out, HM.out, List.take_length])
      go_wp2_with fail
      go_ret2
      rw [← HE.out]
      exact ⟨B1, B2, d1, d2, mm, rfl, HMM.out, HO1.out, HO2.out⟩
end Go.Proofs.Ytdpehojcoohjcab
