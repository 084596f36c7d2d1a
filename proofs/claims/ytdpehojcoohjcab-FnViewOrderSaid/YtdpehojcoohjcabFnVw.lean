/- The walk of the law FnViewOrder. Condition: the code lies in a row. -/
import Derived.Test.YtdpehojcoohjcabDrawAd
import Derived.Test.YtdpehojcoohjcabRdI
import Derived.Test.YtdpehojcoohjcabEqIn
import Derived.Test.YtdpehojcoohjcabVwS
import Derived.Test.YtdpehojcoohjcabVwO
import Derived.BigRegion
import Derived.Deep.RegionWith
set_option linter.unusedVariables false
set_option linter.unusedSimpArgs false
namespace Go.Proofs.Ytdpehojcoohjcab
open Go.RowKit Go.ChangeShapes Go.WideShapes

theorem row_drop {w : World} {B g : Nat} {L : List Int} (h : RowAt w B (some ⟨g, 0, none⟩) (intC L)) (n : Nat) : RowAt w B (some ⟨g, n, none⟩) (intC (L.drop n)) := fun h0 => by
  obtain ⟨b, off, e, hb, hc⟩ := h (by intro h1; rw [intC_drop, h1] at h0; simp at h0)
  cases e
  refine ⟨g, n, rfl, hb, fun i v hi => ?_⟩
  rw [intC_drop, List.getElem?_drop] at hi
  have := hc _ v hi
  rwa [Nat.zero_add] at this
theorem cut3 (b c k : Nat) (W : World) (h : k + 3 ≤ c) :
    (Instr.sliceAt 24 (.slice (some ⟨b, 0, none⟩) (k + 3) c) (some (.int .i64 (k : Int))) none none).run Try.prog W = .ok (.slice (some ⟨b, k, none⟩) 3 (c - k)) W := by
  have hu : Try.prog.underlying 24 = some (.slice (Try.prog.elem 24)) := by kernel_rfl
  have hs : (sizeOf (Try.prog.elem 24)).run Try.prog W = .ok 1 W := by kernel_rfl
  rw [run_sliceAt_slice (h := hu), run_slice_l (ht := hu) (h0 := by omega) (h1 := by omega), hs]
  simp only [Result.andThen_ok, sliced, Int.toNat_natCast, Option.map_some]
  rw [if_neg (by omega), add_zero_off]
  simp
theorem inTurn_ok {l : List AcT} {o : List Nat} (hv : actsB l = true) (ho : PreO 4 0 o) : actsB (inTurnL l o) = true := by
  obtain ⟨h1, h2⟩ := actsB_ok hv
  have hl : (inTurnL l o).length = l.length := by rw [← actsAt_turn, actsAt_len, turnP_len h2 ho]
  unfold actsB
  rw [Bool.and_eq_true]
  refine ⟨decide_eq_true (by omega), List.all_eq_true.2 fun x hx => ?_⟩
  unfold inTurnL at hx
  rw [List.mem_flatMap] at hx
  obtain ⟨p, _, h3⟩ := hx
  exact h2 x (List.mem_filter.1 h3).1
/-- what a view order is: each act reads the same, and the last writes are the same -/
theorem same_facts {l : List AcT} {o : List Nat} (hs : sameV l o = true) (hv : actsB l = true) (ho : PreO 4 0 o) :
    (∀ i (h : i < (readsL (inTurnL l o)).length) (h2 : i < (turnP l o).length) (h3 : (turnP l o)[i] < (readsL l).length), (readsL (inTurnL l o))[i] = (readsL l)[(turnP l o)[i]]) ∧
    (readsL (inTurnL l o)).drop l.length = (readsL l).drop l.length := by
  rw [sameV_eq, Bool.and_eq_true] at hs
  obtain ⟨h1, h2⟩ := hs
  rw [List.all_eq_true] at h1 h2
  have hil : (inTurnL l o).length = l.length := by rw [← actsAt_turn, actsAt_len, turnP_len (actsB_ok hv).2 ho]
  refine ⟨fun i h h4 h3 => ?_, ?_⟩
  · have := h1 i (by simpa using h4)
    unfold sameA at this
    simpa [List.getD_eq_getElem?_getD, h, h3, h4] using this
  · refine List.ext_getElem (by rw [List.length_drop, List.length_drop, readsL_len, readsL_len, hil]) fun t ht ht2 => ?_
    rw [List.getElem_drop, List.getElem_drop]
    rw [List.length_drop, readsL_len] at ht2
    have := h2 t (by simp; omega)
    unfold sameB at this
    have e1 : l.length + t < (readsL (inTurnL l o)).length := by rw [readsL_len, hil]; omega
    have e2 : l.length + t < (readsL l).length := by rw [readsL_len]; omega
    simpa [List.getD_eq_getElem?_getD, e1, e2] using this

set_option maxRecDepth 100000 in
set_option maxHeartbeats 16000000 in
theorem walk_FnViewOrder (A : Option Addr) (n0 c0 : Nat) (w : World) (h : BytesIn w A n0 c0) :
    Calls Try.prog 8 #[.slice A n0 c0] w fun e w' => e = .returned (.bool true) ∧ Below w.heap.size w w' := by
  have HD := Lib.hid (drawViewOrder_any A n0 c0 w h)
  obtain ⟨hc, hm, _⟩ := h
  unfold maxLen at hm
  by_cases hb : n0 ≤ 1048576
  rotate_left
  · go_enter Try.func8, Try.ntmps8
    go_wp2
    go_ret
    exact ⟨rfl, Below.refl _ _⟩
  obtain ⟨i0, hi0, hz0, hz1, hz2⟩ := info_parts intInfo
  have HI := Lib.hid (And.intro hi0 (And.intro hz0 (And.intro hz1 hz2))); clear hi0 hz0 hz1 hz2
  obtain ⟨i1, hi0, hz0, hz1, hz2⟩ := info_parts acInfo
  have HJ := Lib.hid (And.intro hi0 (And.intro hz0 (And.intro hz1 hz2))); clear hi0 hz0 hz1 hz2
  go_enter Try.func8, Try.ntmps8
  go_wp2_with fail
  refine (HD.out).mono ?_
  rintro e w0 ⟨l, A1, n, c, rfl, hn, hs, hwf, ho, hb0⟩
  have HB0 := Lib.hid hb0; clear hb0
  have HB1 := Lib.hid (Below.refl w0.heap.size w0)
  have HRW := Lib.hid (fun W (hb : Below w0.heap.size w0 W) => (((RowAt.of_own ho).below hb).mono hb.size))
  have HIO := Lib.hid (fun W (hb : Below w0.heap.size w0 W) => iView_any A1 n c l W (HRW.out W hb) hn (by omega) hwf)
  have HSO := Lib.hid (fun W (hb : Below w0.heap.size w0 W) => sView_any A1 n c l W (HRW.out W hb) hn (by omega) hwf)
  have HN := Lib.hid hn
  have HWF := Lib.hid hwf
  clear ho hn hwf
  cases hr : viewR l with
  | none =>
    rw [hr] at HIO HSO
    unfold OrdPost at HIO HSO
    simp only [Option.isSome_none, Option.getD_none] at HIO HSO
    have HLEN := Lib.hid (show (natI []).length = 0 from rfl)
    have HE := Lib.hid (fun A1 A2 c1 c2 W (h1 : RowAt W W.heap.size A1 (intC (natI []))) (h2 : RowAt W W.heap.size A2 (intC (natI []))) => equalInts_same A1 A2 0 c1 c2 (natI []) W h1 h2 rfl (by omega))
    clear hr
    go_wp2_with fail
    refine (HIO.out _ HB1.out).mono ?_
    rintro e w2 ⟨_, rfl, ⟨Ag, cg, rfl, hog⟩, hb2⟩
    have HB2 := Lib.hid (HB1.out.trans (hb2.mono HB1.out.size))
    rw [HLEN.out] at hog ⊢
    have HG2 := Lib.hid (RowAt.of_own hog); clear hog hb2
    go_wp2_with fail
    refine (HSO.out _ HB2.out).mono ?_
    rintro e w3 ⟨_, rfl, ⟨As, cs, rfl, hos⟩, hb3⟩
    have HB3 := Lib.hid (HB2.out.trans (hb3.mono HB2.out.size))
    rw [HLEN.out] at hos ⊢
    have HG3 := Lib.hid ((HG2.out.below hb3).mono hb3.size)
    have HS3 := Lib.hid (RowAt.of_own hos); clear hos hb3
    have HE3 := Lib.hid (HE.out Ag As cg cs _ HG3.out HS3.out)
    go_wp2_with fail
    refine (HE3.out).mono ?_
    rintro e w4 ⟨rfl, hb4⟩
    have HB4 := Lib.hid (HB3.out.trans (hb4.mono HB3.out.size))
    have HE4 := Lib.hid (HE.out Ag As cg cs _ ((HG3.out.below hb4).mono hb4.size) ((HS3.out.below hb4).mono hb4.size)); clear hb4
    go_wp2_with fail
    refine (HE4.out).mono ?_
    rintro e w5 ⟨rfl, hb5⟩
    have HB5 := Lib.hid (HB4.out.trans (hb5.mono HB4.out.size)); clear hb5
    go_wp2_with fail
    go_ret
    exact ⟨rfl, HB0.out.trans (HB5.out.mono HB0.out.size)⟩
  | some o =>
    have hv : actsB l = true := by
      cases hv : actsB l with
      | true => rfl
      | false => rw [viewR, hv] at hr; simp at hr
    have hf : firstO 4 (fitsV l) 4 [] = some o := by rw [viewR, hv] at hr; simpa using hr
    obtain ⟨hfo, hpre, _⟩ := firstO_get (preO_nil 4) hf
    rw [fitsV_sameV hv hpre] at hfo
    have hol : o.length = 4 := by have := hpre.1; omega
    have hit := inTurn_ok hv hpre
    obtain ⟨hsa, hsb⟩ := same_facts hfo hv hpre
    have hql := turnP_len (actsB_ok hv).2 hpre
    have hwf2 : WfAc (inTurnL l o) := fun x hx => HWF.out x (by
      unfold inTurnL at hx
      rw [List.mem_flatMap] at hx
      obtain ⟨p, _, h3⟩ := hx
      exact (List.mem_filter.1 h3).1)
    have hil : (inTurnL l o).length = n := by rw [← actsAt_turn, actsAt_len, hql, HN.out]
    have HQL := Lib.hid (show (turnP l o).length = n by rw [hql, HN.out])
    have HQT := Lib.hid (fun i (h : i < (turnP l o).length) => turnP_lt (List.getElem_mem h))
    have HAA := Lib.hid (actsAt_turn l o)
    have HSA := Lib.hid hsa
    have HSB := Lib.hid (show (readsL (inTurnL l o)).drop n = (readsL l).drop n by rw [HN.out]; exact hsb)
    have HLM := Lib.hid (show (readsL l).length = n + 3 by rw [readsL_len, HN.out])
    have HLT := Lib.hid (show (readsL (inTurnL l o)).length = n + 3 by rw [readsL_len, hil])
    have HMI := Lib.hid (fun W (hb : Below w0.heap.size w0 W) => iReads_any A1 n c l W (HRW.out W hb) HN.out (by omega) HWF.out)
    have HTH := Lib.hid (fun W B1 d1 (h1 : RowAt W W.heap.size B1 (acsC (inTurnL l o))) => iReads_any B1 n d1 (inTurnL l o) W h1 hil.symm (by omega) hwf2)
    rw [show rdsR l = readsL l by simp [rdsR, hv]] at HMI
    rw [show rdsR (inTurnL l o) = readsL (inTurnL l o) by simp [rdsR, hit]] at HTH
    have HOL := Lib.hid hol
    have HLEN := Lib.hid (show (natI o).length = 4 by rw [natI_len, hol])
    rw [hr] at HIO HSO
    unfold OrdPost at HIO HSO
    simp only [Option.isSome_some, Option.getD_some] at HIO HSO
    clear hr hf hfo hpre hol hit hsa hsb hql hwf2 hil hv
    have HE := Lib.hid (fun A1 A2 c1 c2 W (h1 : RowAt W W.heap.size A1 (intC (natI o))) (h2 : RowAt W W.heap.size A2 (intC (natI o))) => equalInts_same A1 A2 4 c1 c2 (natI o) W h1 h2 HLEN.out.symm (by omega))
    go_wp2_with fail
    refine (HIO.out _ HB1.out).mono ?_
    rintro e w2 ⟨_, rfl, ⟨Ag, cg, rfl, hog⟩, hb2⟩
    have HB2 := Lib.hid (HB1.out.trans (hb2.mono HB1.out.size))
    rw [HLEN.out] at hog ⊢
    have HG2 := Lib.hid (RowAt.of_own hog); clear hog hb2
    go_wp2_with fail
    refine (HSO.out _ HB2.out).mono ?_
    rintro e w3 ⟨_, rfl, ⟨As, cs, rfl, hos⟩, hb3⟩
    have HB3 := Lib.hid (HB2.out.trans (hb3.mono HB2.out.size))
    rw [HLEN.out] at hos ⊢
    have HG3 := Lib.hid ((HG2.out.below hb3).mono hb3.size)
    have HE3 := Lib.hid (HE.out Ag As cg cs _ HG3.out (RowAt.of_own hos)); clear hos hb3
    go_wp2_with fail
    refine (HE3.out).mono ?_
    rintro e v0 ⟨rfl, hb4⟩
    have HB4 := Lib.hid (HB3.out.trans (hb4.mono HB3.out.size))
    have HG4 := Lib.hid ((HG3.out.below hb4).mono hb4.size); clear hb4
    have HAT := Lib.hid (fun W (hb : Below v0.heap.size v0 W) k (hk : k < l.length) => acs_at (HRW.out W (HB4.out.trans (hb.mono HB4.out.size))) hk)
    have HIT := Lib.hid (fun W (hb : Below v0.heap.size v0 W) k (hk : k < o.length) => (show ∃ b off, Ag = some ⟨b, off, none⟩ ∧ b < v0.heap.size ∧ W.cell? ⟨b, off + k, none⟩ = some (.int .i64 (o[k] : Int)) by
      obtain ⟨b, off, h1, h2, h3⟩ := ints_at (HG4.out.below hb) (k := k) (by rw [natI_len]; exact hk)
      exact ⟨b, off, h1, h2, by rw [h3]; simp [natI]⟩))
    have HO1 := Lib.hid ((OutR.empty 47 3 v0).keep ((Below.refl _ _).alloc (Nat.le_refl _) (.cells #[] 3)))
    have HO2 := Lib.hid (show OutR 3 1 v0 [] 0 (some ⟨v0.heap.size + 1, 0, none⟩) 0 ((v0.alloc (.cells #[] 47)).alloc (.cells #[] 3)) by
      have h1 := OutR.empty 3 1 (v0.alloc (.cells #[] 47))
      have h2 : (v0.alloc (.cells #[] 47)).heap.size = v0.heap.size + 1 := by simp
      rw [h2] at h1
      exact ⟨own_leR h1.1 (by omega), ((Below.refl v0.heap.size v0).alloc (Nat.le_refl _) _).alloc (by simp) _⟩)
    clear HB2 HB3 HG2 HG3 HE3 HE HIO HSO
    go_wp2_with fail
    go_loopw [8, 9, 10] (fun q1 q2 i wr => ∃ (k mm : Nat) (Q : List Nat) (B1 B2 : Option Addr) (d1 d2 : Nat), q1 = .slice B1 mm d1 ∧ q2 = .slice B2 mm d2 ∧ i = .int .i64 k ∧ k ≤ 4 ∧ Q = turnP l (o.take k) ∧ mm = Q.length ∧ mm ≤ 10 * k ∧ OutR 47 3 v0 (acsC (actsAt l Q)) mm B1 d1 wr ∧ OutR 3 1 v0 (intC (natI Q)) mm B2 d2 wr) (fun _ _ i _ => 4 - (intOf i).toNat)
    case atStart => exact ⟨0, 0, [], _, _, _, _, rfl, rfl, rfl, by omega, rfl, rfl, by omega, HO1.out, HO2.out⟩
    case round =>
      clear HO1 HO2
      obtain ⟨k, mm, Q, B1, B2, d1, d2, rfl, rfl, rfl, hk, hQ, hmm, hm10, ho1, ho2⟩ := hrel
      have HO1 := Lib.hid ho1; clear ho1
      have HO2 := Lib.hid ho2; clear ho2
      have HQ := Lib.hid hQ; clear hQ
      have HMM := Lib.hid hmm; clear hmm
      by_cases hlt : k < 4
      · have hko : k < o.length := by have := HOL.out; omega
        have hi1 : (k : Int) < (4 : Int) := by omega
        have HEND := Lib.hid (partP_end (l := l) hko)
        have HZ := Lib.hid (show Q = partP l o k 0 o[k] by rw [partP_zero]; exact HQ.out)
        have HIK := Lib.hid (fun W (hb : Below v0.heap.size v0 W) => HIT.out W hb k hko)
        generalize o[k] = p at *
        have hm11 : mm ≤ 10 * k + 0 := by omega
        go_wp2_with fail
        go_loopw [8, 9, 11] (fun q1 q2 j wr => ∃ (i mm : Nat) (Q : List Nat) (B1 B2 : Option Addr) (d1 d2 : Nat), q1 = .slice B1 mm d1 ∧ q2 = .slice B2 mm d2 ∧ j = .int .i64 i ∧ i ≤ n ∧ Q = partP l o k i p ∧ mm = Q.length ∧ mm ≤ 10 * k + i ∧ OutR 47 3 v0 (acsC (actsAt l Q)) mm B1 d1 wr ∧ OutR 3 1 v0 (intC (natI Q)) mm B2 d2 wr) (fun _ _ j _ => n - (intOf j).toNat)
        case atStart => exact ⟨0, mm, Q, B1, B2, d1, d2, rfl, rfl, rfl, by omega, HZ.out, HMM.out, hm11, HO1.out, HO2.out⟩
        case round =>
          clear HO1 HO2 HQ HMM HZ hm10 hm11
          obtain ⟨i, mm, Q, B1, B2, d1, d2, rfl, rfl, rfl, hi, hQ, hmm, hm10, ho1, ho2⟩ := hrel
          have HO1 := Lib.hid ho1; clear ho1
          have HO2 := Lib.hid ho2; clear ho2
          have HQ := Lib.hid hQ; clear hQ
          have HMM := Lib.hid hmm; clear hmm
          rename World => wx
          by_cases hlt2 : i < n
          · have hil : i < l.length := by have := HN.out; omega
            obtain ⟨b, off, hA, hbw, e0, e1, e2⟩ := HAT.out _ HO1.out.2 i hil
            subst hA
            obtain ⟨b2, off2, hA2, hbw2, f0⟩ := HIK.out _ HO1.out.2
            subst hA2
            have hi2 : (i : Int) < (n : Int) := by omega
            have HYES := Lib.hid (fun (h : l[i].1 = (p : Int)) => And.intro (show Q ++ [i] = partP l o k (i + 1) p by rw [partP_yes hil h, HQ.out]) (actsAt_snoc (Q := Q) hil))
            have HNO := Lib.hid (fun (h : ¬ l[i].1 = (p : Int)) => (show Q = partP l o k (i + 1) p by rw [partP_no hil h, HQ.out]))
            rw [show l[i] = (l[i].1, l[i].2.1, l[i].2.2) from rfl] at HYES
            dsimp only at HYES
            generalize l[i].1 = x0 at *
            generalize l[i].2.1 = x1 at *
            generalize l[i].2.2 = x2 at *
            by_cases hq : x0 = (p : Int)
            · have HY := Lib.hid (HYES.out hq)
              clear HYES HNO
              subst hq
              have hqq : ((p : Int) == (p : Int)) = true := by simp
              have hbs : b < wx.heap.size := hbw
              go_wp2_with fail
              go_quiet (fail)
              refine at_worldR (p := fun W => Exit.then _ _ _ _ W) wx _ wx.heap.size (by repeat (first | with_reducible exact Below.refl _ _ | with_reducible refine Below.drew ?_ | with_reducible refine Below.trans ?_ (below_drewN _ _) | exact below_drewN _ _)) ?_
              intro W0 hb0
              have g0 := (hb0.cell (p := ⟨b, off + i * 3, none⟩) hbs).trans e0
              have g1 := (hb0.cell (p := ⟨b, off + i * 3 + 1, none⟩) hbs).trans e1
              have g2 := (hb0.cell (p := ⟨b, off + i * 3 + 2, none⟩) hbs).trans e2
              have HA1 := Lib.hid (fun o => (HO1.out.keep hb0).keep ((Below.refl W0.heap.size W0).alloc (Nat.le_refl _) o))
              have HA2 := Lib.hid (fun o => (HO2.out.keep hb0).keep ((Below.refl W0.heap.size W0).alloc (Nat.le_refl _) o))
              have hbb : b < W0.heap.size := Nat.lt_of_lt_of_le hbs hb0.size
              have hbc := hbw
              have hw0 : v0.heap.size ≤ W0.heap.size := Nat.le_trans HO1.out.2.size hb0.size
              clear hb0 e0 e1 e2 HO1 HO2
              go_wp2_with (at_builtin; refine wpList_append_own _ rfl _ _ 26 rfl v0.heap.size 47 i1 (.agg #[.int .i64 0, .int .i64 0, .bool false]) 3 24 Try.underlying26 HJ.out.1 HJ.out.2.1 HJ.out.2.2.1 HJ.out.2.2.2 rfl (by decide) (.slice B1 mm d1) mm (acsC (actsAt l Q)) rfl (HA1.out _).1 ⟨W0.heap.size, 0, none⟩ 1 1 [.int .i64 (p : Int), .int .i64 x1, .bool x2] rfl rfl ?c1 ?c2 ?c4 ?c5 ?c6 ?_)
              try (case c1 => exact fun j u hj => cells_at0 _ _ _ j u hj)
              try (case c2 => first | exact ⟨rfl, rfl, rfl⟩ | (intro u hu; simp at hu; rcases hu with rfl | rfl | rfl <;> rfl))
              try (case c4 => first | omega | (unfold maxLen; omega))
              try (case c5 => omega)
              try (case c6 => first | omega | (simp; omega))
              intro v' w4 hown' hgrow _
              obtain ⟨B3, d3, rfl, ho3⟩ := (HA1.out _).app hown' hgrow
              have HO3 := Lib.hid ho3
              have HO4 := Lib.hid ((HA2.out _).other (HA1.out _) int_act hgrow)
              clear ho3 hown' hgrow HA1 HA2 g0 g1 g2
              have HA3 := Lib.hid (fun o => HO3.out.keep ((Below.refl w4.heap.size w4).alloc (Nat.le_refl _) o))
              have HA4 := Lib.hid (fun o => HO4.out.keep ((Below.refl w4.heap.size w4).alloc (Nat.le_refl _) o))
              go_wp2_with (at_builtin; refine wpList_append_own _ rfl _ _ 24 rfl v0.heap.size 3 i0 (.int .i64 0) 1 8 Try.underlying24 HI.out.1 HI.out.2.1 HI.out.2.2.1 HI.out.2.2.2 rfl (by decide) (.slice B2 mm d2) mm (intC (natI Q)) rfl (HA4.out _).1 ⟨w4.heap.size, 0, none⟩ 1 1 [.int .i64 (i : Int)] rfl rfl ?c1 ?c2 ?c4 ?c5 ?c6 ?_)
              try (case c1 => exact fun j u hj => cells_at0 _ _ _ j u hj)
              try (case c2 => first | exact rfl | (intro u hu; simp at hu; rcases hu with rfl <;> rfl))
              try (case c4 => first | omega | (unfold maxLen; omega))
              try (case c5 => omega)
              try (case c6 => first | omega | (have := HO4.out.2.size; simp; omega))
              intro v' w5 hown' hgrow _
              obtain ⟨B4, d4, rfl, ho4⟩ := (HA4.out _).app hown' hgrow
              have HO5 := Lib.hid ho4
              have HO6 := Lib.hid ((HA3.out _).other (HA4.out _) act_int hgrow)
              clear ho4 hown' hgrow HA3 HA4
              go_wp2_with fail
              go_roundw
              case rel => exact ⟨i + 1, mm + 1, Q ++ [i], B3, B4, d3, d4, rfl, rfl, by go_num, by omega, HY.out.1, by rw [List.length_append, ← HMM.out]; rfl, by omega, by rw [HY.out.2, acsC_snoc]; exact HO6.out, by rw [natI_snoc]; exact HO5.out⟩
              case measure => simp [intOf]; omega
            · have HN2 := Lib.hid (HNO.out hq)
              clear HYES HNO
              have hqq : (x0 == (p : Int)) = false := by simpa using hq
              go_wp2_with fail
              go_quiet (fail)
              go_wp2_with fail
              go_roundw
              case rel => exact ⟨i + 1, mm, Q, B1, B2, d1, d2, rfl, rfl, by go_num, by omega, HN2.out, HMM.out, by omega, HO1.out.keep (below_drewN _ _), HO2.out.keep (below_drewN _ _)⟩
              case measure => simp [intOf]; omega
          · obtain rfl : i = n := by omega
            have HE := Lib.hid (show Q = turnP l (o.take (k + 1)) by rw [HQ.out, HN.out, HEND.out])
            go_wp2_with fail
            go_roundw
            case rel => exact ⟨k + 1, mm, Q, B1, B2, d1, d2, rfl, rfl, by go_num, by omega, HE.out, HMM.out, by omega, HO1.out, HO2.out⟩
            case measure => simp [intOf]; omega
      · have hk4 : k = 4 := by omega
        have hkn : ¬ (k : Int) < 4 := by omega
        have hQE : Q = turnP l o := by rw [HQ.out, hk4, ← HOL.out, List.take_length]
        subst hQE
        obtain rfl : mm = n := by rw [HMM.out, HQL.out]
        have HBv := Lib.hid (HB4.out.trans (HO1.out.2.mono HB4.out.size))
        have HS1 := Lib.hid (show RowAt wr wr.heap.size B1 (acsC (inTurnL l o)) by rw [← HAA.out]; exact RowAt.of_own HO1.out.1)
        have HF1 := Lib.hid (RowAt.of_own HO2.out.1)
        clear HO1 HO2 HQ HMM hm10 hk4 HAT HIT HAA
        go_wp2_with fail
        refine (HMI.out _ HBv.out).mono ?_
        rintro e w6 ⟨_, rfl, ⟨Am, cm, rfl, hom⟩, hb6⟩
        rw [HLM.out] at hom ⊢
        have HB6 := Lib.hid (HBv.out.trans (hb6.mono HBv.out.size))
        obtain ⟨gm, capm, hgm, _, _⟩ := hom.form (by omega)
        injection hgm with hgm _ hgc
        subst hgm hgc
        have hmc := (own_caps hom).1
        have HM6 := Lib.hid (RowAt.of_own hom)
        have HS6 := Lib.hid ((HS1.out.below hb6).mono hb6.size)
        have HF6 := Lib.hid ((HF1.out.below hb6).mono hb6.size); clear hb6 hom
        have HTT := Lib.hid (HTH.out _ B1 d1 HS6.out)
        go_wp2_with fail
        refine (HTT.out).mono ?_
        rintro e w7 ⟨_, rfl, ⟨At, ct, rfl, hot⟩, hb7⟩
        rw [HLT.out] at hot ⊢
        have HB7 := Lib.hid (HB6.out.trans (hb7.mono HB6.out.size))
        obtain ⟨gt, capt, hgt, _, _⟩ := hot.form (by omega)
        injection hgt with hgt _ hgc
        subst hgt hgc
        have htc := (own_caps hot).1
        have HT7 := Lib.hid (RowAt.of_own hot)
        have HM7 := Lib.hid ((HM6.out.below hb7).mono hb7.size)
        have HF7 := Lib.hid ((HF6.out.below hb7).mono hb7.size); clear hb7 hot
        clear HM6 HS6 HF6 HS1 HF1 HBv HB6 HMI HTH HTT
        go_wp2_with fail
        go_loopw [14] (fun i wr => ∃ k : Nat, i = .int .i64 k ∧ k ≤ mm ∧ Below w7.heap.size w7 wr) (fun i _ => mm - (intOf i).toNat)
        case atStart => exact ⟨0, rfl, by omega, Below.refl _ _⟩
        case round =>
          obtain ⟨i, rfl, hi, hbi⟩ := hrel
          have HBI := Lib.hid hbi; clear hbi
          rename World => wx
          by_cases hlt4 : i < mm
          · have hi1 : (i : Int) < (mm : Int) := by omega
            have hi2 : (i : Int) < ((mm + 3 : Nat) : Int) := by omega
            have hTl : i < (readsL (inTurnL l o)).length := by have := HLT.out; omega
            have hQl : i < (turnP l o).length := by have := HQL.out; omega
            have hql := HQT.out i hQl
            have hMl : (turnP l o)[i] < (readsL l).length := by have := HLM.out; have := HN.out; omega
            obtain ⟨b1, f1, hA1, _, e1⟩ := ints_at (HT7.out.below HBI.out) (k := i) hTl
            obtain ⟨b2, f2, hA2, _, e2⟩ := ints_at (l := natI (turnP l o)) (HF7.out.below HBI.out) (k := i) (by rw [natI_len]; exact hQl)
            obtain ⟨b3, f3, hA3, _, e3⟩ := ints_at (HM7.out.below HBI.out) (k := (turnP l o)[i]) hMl
            rw [show (natI (turnP l o))[i]'(by rw [natI_len]; exact hQl) = (((turnP l o)[i] : Nat) : Int) by simp [natI]] at e2
            cases hA1
            cases hA3
            subst hA2
            rw [HSA.out i hTl hQl hMl] at e1
            rw [Nat.zero_add] at e1 e3
            have hq1 : (((turnP l o)[i] : Nat) : Int) < ((mm + 3 : Nat) : Int) := by have := HN.out; omega
            have hq2 : (0 : Int) ≤ (((turnP l o)[i] : Nat) : Int) := by omega
            generalize hqg : (turnP l o)[i] = q at *
            clear hqg hql
            generalize (readsL l)[q] = y at *
            have hq3 : (y != y) = false := by simp
            have hq4 : (y == y) = true := by simp
            go_wp2_with fail
            go_quiet (fail)
            go_wp2_with fail
            go_roundw
            case rel => exact ⟨i + 1, by go_num, by omega, HBI.out.trans ((below_drewN _ _).mono HBI.out.size)⟩
            case measure => simp [intOf]; omega
          · obtain rfl : i = mm := by omega
            have HT8 := Lib.hid (row_drop ((HT7.out.below HBI.out).mono HBI.out.size) i)
            have HM8 := Lib.hid (row_drop ((HM7.out.below HBI.out).mono HBI.out.size) i)
            rw [HSB.out] at HT8
            have hdl : 3 = ((readsL l).drop i).length := by rw [List.length_drop, HLM.out]; omega
            have HEQ := Lib.hid (fun W c1 c2 (hb : Below wx.heap.size wx W) => equalInts_same (some ⟨gt, i, none⟩) (some ⟨gm, i, none⟩) 3 c1 c2 ((readsL l).drop i) W ((HT8.out.below hb).mono hb.size) ((HM8.out.below hb).mono hb.size) hdl (by omega))
            have HBX := Lib.hid (HB7.out.trans (HBI.out.mono HB7.out.size))
            clear hdl HT8 HM8
            have hcut1 := fun W => cut3 gt ct i W htc
            have hcut2 := fun W => cut3 gm cm i W hmc
            go_wp2_with fail
            refine wp_region_any (by kernel_rfl) ?_
            try (change wpAny _ _ _ _ _ _ _ (World.drew _))
            refine at_world8 (p := fun W => wpAny _ _ _ _ _ _ _ W) wx _ wx.heap.size (by repeat (first | with_reducible exact Below.refl _ _ | with_reducible refine Below.drew ?_ | with_reducible refine Below.trans ?_ (below_drewN _ _))) ?_
            intro W0 hb0
            have HBW := Lib.hid hb0
            have HEW := Lib.hid (fun c1 c2 => HEQ.out W0 c1 c2 hb0); clear hb0
            refine wpAny_take (i := 0) (v := ?_) rfl (by kernel_rfl) (by kernel_rfl) (by kernel_rfl) (fun _ _ _ h => h) (Or.inl ⟨by kernel_rfl, ?_⟩) ?_
            rotate_left
            · (intro w; go_simp; first | done | with_reducible rfl)
            conv => arg 7; simp [Act.put]
            refine wpAny_take (i := 1) (v := ?_) rfl (by kernel_rfl) (by kernel_rfl) (by kernel_rfl) (fun _ _ _ h => h) (Or.inl ⟨by kernel_rfl, ?_⟩) ?_
            rotate_left
            · (intro w; go_simp; first | done | with_reducible rfl)
            conv => arg 7; simp [Act.put]
            refine wpAny_take (i := 2) (v := ?_) rfl (by kernel_rfl) (by kernel_rfl) (by kernel_rfl) (fun _ _ _ h => h) (Or.inl ⟨by kernel_rfl, ?_⟩) ?_
            rotate_left
            · (intro w; go_simp; first | done | with_reducible rfl)
            conv => arg 7; simp [Act.put]
            refine wpAny_take (i := 3) (v := ?_) rfl (by kernel_rfl) (by kernel_rfl) (by kernel_rfl) (fun _ _ _ h => h) (Or.inl ⟨by kernel_rfl, ?_⟩) ?_
            rotate_left
            · (intro w; go_simp; first | done | with_reducible rfl)
            conv => arg 7; simp [Act.put]
            refine wpAny_take (i := 4) (v := ?_) rfl (by kernel_rfl) (by kernel_rfl) (by kernel_rfl) (fun _ _ _ h => h) (Or.inl ⟨by kernel_rfl, ?_⟩) ?_
            rotate_left
            · (intro w; go_simp; first | done | with_reducible rfl)
            conv => arg 7; simp [Act.put]
            refine wpAny_take (i := 5) (v := ?_) rfl (by kernel_rfl) (by kernel_rfl) (by kernel_rfl) (fun _ _ _ h => h) (Or.inl ⟨by kernel_rfl, ?_⟩) ?_
            rotate_left
            · (intro w; go_simp; first | done | with_reducible rfl)
            conv => arg 7; simp [Act.put]
            refine wpAny_take (i := 6) (v := ?_) rfl (by kernel_rfl) (by kernel_rfl) (by kernel_rfl) (fun _ _ _ h => h) (Or.inl ⟨by kernel_rfl, ?_⟩) ?_
            rotate_left
            · (intro w; go_simp; first | done | with_reducible rfl)
            conv => arg 7; simp [Act.put]
            refine wpAny_take (i := 7) (v := ?_) rfl (by kernel_rfl) (by kernel_rfl) (by kernel_rfl) (fun _ _ _ h => h) (Or.inl ⟨by kernel_rfl, ?_⟩) ?_
            rotate_left
            · (intro w; go_simp; first | done | with_reducible rfl)
            conv => arg 7; simp [Act.put]
            refine wpAny_ready (rs := [8]) (by kernel_rfl) (by simp) ?_
            refine AllReady.cons rfl (fun K hK => ?_) AllReady.nil
            go_simp
            go_at_call 28
            refine (HEW.out _ _).mono ?_
            rintro e w9 ⟨rfl, hb9⟩
            have HB9 := Lib.hid (HBW.out.trans (hb9.mono HBW.out.size)); clear hb9
            refine hK _ _ ?_; clear hK K
            refine wpAny_take (i := 9) (v := ?_) rfl (by kernel_rfl) (by kernel_rfl) (by kernel_rfl) (fun _ _ _ h => h) (Or.inl ⟨by kernel_rfl, ?_⟩) ?_
            rotate_left
            · (intro w; go_simp; first | done | with_reducible rfl)
            conv => arg 7; simp [Act.put]
            refine wpAny_take (i := 10) (v := ?_) rfl (by kernel_rfl) (by kernel_rfl) (by kernel_rfl) (fun _ _ _ h => h) (Or.inl ⟨by kernel_rfl, ?_⟩) ?_
            rotate_left
            · (intro w; go_simp; first | done | with_reducible rfl)
            conv => arg 7; simp [Act.put]
            refine wpAny_take (i := 11) (v := ?_) rfl (by kernel_rfl) (by kernel_rfl) (by kernel_rfl) (fun _ _ _ h => h) (Or.inl ⟨by kernel_rfl, ?_⟩) ?_
            rotate_left
            · (intro w; go_simp; first | done | with_reducible rfl)
            conv => arg 7; simp [Act.put]
            refine wpAny_take (i := 12) (v := ?_) rfl (by kernel_rfl) (by kernel_rfl) (by kernel_rfl) (fun _ _ _ h => h) (Or.inl ⟨by kernel_rfl, ?_⟩) ?_
            rotate_left
            · (intro w; go_simp; first | done | with_reducible rfl)
            conv => arg 7; simp [Act.put]
            refine wpAny_take (i := 13) (v := ?_) rfl (by kernel_rfl) (by kernel_rfl) (by kernel_rfl) (fun _ _ _ h => h) (Or.inl ⟨by kernel_rfl, ?_⟩) ?_
            rotate_left
            · (intro w; go_simp; first | done | with_reducible rfl)
            conv => arg 7; simp [Act.put]
            refine wpAny_take (i := 14) (v := ?_) rfl (by kernel_rfl) (by kernel_rfl) (by kernel_rfl) (fun _ _ _ h => h) (Or.inl ⟨by kernel_rfl, ?_⟩) ?_
            rotate_left
            · (intro w; go_simp; first | done | with_reducible rfl)
            conv => arg 7; simp [Act.put]
            refine wpAny_take (i := 15) (v := ?_) rfl (by kernel_rfl) (by kernel_rfl) (by kernel_rfl) (fun _ _ _ h => h) (Or.inl ⟨by kernel_rfl, ?_⟩) ?_
            rotate_left
            · (intro w; go_simp; first | done | with_reducible rfl)
            conv => arg 7; simp [Act.put]
            refine wpAny_take (i := 16) (v := ?_) rfl (by kernel_rfl) (by kernel_rfl) (by kernel_rfl) (fun _ _ _ h => h) (Or.inl ⟨by kernel_rfl, ?_⟩) ?_
            rotate_left
            · (intro w; go_simp; first | done | with_reducible rfl)
            conv => arg 7; simp [Act.put]
            refine wpAny_done (by kernel_rfl) ?_ _
            go_wp2_with fail
            go_ret
            exact ⟨rfl, HB0.out.trans ((HBX.out.trans (HB9.out.mono HBX.out.size)).mono HB0.out.size)⟩
end Go.Proofs.Ytdpehojcoohjcab
