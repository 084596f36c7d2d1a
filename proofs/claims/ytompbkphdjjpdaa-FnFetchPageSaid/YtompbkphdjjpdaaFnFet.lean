/- The walk of the law FnFetchPage. Condition: the code lies in a row. -/
import Derived.Test.YtompbkphdjjpdaaFnLea
set_option linter.unusedVariables false
set_option linter.unusedSimpArgs false
namespace Go.Proofs.Ytompbkphdjjpdaa
open Go.RowKit Go.ChangeShapes Go.WideShapes

theorem freeP_step {l : List Fr} {k : Nat} (h : k < l.length) : freeP (l.take (k + 1)) = (freeP (l.take k) || l[k].2.1 == 0) := by
  unfold freeP; rw [List.take_succ_eq_append_getElem h, List.any_append]; simp
theorem hasP_step2 {l : List Fr} {k : Nat} (h : k < l.length) (p : Int) : hasP (l.take (k + 1)) p = (hasP (l.take k) p || l[k].1 == p) := by
  unfold hasP; rw [List.take_succ_eq_append_getElem h, List.any_append]; simp
theorem fullP_step {l : List Fr} {k : Nat} {h p : Int} (hv : poolB l h = true) (hp : 0 ≤ p) (hk : k < l.length) : fullP (l.take (k + 1)) p = if l[k].1 = p then (l[k].2.1 == 3) else fullP (l.take k) p := by
  have e : fullP (l.take (k + 1)) p = (fullP (l.take k) p || (l[k].1 == p && l[k].2.1 == 3)) := by
    unfold fullP; rw [List.take_succ_eq_append_getElem hk, List.any_append]; simp
  rw [e]
  split
  · rename_i he
    have : fullP (l.take k) p = false := by
      unfold fullP
      rw [List.any_eq_false]
      intro f hf hc
      simp only [Bool.and_eq_true, beq_iff_eq] at hc
      obtain ⟨j, hj, rfl⟩ := List.mem_iff_getElem.1 hf
      have hj2 : j < l.length := by rw [List.length_take] at hj; omega
      rw [List.getElem_take] at hc
      have := dist_one (poolB_dist hv) hj2 hk (hc.1.trans he.symm) (by omega)
      rw [List.length_take] at hj
      omega
    rw [this]; simp [he]
  · rename_i he; simp [he]
theorem pins_ge {l : List Fr} {h : Int} (hv : poolB l h = true) {k : Nat} (hk : k < l.length) : 0 ≤ l[k].2.1 := by
  rcases goodF_cases (poolB_good hv _ (List.getElem_mem hk)) with h1 | h1 <;> omega
theorem has_kind {l : List Fr} {p k : Int} (h : k = 0 ↔ p ∈ pgs l) : (k == 0) = hasP l p := by
  rw [Bool.eq_iff_iff, beq_iff_eq, h]
  unfold hasP pgs
  rw [List.any_eq_true, List.mem_map]
  constructor
  · rintro ⟨f, hf, e⟩; exact ⟨f, hf, by simpa using e⟩
  · rintro ⟨f, hf, e⟩; exact ⟨f, hf, by simpa using e⟩

set_option maxRecDepth 100000 in
set_option maxHeartbeats 16000000 in
theorem walk_FnFetchPage (A : Option Addr) (n c : Nat) (w : World) (h : BytesIn w A n c) :
    Calls Try.prog 7 #[.slice A n c] w fun e w' => e = .returned (.bool true) ∧ Below w.heap.size w w' := by
  have HD := Lib.hid (drawFetch_any A n c w h)
  obtain ⟨hc, hm, _⟩ := h
  unfold maxLen at hm
  by_cases hb : n ≤ 1048576
  · go_enter Try.func7, Try.ntmps7
    go_wp2_with fail
    refine (HD.out).mono ?_
    rintro e w1 ⟨v, p, rfl, l, m, hd, A1, c1, rfl, hml, hm1, hm5, ho, hb1⟩
    have P1 := Lib.hid (PV.new ho hml hd)
    have HB1 := Lib.hid (below_step hb1 (below_new (.cells #[.slice A1 m c1, .int .i64 hd] 28)))
    have HML := Lib.hid hml; clear ho hml hb1 hb
    have HX := Lib.hid (fun W A' c' (hr : RowAt W W.heap.size A' (frsC l)) => iPool_any A' m c' l hd W hr HML.out (by omega))
    cases hq : fetchR l hd p with
    | none =>
      have HV := Lib.hid (fun W A' c' (hr : RowAt W W.heap.size A' (frsC l)) => (iFetch_any A' m c' l hd p W hr HML.out (by omega)).mono fun e w' hh => FetchPost.tellNo hq hh)
      have HW := Lib.hid (fun W A' c' (hr : RowAt W W.heap.size A' (frsC l)) => (sFetch_any A' m c' l hd p W hr HML.out (by omega)).mono fun e w' hh => FetchPost.tellNo hq hh)
      cases hv : poolB l hd
      · rw [hv] at HX
        clear hq hv
        go_wp2_with fail
        refine (HV.out _ _ _ P1.out.row).mono ?_
        rintro e w2 ⟨rfl, hb2⟩
        have hb2' := below_step hb2 (below_new (.cells #[.slice none 0 0, .int .i64 0] 28))
        have P2 := Lib.hid (P1.out.keep hb2')
        have Q2 := Lib.hid (PV.new (World.ownsRow_nil w2 0 49 3) (l := []) rfl 0)
        have HB2 := Lib.hid (below_step HB1.out hb2'); clear hb2 hb2'
        have a0 := P2.out.c0; have a1 := P2.out.c1
        go_wp2_with fail
        refine (HW.out _ _ _ P2.out.row).mono ?_
        rintro e w3 ⟨rfl, hb3⟩
        have hb3' := below_step hb3 (below_new (.cells #[.slice none 0 0, .int .i64 0] 28))
        have P3 := Lib.hid (P2.out.keep hb3')
        have Q3 := Lib.hid (Q2.out.keep hb3')
        have R3 := Lib.hid (PV.new (World.ownsRow_nil w3 0 49 3) (l := []) rfl 0)
        have HB3 := Lib.hid (below_step HB2.out hb3'); clear hb3 hb3' a0 a1
        have b0 := Q3.out.c0; have b1 := Q3.out.c1
        go_wp2_with fail
        refine (equalPool_same none none 0 0 0 [] 0 _ Q3.out.row R3.out.row rfl (by omega)).mono ?_
        rintro e w4 ⟨rfl, hb4⟩
        have P4 := Lib.hid (P3.out.keep hb4)
        have Q4 := Lib.hid (Q3.out.keep hb4)
        have R4 := Lib.hid (R3.out.keep hb4)
        have HB4 := Lib.hid (below_step HB3.out hb4); clear hb4 b0 b1
        have a0 := P4.out.c0; have a1 := P4.out.c1; have b0 := Q4.out.c0; have b1 := Q4.out.c1; have d0 := R4.out.c0; have d1 := R4.out.c1
        go_wp2_with fail
        refine (HX.out _ _ _ P4.out.row).mono ?_
        rintro e w5 ⟨rfl, hb5⟩
        have P5 := Lib.hid (P4.out.keep hb5)
        have Q5 := Lib.hid (Q4.out.keep hb5)
        have R5 := Lib.hid (R4.out.keep hb5)
        have HB5 := Lib.hid (below_step HB4.out hb5); clear hb5 a0 a1 b0 b1 d0 d1
        have b0 := Q5.out.c0; have b1 := Q5.out.c1; have d0 := R5.out.c0; have d1 := R5.out.c1
        go_wp2_with fail
        refine (equalPool_same none none 0 0 0 [] 0 _ Q5.out.row R5.out.row rfl (by omega)).mono ?_
        rintro e w6 ⟨rfl, hb6⟩
        have HB6 := Lib.hid (below_step HB5.out hb6); clear hb6 b0 b1 d0 d1
        go_wp2_with fail
        go_ret
        exact ⟨rfl, HB6.out⟩
      · rw [hv] at HX
        cases hpg : pageI p
        · clear hq hv
          have hpg2 : p < 0 ∨ 9 < p := by unfold pageI at hpg; simp at hpg; omega
          clear hpg
          by_cases hneg : p < 0
          · clear hpg2
            go_wp2_with fail
            refine (HV.out _ _ _ P1.out.row).mono ?_
            rintro e w2 ⟨rfl, hb2⟩
            have hb2' := below_step hb2 (below_new (.cells #[.slice none 0 0, .int .i64 0] 28))
            have P2 := Lib.hid (P1.out.keep hb2')
            have Q2 := Lib.hid (PV.new (World.ownsRow_nil w2 0 49 3) (l := []) rfl 0)
            have HB2 := Lib.hid (below_step HB1.out hb2'); clear hb2 hb2'
            have a0 := P2.out.c0; have a1 := P2.out.c1
            go_wp2_with fail
            refine (HW.out _ _ _ P2.out.row).mono ?_
            rintro e w3 ⟨rfl, hb3⟩
            have hb3' := below_step hb3 (below_new (.cells #[.slice none 0 0, .int .i64 0] 28))
            have P3 := Lib.hid (P2.out.keep hb3')
            have Q3 := Lib.hid (Q2.out.keep hb3')
            have R3 := Lib.hid (PV.new (World.ownsRow_nil w3 0 49 3) (l := []) rfl 0)
            have HB3 := Lib.hid (below_step HB2.out hb3'); clear hb3 hb3' a0 a1
            have b0 := Q3.out.c0; have b1 := Q3.out.c1
            go_wp2_with fail
            refine (equalPool_same none none 0 0 0 [] 0 _ Q3.out.row R3.out.row rfl (by omega)).mono ?_
            rintro e w4 ⟨rfl, hb4⟩
            have P4 := Lib.hid (P3.out.keep hb4)
            have Q4 := Lib.hid (Q3.out.keep hb4)
            have R4 := Lib.hid (R3.out.keep hb4)
            have HB4 := Lib.hid (below_step HB3.out hb4); clear hb4 b0 b1
            have a0 := P4.out.c0; have a1 := P4.out.c1; have b0 := Q4.out.c0; have b1 := Q4.out.c1; have d0 := R4.out.c0; have d1 := R4.out.c1
            go_wp2_with fail
            refine (HX.out _ _ _ P4.out.row).mono ?_
            rintro e w5 ⟨rfl, hb5⟩
            have P5 := Lib.hid (P4.out.keep hb5)
            have Q5 := Lib.hid (Q4.out.keep hb5)
            have R5 := Lib.hid (R4.out.keep hb5)
            have HB5 := Lib.hid (below_step HB4.out hb5); clear hb5 a0 a1 b0 b1 d0 d1
            have b0 := Q5.out.c0; have b1 := Q5.out.c1; have d0 := R5.out.c0; have d1 := R5.out.c1
            go_wp2_with fail
            refine (equalPool_same none none 0 0 0 [] 0 _ Q5.out.row R5.out.row rfl (by omega)).mono ?_
            rintro e w6 ⟨rfl, hb6⟩
            have HB6 := Lib.hid (below_step HB5.out hb6); clear hb6 b0 b1 d0 d1
            go_wp2_with fail
            go_ret
            exact ⟨rfl, HB6.out⟩
          · have h9 : 9 < p := by omega
            clear hpg2
            go_wp2_with fail
            refine (HV.out _ _ _ P1.out.row).mono ?_
            rintro e w2 ⟨rfl, hb2⟩
            have hb2' := below_step hb2 (below_new (.cells #[.slice none 0 0, .int .i64 0] 28))
            have P2 := Lib.hid (P1.out.keep hb2')
            have Q2 := Lib.hid (PV.new (World.ownsRow_nil w2 0 49 3) (l := []) rfl 0)
            have HB2 := Lib.hid (below_step HB1.out hb2'); clear hb2 hb2'
            have a0 := P2.out.c0; have a1 := P2.out.c1
            go_wp2_with fail
            refine (HW.out _ _ _ P2.out.row).mono ?_
            rintro e w3 ⟨rfl, hb3⟩
            have hb3' := below_step hb3 (below_new (.cells #[.slice none 0 0, .int .i64 0] 28))
            have P3 := Lib.hid (P2.out.keep hb3')
            have Q3 := Lib.hid (Q2.out.keep hb3')
            have R3 := Lib.hid (PV.new (World.ownsRow_nil w3 0 49 3) (l := []) rfl 0)
            have HB3 := Lib.hid (below_step HB2.out hb3'); clear hb3 hb3' a0 a1
            have b0 := Q3.out.c0; have b1 := Q3.out.c1
            go_wp2_with fail
            refine (equalPool_same none none 0 0 0 [] 0 _ Q3.out.row R3.out.row rfl (by omega)).mono ?_
            rintro e w4 ⟨rfl, hb4⟩
            have P4 := Lib.hid (P3.out.keep hb4)
            have Q4 := Lib.hid (Q3.out.keep hb4)
            have R4 := Lib.hid (R3.out.keep hb4)
            have HB4 := Lib.hid (below_step HB3.out hb4); clear hb4 b0 b1
            have a0 := P4.out.c0; have a1 := P4.out.c1; have b0 := Q4.out.c0; have b1 := Q4.out.c1; have d0 := R4.out.c0; have d1 := R4.out.c1
            go_wp2_with fail
            refine (HX.out _ _ _ P4.out.row).mono ?_
            rintro e w5 ⟨rfl, hb5⟩
            have P5 := Lib.hid (P4.out.keep hb5)
            have Q5 := Lib.hid (Q4.out.keep hb5)
            have R5 := Lib.hid (R4.out.keep hb5)
            have HB5 := Lib.hid (below_step HB4.out hb5); clear hb5 a0 a1 b0 b1 d0 d1
            have b0 := Q5.out.c0; have b1 := Q5.out.c1; have d0 := R5.out.c0; have d1 := R5.out.c1
            go_wp2_with fail
            refine (equalPool_same none none 0 0 0 [] 0 _ Q5.out.row R5.out.row rfl (by omega)).mono ?_
            rintro e w6 ⟨rfl, hb6⟩
            have HB6 := Lib.hid (below_step HB5.out hb6); clear hb6 b0 b1 d0 d1
            go_wp2_with fail
            go_ret
            exact ⟨rfl, HB6.out⟩
        · have HQ := Lib.hid hq; have HVV := Lib.hid hv; have HPG := Lib.hid hpg; clear hq hv hpg
          have hp0 : decide (p < 0) = false := by have := page_pos HPG.out; simp; omega
          have hp9 : decide (9 < p) = false := by have := HPG.out; unfold pageI at this; simp at this; simp; omega
          go_wp2_with fail
          refine (HV.out _ _ _ P1.out.row).mono ?_
          rintro e w2 ⟨rfl, hb2⟩
          have hb2' := below_step hb2 (below_new (.cells #[.slice none 0 0, .int .i64 0] 28))
          have P2 := Lib.hid (P1.out.keep hb2')
          have Q2 := Lib.hid (PV.new (World.ownsRow_nil w2 0 49 3) (l := []) rfl 0)
          have HB2 := Lib.hid (below_step HB1.out hb2'); clear hb2 hb2'
          have a0 := P2.out.c0; have a1 := P2.out.c1
          go_wp2_with fail
          refine (HW.out _ _ _ P2.out.row).mono ?_
          rintro e w3 ⟨rfl, hb3⟩
          have hb3' := below_step hb3 (below_new (.cells #[.slice none 0 0, .int .i64 0] 28))
          have P3 := Lib.hid (P2.out.keep hb3')
          have Q3 := Lib.hid (Q2.out.keep hb3')
          have R3 := Lib.hid (PV.new (World.ownsRow_nil w3 0 49 3) (l := []) rfl 0)
          have HB3 := Lib.hid (below_step HB2.out hb3'); clear hb3 hb3' a0 a1
          have b0 := Q3.out.c0; have b1 := Q3.out.c1
          go_wp2_with fail
          refine (equalPool_same none none 0 0 0 [] 0 _ Q3.out.row R3.out.row rfl (by omega)).mono ?_
          rintro e w4 ⟨rfl, hb4⟩
          have P4 := Lib.hid (P3.out.keep hb4)
          have Q4 := Lib.hid (Q3.out.keep hb4)
          have R4 := Lib.hid (R3.out.keep hb4)
          have HB4 := Lib.hid (below_step HB3.out hb4); clear hb4 b0 b1
          have a0 := P4.out.c0; have a1 := P4.out.c1; have b0 := Q4.out.c0; have b1 := Q4.out.c1; have d0 := R4.out.c0; have d1 := R4.out.c1
          go_wp2_with fail
          refine (HX.out _ _ _ P4.out.row).mono ?_
          rintro e w5 ⟨rfl, hb5⟩
          have P5 := Lib.hid (P4.out.keep hb5)
          have Q5 := Lib.hid (Q4.out.keep hb5)
          have R5 := Lib.hid (R4.out.keep hb5)
          have HB5 := Lib.hid (below_step HB4.out hb5); clear hb5 a0 a1 b0 b1 d0 d1
          have hq := HQ.out; have hv := HVV.out; have hpg := HPG.out
          have hpos := page_pos hpg
          have HST := Lib.hid (fun k (hk : k < l.length) => And.intro (hasP_step2 hk p) (And.intro (freeP_step hk) (And.intro (fullP_step hv hpos hk) (pins_ge hv hk))))
          have HEND := Lib.hid (show (false : Bool) = (hasP (l.take m) p && !fullP (l.take m) p || !hasP (l.take m) p && freeP (l.take m)) by
            have := fetch_when hv hpg
            rw [hq] at this
            rw [HML.out, List.take_length]; exact this)
          have hp0 : decide (p < 0) = false := by simp; omega
          have hp9 : decide (9 < p) = false := by unfold pageI at hpg; simp at hpg; simp; omega
          obtain ⟨gp, rfl⟩ := P5.out.ptr hm1
          clear hv hpg hq
          go_wp2_with fail
          go_loopw [11, 12, 13, 14] (fun t f x i wr => ∃ k : Nat, k ≤ m ∧ i = .int .i64 k ∧ t = .bool (hasP (l.take k) p) ∧ f = .bool (freeP (l.take k)) ∧ x = .bool (fullP (l.take k) p) ∧ Below w5.heap.size w5 wr) (fun _ _ _ i _ => m - (intOf i).toNat)
          case atStart => exact ⟨0, by omega, rfl, rfl, rfl, rfl, Below.refl _ _⟩
          case round =>
            obtain ⟨k, hk, rfl, rfl, rfl, rfl, hbr⟩ := hrel
            have PR := Lib.hid (P5.out.keep hbr)
            have QR := Lib.hid (Q5.out.keep hbr)
            have HBR := Lib.hid hbr; clear hbr
            have a0 := PR.out.c0; have b0 := QR.out.c0
            by_cases hlt : k < m
            · have i1 : (k : Int) < (m : Int) := by omega
              have i3 : (0 : Int) ≤ (k : Int) := by omega
              have hkl : k < l.length := by have := HML.out; omega
              obtain ⟨hgp, p0, p1, p2⟩ := PR.out.frame hkl
              obtain ⟨s1, s2, s3, hge⟩ := HST.out k hkl
              generalize hasP (l.take k) p = tb at *
              generalize freeP (l.take k) = fb at *
              generalize fullP (l.take k) p = mb at *
              generalize l[k].1 = x1 at *
              generalize l[k].2.1 = x2 at *
              generalize l[k].2.2 = x3 at *
              have S1 := Lib.hid s1; have S2 := Lib.hid s2; have S3 := Lib.hid s3; clear s1 s2 s3
              have HBR2 := Lib.hid (below_step HBR.out (below_new (.cells #[.int .i64 x1, .int .i64 x2, .bool x3] 49)))
              by_cases hz : x2 = 0
              · have z0 : (x2 == 0) = true := by simpa using hz
                have z1 : decide (0 < x2) = false := by simp; omega
                by_cases he : x1 = p
                · have e0 : (x1 == p) = true := by simpa using he
                  have F3 := Lib.hid (show (x2 == 3) = fullP (l.take (k + 1)) p by rw [S3.out, if_pos he])
                  have F1 := Lib.hid (show true = hasP (l.take (k + 1)) p by rw [S1.out, e0]; simp)
                  cases fb
                  all_goals
                    have F2 := Lib.hid (show true = freeP (l.take (k + 1)) by rw [S2.out, z0]; simp)
                    clear hz he
                    go_wp2_with fail
                    go_quiet (fail)
                    go_wp2_with fail
                    go_roundw
                    case rel => exact ⟨k + 1, by omega, by go_num, by rw [← F1.out], by rw [← F2.out], by rw [← F3.out], HBR2.out.trans (below_drewN _ _)⟩
                    case measure => simp [intOf]; omega
                · have e0 : (x1 == p) = false := by simpa using he
                  have F3 := Lib.hid (show mb = fullP (l.take (k + 1)) p by rw [S3.out, if_neg he])
                  have F1 := Lib.hid (show tb = hasP (l.take (k + 1)) p by rw [S1.out, e0]; simp)
                  cases fb
                  all_goals
                    have F2 := Lib.hid (show true = freeP (l.take (k + 1)) by rw [S2.out, z0]; simp)
                    clear hz he
                    go_wp2_with fail
                    go_quiet (fail)
                    go_wp2_with fail
                    go_roundw
                    case rel => exact ⟨k + 1, by omega, by go_num, by rw [← F1.out], by rw [← F2.out], by rw [← F3.out], HBR2.out.trans (below_drewN _ _)⟩
                    case measure => simp [intOf]; omega
              · have z0 : (x2 == 0) = false := by simpa using hz
                have z1 : decide (0 < x2) = true := by simp; omega
                by_cases he : x1 = p
                · have e0 : (x1 == p) = true := by simpa using he
                  have F3 := Lib.hid (show (x2 == 3) = fullP (l.take (k + 1)) p by rw [S3.out, if_pos he])
                  have F1 := Lib.hid (show true = hasP (l.take (k + 1)) p by rw [S1.out, e0]; simp)
                  cases fb
                  all_goals
                    have F2 := Lib.hid (S2.out)
                    clear hz he
                    go_wp2_with fail
                    go_quiet (fail)
                    go_wp2_with fail
                    go_roundw
                    case rel => exact ⟨k + 1, by omega, by go_num, by rw [← F1.out], by rw [F2.out, z0]; rfl, by rw [← F3.out], HBR2.out.trans (below_drewN _ _)⟩
                    case measure => simp [intOf]; omega
                · have e0 : (x1 == p) = false := by simpa using he
                  have F3 := Lib.hid (show mb = fullP (l.take (k + 1)) p by rw [S3.out, if_neg he])
                  have F1 := Lib.hid (show tb = hasP (l.take (k + 1)) p by rw [S1.out, e0]; simp)
                  cases fb
                  all_goals
                    have F2 := Lib.hid (S2.out)
                    clear hz he
                    go_wp2_with fail
                    go_quiet (fail)
                    go_wp2_with fail
                    go_roundw
                    case rel => exact ⟨k + 1, by omega, by go_num, by rw [← F1.out], by rw [F2.out, z0]; rfl, by rw [← F3.out], HBR2.out.trans (below_drewN _ _)⟩
                    case measure => simp [intOf]; omega
            · obtain rfl : k = m := by omega
              have b1 := QR.out.c1
              generalize hasP (l.take k) p = tb at *
              generalize freeP (l.take k) = fb at *
              generalize fullP (l.take k) p = mb at *
              have HK := Lib.hid (fun W A' c' (hr : RowAt W W.heap.size A' (frsC [])) => (iFetch_any A' 0 c' [] 0 p W hr rfl (by omega)).mono fun e w' hh => FetchPost.tellNo (by rfl) hh)
              cases tb <;> cases mb <;> cases fb <;> first | (exfalso; have hE := HEND.out; simp at hE; done) | skip
              all_goals
                go_wp2_with fail
                refine (HK.out _ _ _ QR.out.row).mono ?_
                rintro e w7 ⟨rfl, hb7⟩
                have HB7 := Lib.hid (below_step (below_step HB5.out HBR.out) (below_step hb7 (below_new (.cells #[.slice none 0 0, .int .i64 0] 28)))); clear hb7
                go_wp2_with fail
                go_ret
                exact ⟨rfl, HB7.out⟩
    | some x =>
      obtain ⟨L, h', kd⟩ := x
      have hLm : L.length = m := by rw [(fetched hq).len, HML.out]
      have hvp : poolB l hd = true ∧ pageI p = true := by
        unfold fetchR at hq
        split at hq
        · rename_i h1
          split at hq
          · rename_i h2; exact ⟨h1, h2⟩
          · cases hq
        · cases hq
      obtain ⟨hv, hpg⟩ := hvp
      have HV := Lib.hid (fun W A' c' (hr : RowAt W W.heap.size A' (frsC l)) => (iFetch_any A' m c' l hd p W hr HML.out (by omega)).mono fun e w' hh => FetchPost.tellYes hq hLm hh)
      have HW := Lib.hid (fun W A' c' (hr : RowAt W W.heap.size A' (frsC l)) => (sFetch_any A' m c' l hd p W hr HML.out (by omega)).mono fun e w' hh => FetchPost.tellYes hq hLm hh)
      rw [hv] at HX
      have kk : (kd == kd) = true := by simp
      have kk2 : (kd != kd) = false := by simp
      have HQ := Lib.hid hq; have HVV := Lib.hid hv; have HPG := Lib.hid hpg; have HLM := Lib.hid hLm; clear hq hv hpg hLm
      have hp0 : decide (p < 0) = false := by have := page_pos HPG.out; simp; omega
      have hp9 : decide (9 < p) = false := by have := HPG.out; unfold pageI at this; simp at this; simp; omega
      go_wp2_with fail
      refine (HV.out _ _ _ P1.out.row).mono ?_
      rintro e w2 ⟨A2, c2, rfl, ho2, hb2⟩
      have hb2' := below_step hb2 (below_new (.cells #[.slice A2 m c2, .int .i64 (h' : Int)] 28))
      have P2 := Lib.hid (P1.out.keep hb2')
      have Q2 := Lib.hid (PV.new ho2 HLM.out.symm (h' : Int))
      have HB2 := Lib.hid (below_step HB1.out hb2'); clear hb2 hb2' ho2
      have a0 := P2.out.c0; have a1 := P2.out.c1
      go_wp2_with fail
      refine (HW.out _ _ _ P2.out.row).mono ?_
      rintro e w3 ⟨A3, c3, rfl, ho3, hb3⟩
      have hb3' := below_step hb3 (below_new (.cells #[.slice A3 m c3, .int .i64 (h' : Int)] 28))
      have P3 := Lib.hid (P2.out.keep hb3')
      have Q3 := Lib.hid (Q2.out.keep hb3')
      have R3 := Lib.hid (PV.new ho3 HLM.out.symm (h' : Int))
      have HB3 := Lib.hid (below_step HB2.out hb3'); clear hb3 hb3' a0 a1 ho3
      have b0 := Q3.out.c0; have b1 := Q3.out.c1
      go_wp2_with fail
      refine (equalPool_same A2 A3 m c2 c3 L (h' : Int) _ Q3.out.row R3.out.row HLM.out.symm (by omega)).mono ?_
      rintro e w4 ⟨rfl, hb4⟩
      have P4 := Lib.hid (P3.out.keep hb4)
      have Q4 := Lib.hid (Q3.out.keep hb4)
      have R4 := Lib.hid (R3.out.keep hb4)
      have HB4 := Lib.hid (below_step HB3.out hb4); clear hb4 b0 b1
      have a0 := P4.out.c0; have a1 := P4.out.c1; have b0 := Q4.out.c0; have b1 := Q4.out.c1; have d0 := R4.out.c0; have d1 := R4.out.c1
      go_wp2_with fail
      refine (HX.out _ _ _ P4.out.row).mono ?_
      rintro e w5 ⟨rfl, hb5⟩
      have P5 := Lib.hid (P4.out.keep hb5)
      have Q5 := Lib.hid (Q4.out.keep hb5)
      have R5 := Lib.hid (R4.out.keep hb5)
      have HB5 := Lib.hid (below_step HB4.out hb5); clear hb5 a0 a1 b0 b1 d0 d1
      have hq := HQ.out; have hv := HVV.out; have hpg := HPG.out
      have hpos := page_pos hpg
      have HST := Lib.hid (fun k (hk : k < l.length) => And.intro (hasP_step2 hk p) (And.intro (freeP_step hk) (And.intro (fullP_step hv hpos hk) (pins_ge hv hk))))
      have HEND := Lib.hid (show (true : Bool) = (hasP (l.take m) p && !fullP (l.take m) p || !hasP (l.take m) p && freeP (l.take m)) by
        have := fetch_when hv hpg
        rw [hq] at this
        rw [HML.out, List.take_length]; exact this)
      have hp0 : decide (p < 0) = false := by simp; omega
      have hp9 : decide (9 < p) = false := by unfold pageI at hpg; simp at hpg; simp; omega
      obtain ⟨gp, rfl⟩ := P5.out.ptr hm1
      obtain ⟨gq, rfl⟩ := Q5.out.ptr hm1
      have hfe := fetched hq
      have HPN := Lib.hid (fun j (hj : j < l.length) (hjL : j < L.length) (h0 : 0 < l[j].2.1) => (show L[j].1 = l[j].1 from hfe.pinned j hj h0))
      have HKD := Lib.hid (show (kd == 0) = hasP (l.take m) p by rw [HML.out, List.take_length]; exact has_kind hfe.kind)
      have HVQ := Lib.hid (show poolB L (h' : Int) = true from hfe.valid)
      have HAG := Lib.hid (fun L2 h2 k2 hq2 => fetch_again (L2 := L2) (h2 := h2) (k2 := k2) hq hq2)
      clear hfe
      clear hv hpg hq
      go_wp2_with fail
      go_loopw [11, 12, 13, 14] (fun t f x i wr => ∃ k : Nat, k ≤ m ∧ i = .int .i64 k ∧ t = .bool (hasP (l.take k) p) ∧ f = .bool (freeP (l.take k)) ∧ x = .bool (fullP (l.take k) p) ∧ Below w5.heap.size w5 wr) (fun _ _ _ i _ => m - (intOf i).toNat)
      case atStart => exact ⟨0, by omega, rfl, rfl, rfl, rfl, Below.refl _ _⟩
      case round =>
        obtain ⟨k, hk, rfl, rfl, rfl, rfl, hbr⟩ := hrel
        have PR := Lib.hid (P5.out.keep hbr)
        have QR := Lib.hid (Q5.out.keep hbr)
        have HBR := Lib.hid hbr; clear hbr
        have a0 := PR.out.c0; have b0 := QR.out.c0
        by_cases hlt : k < m
        · have i1 : (k : Int) < (m : Int) := by omega
          have i3 : (0 : Int) ≤ (k : Int) := by omega
          have hkl : k < l.length := by have := HML.out; omega
          obtain ⟨hgp, p0, p1, p2⟩ := PR.out.frame hkl
          have hkL : k < L.length := by have := HLM.out; omega
          obtain ⟨hgq, q0, _, _⟩ := QR.out.frame hkL
          have hlq := QR.out.lt
          have hpn := HPN.out k hkl hkL
          obtain ⟨s1, s2, s3, hge⟩ := HST.out k hkl
          generalize hasP (l.take k) p = tb at *
          generalize freeP (l.take k) = fb at *
          generalize fullP (l.take k) p = mb at *
          generalize L[k].1 = y1 at *
          generalize l[k].1 = x1 at *
          generalize l[k].2.1 = x2 at *
          generalize l[k].2.2 = x3 at *
          have S1 := Lib.hid s1; have S2 := Lib.hid s2; have S3 := Lib.hid s3; clear s1 s2 s3
          have HPN2 := Lib.hid hpn; clear hpn
          have HBR2 := Lib.hid (below_step HBR.out (below_new (.cells #[.int .i64 x1, .int .i64 x2, .bool x3] 49)))
          by_cases hz : x2 = 0
          · have z0 : (x2 == 0) = true := by simpa using hz
            have z1 : decide (0 < x2) = false := by simp; omega
            by_cases he : x1 = p
            · have e0 : (x1 == p) = true := by simpa using he
              have F3 := Lib.hid (show (x2 == 3) = fullP (l.take (k + 1)) p by rw [S3.out, if_pos he])
              have F1 := Lib.hid (show true = hasP (l.take (k + 1)) p by rw [S1.out, e0]; simp)
              cases fb
              all_goals
                have F2 := Lib.hid (show true = freeP (l.take (k + 1)) by rw [S2.out, z0]; simp)
                clear hz he
                go_wp2_with fail
                go_quiet (fail)
                go_wp2_with fail
                go_roundw
                case rel => exact ⟨k + 1, by omega, by go_num, by rw [← F1.out], by rw [← F2.out], by rw [← F3.out], HBR2.out.trans (below_drewN _ _)⟩
                case measure => simp [intOf]; omega
            · have e0 : (x1 == p) = false := by simpa using he
              have F3 := Lib.hid (show mb = fullP (l.take (k + 1)) p by rw [S3.out, if_neg he])
              have F1 := Lib.hid (show tb = hasP (l.take (k + 1)) p by rw [S1.out, e0]; simp)
              cases fb
              all_goals
                have F2 := Lib.hid (show true = freeP (l.take (k + 1)) by rw [S2.out, z0]; simp)
                clear hz he
                go_wp2_with fail
                go_quiet (fail)
                go_wp2_with fail
                go_roundw
                case rel => exact ⟨k + 1, by omega, by go_num, by rw [← F1.out], by rw [← F2.out], by rw [← F3.out], HBR2.out.trans (below_drewN _ _)⟩
                case measure => simp [intOf]; omega
          · have z0 : (x2 == 0) = false := by simpa using hz
            have z1 : decide (0 < x2) = true := by simp; omega
            have y0 : (y1 != x1) = false := by rw [HPN2.out (by omega)]; simp
            by_cases he : x1 = p
            · have e0 : (x1 == p) = true := by simpa using he
              have F3 := Lib.hid (show (x2 == 3) = fullP (l.take (k + 1)) p by rw [S3.out, if_pos he])
              have F1 := Lib.hid (show true = hasP (l.take (k + 1)) p by rw [S1.out, e0]; simp)
              cases fb
              all_goals
                have F2 := Lib.hid (S2.out)
                clear hz he
                go_wp2_with fail
                go_quiet (fail)
                go_wp2_with fail
                go_roundw
                case rel => exact ⟨k + 1, by omega, by go_num, by rw [← F1.out], by rw [F2.out, z0]; rfl, by rw [← F3.out], HBR2.out.trans (below_drewN _ _)⟩
                case measure => simp [intOf]; omega
            · have e0 : (x1 == p) = false := by simpa using he
              have F3 := Lib.hid (show mb = fullP (l.take (k + 1)) p by rw [S3.out, if_neg he])
              have F1 := Lib.hid (show tb = hasP (l.take (k + 1)) p by rw [S1.out, e0]; simp)
              cases fb
              all_goals
                have F2 := Lib.hid (S2.out)
                clear hz he
                go_wp2_with fail
                go_quiet (fail)
                go_wp2_with fail
                go_roundw
                case rel => exact ⟨k + 1, by omega, by go_num, by rw [← F1.out], by rw [F2.out, z0]; rfl, by rw [← F3.out], HBR2.out.trans (below_drewN _ _)⟩
                case measure => simp [intOf]; omega
        · obtain rfl : k = m := by omega
          have b1 := QR.out.c1
          generalize hasP (l.take k) p = tb at *
          generalize freeP (l.take k) = fb at *
          generalize fullP (l.take k) p = mb at *
          cases hq2 : fetchR L (h' : Int) p with
          | none =>
            have HK := Lib.hid (fun W A' c' (hr : RowAt W W.heap.size A' (frsC L)) => (iFetch_any A' k c' L (h' : Int) p W hr HLM.out.symm (by omega)).mono fun e w' hh => FetchPost.tellNo hq2 hh)
            have HY := Lib.hid (fun W A' c' (hr : RowAt W W.heap.size A' (frsC L)) => iPool_any A' k c' L (h' : Int) W hr HLM.out.symm (by omega))
            rw [HVQ.out] at HY
            clear hq2
            have HKD2 := Lib.hid HKD.out; have HE2 := Lib.hid HEND.out
            cases tb <;> cases mb <;> cases fb <;> first | (exfalso; have hE := HEND.out; simp at hE; done) | skip
            all_goals
              have kd0 := HKD.out
              go_wp2_with fail
              refine (HK.out _ _ _ QR.out.row).mono ?_
              rintro e w7 ⟨rfl, hb7⟩
              have hb7' := below_step hb7 (below_new (.cells #[.slice none 0 0, .int .i64 0] 28))
              have Q7 := Lib.hid (QR.out.keep hb7')
              have HB7 := Lib.hid (below_step (below_step HB5.out HBR.out) hb7'); clear hb7 hb7' b0 b1
              have b0 := Q7.out.c0; have b1 := Q7.out.c1
              go_wp2_with fail
              refine (HY.out _ _ _ Q7.out.row).mono ?_
              rintro e w8 ⟨rfl, hb8⟩
              have HB8 := Lib.hid (below_step HB7.out hb8); clear hb8
              go_wp2_with fail
              go_ret
              exact ⟨rfl, HB8.out⟩
          | some x2 =>
            obtain ⟨L2, h2, k2⟩ := x2
            obtain ⟨rfl, hv2⟩ := HAG.out _ _ _ hq2
            have hL2m : L2.length = k := by rw [(fetched hq2).len, HLM.out]
            have HK := Lib.hid (fun W A' c' (hr : RowAt W W.heap.size A' (frsC L)) => (iFetch_any A' k c' L (h' : Int) p W hr HLM.out.symm (by omega)).mono fun e w' hh => FetchPost.tellYes hq2 hL2m hh)
            have HY := Lib.hid (fun W A' c' (hr : RowAt W W.heap.size A' (frsC L)) => iPool_any A' k c' L (h' : Int) W hr HLM.out.symm (by omega))
            have HZ := Lib.hid (fun W A' c' (hr : RowAt W W.heap.size A' (frsC L2)) => iPool_any A' k c' L2 (h2 : Int) W hr hL2m.symm (by omega))
            rw [HVQ.out] at HY
            rw [hv2] at HZ
            have HL2M := Lib.hid hL2m
            clear hq2 hv2 hL2m
            cases tb <;> cases mb <;> cases fb <;> first | (exfalso; have hE := HEND.out; simp at hE; done) | skip
            all_goals
              have kd0 := HKD.out
              go_wp2_with fail
              refine (HK.out _ _ _ QR.out.row).mono ?_
              rintro e w7 ⟨A7, c7, rfl, ho7, hb7⟩
              have hb7' := below_step hb7 (below_new (.cells #[.slice A7 k c7, .int .i64 (h2 : Int)] 28))
              have Q7 := Lib.hid (QR.out.keep hb7')
              have S7 := Lib.hid (PV.new ho7 HL2M.out.symm (h2 : Int))
              have HB7 := Lib.hid (below_step (below_step HB5.out HBR.out) hb7'); clear hb7 hb7' b0 b1 ho7
              have b0 := Q7.out.c0; have b1 := Q7.out.c1
              go_wp2_with fail
              refine (HY.out _ _ _ Q7.out.row).mono ?_
              rintro e w8 ⟨rfl, hb8⟩
              have S8 := Lib.hid (S7.out.keep hb8)
              have HB8 := Lib.hid (below_step HB7.out hb8); clear hb8 b0 b1
              have s0 := S8.out.c0; have s1 := S8.out.c1
              go_wp2_with fail
              refine (HZ.out _ _ _ S8.out.row).mono ?_
              rintro e w9 ⟨rfl, hb9⟩
              have HB9 := Lib.hid (below_step HB8.out hb9); clear hb9 s0 s1
              go_wp2_with fail
              go_ret
              exact ⟨rfl, HB9.out⟩
  · go_enter Try.func7, Try.ntmps7
    go_wp2
    go_ret
    exact ⟨rfl, Below.refl _ _⟩
end Go.Proofs.Ytompbkphdjjpdaa
