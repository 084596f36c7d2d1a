/- Contracts of slices.Grow at nil, slices.Concat of two rows, and ReadsOf of the program (chapter 8). Conditions: the acts lie in a row; they are few. -/
import Derived.Test.YtdpehojcoohjcabVwI
import Derived.Test.YtdpehojcoohjcabRdS
import Derived.Test.YtdpehojcoohjcabAhdJ
import Derived.Lib.AppendZerosOnto
set_option linter.unusedVariables false
set_option linter.unusedSimpArgs false
namespace Go.Proofs.Ytdpehojcoohjcab
open Go.RowKit Go.ChangeShapes Go.WideShapes

theorem row_news {w : World} {B : Nat} {a : Addr} {cs : List Value} (h : RowAt w B (some a) cs) {j : Nat} {u : Value} (hj : cs[j]? = some u) : w.cell? (a.add j) = some u := by
  obtain ⟨b, off, e, _, hc⟩ := h (by intro h0; rw [h0] at hj; simp at hj)
  cases e
  rw [add_zero_off]; exact hc j u hj
theorem wpList_append_zeros {P : Program} {w : World} {ops : Array Oper} {rest : List Oper} {o : Oper} {a : Act} {Q : Exit → Act → World → Prop} (hgd : o.guard = none) (s x : Operand) (t tn : TypeId)
    (ho : o.op = .call { callee := .builtin .append, args := #[s, x], argTypes := #[t, tn] }) (v1 v2 res : Value) (w' : World) (hs : a.eval s = v1) (hx : a.eval x = v2)
    (hr : (Builtin.append_ #[t, tn] o.type #[v1, v2]).run P w = .ok res w') (h : wpList P ops Q rest (a.put o.dst res) w') : wpList P ops Q (o :: rest) a w :=
  wpList_plain hgd fun _ hK => by
    unfold Oper.wp execOp
    simp only [ho, resolve, invoke, builtin, Sem.run_bind, Sem.run_pure, Result.andThen_ok, List.map_toArray, List.map_cons, List.map_nil, hs, hx, hr]
    exact hK _ _ h
theorem grow_own {w : World} {n : Nat} {e : TypeId} {z : Array Value} (hz : z.size = 1) (hn : n ≤ maxLen) :
    OutR e 1 w [] 0 (some ⟨w.heap.size, 0, none⟩) (grownCap w n 0 e) (w.alloc (.cells (Builtin.zeroCells z n ++ Builtin.zeroCells z (grownCap w n 0 e - n)) e)).drew := by
  have h1 := grownCap_ge w n 0 e
  have h2 := grownCap_le_maxLen w n 0 e hn
  have hal := heap_alloc_new w (.cells (Builtin.zeroCells z n ++ Builtin.zeroCells z (grownCap w n 0 e - n)) e)
  have hsz : (Builtin.zeroCells z n ++ Builtin.zeroCells z (grownCap w n 0 e - n)).size = grownCap w n 0 e * 1 := by
    rw [Array.size_append, size_zeroCells, size_zeroCells, hz]
    omega
  generalize (Builtin.zeroCells z n ++ Builtin.zeroCells z (grownCap w n 0 e - n)) = cur at *
  exact ⟨⟨by simp, .inr ⟨w.heap.size, grownCap w n 0 e, cur, rfl, Nat.le_refl _, hal, Nat.zero_le _, h2, hsz, by simp⟩⟩, ((Below.refl w.heap.size w).alloc (Nat.le_refl _) _).drew⟩
theorem iGrow_any (n : Nat) (w : World) (h0 : 0 < n) (hn : n ≤ 1048576) :
    Calls Try.prog 70 #[.slice none 0 0, .int .i64 (n : Int)] w fun e w' => ∃ A c, e = .returned (.slice A 0 c) ∧ OutR 3 1 w [] 0 A c w' := by
  obtain ⟨i0, hi0, hz0, hz1, hz2⟩ := info_parts intInfo
  have hl : ¬ ((n : Int) < 0) := by omega
  have hg : (0 : Int) < (n : Int) := by omega
  have hw1 : IntKind.i64.wrap ((n : Int) - 0) = (n : Int) := by rw [Int.sub_zero]; exact IntWalk.i64_in _ (by omega)
  have hw2 : IntKind.i64.wrap (n : Int) = (n : Int) := IntWalk.i64_in _ (by omega)
  have hcap : (0 : Nat) ≤ grownCap w (0 + n) 0 3 := Nat.zero_le _
  have HRN := Lib.hid (fun ty => Go.Lib.run_append_grow_zeros (P := Try.prog) w 24 3 ty 3 i0 (.int .i64 0) .i64 .i64 Try.underlying24 Try.underlying3 hi0 hz0 none 0 0 [] (run_firstCells_none w.drew i0.size 0 0 0) n h0 (by rw [hz1]; decide) (by omega) (by omega) (by rw [hz2]; omega) (by
    rw [hz2]; unfold Builtin.nextslicecap; rw [if_pos (by omega)]; omega))
  have HOW := Lib.hid (grow_own (w := w) (n := n) (e := 3) (z := (Value.int .i64 0).cells) rfl (by unfold maxLen; omega))
  clear hi0 hz0 hz1 hz2
  go_enter Try.func70, Try.ntmps70
  go_wp2_with (at_builtin; refine wpList_append_zeros rfl _ _ 24 3 rfl (.slice none 0 0) (.int .i64 (n : Int)) _ _ rfl rfl (HRN.out _) ?_)
  go_ret
  exact ⟨_, _, rfl, HOW.out⟩
/-- two rows, one behind the other -/
theorem iConcat_any (q : Nat) (a1 a2 : Addr) (n1 c1 n2 c2 : Nat) (l1 l2 : List Int) (w : World) (hq : q < w.heap.size) (hc1 : w.cell? ⟨q, 0, none⟩ = some (.slice (some a1) n1 c1)) (hc2 : w.cell? ⟨q, 1, none⟩ = some (.slice (some a2) n2 c2))
    (hr1 : RowAt w w.heap.size (some a1) (intC l1)) (hn1 : n1 = l1.length) (hr2 : RowAt w w.heap.size (some a2) (intC l2)) (hn2 : n2 = l2.length) (hs1 : n1 ≤ 1000) (hs2 : n2 ≤ 1000) (h0 : 0 < n1 + n2) :
    Calls Try.prog 42 #[.slice (some ⟨q, 0, none⟩) 2 2] w (IntsPost (l1 ++ l2) w) := by
  obtain ⟨i0, hi0, hz0, hz1, hz2⟩ := info_parts intInfo
  have HI := Lib.hid (And.intro hi0 (And.intro hz0 (And.intro hz1 hz2))); clear hi0 hz0 hz1 hz2
  have HG := Lib.hid (iGrow_any (n1 + n2) w h0 (by omega))
  have HC := Lib.hid (fun W (hb : Below w.heap.size w W) => And.intro ((hb.cell (p := ⟨q, 0, none⟩) hq).trans hc1) ((hb.cell (p := ⟨q, 1, none⟩) hq).trans hc2))
  have HN1 := Lib.hid hn1
  have HN2 := Lib.hid hn2
  have HR1 := Lib.hid (fun W (hb : Below w.heap.size w W) j u (hj : (intC l1)[j]? = some u) => row_news (hr1.below hb) hj)
  have HR2 := Lib.hid (fun W (hb : Below w.heap.size w W) j u (hj : (intC l2)[j]? = some u) => row_news (hr2.below hb) hj)
  clear hr1 hr2 hn1 hn2
  have hw1 : IntKind.i64.wrap (n1 : Int) = (n1 : Int) := IntWalk.i64_in _ (by omega)
  have hw2 : IntKind.i64.wrap ((n1 : Int) + (n2 : Int)) = (n1 : Int) + (n2 : Int) := IntWalk.i64_in _ (by omega)
  have hp1 : ¬ ((n1 : Int) < 0) := by omega
  have hp2 : ¬ ((n1 : Int) + (n2 : Int) < 0) := by omega
  have hcast : (((n1 + n2 : Nat)) : Int) = (n1 : Int) + (n2 : Int) := by omega
  rw [hcast] at HG
  clear hcast
  go_enter Try.func42, Try.ntmps42
  go_wp2_with fail
  go_loopw [3, 11] (fun s i wr => ∃ (k : Nat) (v : Int), i = .int .i64 k ∧ k ≤ 2 ∧ v = (if k = 0 then 0 else if k = 1 then (n1 : Int) else (n1 : Int) + (n2 : Int)) ∧ s = .int .i64 v ∧ wr = w) (fun _ i _ => 2 - (intOf i).toNat)
  case atStart => exact ⟨0, 0, rfl, by omega, rfl, rfl, rfl⟩
  case round =>
    obtain ⟨k, v, rfl, hk, hv, rfl, hw⟩ := hrel
    obtain rfl := hw.symm
    obtain ⟨e0, e1⟩ := HC.out w (Below.refl _ _)
    by_cases hk2 : k = 2
    · have hkn : ¬ (k : Int) < 2 := by omega
      obtain rfl : v = (n1 : Int) + (n2 : Int) := by rw [hv, hk2]; rfl
      clear hv hk2 e0 e1
      go_wp2_with fail
      refine (HG.out).mono ?_
      rintro e w2 ⟨A0, c0, rfl, ho⟩
      have HO := Lib.hid ho; clear ho
      go_wp2_with fail
      go_loopw [6, 27] (fun s i wr => ∃ (k m : Nat) (A' : Option Addr) (c' : Nat) (L : List Int), i = .int .i64 k ∧ k ≤ 2 ∧ m = L.length ∧ L = (if k = 0 then [] else if k = 1 then l1 else l1 ++ l2) ∧ s = .slice A' m c' ∧ OutR 3 1 w (intC L) m A' c' wr) (fun _ i _ => 2 - (intOf i).toNat)
      case atStart => exact ⟨0, 0, _, _, [], rfl, by omega, rfl, rfl, rfl, HO.out⟩
      case round =>
        clear HO
        obtain ⟨k, m, A', c', L, rfl, hk, hm, hL, rfl, ho⟩ := hrel
        have HO := Lib.hid ho; clear ho
        obtain ⟨e0, e1⟩ := HC.out _ HO.out.2
        rename World => wx
        have hqs : q < wx.heap.size := Nat.lt_of_lt_of_le hq HO.out.2.size
        by_cases hk0 : k = 0
        · subst hk0
          have hL0 : L = [] := hL
          subst hL0
          have hm0 : m = 0 := hm
          subst hm0
          clear hL hm
          go_wp2_with (at_builtin; refine wpList_append_own _ rfl _ _ 24 rfl w.heap.size 3 i0 (.int .i64 0) 1 8 Try.underlying24 HI.out.1 HI.out.2.1 HI.out.2.2.1 HI.out.2.2.2 rfl (by decide) (.slice A' 0 c') 0 (intC []) rfl HO.out.1 a1 n1 c1 (intC l1) rfl (by rw [intC_len, ← HN1.out]; omega) ?c1 ?c2 ?c4 ?c5 ?c6 ?_)
          try (case c1 => exact HR1.out _ HO.out.2)
          try (case c2 => intro u hu; unfold intC at hu; rw [List.mem_map] at hu; obtain ⟨x, _, rfl⟩ := hu; rfl)
          try (case c4 => first | omega | (unfold maxLen; omega))
          try (case c5 => omega)
          try (case c6 => first | omega | exact HO.out.2.size)
          intro v' w4 hown' hgrow _
          obtain ⟨A4, c4, rfl, ho4⟩ := HO.out.app hown' hgrow
          have HO4 := Lib.hid ho4
          clear ho4 hown' hgrow
          go_wp2_with fail
          go_roundw
          case rel => exact ⟨1, 0 + n1, A4, c4, [] ++ l1, rfl, by omega, by rw [List.nil_append, Nat.zero_add]; exact HN1.out, rfl, by first | rfl | simp, by first | exact HO4.out | simpa [intC] using HO4.out⟩
          case measure => simp [intOf]
        · by_cases hk1 : k = 1
          · subst hk1
            have hL0 : L = l1 := hL
            subst hL0
            have hm0 : m = n1 := by rw [hm]; exact HN1.out.symm
            subst hm0
            clear hL hm
            go_wp2_with (at_builtin; refine wpList_append_own _ rfl _ _ 24 rfl w.heap.size 3 i0 (.int .i64 0) 1 8 Try.underlying24 HI.out.1 HI.out.2.1 HI.out.2.2.1 HI.out.2.2.2 rfl (by decide) (.slice A' m c') m (intC L) rfl HO.out.1 a2 n2 c2 (intC l2) rfl (by rw [intC_len, ← HN2.out]; omega) ?c1 ?c2 ?c4 ?c5 ?c6 ?_)
            try (case c1 => exact HR2.out _ HO.out.2)
            try (case c2 => intro u hu; unfold intC at hu; rw [List.mem_map] at hu; obtain ⟨x, _, rfl⟩ := hu; rfl)
            try (case c4 => first | omega | (unfold maxLen; omega))
            try (case c5 => omega)
            try (case c6 => first | omega | exact HO.out.2.size)
            intro v' w4 hown' hgrow _
            obtain ⟨A4, c4, rfl, ho4⟩ := HO.out.app hown' hgrow
            have HO4 := Lib.hid ho4
            clear ho4 hown' hgrow
            go_wp2_with fail
            go_roundw
            case rel => exact ⟨2, m + n2, A4, c4, L ++ l2, rfl, by omega, by rw [List.length_append, ← HN1.out, ← HN2.out], rfl, rfl, by first | exact HO4.out | simpa [intC] using HO4.out⟩
            case measure => simp [intOf]
          · have hkn2 : ¬ (k : Int) < 2 := by omega
            have hL2 : L = l1 ++ l2 := by rw [hL, if_neg hk0, if_neg hk1]
            have HL2 := Lib.hid hL2
            have HM := Lib.hid hm
            clear hL hL2 hm
            go_wp2_with fail
            go_ret
            rw [← HL2.out]
            have hM := HM.out
            subst hM
            exact ⟨_, rfl, ⟨A', c', rfl, HO.out.1⟩, HO.out.2⟩
    · by_cases hk0 : k = 0
      · subst hk0
        obtain rfl : v = 0 := hv
        go_wp2_with fail
        go_roundw
        case rel => exact ⟨1, n1, rfl, by omega, rfl, rfl, by first | rfl | trivial⟩
        case measure => simp [intOf]
      · obtain rfl : k = 1 := by omega
        obtain rfl : v = (n1 : Int) := hv
        go_wp2_with fail
        go_roundw
        case rel => exact ⟨2, (n1 : Int) + (n2 : Int), rfl, by omega, rfl, rfl, by first | rfl | trivial⟩
        case measure => simp [intOf]
theorem views_reads {l : List AcT} (hl : l.length ≤ 10) : (viewsF l (List.range l.length)).take l.length ++ (viewsF l (List.range l.length)).drop 10 = readsL l := by
  have hV : (viewRow l (List.replicate 10 0) last0 (List.range l.length)).length = 10 := by rw [viewRow_len]; simp
  have hA := actsAt_range l
  unfold viewsF readsL
  rw [viewV_eq, hA, List.drop_append_of_le_length (by omega), List.drop_of_length_le (by omega), List.nil_append, List.take_append_of_le_length (by omega)]
  congr 1
  refine List.ext_getElem? fun k => ?_
  by_cases hk : k < l.length
  · rw [List.getElem?_take_of_lt hk]
    have := viewRow_at l (List.range l.length) (List.replicate 10 0) last0 List.nodup_range (fun q hq => by have := List.mem_range.1 hq; simp; omega) k k (by rw [List.getElem?_range hk])
    rw [hA] at this
    exact this
  · rw [List.getElem?_eq_none (by rw [List.length_take]; omega), List.getElem?_eq_none (by rw [readsR_len]; omega)]
theorem ri_row {e : TypeId} {B g : Nat} {L : List Int} {W : World} (h : RI e B g L W) (a m : Nat) : RowAt W W.heap.size (some ⟨g, a, none⟩) (intC ((L.drop a).take m)) := fun _ => by
  refine ⟨g, a, rfl, h.ge.2, fun i v hi => ?_⟩
  have hl : i < ((L.drop a).take m).length := by
    rcases Nat.lt_or_ge i ((L.drop a).take m).length with h1 | h1
    · exact h1
    · rw [List.getElem?_eq_none (by rw [intC_len]; exact h1)] at hi; cases hi
  rw [intC_at hl] at hi
  have hl2 : a + i < L.length := by rw [List.length_take, List.length_drop] at hl; omega
  rw [(h.cell hl2).1, ← hi, List.getElem_take, List.getElem_drop]
  simp [List.getD_eq_getElem?_getD, hl2]
set_option maxRecDepth 100000 in
set_option maxHeartbeats 4000000 in
theorem iReads_any (A : Option Addr) (n c : Nat) (l : List Ac) (w : World) (hr : RowAt w w.heap.size A (acsC l)) (hn : n = l.length) (hs : n ≤ 1048576) (hw : WfAc l) :
    Calls Try.prog 13 #[.slice A n c] w (IntsPost (rdsR l) w) := by
  have HV := Lib.hid (iActs_any A n c l w hr hn hs)
  cases hv : actsB l
  · rw [hv] at HV
    rw [show rdsR l = [] by simp [rdsR, hv]]
    clear hv hr hn hw
    go_enter Try.func13, Try.ntmps13
    go_wp2_with fail
    refine HV.out.mono ?_
    rintro e w2 ⟨rfl, hb2⟩
    have HB2 := Lib.hid hb2; clear hb2
    go_wp2_with fail
    go_ret
    exact ⟨_, rfl, ⟨none, 0, rfl, World.ownsRow_nil _ _ _ _⟩, HB2.out⟩
  · rw [hv] at HV
    have hl10 : n ≤ 10 := by have := (actsB_ok hv).1; omega
    have HCS := Lib.hid (fun W => iStand_any A n c W hs)
    have HCA := Lib.hid (fun W (hb : Below w.heap.size w W) A2 c2 (h2 : RowAt W W.heap.size A2 (intC (upN n))) =>
      iViews_any A A2 n c n c2 l (List.range n) W ((hr.below hb).mono hb.size) hn hl10 (actsB_ok hv).2 h2 (by simp) (by omega) (fun q hq => by rw [← hn]; exact List.mem_range.1 hq))
    have HVL := Lib.hid (viewsF_len l (List.range n))
    have HVR := Lib.hid (show (viewsF l (List.range n)).take n ++ (viewsF l (List.range n)).drop 10 = rdsR l by
      rw [show rdsR l = readsL l by simp [rdsR, hv], hn]; exact views_reads (by omega))
    have HUL := Lib.hid (upN_len n)
    clear hv hr hn hw
    obtain ⟨R, hR⟩ : ∃ R, rdsR l = R := ⟨_, rfl⟩
    rw [hR] at HVR ⊢
    generalize viewsF l (List.range n) = V at *
    obtain ⟨s0, s1, s2, s3, s4, s5, s6, s7, s8, s9, s10, s11, s12, hV⟩ : ∃ s0 s1 s2 s3 s4 s5 s6 s7 s8 s9 s10 s11 s12, V = [s0, s1, s2, s3, s4, s5, s6, s7, s8, s9, s10, s11, s12] := by
      match V, HVL.out with
      | [s0, s1, s2, s3, s4, s5, s6, s7, s8, s9, s10, s11, s12], _ => exact ⟨s0, s1, s2, s3, s4, s5, s6, s7, s8, s9, s10, s11, s12, rfl⟩
    go_enter Try.func13, Try.ntmps13
    go_wp2_with fail
    refine HV.out.mono ?_
    rintro e w2 ⟨rfl, hb2⟩
    have HB2 := Lib.hid hb2; clear hb2
    go_wp2_with fail
    refine (HCS.out _).mono ?_
    rintro e w3 ⟨v3, rfl, ⟨A3, c3, rfl, ho3⟩, hb3⟩
    rw [HUL.out] at ho3 ⊢
    have HB3 := Lib.hid (HB2.out.trans (hb3.mono HB2.out.size))
    have HO3 := Lib.hid (RowAt.of_own ho3); clear ho3 hb3
    go_wp2_with fail
    refine (HCA.out _ HB3.out A3 c3 HO3.out).mono ?_
    rintro e w4 ⟨rfl, hb4⟩
    have HB4 := Lib.hid (HB3.out.trans (hb4.mono HB3.out.size)); clear hb4
    subst hV
    simp only [show (intC [s0, s1, s2, s3, s4, s5, s6, s7, s8, s9, s10, s11, s12]).toArray = #[.int .i64 s0, .int .i64 s1, .int .i64 s2, .int .i64 s3, .int .i64 s4, .int .i64 s5, .int .i64 s6, .int .i64 s7, .int .i64 s8, .int .i64 s9, .int .i64 s10, .int .i64 s11, .int .i64 s12] from rfl]
    have HRX := Lib.hid (RI.new (e := 56) w4 [s0, s1, s2, s3, s4, s5, s6, s7, s8, s9, s10, s11, s12] (by simp [maxLen]))
    have HBX := Lib.hid (HB4.out.alloc HB4.out.size (.cells #[.int .i64 s0, .int .i64 s1, .int .i64 s2, .int .i64 s3, .int .i64 s4, .int .i64 s5, .int .i64 s6, .int .i64 s7, .int .i64 s8, .int .i64 s9, .int .i64 s10, .int .i64 s11, .int .i64 s12] 56))
    have hi1 : (n : Int) ≤ 13 := by omega
    have hi2 : ¬ (13 : Int) < (n : Int) := by omega
    have hi3 : (0 : Int) ≤ (n : Int) := by omega
    have hi4 : n ≤ 13 := by omega
    have hi5 : ¬ 13 < n := by omega
    go_wp2_with fail
    go_still_tail 4, (by kernel_rfl)
    refine at_worldR (p := fun W => wpList _ _ _ _ _ W) (w4.alloc (.cells #[.int .i64 s0, .int .i64 s1, .int .i64 s2, .int .i64 s3, .int .i64 s4, .int .i64 s5, .int .i64 s6, .int .i64 s7, .int .i64 s8, .int .i64 s9, .int .i64 s10, .int .i64 s11, .int .i64 s12] 56)) _ (w4.heap.size + 1) (by repeat (first | with_reducible exact Below.refl _ _ | with_reducible refine Below.drew ?_ | with_reducible refine Below.trans ?_ (below_drewN _ _))) ?_
    intro W0 hb0
    have HR0 := Lib.hid (HRX.out.kept (grown_of_below (row := none) (hb0.mono (by simp))) (by simp [Value.ownBlock]) : RI 56 w4.heap.size w4.heap.size _ W0)
    have HBW := Lib.hid (HBX.out.trans (hb0.mono (by have := HBX.out.size; simp at this; omega)))
    clear hb0 HRX HBX
    have HB1 := Lib.hid (fun o => HBW.out.alloc HBW.out.size o)
    have HK := Lib.hid (fun o => RI.keep HR0.out ((Below.refl W0.heap.size W0).alloc (Nat.le_refl _) o))
    have HCC := Lib.hid (fun E => iConcat_any W0.heap.size ⟨w4.heap.size, 0, none⟩ ⟨w4.heap.size, 10, none⟩ n 13 3 3 (([s0, s1, s2, s3, s4, s5, s6, s7, s8, s9, s10, s11, s12].drop 0).take n) (([s0, s1, s2, s3, s4, s5, s6, s7, s8, s9, s10, s11, s12].drop 10).take 3)
      (W0.alloc (.cells #[.slice (some ⟨w4.heap.size, 0, none⟩) n 13, .slice (some ⟨w4.heap.size, 10, none⟩) 3 3] E)) (by simp) (cells_at0 W0 [.slice (some ⟨w4.heap.size, 0, none⟩) n 13, .slice (some ⟨w4.heap.size, 10, none⟩) 3 3] E 0 _ rfl) (cells_at0 W0 [.slice (some ⟨w4.heap.size, 0, none⟩) n 13, .slice (some ⟨w4.heap.size, 10, none⟩) 3 3] E 1 _ rfl)
      (ri_row (HK.out _) 0 n) (by rw [List.length_take]; simp; omega) (ri_row (HK.out _) 10 3) (by simp) (by omega) (by omega) (by omega))
    have HVR2 := Lib.hid (show ([s0, s1, s2, s3, s4, s5, s6, s7, s8, s9, s10, s11, s12].drop 0).take n ++ ([s0, s1, s2, s3, s4, s5, s6, s7, s8, s9, s10, s11, s12].drop 10).take 3 = R from HVR.out)
    rw [HVR2.out] at HCC
    clear HK HR0 HVR HVR2
    go_wp2_with fail
    refine (HCC.out _).mono ?_
    intro e w6 hp
    obtain ⟨v, rfl, HP⟩ := hp.monoR (HB1.out _)
    have HP2 := Lib.hid HP; clear HP hp
    go_wp2_with fail
    go_ret
    exact ⟨_, rfl, HP2.out⟩
end Go.Proofs.Ytdpehojcoohjcab
