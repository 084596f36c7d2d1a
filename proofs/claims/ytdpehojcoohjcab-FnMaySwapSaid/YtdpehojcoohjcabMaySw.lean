/- Contracts of pull, swapFrom and MaySwap of the model (chapter 8). Conditions: the acts lie in a row; they are few. -/
import Derived.Test.YtdpehojcoohjcabActC
import Derived.Test.YtdpehojcoohjcabAppR
import Derived.Test.YtdpehojcoohjcabMark
import Derived.StillTailTactics
set_option linter.unusedVariables false
set_option linter.unusedSimpArgs false
namespace Go.Proofs.Ytdpehojcoohjcab
open Go.RowKit Go.ChangeShapes Go.WideShapes

theorem cells_at8 (w : World) (xs : List Value) (t : TypeId) (j : Nat) (u : Value) (h : xs[j]? = some u) : (w.alloc (.cells xs.toArray t)).cell? ((⟨w.heap.size, 0, none⟩ : Addr).add j) = some u := by
  rw [add_zero_off, Nat.zero_add]
  simpa using h
/-- acts that the call has appended -/
def ApA (w : World) (L : List Ac) (v : Value) (wr : World) : Prop := wr.ownsRow w.heap.size 47 3 v L.length (acsC L) ∧ Below w.heap.size w wr
theorem ApA.keep {w wr W : World} {L : List Ac} {v : Value} (h : ApA w L v wr) (hb : Below wr.heap.size wr W) : ApA w L v W :=
  ⟨h.1.kept (grown_of_below (row := none) hb) (Classical.em _), h.2.trans (hb.mono h.2.size)⟩
theorem ApA.step {w wr W w' : World} {L M : List Ac} {v v' : Value} (h : ApA w L v wr) (hb : Below wr.heap.size wr W)
    (ho : w'.ownsRow w.heap.size 47 3 v' (L.length + M.length) (acsC L ++ acsC M)) (hg : W.grownBy w' v.ownBlock) : ApA w (L ++ M) v' w' := by
  have hlt := h.1.lt
  refine ⟨?_, ?_⟩
  · rw [acsC_app, List.length_append]; exact ho
  · exact (h.2.trans (hb.mono h.2.size)).grown hg (Nat.le_trans h.2.size hb.size) (fun q hq => (hlt q hq).1)
theorem ApA.sl {w wr : World} {L : List Ac} {v : Value} (h : ApA w L v wr) : ∃ A c, v = .slice A L.length c ∧ (A = none → c = 0) := by
  rcases h.1.2 with ⟨a1, a2⟩ | ⟨g, N, cur, a1, _⟩
  · exact ⟨none, 0, a1.trans (by rw [a2]), fun _ => rfl⟩
  · exact ⟨_, _, a1, fun h => by cases h⟩
theorem ApA.empty (w : World) : ApA w [] (.slice (some ⟨w.heap.size, 0, none⟩) 0 0) (w.alloc (.cells #[] 47)) :=
  ⟨⟨rfl, .inr ⟨w.heap.size, 0, #[], rfl, Nat.le_refl _, heap_alloc_new w _, Nat.le_refl _, by simp [maxLen], rfl, rfl⟩⟩, (Below.refl w.heap.size w).alloc (Nat.le_refl _) _⟩
/-- acts pulled, or none -/
def PullPost (r : Option (List Ac)) (w : World) (e : Ending) (w' : World) : Prop := match r with
  | some L => ∃ v, e = .returned (.tuple #[v, .bool true]) ∧ ApA w L v w'
  | none => e = .returned (.tuple #[.slice none 0 0, .bool false]) ∧ Below w.heap.size w w'
theorem pullL_drop_yes {tx : Nat} {l out : List AcT} {k : Nat} (h : k < l.length) (he : l[k].1 = (tx : Int)) (hn : out.any (fun y => clashB y l[k]) = false) : pullL tx out (l.drop k) = pullL tx out (l.drop (k + 1)) := by
  rw [List.drop_eq_getElem_cons h, pullL, if_pos he, hn]; rfl
theorem pullL_drop_no {tx : Nat} {l out : List AcT} {k : Nat} (h : k < l.length) (he : l[k].1 = (tx : Int)) (hn : out.any (fun y => clashB y l[k]) = true) : pullL tx out (l.drop k) = none := by
  rw [List.drop_eq_getElem_cons h, pullL, if_pos he, hn]; rfl
theorem pullL_drop_other {tx : Nat} {l out : List AcT} {k : Nat} (h : k < l.length) (he : ¬ l[k].1 = (tx : Int)) : pullL tx out (l.drop k) = pullL tx (out ++ [l[k]]) (l.drop (k + 1)) := by
  rw [List.drop_eq_getElem_cons h, pullL, if_neg he]
theorem any_take_succ {f : AcT → Bool} {l : List AcT} {k : Nat} (h : k < l.length) (h0 : (l.take k).any f = false) (h1 : f l[k] = false) : (l.take (k + 1)).any f = false := by
  rw [List.take_succ_eq_append_getElem h, List.any_append, h0]; simp [h1]
theorem any_at {f : AcT → Bool} {l : List AcT} {k : Nat} (h : k < l.length) (h1 : f l[k] = true) : l.any f = true := List.any_eq_true.2 ⟨l[k], List.getElem_mem h, h1⟩
set_option maxRecDepth 100000 in
set_option maxHeartbeats 4000000 in
theorem sPull_any (A : Option Addr) (n c tx : Nat) (l : List Ac) (w : World) (hr : RowAt w w.heap.size A (acsC l)) (hn : n = l.length) (hs : n ≤ 10) :
    Calls Try.prog 85 #[.slice A n c, .int .i64 (tx : Int)] w (PullPost (pullL tx [] l) w) := by
  obtain ⟨i0, hi0, hz0, hz1, hz2⟩ := info_parts acInfo
  have HI := Lib.hid (And.intro hi0 (And.intro hz0 (And.intro hz1 hz2))); clear hi0 hz0 hz1 hz2
  have HR := Lib.hid hr; clear hr
  have HN := Lib.hid hn; clear hn
  have HE := Lib.hid (ApA.empty w)
  have HP0 := Lib.hid (show pullL tx [] l = pullL tx [] (l.drop 0) by rw [List.drop_zero])
  have HPE := Lib.hid (fun out => (show pullL tx out (l.drop n) = some out by rw [HN.out, List.drop_length, pullL]))
  obtain ⟨G, hG⟩ : ∃ G, pullL tx [] l = G := ⟨_, rfl⟩
  rw [hG] at HP0
  rw [hG]
  clear hG
  go_enter Try.func85, Try.ntmps85
  go_wp2_with fail
  go_loopw [6, 7] (fun v i wr => ∃ (k : Nat) (out : List Ac), i = .int .i64 (k : Int) ∧ k ≤ n ∧ out.length ≤ k ∧ ApA w out v wr ∧ G = pullL tx out (l.drop k)) (fun _ i _ => n - (intOf i).toNat)
  case atStart => exact ⟨0, [], rfl, by omega, by simp, HE.out, HP0.out⟩
  case round =>
    clear HE HP0
    obtain ⟨k, out, rfl, hk, hok, ha, hg⟩ := hrel
    have HA := Lib.hid ha; clear ha
    have HG := Lib.hid hg; clear hg
    by_cases hlt : k < n
    · have hkl : k < l.length := by have := HN.out; omega
      obtain ⟨b, off, hA, hbw, e0, e1, e2⟩ := acs_at (HR.out.below HA.out.2) hkl
      subst hA
      have HYES := Lib.hid (fun he hn => pullL_drop_yes (tx := tx) (out := out) hkl he hn)
      have HNO := Lib.hid (fun he hn => pullL_drop_no (tx := tx) (out := out) hkl he hn)
      have HOT := Lib.hid (fun he => pullL_drop_other (tx := tx) (out := out) hkl he)
      obtain ⟨A2, c2, hv, hA2⟩ := HA.out.sl
      subst hv
      have HA2 := Lib.hid hA2; clear hA2
      have HLK := Lib.hid (show acsC [l[k]] = [.int .i64 l[k].1, .int .i64 l[k].2.1, .bool l[k].2.2] from rfl)
      have HRO := Lib.hid (RowAt.of_own HA.out.1)
      have HCL := Lib.hid (fun x0 x1 x2 W => sClash_any x0 x1 x2 l[k].1 l[k].2.1 l[k].2.2 W)
      have hbs : b < wr.heap.size := Nat.lt_of_lt_of_le hbw HA.out.2.size
      have hi1 : (k : Int) < (n : Int) := by omega
      have hi2 : (0 : Int) ≤ (k : Int) := by omega
      generalize hlk : l[k] = lk at *
      obtain ⟨x0, x1, x2⟩ := lk
      simp only at e0 e1 e2 HLK HCL HYES HNO HOT
      clear hlk
      by_cases he : x0 = (tx : Int)
      · subst he
        have HYES2 := Lib.hid (fun hn => HYES.out rfl hn)
        have HNO2 := Lib.hid (fun hn => HNO.out rfl hn)
        clear HYES HNO HOT
        have HW0 := Lib.hid (HA.out.2)
        have HAK := Lib.hid (fun W (hb : Below wr.heap.size wr W) => HA.out.keep hb)
        have HROW := Lib.hid (fun W (hb : Below wr.heap.size wr W) => HRO.out.below hb)
        have HLROW := Lib.hid (fun W (hb : Below wr.heap.size wr W) => (acs_at (HR.out.below (HA.out.2.trans (hb.mono HA.out.2.size))) hkl))
        have HCK := Lib.hid (fun W (hb : Below wr.heap.size wr W) => And.intro ((hb.cell (p := ⟨b, off + k * 3, none⟩) hbs).trans e0) (And.intro ((hb.cell (p := ⟨b, off + k * 3 + 1, none⟩) hbs).trans e1) ((hb.cell (p := ⟨b, off + k * 3 + 2, none⟩) hbs).trans e2)))
        have HOL := Lib.hid hok
        go_wp2_with fail
        obtain ⟨wi, hwi⟩ : ∃ wi : World, wi = wr := ⟨_, rfl⟩
        subst hwi
        go_loopw [8] (fun i W => ∃ j : Nat, i = .int .i64 (j : Int) ∧ j ≤ out.length ∧ (out.take j).any (fun y => clashB y ((tx : Int), x1, x2)) = false ∧ Below wi.heap.size wi W) (fun i _ => out.length - (intOf i).toNat)
        case atStart => exact ⟨0, rfl, by omega, rfl, Below.refl _ _⟩
        case round =>
          clear e0 e1 e2
          obtain ⟨j, rfl, hj, hany, hbi⟩ := hrel
          have HBI := Lib.hid hbi; clear hbi
          have HANY := Lib.hid hany; clear hany
          by_cases hjo : j < out.length
          · obtain ⟨b2, off2, hA2, hb2w, d0, d1, d2⟩ := acs_at (HROW.out _ HBI.out) hjo
            subst hA2
            obtain ⟨e0, e1, e2⟩ := HCK.out _ HBI.out
            have HSU := Lib.hid (fun h => any_take_succ (f := fun y => clashB y ((tx : Int), x1, x2)) hjo HANY.out h)
            have HAT := Lib.hid (fun h => any_at (f := fun y => clashB y ((tx : Int), x1, x2)) hjo h)
            have HC2 := Lib.hid (fun W => HCL.out out[j].1 out[j].2.1 out[j].2.2 W)
            rw [show (out[j].1, out[j].2.1, out[j].2.2) = out[j] from rfl] at HC2
            have hj1 : (j : Int) < (out.length : Int) := by omega
            have hj2 : (0 : Int) ≤ (j : Int) := by omega
            have hsi := HBI.out.size
            have hb2s : b2 < wr.heap.size := by omega
            have hbs2 : b < wr.heap.size := by omega
            generalize out[j].1 = y0 at *
            generalize out[j].2.1 = y1 at *
            generalize out[j].2.2 = y2 at *
            cases hc : clashB out[j] ((tx : Int), x1, x2) with
            | false =>
              rw [hc] at HC2
              have HS2 := Lib.hid (HSU.out hc)
              clear hc
              go_wp2_with fail
              go_still_tail 8, (by kernel_rfl)
              go_wp2_with fail
              refine (HC2.out _).mono ?_
              rintro e w3 ⟨rfl, hb3⟩
              have HW3 := Lib.hid (HBI.out.trans ((show Below wr.heap.size wr w3 from (below_drewN _ _).trans (hb3.mono (by simp))).mono HBI.out.size)); clear hb3
              go_wp2_with fail
              go_roundw
              case rel => exact ⟨j + 1, by go_num, by omega, HS2.out, HW3.out⟩
              case measure => simp [intOf]; omega
            | true =>
              rw [hc] at HC2
              have HGN := Lib.hid (show G = none by rw [HG.out, HNO2.out (HAT.out hc)])
              clear hc
              go_wp2_with fail
              go_still_tail 8, (by kernel_rfl)
              go_wp2_with fail
              refine (HC2.out _).mono ?_
              rintro e w3 ⟨rfl, hb3⟩
              have HW3 := Lib.hid (HBI.out.trans ((show Below wr.heap.size wr w3 from (below_drewN _ _).trans (hb3.mono (by simp))).mono HBI.out.size)); clear hb3
              go_wp2_with fail
              go_ret2
              rw [HGN.out]
              exact ⟨rfl, HW0.out.trans (HW3.out.mono HW0.out.size)⟩
          · obtain rfl : j = out.length := by omega
            have HGS := Lib.hid (show G = pullL tx out (l.drop (k + 1)) by
              have h1 := HANY.out
              rw [List.take_length] at h1
              rw [HG.out, HYES2.out h1])
            have HAW := Lib.hid (HAK.out _ HBI.out)
            go_wp2_with fail
            go_roundw
            case rel => exact ⟨k + 1, out, by go_num, by omega, by omega, HAW.out, HGS.out⟩
            case measure => simp [intOf]; omega
      · have hb0 : (x0 == (tx : Int)) = false := by simpa using he
        have hb1 : (x0 != (tx : Int)) = true := by simpa using he
        have HGS := Lib.hid (show G = pullL tx (out ++ [(x0, x1, x2)]) (l.drop (k + 1)) by rw [HG.out, HOT.out he])
        clear HYES HNO HOT he
        have HBA := Lib.hid ((Below.refl wr.heap.size wr).alloc (Nat.le_refl _) (.cells #[.int .i64 x0, .int .i64 x1, .bool x2] 47))
        have HOWN := Lib.hid (HA.out.keep HBA.out).1
        have hbase : w.heap.size ≤ (wr.alloc (.cells #[.int .i64 x0, .int .i64 x1, .bool x2] 47)).heap.size := by have := HBA.out.size; have := HA.out.2.size; omega
        have HCA := Lib.hid (cells_at8 wr [.int .i64 x0, .int .i64 x1, .bool x2] 47)
        go_wp2_with (at_builtin; refine wpList_append_own _ rfl _ _ 26 rfl w.heap.size 47 i0 (.agg #[.int .i64 0, .int .i64 0, .bool false]) 3 24 Try.underlying26 HI.out.1 HI.out.2.1 HI.out.2.2.1 HI.out.2.2.2 rfl (by decide) _ out.length _ rfl HOWN.out ⟨wr.heap.size, 0, none⟩ 1 1 [.int .i64 x0, .int .i64 x1, .bool x2] rfl rfl (fun j u hj => HCA.out j u hj) (by intro u hu; simp at hu; rcases hu with rfl | rfl | rfl <;> rfl) (by unfold maxLen; omega) (by omega) hbase ?_)
        intro v' w1 hown' hgrow _
        have HS := Lib.hid (HA.out.step (M := [(x0, x1, x2)]) HBA.out hown' hgrow); clear hown' hgrow
        go_wp2_with fail
        go_roundw
        case rel => exact ⟨k + 1, out ++ [(x0, x1, x2)], by go_num, by omega, by simp; omega, HS.out, HGS.out⟩
        case measure => simp [intOf]; omega
    · obtain rfl : k = n := by omega
      have HGS := Lib.hid (show G = some out by rw [HG.out, HPE.out])
      go_wp2_with fail
      go_ret2
      rw [HGS.out]
      exact ⟨_, rfl, HA.out⟩
theorem pullF_first (now : List AcT) {k m : Nat} : pullF now k (m + 1) = match pullL k [] now with
    | some r => if r.length < now.length then r else pullF now (k + 1) m
    | none => pullF now (k + 1) m := rfl
set_option maxRecDepth 100000 in
set_option maxHeartbeats 4000000 in
theorem sSwap_any (A : Option Addr) (n c : Nat) (l : List Ac) (w : World) (hr : RowAt w w.heap.size A (acsC l)) (hn : n = l.length) (hs : n ≤ 10) (hA : A = none → c = 0) :
    Calls Try.prog 68 #[.slice A n c] w fun e w' => e = .returned (.bool (decide (swapL 4 l = []))) ∧ Below w.heap.size w w' := by
  obtain ⟨i0, hi0, hz0, hz1, hz2⟩ := info_parts acInfo
  have HI := Lib.hid (And.intro hi0 (And.intro hz0 (And.intro hz1 hz2))); clear hi0 hz0 hz1 hz2
  have HE := Lib.hid (ApA.empty w)
  have HR1 := Lib.hid (hr.below ((Below.refl w.heap.size w).alloc (Nat.le_refl _) (.cells #[] 47)))
  have HLC := Lib.hid (show (acsC l).length = n * 3 by rw [acsC_len, hn])
  have HA := Lib.hid hA; clear hA
  have HONE := Lib.hid (show ∀ u ∈ acsC l, u.oneCell' = true by
    intro u hu
    unfold acsC at hu
    rw [List.mem_flatMap] at hu
    obtain ⟨p, _, hp⟩ := hu
    simp [acC] at hp
    rcases hp with rfl | rfl | rfl <;> rfl)
  have HN := Lib.hid hn; clear hn hr
  obtain ⟨G, hG⟩ : ∃ G, swapL 4 l = G := ⟨_, rfl⟩
  rw [hG]
  have HG0 := Lib.hid hG; clear hG
  go_enter Try.func68, Try.ntmps68
  have hbase : w.heap.size ≤ (w.alloc (.cells #[] 47)).heap.size := by simp
  go_wp2_with (at_builtin; refine wpList_append_row rfl _ _ 26 rfl w.heap.size 47 i0 (.agg #[.int .i64 0, .int .i64 0, .bool false]) 3 24 Try.underlying26 HI.out.1 HI.out.2.1 HI.out.2.2.1 HI.out.2.2.2 rfl (by decide) _ 0 _ rfl HE.out.1 A n c w.heap.size (acsC l) rfl HA.out HLC.out HR1.out HONE.out (by unfold maxLen; omega) (by omega) hbase ?_)
  intro v0 w1 ho hg
  have HA0 := Lib.hid (show ApA w l v0 w1 from by
    have := HE.out.step (M := l) (Below.refl _ _) (by
      have e : ([] : List Ac).length + l.length = n := by have := HN.out; simp; omega
      rw [e]; exact ho) hg
    simpa using this); clear ho hg
  go_wp2_with fail
  go_loopw [3, 4] (fun v i wr => ∃ (k : Nat) (now : List Ac), i = .int .i64 (k : Int) ∧ k ≤ 4 ∧ now.length ≤ n ∧ ApA w now v wr ∧ G = swapL (4 - k) now) (fun _ i _ => 4 - (intOf i).toNat)
  case atStart => exact ⟨0, l, rfl, by omega, by have := HN.out; omega, HA0.out, HG0.out.symm⟩
  case round =>
    clear HA0 HG0 HR1 HE HLC HONE
    obtain ⟨k, now, rfl, hk, hnl, ha, hg⟩ := hrel
    have HA2 := Lib.hid ha; clear ha
    have HG := Lib.hid hg; clear hg
    obtain ⟨A2, c2, hv, hno⟩ := HA2.out.sl
    clear hno
    subst hv
    by_cases hlt : k < 4
    · have hk4 : (k : Int) < 4 := by omega
      by_cases hnow : now.length = 0
      · have hnil : now = [] := List.eq_nil_of_length_eq_zero hnow
        have HGN := Lib.hid (show G = [] by rw [HG.out, hnil]; cases (4 - k) <;> simp [swapL])
        have hz : ((now.length : Int) == 0) = true := by simp; omega
        clear hnil
        go_wp2_with fail
        go_ret
        exact ⟨retb (by simp [HGN.out]), HA2.out.2⟩
      · have HGS := Lib.hid (show G = swapL (3 - k) (pullF now 0 4) by
          rw [HG.out, show 4 - k = (3 - k) + 1 by omega, swapL, if_neg (fun e => hnow (by rw [e]; rfl))])
        have hz2 : ¬ ((now.length : Int) = 0) := by omega
        have hz : ((now.length : Int) == 0) = false := by simpa using hz2
        have HPU := Lib.hid (fun W (hb : Below wr.heap.size wr W) tx => sPull_any A2 now.length c2 tx now W (RowAt.of_own (HA2.out.keep hb).1) rfl (by omega))
        clear HG
        go_wp2_with fail
        obtain ⟨wi, hwi⟩ : ∃ wi : World, wi = wr := ⟨_, rfl⟩
        subst hwi
        go_loopw [3, 5] (fun v i W => ∃ j : Nat, v = .slice A2 now.length c2 ∧ i = .int .i64 (j : Int) ∧ j ≤ 4 ∧ pullF now 0 4 = pullF now j (4 - j) ∧ Below wi.heap.size wi W) (fun _ i _ => 4 - (intOf i).toNat)
        case atStart => exact ⟨0, rfl, rfl, by omega, rfl, Below.refl _ _⟩
        case round =>
          obtain ⟨j, rfl, rfl, hj, hp, hbi⟩ := hrel
          have HBI := Lib.hid hbi; clear hbi
          have HP := Lib.hid hp; clear hp
          by_cases hj4 : j < 4
          · have hj4i : (j : Int) < 4 := by omega
            have HPS := Lib.hid (show pullF now 0 4 = match pullL j [] now with
                | some r => if r.length < now.length then r else pullF now (j + 1) (4 - (j + 1))
                | none => pullF now (j + 1) (4 - (j + 1)) by
              rw [HP.out, show 4 - j = (4 - (j + 1)) + 1 by omega, pullF_first])
            go_wp2_with fail
            refine (HPU.out _ HBI.out j).mono ?_
            rintro e w3 hp3
            cases hpl : pullL j [] now with
            | none =>
              rw [hpl] at hp3
              obtain ⟨rfl, hb3⟩ := hp3
              have HB3 := Lib.hid (HBI.out.trans (hb3.mono HBI.out.size)); clear hb3
              have HPN := Lib.hid (show pullF now 0 4 = pullF now (j + 1) (4 - (j + 1)) by rw [HPS.out, hpl])
              clear hpl
              go_wp2_with fail
              go_roundw
              case rel => exact ⟨j + 1, rfl, by go_num, by omega, HPN.out, HB3.out⟩
              case measure => simp [intOf]; omega
            | some r =>
              rw [hpl] at hp3
              obtain ⟨v3, rfl, ha3⟩ := hp3
              obtain ⟨A3, c3, hv3, hno3⟩ := ha3.sl
              clear hno3
              subst hv3
              have HA3 := Lib.hid ha3; clear ha3
              have HB3 := Lib.hid (HBI.out.trans (HA3.out.2.mono HBI.out.size))
              by_cases hlr : r.length < now.length
              · have HPN := Lib.hid (show pullF now 0 4 = r by rw [HPS.out, hpl]; simp [hlr])
                have HGR := Lib.hid (show G = swapL (4 - (k + 1)) r by rw [HGS.out, HPN.out, show 3 - k = 4 - (k + 1) by omega])
                have HAW := Lib.hid (show ApA w r (.slice A3 r.length c3) w3 from ⟨own_mono HA3.out.1 (Nat.le_trans HA2.out.2.size HBI.out.size), HA2.out.2.trans (HB3.out.mono HA2.out.2.size)⟩)
                have hlri : (r.length : Int) < (now.length : Int) := by omega
                clear hpl
                go_wp2_with fail
                go_roundw
                case rel => exact ⟨k + 1, r, by go_num, by omega, by omega, HAW.out, HGR.out⟩
                case measure => simp [intOf]; omega
              · have HPN := Lib.hid (show pullF now 0 4 = pullF now (j + 1) (4 - (j + 1)) by rw [HPS.out, hpl]; simp [hlr])
                have hlri : ¬ (r.length : Int) < (now.length : Int) := by omega
                clear hpl
                go_wp2_with fail
                go_roundw
                case rel => exact ⟨j + 1, rfl, by go_num, by omega, HPN.out, HB3.out⟩
                case measure => simp [intOf]; omega
          · obtain rfl : j = 4 := by omega
            have HGR := Lib.hid (show G = swapL (4 - (k + 1)) now by rw [HGS.out, HP.out, show 3 - k = 4 - (k + 1) by omega]; rfl)
            have HAW := Lib.hid (HA2.out.keep HBI.out)
            go_wp2_with fail
            go_roundw
            case rel => exact ⟨k + 1, now, by go_num, by omega, by omega, HAW.out, HGR.out⟩
            case measure => simp [intOf]; omega
    · obtain rfl : k = 4 := by omega
      have HGN := Lib.hid (show G = now by rw [HG.out]; rfl)
      go_wp2_with fail
      go_ret
      refine ⟨retb ?_, HA2.out.2⟩
      rw [HGN.out]
      cases now <;> simp <;> omega
theorem sMay_any (A : Option Addr) (n c : Nat) (l : List Ac) (w : World) (hr : RowAt w w.heap.size A (acsC l)) (hn : n = l.length) (hs : n ≤ 1048576) (hA : A = none → c = 0) :
    Calls Try.prog 36 #[.slice A n c] w fun e w' => e = .returned (.bool (swapB l)) ∧ Below w.heap.size w w' := by
  have HV := Lib.hid (sActs_any A n c l w hr hn hs)
  cases hv : actsB l
  · rw [hv] at HV
    rw [show swapB l = false by simp [swapB, hv]]
    clear hv hr hn hA
    go_enter Try.func36, Try.ntmps36
    go_wp2_with fail
    refine HV.out.mono ?_
    rintro e w2 ⟨rfl, hb2⟩
    go_wp2_with fail
    go_ret
    exact ⟨rfl, hb2⟩
  · rw [hv] at HV
    have HC := Lib.hid (fun W (hb : Below w.heap.size w W) => sSwap_any A n c l W ((hr.below hb).mono hb.size) hn (by have := (actsB_ok hv).1; omega) hA)
    rw [show swapB l = decide (swapL 4 l = []) by simp [swapB, hv]]
    clear hv hr hn hA
    go_enter Try.func36, Try.ntmps36
    go_wp2_with fail
    refine HV.out.mono ?_
    rintro e w2 ⟨rfl, hb2⟩
    have HB2 := Lib.hid hb2; clear hb2
    go_wp2_with fail
    refine (HC.out _ HB2.out).mono ?_
    rintro e w3 ⟨rfl, hb3⟩
    go_wp2_with fail
    go_ret
    exact ⟨rfl, HB2.out.trans (hb3.mono HB2.out.size)⟩
end Go.Proofs.Ytdpehojcoohjcab
