/- Contracts of sameReads, hasInt, viewFrom and ViewOrder of the model (chapter 8). Conditions: the acts lie in a row; they are valid, where it is asked. -/
import Derived.Test.YtdpehojcoohjcabOneS
import Derived.Test.YtdpehojcoohjcabLinUp
import Derived.Deep.AppendLies
set_option linter.unusedVariables false
set_option linter.unusedSimpArgs false
namespace Go.Proofs.Ytdpehojcoohjcab
open Go.RowKit Go.ChangeShapes Go.WideShapes

theorem row_newsV {w : World} {B : Nat} {a : Addr} {cs : List Value} (h : RowAt w B (some a) cs) {j : Nat} {u : Value} (hj : cs[j]? = some u) : w.cell? (a.add j) = some u := by
  obtain ⟨b, off, e, _, hc⟩ := h (by intro h0; rw [h0] at hj; simp at hj)
  cases e
  rw [add_zero_off]; exact hc j u hj
theorem sHas_any (A : Option Addr) (n c : Nat) (s : List Nat) (x : Nat) (w : World) (hr : RowAt w w.heap.size A (intC (natI s))) (hn : n = s.length) (hs : n ≤ 1048576) :
    Calls Try.prog 72 #[.slice A n c, .int .i64 (x : Int)] w fun e w' => e = .returned (.bool (decide (x ∈ s))) ∧ w' = w := by
  have HAT := Lib.hid (fun k (hk : k < s.length) => (show ∃ b off, A = some ⟨b, off, none⟩ ∧ b < w.heap.size ∧ w.cell? ⟨b, off + k, none⟩ = some (.int .i64 (s[k] : Int)) by
    obtain ⟨b, off, h1, h2, h3⟩ := ints_at hr (k := k) (by rw [natI_len]; exact hk)
    exact ⟨b, off, h1, h2, by rw [h3]; simp [natI]⟩))
  have HN := Lib.hid hn
  clear hr hn
  go_enter Try.func72, Try.ntmps72
  go_wp2_with fail
  go_loopw [5] (fun i wr => ∃ k : Nat, i = .int .i64 k ∧ k ≤ n ∧ x ∉ s.take k ∧ wr = w) (fun i _ => n - (intOf i).toNat)
  case atStart => exact ⟨0, rfl, by omega, by simp, rfl⟩
  case round =>
    obtain ⟨k, rfl, hk, hx, hw⟩ := hrel
    obtain rfl := hw.symm
    by_cases hlt : k < n
    · have hkl : k < s.length := by have := HN.out; omega
      obtain ⟨b, off, hA, hbw, e0⟩ := HAT.out k hkl
      subst hA
      have hi1 : (k : Int) < (n : Int) := by omega
      by_cases hq : s[k] = x
      · have HT := Lib.hid (show true = decide (x ∈ s) from (decide_eq_true (by rw [← hq]; exact List.getElem_mem hkl)).symm)
        rw [hq] at e0
        have hqq : ((x : Int) == (x : Int)) = true := by simp
        clear hx hq
        go_wp2_with fail
        try go_quiet (fail)
        go_wp2_with fail
        go_ret
        exact ⟨retb HT.out, by first | rfl | trivial⟩
      · have HX := Lib.hid (show x ∉ s.take (k + 1) by
          rw [List.take_succ_eq_append_getElem hkl]
          intro h
          rcases List.mem_append.1 h with h | h
          · exact hx h
          · exact hq (List.mem_singleton.1 h).symm)
        have hqq : ((s[k] : Int) == (x : Int)) = false := by simp; omega
        have hqn : ¬ (s[k] : Int) = (x : Int) := by omega
        clear hx
        generalize s[k] = y at *
        go_wp2_with fail
        try go_quiet (fail)
        go_wp2_with fail
        go_roundw
        case rel => exact ⟨k + 1, by go_num, by omega, HX.out, by first | rfl | trivial⟩
        case measure => simp [intOf]; omega
    · obtain rfl : k = n := by omega
      have HF := Lib.hid (show false = decide (x ∈ s) by rw [HN.out, List.take_length] at hx; exact (decide_eq_false hx).symm)
      clear hx
      go_wp2_with fail
      go_ret
      exact ⟨retb HF.out, by first | rfl | trivial⟩

/-- the two tests of sameReads -/
def sameA (l : List AcT) (o : List Nat) (i : Nat) : Bool := decide ((readsL (inTurnL l o)).getD i 0 = (readsL l).getD ((turnP l o).getD i 0) 0)
def sameB (l : List AcT) (o : List Nat) (t : Nat) : Bool := decide ((readsL (inTurnL l o)).getD (l.length + t) 0 = (readsL l).getD (l.length + t) 0)
theorem sameV_eq (l : List AcT) (o : List Nat) : sameV l o = ((List.range (turnP l o).length).all (sameA l o) && (List.range 3).all (sameB l o)) := rfl
theorem all_up {f : Nat → Bool} {k : Nat} (h : (List.range k).all f = true) (hk : f k = true) : (List.range (k + 1)).all f = true := by
  rw [List.range_succ, List.all_append, h]; simp [hk]
theorem all_not {f : Nat → Bool} {k n : Nat} (hk : k < n) (h : f k = false) : (List.range n).all f = false := by
  rw [List.all_eq_false]
  exact ⟨k, by simpa using hk, by rw [h]; simp⟩
theorem readsL_len (l : List AcT) : (readsL l).length = l.length + 3 := by unfold readsL; rw [List.length_append, readsR_len, lastR_len]; rfl

set_option maxRecDepth 100000 in
set_option maxHeartbeats 8000000 in
theorem sSame_any (A : Option Addr) (n c : Nat) (l : List Ac) (A2 : Option Addr) (m c2 : Nat) (o : List Nat) (w : World) (hr : RowAt w w.heap.size A (acsC l)) (hn : n = l.length) (hs : n ≤ 10) (hok : ∀ x ∈ l, okAc x = true)
    (hr2 : RowAt w w.heap.size A2 (intC (natI o))) (hm : m = o.length) (hp : PreO 4 0 o) :
    Calls Try.prog 71 #[.slice A n c, .slice A2 m c2] w fun e w' => e = .returned (.bool (sameV l o)) ∧ Below w.heap.size w w' := by
  have hm4 : m ≤ 4 := by have := hp.1; omega
  have HQL := Lib.hid (turnP_len hok hp)
  have HQT := Lib.hid (fun i (h : i < (turnP l o).length) => turnP_lt (List.getElem_mem h))
  have HR1 := Lib.hid (fun W (hb : Below w.heap.size w W) => sReads_any A n c l W ((hr.below hb).mono hb.size) hn (by omega) hok)
  have HON := Lib.hid (fun W (hb : Below w.heap.size w W) => sOne_any A n c l A2 m c2 o W ((hr.below hb).mono hb.size) hn hs ((hr2.below hb).mono hb.size) hm hm4)
  have hok2 : ∀ x ∈ inTurnL l o, okAc x = true := fun x hx => by
    unfold inTurnL at hx
    rw [List.mem_flatMap] at hx
    obtain ⟨p, _, h2⟩ := hx
    exact hok x (List.mem_filter.1 h2).1
  have hil : (inTurnL l o).length = n := by rw [← actsAt_turn, actsAt_len, HQL.out, hn]
  have HR2 := Lib.hid (fun W B1 d1 (h1 : RowAt W W.heap.size B1 (acsC (inTurnL l o))) => sReads_any B1 n d1 (inTurnL l o) W h1 hil.symm (by omega) hok2)
  have HT := Lib.hid (actsAt_turn l o)
  have HLM := Lib.hid (show (readsL l).length = n + 3 by rw [readsL_len, hn])
  have HLT := Lib.hid (show (readsL (inTurnL l o)).length = n + 3 by rw [readsL_len, hil])
  have HN := Lib.hid hn
  obtain ⟨R, hR⟩ : ∃ R, sameV l o = R := ⟨_, rfl⟩
  have HEQ := Lib.hid ((sameV_eq l o).symm.trans hR)
  have HSA := Lib.hid (fun i (h1 : i < (readsL (inTurnL l o)).length) (h2 : i < (turnP l o).length) (h3 : (turnP l o)[i] < (readsL l).length) => (show sameA l o i = decide ((readsL (inTurnL l o))[i] = (readsL l)[(turnP l o)[i]]) by
    unfold sameA
    simp [List.getD_eq_getElem?_getD, h1, h2, h3]))
  have HSB := Lib.hid (fun t (h1 : n + t < (readsL (inTurnL l o)).length) (h2 : n + t < (readsL l).length) => (show sameB l o t = decide ((readsL (inTurnL l o))[n + t] = (readsL l)[n + t]) by
    unfold sameB
    simp only [List.getD_eq_getElem?_getD]
    rw [← hn, List.getElem?_eq_getElem h1, List.getElem?_eq_getElem h2]; rfl))
  rw [hR]
  clear hR hr hr2 hok hok2 hm hil hp hn
  have HB0 := Lib.hid (Below.refl w.heap.size w)
  generalize sameA l o = fa at *
  generalize sameB l o = fb at *
  go_enter Try.func71, Try.ntmps71
  go_wp2_with fail
  refine (HR1.out _ HB0.out).mono ?_
  rintro e w2 ⟨_, rfl, ⟨Am, cm, rfl, hom⟩, hb2⟩
  rw [HLM.out] at hom ⊢
  have HB2 := Lib.hid (HB0.out.trans (hb2.mono HB0.out.size)); clear hb2
  have HM2 := Lib.hid (RowAt.of_own hom); clear hom
  go_wp2_with fail
  refine (HON.out _ HB2.out).mono ?_
  rintro e w3 ⟨B1, B2, d1, d2, kk, rfl, hkk, ho1, ho2⟩
  have HM3 := Lib.hid ((HM2.out.below ho1.2).mono ho1.2.size)
  have HB3 := Lib.hid (HB2.out.trans (ho1.2.mono HB2.out.size))
  obtain rfl : kk = n := by rw [hkk, HQL.out]; exact HN.out.symm
  clear hkk
  have HF3 := Lib.hid (RowAt.of_own ho2.1)
  have HS3 := Lib.hid (show RowAt w3 w3.heap.size B1 (acsC (inTurnL l o)) by rw [← HT.out]; exact RowAt.of_own ho1.1)
  clear ho1 ho2
  have HRR := Lib.hid (HR2.out _ B1 d1 HS3.out)
  go_wp2_with fail
  refine (HRR.out).mono ?_
  rintro e w4 ⟨_, rfl, ⟨At, ct, rfl, hot⟩, hb4⟩
  rw [HLT.out] at hot ⊢
  have HB4 := Lib.hid (HB3.out.trans (hb4.mono HB3.out.size))
  have HM4 := Lib.hid ((HM3.out.below hb4).mono hb4.size)
  have HF4 := Lib.hid ((HF3.out.below hb4).mono hb4.size); clear hb4
  have HT4 := Lib.hid (RowAt.of_own hot); clear hot
  clear HR1 HON HR2 HT HRR HM2 HM3 HF3 HS3 HB2 HB3
  generalize readsL (inTurnL l o) = T at *
  generalize readsL l = M at *
  generalize turnP l o = Q at *
  go_wp2_with fail
  go_loopw [9] (fun i wr => ∃ k : Nat, i = .int .i64 k ∧ k ≤ kk ∧ (List.range k).all fa = true ∧ Below w4.heap.size w4 wr) (fun i _ => kk - (intOf i).toNat)
  case atStart => exact ⟨0, rfl, by omega, rfl, Below.refl _ _⟩
  case round =>
    obtain ⟨i, rfl, hi, hu, hbi⟩ := hrel
    have HU := Lib.hid hu; clear hu
    have HBI := Lib.hid hbi; clear hbi
    by_cases hlt : i < kk
    · have hi1 : (i : Int) < (kk : Int) := by omega
      have hi2 : (i : Int) < ((kk + 3 : Nat) : Int) := by omega
      have hTl : i < T.length := by have := HLT.out; omega
      have hQl : i < Q.length := by have := HQL.out; have := HN.out; omega
      have hql := HQT.out i hQl
      have hMl : Q[i] < M.length := by have := HLM.out; have := HN.out; omega
      obtain ⟨b1, f1, hA1, _, e1⟩ := ints_at (HT4.out.below HBI.out) (k := i) hTl
      obtain ⟨b2, f2, hA2, _, e2⟩ := ints_at (l := natI Q) (HF4.out.below HBI.out) (k := i) (by rw [natI_len]; exact hQl)
      obtain ⟨b3, f3, hA3, _, e3⟩ := ints_at (HM4.out.below HBI.out) (k := Q[i]) hMl
      rw [show (natI Q)[i]'(by rw [natI_len]; exact hQl) = ((Q[i] : Nat) : Int) by simp [natI]] at e2
      subst hA1 hA2 hA3
      have HS := Lib.hid (HSA.out i hTl hQl hMl)
      have hq1 : ((Q[i] : Nat) : Int) < ((kk + 3 : Nat) : Int) := by have := HN.out; omega
      have hq2 : (0 : Int) ≤ ((Q[i] : Nat) : Int) := by omega
      clear HLM HLT HQL HQT HSA HSB
      generalize T[i] = x at *
      generalize hqg : Q[i] = q at *
      clear hqg hql
      generalize M[q] = y at *
      by_cases hxy : x = y
      · have HUP := Lib.hid (all_up HU.out (by rw [HS.out, decide_eq_true hxy]))
        subst hxy
        have hq3 : (x != x) = false := by simp
        have hq4 : (x == x) = true := by simp
        go_wp2_with fail
        go_quiet (fail)
        go_wp2_with fail
        go_roundw
        case rel => exact ⟨i + 1, by go_num, by omega, HUP.out, HBI.out.trans ((below_drewN _ _).mono HBI.out.size)⟩
        case measure => simp [intOf]; omega
      · have HNO := Lib.hid (show false = R by rw [← HEQ.out, all_not (f := fa) hQl (by rw [HS.out, decide_eq_false hxy])]; rfl)
        have hq3 : (x != y) = true := by simpa using hxy
        have hq4 : (x == y) = false := by simpa using hxy
        go_wp2_with fail
        go_quiet (fail)
        go_wp2_with fail
        go_ret
        exact ⟨retb HNO.out, HB4.out.trans ((HBI.out.trans ((below_drewN _ _).mono HBI.out.size)).mono HB4.out.size)⟩
    · have hik : i = kk := by omega
      have hin : ¬ (i : Int) < (kk : Int) := by omega
      have HA1 := Lib.hid (show (List.range Q.length).all fa = true by rw [HQL.out, ← HN.out, ← hik]; exact HU.out)
      clear HU hik
      go_wp2_with fail
      go_loopw [10] (fun i wr2 => ∃ k : Nat, i = .int .i64 k ∧ k ≤ 3 ∧ (List.range k).all fb = true ∧ Below wr.heap.size wr wr2) (fun i _ => 3 - (intOf i).toNat)
      case atStart => exact ⟨0, rfl, by omega, rfl, Below.refl _ _⟩
      case round =>
        obtain ⟨t, rfl, ht, hu, hbt⟩ := hrel
        have HU := Lib.hid hu; clear hu
        have HBTT := Lib.hid hbt
        have HBT := Lib.hid (HBI.out.trans (hbt.mono HBI.out.size)); clear hbt
        rename World => wx
        have HBX := Lib.hid (HB4.out.trans (HBT.out.mono HB4.out.size))
        by_cases hlt3 : t < 3
        · have ht1 : (t : Int) < 3 := by omega
          have hTl : kk + t < T.length := by have := HLT.out; omega
          have hMl : kk + t < M.length := by have := HLM.out; omega
          obtain ⟨b1, f1, hA1, _, e1⟩ := ints_at (HT4.out.below HBT.out) (k := kk + t) hTl
          obtain ⟨b3, f3, hA3, _, e3⟩ := ints_at (HM4.out.below HBT.out) (k := kk + t) hMl
          subst hA1 hA3
          have HS := Lib.hid (HSB.out t hTl hMl)
          have hw1 : IntKind.i64.wrap ((kk : Int) + (t : Int)) = (kk : Int) + (t : Int) := IntWalk.i64_in _ (by omega)
          have hw2 : ((kk : Int) + (t : Int)).toNat = kk + t := by omega
          have hw3 : (kk : Int) + (t : Int) < ((kk + 3 : Nat) : Int) := by omega
          have hw4 : (0 : Int) ≤ (kk : Int) + (t : Int) := by omega
          clear HLM HLT HQL HQT HSA HSB
          generalize T[kk + t] = x at *
          generalize M[kk + t] = y at *
          by_cases hxy : x = y
          · have HUP := Lib.hid (all_up HU.out (by rw [HS.out, decide_eq_true hxy]))
            subst hxy
            have hq3 : (x != x) = false := by simp
            have hq4 : (x == x) = true := by simp
            go_wp2_with fail
            go_quiet (fail)
            go_wp2_with fail
            go_roundw
            case rel => exact ⟨t + 1, by go_num, by omega, HUP.out, HBTT.out.trans ((below_drewN _ _).mono HBTT.out.size)⟩
            case measure => simp [intOf]; omega
          · have HNO := Lib.hid (show false = R by rw [← HEQ.out, all_not (f := fb) hlt3 (by rw [HS.out, decide_eq_false hxy])]; simp)
            have hq3 : (x != y) = true := by simpa using hxy
            have hq4 : (x == y) = false := by simpa using hxy
            go_wp2_with fail
            go_quiet (fail)
            go_wp2_with fail
            go_ret
            exact ⟨retb HNO.out, HBX.out.trans ((below_drewN _ _).mono HBX.out.size)⟩
        · have HYS := Lib.hid (show true = R by rw [← HEQ.out, HA1.out, show (3 : Nat) = t by omega, HU.out]; rfl)
          have htn : ¬ (t : Int) < 3 := by omega
          go_wp2_with fail
          go_ret
          exact ⟨retb HYS.out, HBX.out⟩
/-- what viewFrom hands back -/
def VwPost (B d : Nat) (r : Option (List Nat)) (w : World) (e : Ending) (w' : World) : Prop := Below w.heap.size w w' ∧ match r with
  | some o => ∃ (A : Option Addr) (c : Nat), e = .returned (.tuple #[.slice A 4 c, .bool true]) ∧ w'.ownsRow B 3 1 (.slice A 4 c) 4 (intC (natI o))
  | none => ∃ v, e = .returned (.tuple #[v, .bool false]) ∧ (0 < d → v = .slice none 0 0)
theorem VwPost.mono {B d : Nat} {r : Option (List Nat)} {w w2 w' : World} {e : Ending} (h : VwPost B d r w2 e w') (hb : Below w.heap.size w w2) : VwPost B d r w e w' := ⟨hb.trans (h.1.mono hb.size), h.2⟩
set_option maxRecDepth 100000 in
set_option maxHeartbeats 8000000 in
theorem sViewF_any (A : Option Addr) (n c : Nat) (l : List Ac) (B : Nat) (w0 : World) (hr : RowAt w0 B A (acsC l)) (hn : n = l.length) (hs : n ≤ 10) (hok : ∀ x ∈ l, okAc x = true) :
    ∀ (d : Nat) (s : List Nat) (a : Addr) (m cc : Nat) (w : World), PreO 4 d s → m = s.length → w.ownsRow B 3 1 (.slice (some a) m cc) m (intC (natI s)) → Below B w0 w → B ≤ w.heap.size →
    Calls Try.prog 44 #[.slice A n c, .slice (some a) m cc] w (VwPost B d (firstO 4 (sameV l) d s) w) := by
  obtain ⟨i0, hi0, hz0, hz1, hz2⟩ := info_parts intInfo
  have HI := Lib.hid (And.intro hi0 (And.intro hz0 (And.intro hz1 hz2))); clear hi0 hz0 hz1 hz2
  have HR := Lib.hid (fun W (hb : Below B w0 W) (hB : B ≤ W.heap.size) => ((hr.below hb).mono hB))
  have HN := Lib.hid hn
  have HOK := Lib.hid hok
  clear hr hn hok
  intro d
  induction d with
  | zero =>
    intro s a m cc w hp hm hown hb hB
    have HSM := Lib.hid (sSame_any A n c l (some a) m cc s w (HR.out w hb hB) HN.out hs HOK.out (RowAt.of_own hown) hm hp)
    have HO := Lib.hid hown
    obtain rfl : m = 4 := by have := hp.1; omega
    have HF := Lib.hid (show firstO 4 (sameV l) 0 s = if sameV l s then some s else none from rfl)
    obtain ⟨G, hG⟩ : ∃ G, firstO 4 (sameV l) 0 s = G := ⟨_, rfl⟩
    rw [hG] at HF ⊢
    clear hG hown hm hp
    cases hv : sameV l s
    · rw [hv] at HSM HF
      clear hv
      go_enter Try.func44, Try.ntmps44
      go_wp2_with fail
      refine (HSM.out).mono ?_
      rintro e w2 ⟨rfl, hb2⟩
      have HB2 := Lib.hid hb2; clear hb2
      go_wp2_with fail
      go_ret2
      refine ⟨HB2.out, ?_⟩
      rw [HF.out]
      exact ⟨_, rfl, fun h => by omega⟩
    · rw [hv] at HSM HF
      clear hv
      go_enter Try.func44, Try.ntmps44
      go_wp2_with fail
      refine (HSM.out).mono ?_
      rintro e w2 ⟨rfl, hb2⟩
      have HB2 := Lib.hid hb2; clear hb2
      go_wp2_with fail
      go_ret2
      refine ⟨HB2.out, ?_⟩
      rw [HF.out]
      exact ⟨some a, cc, rfl, HO.out.kept (grown_of_below (row := none) HB2.out) (by simp [Value.ownBlock])⟩
  | succ d ih =>
    intro s a m cc w hp hm hown hb hB
    have IH := Lib.hid ih; clear ih
    have hm4 : m < 4 := by have := hp.1; omega
    have HP := Lib.hid hp; clear hp
    have HM := Lib.hid hm; clear hm
    have HOW := Lib.hid (fun W (h : Below w.heap.size w W) => hown.kept (grown_of_below (row := none) h) (by simp [Value.ownBlock]))
    have HBW := Lib.hid hb; clear hb
    clear hown
    have HFO := Lib.hid (show firstO 4 (sameV l) (d + 1) s = firstS (fun x => if x ∈ s then none else firstO 4 (sameV l) d (s ++ [x])) 0 4 from rfl)
    obtain ⟨G, hG⟩ : ∃ G, firstO 4 (sameV l) (d + 1) s = G := ⟨_, rfl⟩
    rw [hG]
    rw [hG] at HFO
    clear hG
    obtain ⟨f, hf⟩ : ∃ f, (fun x => if x ∈ s then none else firstO 4 (sameV l) d (s ++ [x])) = f := ⟨_, rfl⟩
    rw [hf] at HFO
    have HFX := Lib.hid (fun x => congrFun hf x); clear hf
    have hne : ((m : Int) == 4) = false := by simp; omega
    have hne2 : ¬ (m : Int) = 4 := by omega
    go_enter Try.func44, Try.ntmps44
    go_wp2_with fail
    go_loopw [6] (fun i W => ∃ k : Nat, i = .int .i64 (k : Int) ∧ k ≤ 4 ∧ Below w.heap.size w W ∧ G = firstS f k (4 - k)) (fun i _ => 4 - (intOf i).toNat)
    case atStart => exact ⟨0, rfl, by omega, Below.refl _ _, HFO.out⟩
    case round =>
      obtain ⟨k, rfl, hk, hbr, hg⟩ := hrel
      have HBR := Lib.hid hbr; clear hbr
      have HG := Lib.hid hg; clear hg
      have hBW : B ≤ wr.heap.size := Nat.le_trans hB HBR.out.size
      by_cases hlt : k < 4
      · have hk1 : (k : Int) < 4 := by omega
        have HH := Lib.hid (sHas_any (some a) m cc s k wr ((RowAt.of_own (HOW.out wr HBR.out))) HM.out (by omega))
        have HST := Lib.hid (show firstS f k (4 - k) = match f k with | some o => some o | none => firstS f (k + 1) (4 - (k + 1)) by
          rw [show 4 - k = (4 - (k + 1)) + 1 by omega, firstS]
          cases f k <;> rfl)
        by_cases hmem : k ∈ s
        · rw [decide_eq_true hmem] at HH
          have HN2 := Lib.hid (show G = firstS f (k + 1) (4 - (k + 1)) by rw [HG.out, HST.out, ← HFX.out k, if_pos hmem])
          clear hmem
          go_wp2_with fail
          refine (HH.out).mono ?_
          rintro e w3 ⟨rfl, hw3⟩
          obtain rfl := hw3.symm
          go_wp2_with fail
          go_roundw
          case rel => exact ⟨k + 1, by go_num, by omega, HBR.out, HN2.out⟩
          case measure => simp [intOf]; omega
        · rw [decide_eq_false hmem] at HH
          have HFK := Lib.hid (show f k = firstO 4 (sameV l) d (s ++ [k]) by rw [← HFX.out k, if_neg hmem])
          have HPS := Lib.hid (HP.out.snoc hlt hmem)
          clear hmem
          have HNS := Lib.hid (show intC (natI (s ++ [k])) = [] ++ intC (natI s) ++ [.int .i64 (k : Int)] by simp [natI, intC])
          have hsl1 : m + 1 = (s ++ [k]).length := by have := HM.out; simp; omega
          have HIH := Lib.hid (fun g cap W (h1 : W.ownsRow wr.heap.size 3 1 (.slice (some ⟨g, 0, none⟩) (m + 1) cap) (m + 1) ([] ++ intC (natI s) ++ [.int .i64 (k : Int)])) (h2 : Below wr.heap.size wr W) => (show Calls Try.prog 44 #[.slice A n c, .slice (some ⟨g, 0, none⟩) (m + 1) cap] W (VwPost B d (f k) W) by
            rw [HFK.out]
            exact IH.out (s ++ [k]) ⟨g, 0, none⟩ (m + 1) cap W HPS.out hsl1 (by rw [HNS.out]; exact own_leR h1 hBW) (HBW.out.trans ((HBR.out.trans (h2.mono HBR.out.size)).mono hB)) (Nat.le_trans hBW h2.size)))
          clear hsl1
          have HO0 := Lib.hid (OutR.empty 3 1 wr)
          have HSN := Lib.hid (fun W (hb : Below w.heap.size w W) j u (hj : (intC (natI s))[j]? = some u) => row_newsV (RowAt.of_own (HOW.out W hb)) hj)
          have HSL := Lib.hid (show (intC (natI s)).length = m * 1 by rw [intC_len, natI_len, ← HM.out]; omega)
          go_wp2_with fail
          refine (HH.out).mono ?_
          rintro e w3 ⟨rfl, hw3⟩
          obtain rfl := hw3.symm
          go_wp2_with (at_builtin; refine wpList_append_own _ rfl _ _ 24 rfl wr.heap.size 3 i0 (.int .i64 0) 1 8 Try.underlying24 HI.out.1 HI.out.2.1 HI.out.2.2.1 HI.out.2.2.2 rfl (by decide) (.slice (some ⟨wr.heap.size, 0, none⟩) 0 0) 0 [] rfl HO0.out.1 a m cc (intC (natI s)) rfl HSL.out ?c1 ?c2 ?c4 ?c5 ?c6 ?_)
          try (case c1 => exact HSN.out _ (HBR.out.trans ((Below.refl _ _ |>.alloc (Nat.le_refl _) _ : Below wr.heap.size wr _).mono HBR.out.size)))
          try (case c2 => intro u hu; unfold intC at hu; rw [List.mem_map] at hu; obtain ⟨x, _, rfl⟩ := hu; rfl)
          try (case c4 => first | omega | (unfold maxLen; omega))
          try (case c5 => omega)
          try (case c6 => first | omega | simp)
          intro v' w4 hown' hgrow _
          obtain ⟨A4, c4, rfl, ho4⟩ := HO0.out.app hown' hgrow
          have HO4 := Lib.hid (show OutR 3 1 wr ([] ++ intC (natI s)) m A4 c4 w4 by simpa using ho4)
          clear ho4 hown' hgrow HO0 HSN HSL
          have HA4 := Lib.hid (fun o => HO4.out.keep ((Below.refl w4.heap.size w4).alloc (Nat.le_refl _) o))
          try simp only [Nat.zero_add]
          go_wp2_with (at_builtin; refine wpList_append_lies _ rfl _ _ 24 rfl wr.heap.size 3 i0 (.int .i64 0) 1 8 Try.underlying24 HI.out.1 HI.out.2.1 HI.out.2.2.1 HI.out.2.2.2 rfl (by decide) (.slice A4 m c4) m ([] ++ intC (natI s)) rfl (HA4.out _).1 ⟨w4.heap.size, 0, none⟩ 1 1 [.int .i64 (k : Int)] rfl rfl ?d1 ?d2 ?d3 ?d4 ?d5 ?d6 _ rfl ?_)
          try (case d1 => exact fun j u hj => cells_at0 _ _ _ j u hj)
          try (case d2 => first | exact rfl | (intro u hu; simp at hu; rcases hu with rfl <;> rfl))
          try (case d3 => decide)
          try (case d4 => first | omega | (unfold maxLen; omega))
          try (case d5 => omega)
          try (case d6 => first | omega | (have := HO4.out.2.size; simp; omega))
          intro g cap w5 hown' hgrow _ _
          obtain ⟨A5, c5, hv5, ho5⟩ := (HA4.out _).app hown' hgrow
          cases hv5
          have HO5 := Lib.hid ho5
          clear ho5 hown' hgrow HA4
          have HB5 := Lib.hid (HBR.out.trans (HO5.out.2.mono HBR.out.size))
          have HCC := Lib.hid (HIH.out g cap w5 HO5.out.1 HO5.out.2)
          go_wp2_with fail
          refine (HCC.out).mono ?_
          rintro e w6 ⟨hb6, hm6⟩
          have HB6 := Lib.hid (HB5.out.trans (hb6.mono HB5.out.size)); clear hb6
          cases hfk : f k with
          | some o =>
            rw [hfk] at hm6
            obtain ⟨A6, c6, rfl, ho6⟩ := hm6
            have HO6 := Lib.hid ho6; clear ho6
            have HGS := Lib.hid (show G = some o by rw [HG.out, HST.out, hfk])
            clear hfk
            go_wp2_with fail
            go_ret2
            refine ⟨HB6.out, ?_⟩
            rw [HGS.out]
            exact ⟨_, _, rfl, HO6.out⟩
          | none =>
            rw [hfk] at hm6
            obtain ⟨v6, rfl, _⟩ := hm6
            have HGN := Lib.hid (show G = firstS f (k + 1) (4 - (k + 1)) by rw [HG.out, HST.out, hfk])
            clear hfk
            go_wp2_with fail
            go_roundw
            case rel => exact ⟨k + 1, by go_num, by omega, HB6.out, HGN.out⟩
            case measure => simp [intOf]; omega
      · have hkn : ¬ (k : Int) < 4 := by omega
        have HGE := Lib.hid (show G = none by rw [HG.out, show 4 - k = 0 by omega]; rfl)
        go_wp2_with fail
        go_ret2
        refine ⟨HBR.out, ?_⟩
        rw [HGE.out]
        exact ⟨_, rfl, fun _ => rfl⟩
theorem sView_any (A : Option Addr) (n c : Nat) (l : List Ac) (w : World) (hr : RowAt w w.heap.size A (acsC l)) (hn : n = l.length) (hs : n ≤ 1048576) (hw : WfAc l) :
    Calls Try.prog 19 #[.slice A n c] w (OrdPost (viewR l) w) := by
  have HV := Lib.hid (sActs_any A n c l w hr hn hs)
  cases hv : actsB l
  · rw [hv] at HV
    have HD := Lib.hid (show viewR l = none by simp [viewR, hv])
    clear hv hr hn
    rw [HD.out]
    go_enter Try.func19, Try.ntmps19
    go_wp2_with fail
    refine HV.out.mono ?_
    rintro e w2 ⟨rfl, hb2⟩
    go_wp2_with fail
    go_ret2
    exact ordPost_no hb2
  · rw [hv] at HV
    have HD := Lib.hid (show viewR l = firstO 4 (sameV l) 4 [] by rw [viewR_eq hv]; simp [viewR, hv])
    have hn10 : n ≤ 10 := by have := (actsB_ok hv).1; omega
    have HF := Lib.hid (fun W (hb : Below w.heap.size w W) => (show Calls Try.prog 44 #[.slice A n c, .slice (some ⟨W.heap.size, 0, none⟩) 0 0] (W.alloc (.cells #[] 3)) (OrdPost (firstO 4 (sameV l) 4 []) w) from by
      have h1 := OutR.empty 3 1 W
      have hb3 : Below w.heap.size w (W.alloc (.cells #[] 3)) := hb.alloc hb.size _
      have hsz := hb.size
      refine (sViewF_any A n c l w.heap.size w hr hn hn10 (actsB_ok hv).2 4 [] ⟨W.heap.size, 0, none⟩ 0 0 (W.alloc (.cells #[] 3)) (preO_nil 4) rfl (own_leR h1.1 hb.size) hb3 (by simp; omega)).mono ?_
      rintro e w6 ⟨hb6, hm6⟩
      have hb7 := hb3.trans (hb6.mono hb3.size)
      cases hg : firstO 4 (sameV l) 4 [] with
      | none =>
        rw [hg] at hm6
        obtain ⟨v, rfl, hv6⟩ := hm6
        rw [hv6 (by omega)]
        exact ordPost_no hb7
      | some o =>
        rw [hg] at hm6
        obtain ⟨A6, c6, rfl, ho6⟩ := hm6
        have ho4 : (natI ((some o).getD [])).length = 4 := by
          obtain ⟨_, h2, _⟩ := firstO_get (preO_nil 4) hg
          rw [natI_len]; have := h2.1; simpa using this
        exact ⟨_, rfl, ⟨A6, c6, by rw [ho4], by rw [ho4]; exact ho6⟩, hb7⟩))
    clear hv hr hn
    rw [HD.out]
    generalize firstO 4 (sameV l) 4 [] = G at *
    go_enter Try.func19, Try.ntmps19
    go_wp2_with fail
    refine HV.out.mono ?_
    rintro e w2 ⟨rfl, hb2⟩
    have HB2 := Lib.hid hb2; clear hb2
    go_wp2_with fail
    refine (HF.out _ HB2.out).mono ?_
    intro e w4 hp
    obtain ⟨v, rfl, HP2⟩ := hp
    have HP := Lib.hid HP2; clear HP2
    go_wp2_with fail
    go_ret2
    exact ⟨_, rfl, HP.out⟩
end Go.Proofs.Ytdpehojcoohjcab
