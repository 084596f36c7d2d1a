/- Contract of fitsJobs of the program (chapter 8). Conditions: the jobs are valid, what is kept and the order lie in rows; the order names jobs. -/
import Derived.Test.YtdpehojcoohjcabAhJ
import Derived.Test.YtdpehojcoohjcabExBlM
import Derived.StillTailTactics
set_option linter.unusedVariables false
set_option linter.unusedSimpArgs false
namespace Go.Proofs.Ytdpehojcoohjcab
open Go.RowKit Go.ChangeShapes Go.WideShapes

/-- may a job stand ahead of another one in an order -/
def okE (l : List JbT) (kp : List Bool) (p e : Nat) : Bool := !(kp.getD e false && kp.getD p false && aheadJ (jAt l p) (jAt l e))
def fitsK (l : List JbT) (kp : List Bool) (o : List Nat) : Bool := fitsJ l (fun i => kp.getD i false) o
theorem fitsK_eq (l : List JbT) (kp : List Bool) (o : List Nat) : fitsK l kp o = (List.range o.length).all (fun i => (o.take i).all (okE l kp (o.getD i 0))) := rfl
theorem all_take_succ {o : List Nat} {k : Nat} (h : k < o.length) (f : Nat → Bool) : (o.take (k + 1)).all f = ((o.take k).all f && f o[k]) := by
  rw [List.take_succ_eq_append_getElem h, List.all_append]; simp
theorem fitsK_no {l : List JbT} {kp : List Bool} {o : List Nat} {i k : Nat} (hi : i < o.length) (hk : k < i) (h : okE l kp o[i] (o[k]'(by omega)) = false) : fitsK l kp o = false := by
  rw [fitsK_eq, List.all_eq_false]
  refine ⟨i, by simpa using hi, ?_⟩
  simp only [Bool.not_eq_true]
  rw [List.all_eq_false]
  refine ⟨o[k]'(by omega), List.mem_take_iff_getElem.2 ⟨k, by omega, rfl⟩, ?_⟩
  rw [List.getD_eq_getElem?_getD, List.getElem?_eq_getElem hi, Option.getD_some, h]; simp
theorem fitsU_succ {l : List JbT} {kp : List Bool} {o : List Nat} {i : Nat} (hi : i < o.length) (hu : (List.range i).all (fun i => (o.take i).all (okE l kp (o.getD i 0))) = true) (h : (o.take i).all (okE l kp o[i]) = true) : (List.range (i + 1)).all (fun i => (o.take i).all (okE l kp (o.getD i 0))) = true := by
  rw [List.range_succ, List.all_append, hu]
  simp only [List.all_cons, List.all_nil, Bool.and_true, Bool.true_and]
  rw [List.getD_eq_getElem?_getD, List.getElem?_eq_getElem hi, Option.getD_some, h]
theorem jbC_okV (x : Jb) : jbV x = .agg #[.int .i64 x.1, .int .i64 x.2.1, .int .i64 x.2.2.1, .int .i64 x.2.2.2] := rfl

set_option maxRecDepth 100000 in
set_option maxHeartbeats 8000000 in
theorem iFits_any (A : Option Addr) (n c : Nat) (o : List Nat) (A1 : Option Addr) (n1 c1 : Nat) (l : List Jb) (A2 : Option Addr) (n2 c2 : Nat) (kp : List Bool) (w : World)
    (hr : RowAt w w.heap.size A (intC (natI o))) (hn : n = o.length) (hc : n ≤ c) (hs : n ≤ 6)
    (hr1 : RowAt w w.heap.size A1 (jbsC l)) (hn1 : n1 = l.length) (hs1 : n1 ≤ 6) (hok : ∀ x ∈ l, okJb x = true)
    (hr2 : RowAt w w.heap.size A2 (blC kp)) (hn2 : n2 = kp.length) (hkl : kp.length = l.length) (hlt : ∀ e ∈ o, e < l.length) :
    Calls Try.prog 56 #[.slice A n c, .slice A1 n1 c1, .slice A2 n2 c2] w fun e w' => e = .returned (.bool (fitsK l kp o)) ∧ Below w.heap.size w w' := by
  have HAT := Lib.hid (fun W (hb : Below w.heap.size w W) k (hk : k < o.length) => (show ∃ b off, A = some ⟨b, off, none⟩ ∧ b < w.heap.size ∧ W.cell? ⟨b, off + k, none⟩ = some (.int .i64 (o[k] : Int)) by
    obtain ⟨b, off, h1, h2, h3⟩ := ints_at (hr.below hb) (k := k) (by rw [natI_len]; exact hk)
    exact ⟨b, off, h1, h2, by rw [h3]; simp [natI]⟩))
  have HJB := Lib.hid (fun W (hb : Below w.heap.size w W) k (hk : k < l.length) => jbs_at (hr1.below hb) hk)
  have HKP := Lib.hid (fun W (hb : Below w.heap.size w W) k (hk : k < kp.length) => bls_at (hr2.below hb) hk)
  have HAH := Lib.hid (fun p q (hp : p < l.length) (hq : q < l.length) W => iAheadJ_any l[p] l[q] W (hok _ (List.getElem_mem hp)) (hok _ (List.getElem_mem hq)))
  have HN := Lib.hid hn
  have HN1 := Lib.hid hn1
  have HN2 := Lib.hid hn2
  have HKL := Lib.hid hkl
  have HLT := Lib.hid (fun k (hk : k < o.length) => hlt _ (List.getElem_mem hk))
  have HNO := Lib.hid (fun i k (hi : i < o.length) (hk : k < i) h => fitsK_no (l := l) (kp := kp) hi hk h)
  have HUS := Lib.hid (fun i (hi : i < o.length) hu h => fitsU_succ (l := l) (kp := kp) (i := i) hi hu h)
  clear hr hr1 hr2 hn hn1 hn2 hkl hlt hok
  obtain ⟨R, hR⟩ : ∃ R, fitsK l kp o = R := ⟨_, rfl⟩
  have HEQ := Lib.hid ((fitsK_eq l kp o).symm.trans hR)
  rw [hR] at HNO ⊢
  clear hR
  go_enter Try.func56, Try.ntmps56
  go_wp2_with fail
  go_loopw [13] (fun i wr => ∃ k : Nat, i = .int .i64 k ∧ k ≤ n ∧ (List.range k).all (fun i => (o.take i).all (okE l kp (o.getD i 0))) = true ∧ Below w.heap.size w wr) (fun i _ => n - (intOf i).toNat)
  case atStart => exact ⟨0, rfl, by omega, rfl, Below.refl _ _⟩
  case round =>
    obtain ⟨i, rfl, hi, hu, hb⟩ := hrel
    have HU := Lib.hid hu; clear hu
    have HB := Lib.hid hb; clear hb
    by_cases hlt : i < n
    · have hil : i < o.length := by have := HN.out; omega
      obtain ⟨b, off, hA, hbw, e0⟩ := HAT.out _ HB.out i hil
      subst hA
      have hi1 : (i : Int) < (n : Int) := by omega
      have hi3 : ¬ (c : Int) < (i : Int) := by omega
      have hi4 : (i : Int) ≤ (c : Int) := by omega
      have hi5 : i ≤ c := by omega
      have hpl := HLT.out i hil
      have HUS2 := Lib.hid (fun h => HUS.out i hil HU.out h)
      have HNO2 := Lib.hid (fun k hk h => HNO.out i k hil hk h)
      clear HU HUS HNO
      generalize o[i] = p at *
      go_wp2_with fail
      go_loopw [22] (fun j wr2 => ∃ k : Nat, j = .int .i64 k ∧ k ≤ i ∧ (o.take k).all (okE l kp p) = true ∧ Below w.heap.size w wr2) (fun j _ => i - (intOf j).toNat)
      case atStart => exact ⟨0, rfl, by omega, by simp, HB.out⟩
      case round =>
        clear HB e0
        obtain ⟨k, rfl, hk, hu, hb⟩ := hrel
        have HU := Lib.hid hu; clear hu
        have HB := Lib.hid hb; clear hb
        rename World => wx
        by_cases hlt2 : k < i
        · have hkl : k < o.length := by have := HN.out; omega
          obtain ⟨b3, off3, hA3, hbw3, d0⟩ := HAT.out _ HB.out k hkl
          injection hA3 with hA3
          injection hA3 with h1 h2
          subst h1 h2
          clear hbw3
          have hql := HLT.out k hkl
          have HST := Lib.hid (fun (h : okE l kp p o[k] = true) => (show (o.take (k + 1)).all (okE l kp p) = true by rw [all_take_succ hkl, HU.out, h]; rfl))
          have HNO3 := Lib.hid (fun h => HNO2.out k hlt2 h)
          have hi6 : (k : Int) < (i : Int) := by omega
          generalize o[k] = q at *
          obtain ⟨g2, of2, hA2, hgw2, k0⟩ := HKP.out _ HB.out q (by have := HKL.out; omega)
          obtain ⟨g3, of3, hA3, hgw3, k1⟩ := HKP.out _ HB.out p (by have := HKL.out; omega)
          subst hA2
          injection hA3 with hA3
          injection hA3 with h1 h2
          subst h1 h2
          obtain ⟨g4, of4, hA4, hgw4, j0, j1, j2, j3⟩ := HJB.out _ HB.out q hql
          obtain ⟨g5, of5, hA5, hgw5, i0, i1, i2, i3⟩ := HJB.out _ HB.out p hpl
          subst hA4
          injection hA5 with hA5
          injection hA5 with h1 h2
          subst h1 h2
          have hq1 : (q : Int) < (n2 : Int) := by have := HKL.out; have := HN2.out; omega
          have hq2 : (q : Int) < (n1 : Int) := by have := HN1.out; omega
          have hq3 : (0 : Int) ≤ (q : Int) := by omega
          have hp1 : (p : Int) < (n2 : Int) := by have := HKL.out; have := HN2.out; omega
          have hp2 : (p : Int) < (n1 : Int) := by have := HN1.out; omega
          have hp3 : (0 : Int) ≤ (p : Int) := by omega
          have HOE := Lib.hid (show okE l kp p q = !(kp[q]'(by have := HKL.out; omega) && kp[p]'(by have := HKL.out; omega) && aheadJ l[p] l[q]) by
            unfold okE jAt
            simp [List.getD_eq_getElem?_getD, HKL.out, hpl, hql])
          have HC := Lib.hid (fun W => HAH.out p q hpl hql W)
          simp only [jbC_okV] at HC
          generalize kp[q]'(by have := HKL.out; omega) = u at *
          generalize kp[p]'(by have := HKL.out; omega) = v at *
          generalize aheadJ l[p] l[q] = z at *
          generalize l[p].1 = x0 at *
          generalize l[p].2.1 = x1 at *
          generalize l[p].2.2.1 = x2 at *
          generalize l[p].2.2.2 = x3 at *
          generalize l[q].1 = y0 at *
          generalize l[q].2.1 = y1 at *
          generalize l[q].2.2.1 = y2 at *
          generalize l[q].2.2.2 = y3 at *
          cases u
          ·
            have HGO := Lib.hid (HST.out (by rw [HOE.out]; rfl))
            go_wp2_with fail
            go_quiet (fail)
            go_wp2_with fail
            go_roundw
            case rel => exact ⟨k + 1, by go_num, by omega, HGO.out, HB.out.trans ((below_drewN wx.heap.size _).mono HB.out.size)⟩
            case measure => simp [intOf]; omega
          · cases v
            ·
              have HGO := Lib.hid (HST.out (by rw [HOE.out]; rfl))
              go_wp2_with fail
              go_quiet (fail)
              go_wp2_with fail
              go_roundw
              case rel => exact ⟨k + 1, by go_num, by omega, HGO.out, HB.out.trans ((below_drewN wx.heap.size _).mono HB.out.size)⟩
              case measure => simp [intOf]; omega
            · cases z
              ·
                have HGO := Lib.hid (HST.out (by rw [HOE.out]; rfl))
                go_wp2_with fail
                go_still_tail 19, (by kernel_rfl)
                go_wp2_with fail
                refine (HC.out _).mono ?_
                rintro e w3 ⟨rfl, hb3⟩
                have HW3 := Lib.hid (show Below wx.heap.size wx w3 from (below_drewN _ _).trans (hb3.mono (by simp))); clear hb3
                go_wp2_with fail
                go_roundw
                case rel => exact ⟨k + 1, by go_num, by omega, HGO.out, HB.out.trans (HW3.out.mono HB.out.size)⟩
                case measure => simp [intOf]; omega
              · have HRF := Lib.hid (HNO3.out (by rw [HOE.out]; rfl))
                go_wp2_with fail
                go_still_tail 19, (by kernel_rfl)
                go_wp2_with fail
                refine (HC.out _).mono ?_
                rintro e w3 ⟨rfl, hb3⟩
                have HW3 := Lib.hid (show Below wx.heap.size wx w3 from (below_drewN _ _).trans (hb3.mono (by simp))); clear hb3
                go_wp2_with fail
                go_ret
                exact ⟨retb HRF.out.symm, HB.out.trans (HW3.out.mono HB.out.size)⟩
        · obtain rfl : k = i := by omega
          have HUF := Lib.hid (HUS2.out HU.out)
          go_wp2_with fail
          go_roundw
          case rel => exact ⟨k + 1, by go_num, by omega, HUF.out, HB.out⟩
          case measure => simp [intOf]; omega
    · obtain rfl : i = n := by omega
      have HF := Lib.hid (show true = R by rw [← HEQ.out, ← HN.out, HU.out])
      go_wp2_with fail
      go_ret
      exact ⟨retb HF.out, HB.out⟩
end Go.Proofs.Ytdpehojcoohjcab
