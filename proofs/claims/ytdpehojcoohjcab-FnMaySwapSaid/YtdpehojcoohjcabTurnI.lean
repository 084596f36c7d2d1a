/- Contract of inTurn of the program (chapter 8). Conditions: the acts and the parties lie in rows; there are at most ten acts and four parties. -/
import Derived.Test.YtdpehojcoohjcabAhdJ
set_option linter.unusedVariables false
set_option linter.unusedSimpArgs false
namespace Go.Proofs.Ytdpehojcoohjcab
open Go.RowKit Go.ChangeShapes Go.WideShapes

/-- places of the acts of one party among the first k -/
def ofP (l : List AcT) (p k : Nat) : List Nat := (List.range k).filter (fun i => decide ((l.getD i (0, 0, false)).1 = (p : Int)))
theorem ofP_succ (l : List AcT) (p k : Nat) : ofP l p (k + 1) = ofP l p k ++ (if (l.getD k (0, 0, false)).1 = (p : Int) then [k] else []) := by
  unfold ofP
  rw [List.range_succ, List.filter_append]
  congr 1
  by_cases h : (l.getD k (0, 0, false)).1 = (p : Int) <;> simp [List.filter_cons, h]
theorem turnP_take (l : List AcT) (o : List Nat) {i : Nat} (h : i < o.length) : turnP l (o.take (i + 1)) = turnP l (o.take i) ++ ofP l o[i] l.length := by
  rw [List.take_succ_eq_append_getElem h]
  unfold turnP
  rw [List.flatMap_append]
  congr 1
  rw [List.flatMap_cons, List.flatMap_nil, List.append_nil]
  rfl
theorem ofP_len (l : List AcT) (p k : Nat) : (ofP l p k).length ≤ k := by
  unfold ofP
  exact Nat.le_trans (List.length_filter_le _ _) (by simp)
theorem turnP_bound (l : List AcT) : ∀ (o : List Nat), (turnP l o).length ≤ o.length * l.length
  | [] => by simp [turnP]
  | p :: o => by
    have ih := turnP_bound l o
    have e : turnP l (p :: o) = ofP l p l.length ++ turnP l o := by simp [turnP, ofP]
    have h1 := ofP_len l p l.length
    rw [e, List.length_append, List.length_cons, Nat.succ_mul]
    omega
set_option maxRecDepth 100000 in
set_option maxHeartbeats 4000000 in
theorem iTurn_any (A1 A2 : Option Addr) (n c m c2 : Nat) (l : List Ac) (o : List Nat) (w : World) (hr : RowAt w w.heap.size A1 (acsC l)) (hn : n = l.length) (hs : n ≤ 10)
    (hr2 : RowAt w w.heap.size A2 (intC (natI o))) (hm : m = o.length) (hs2 : m ≤ 4) :
    Calls Try.prog 47 #[.slice A1 n c, .slice A2 m c2] w (IntsPost (natI (turnP l o)) w) := by
  obtain ⟨i0, hi0, hz0, hz1, hz2⟩ := info_parts intInfo
  have HI := Lib.hid (And.intro hi0 (And.intro hz0 (And.intro hz1 hz2))); clear hi0 hz0 hz1 hz2
  have HR := Lib.hid hr; clear hr
  have HN := Lib.hid hn; clear hn
  have HR2 := Lib.hid hr2; clear hr2
  have HM := Lib.hid hm; clear hm
  have HT0 := Lib.hid (show turnP l (o.take 0) = [] by simp [turnP])
  have HTE := Lib.hid (show turnP l (o.take m) = turnP l o by rw [HM.out, List.take_length])
  go_enter Try.func47, Try.ntmps47
  go_wp2_with fail
  go_loopw [5, 12] (fun v i wr => ∃ k : Nat, i = .int .i64 (k : Int) ∧ k ≤ m ∧ ApN w (natI (turnP l (o.take k))) v wr) (fun _ i _ => m - (intOf i).toNat)
  case atStart => exact ⟨0, rfl, by omega, by rw [HT0.out]; exact ApN.nil _ _ (Below.refl _ _)⟩
  case round =>
    obtain ⟨k, rfl, hk, ha⟩ := hrel
    have HA := Lib.hid ha; clear ha
    by_cases hlt : k < m
    · have hko : k < o.length := by have := HM.out; omega
      obtain ⟨b2, off2, hA2, hb2w, p0⟩ := ints_at (l := natI o) (HR2.out.below HA.out.2) (k := k) (by rw [natI_len]; exact hko)
      subst hA2
      rw [show (natI o)[k]'(by rw [natI_len]; exact hko) = ((o[k] : Nat) : Int) by simp [natI]] at p0
      have HTK := Lib.hid (turnP_take l o hko)
      have HLB := Lib.hid (show (turnP l (o.take k)).length ≤ 40 by
        have h1 := turnP_bound l (o.take k)
        have h2 : (o.take k).length * l.length ≤ 4 * 10 := Nat.mul_le_mul (by rw [List.length_take]; have := HM.out; omega) (by have := HN.out; omega)
        omega)
      have HO0 := Lib.hid (fun p => (show turnP l (o.take k) ++ ofP l p 0 = turnP l (o.take k) by simp [ofP]))
      generalize o[k] = p at *
      go_wp2_with fail
      go_loopw [5, 18] (fun v i wr => ∃ j : Nat, i = .int .i64 (j : Int) ∧ j ≤ n ∧ ApN w (natI (turnP l (o.take k) ++ ofP l p j)) v wr) (fun _ i _ => n - (intOf i).toNat)
      case atStart => exact ⟨0, rfl, by omega, by rw [HO0.out]; exact HA.out⟩
      case round =>
        clear HA p0
        obtain ⟨j, rfl, hj, ha⟩ := hrel
        have HA := Lib.hid ha; clear ha
        by_cases hlt2 : j < n
        · have hjl : j < l.length := by have := HN.out; omega
          obtain ⟨b, off, hA, hbw, e0, e1, e2⟩ := acs_at (HR.out.below HA.out.2) hjl
          subst hA
          have HSU := Lib.hid (ofP_succ l p j)
          rw [show l.getD j (0, 0, false) = l[j] by simp [List.getD_eq_getElem?_getD, hjl]] at HSU
          generalize l[j].1 = x0 at *
          generalize l[j].2.1 = x1 at *
          generalize l[j].2.2 = x2 at *
          have hbs : b < wr.heap.size := Nat.lt_of_lt_of_le hbw HA.out.2.size
          have HB1 := Lib.hid ((Below.refl wr.heap.size wr).alloc (Nat.le_refl _) (.cells #[.int .i64 x0, .int .i64 x1, .bool x2] 47))
          by_cases he : x0 = (p : Int)
          · have hb0 : (x0 == (p : Int)) = true := by simpa using he
            have HNS := Lib.hid (show natI (turnP l (o.take k) ++ ofP l p (j + 1)) = natI (turnP l (o.take k) ++ ofP l p j) ++ [(j : Int)] by rw [HSU.out, if_pos he]; simp [natI])
            have HLN := Lib.hid (show (natI (turnP l (o.take k) ++ ofP l p j)).length ≤ 60 by
              rw [natI_len, List.length_append]; have := ofP_len l p j; have := HLB.out; omega)
            obtain ⟨L, hL⟩ : ∃ L, natI (turnP l (o.take k) ++ ofP l p j) = L := ⟨_, rfl⟩
            rw [hL] at HA HNS HLN
            clear hL HSU
            subst he
            have HA1 := Lib.hid (HA.out.keep HB1.out)
            have HBA := Lib.hid ((Below.refl _ (wr.alloc (.cells #[.int .i64 (p : Int), .int .i64 x1, .bool x2] 47))).alloc (Nat.le_refl _) (.cells #[.int .i64 (j : Int)] 3))
            have HOWN := Lib.hid (HA1.out.keep HBA.out).1
            have hlen := HLN.out
            have hbase : w.heap.size ≤ ((wr.alloc (.cells #[.int .i64 (p : Int), .int .i64 x1, .bool x2] 47)).alloc (.cells #[.int .i64 (j : Int)] 3)).heap.size := by have := HA1.out.2.size; simp at this ⊢; omega
            have hsz : (wr.alloc (.cells #[.int .i64 (p : Int), .int .i64 x1, .bool x2] 47)).heap.size = wr.heap.size + 1 := by simp
            go_wp2_with (at_builtin; refine wpList_append_own _ rfl _ _ 24 rfl w.heap.size 3 i0 (.int .i64 0) 1 8 Try.underlying24 HI.out.1 HI.out.2.1 HI.out.2.2.1 HI.out.2.2.2 rfl (by decide) _ L.length _ rfl HOWN.out ⟨wr.heap.size + 1, 0, none⟩ 1 1 [.int .i64 (j : Int)] rfl rfl ?_ ?_ ?_ ?_ hbase ?_)
            any_goals (first | (intro t u ht; match t, ht with | 0, ht => (simp at ht; subst ht; simp [Addr.add])) | (intro u hu; simp at hu; subst hu; rfl) | rfl | (unfold maxLen; omega) | omega)
            intro v' w1 hown' hgrow _
            have HS := Lib.hid (HA1.out.step HBA.out hown' hgrow); clear hown' hgrow
            rw [← HNS.out] at HS
            go_wp2_with fail
            go_roundw
            case rel => exact ⟨j + 1, by go_num, by omega, HS.out⟩
            case measure => simp [intOf]; omega
          · have hb0 : (x0 == (p : Int)) = false := by simpa using he
            have HNS := Lib.hid (show turnP l (o.take k) ++ ofP l p (j + 1) = turnP l (o.take k) ++ ofP l p j by rw [HSU.out, if_neg he, List.append_nil])
            clear he HSU
            have HA1 := Lib.hid (HA.out.keep HB1.out)
            go_wp2_with fail
            go_roundw
            case rel => exact ⟨j + 1, by go_num, by omega, by rw [HNS.out]; exact HA1.out⟩
            case measure => simp [intOf]; omega
        · obtain rfl : j = n := by omega
          have HE := Lib.hid (show turnP l (o.take (k + 1)) = turnP l (o.take k) ++ ofP l p j by rw [HTK.out, HN.out])
          go_wp2_with fail
          go_roundw
          case rel => exact ⟨k + 1, by go_num, by omega, by rw [HE.out]; exact HA.out⟩
          case measure => simp [intOf]; omega
    · obtain rfl : k = m := by omega
      rw [HTE.out] at HA
      have HD := Lib.hid HA.out.done
      go_wp2_with fail
      go_ret
      exact ⟨_, rfl, HD.out⟩
end Go.Proofs.Ytdpehojcoohjcab
