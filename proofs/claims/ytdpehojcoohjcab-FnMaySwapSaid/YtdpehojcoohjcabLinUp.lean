/- Contract of lineUp of the model (chapter 8). Conditions: the sets lie in a row; there are at most six. -/
import Derived.Test.YtdpehojcoohjcabAhdJ
set_option linter.unusedVariables false
set_option linter.unusedSimpArgs false
namespace Go.Proofs.Ytdpehojcoohjcab
open Go.RowKit Go.ChangeShapes Go.WideShapes

/-- an order, or none -/
def OrdPost (r : Option (List Nat)) (w : World) (e : Ending) (w' : World) : Prop := ∃ v, e = .returned (.tuple #[v, .bool r.isSome]) ∧ OwnInts w.heap.size (natI (r.getD [])) v w' ∧ Below w.heap.size w w'
theorem ordPost_no {w w' : World} (hb : Below w.heap.size w w') : OrdPost none w (.returned (.tuple #[.slice none 0 0, .bool false])) w' := ⟨_, rfl, ⟨none, 0, rfl, World.ownsRow_nil _ _ _ _⟩, hb⟩
/-- the least one from x on that may be next -/
def leastG (R : Nat → Nat → Bool) (n : Nat) (left : Nat → Bool) (x : Nat) : Option Nat := (List.range n).find? (fun y => decide (x ≤ y) && freeB R n left y)
theorem leastG_zero (R : Nat → Nat → Bool) (n : Nat) (left : Nat → Bool) : leastG R n left 0 = leastF R n left := by unfold leastG leastF; simp
theorem leastG_end (R : Nat → Nat → Bool) (n : Nat) (left : Nat → Bool) : leastG R n left n = none := by
  unfold leastG
  rw [List.find?_eq_none]
  intro x hx
  simp at hx ⊢
  intro h; omega
theorem leastG_yes {R : Nat → Nat → Bool} {n : Nat} {left : Nat → Bool} {x : Nat} (hx : x < n) (h : freeB R n left x = true) : leastG R n left x = some x := by
  unfold leastG
  rw [List.find?_eq_some_iff_getElem]
  refine ⟨by simp [h], x, by simpa using hx, by simp, fun j hj => ?_⟩
  simp
  exact .inl hj
theorem leastG_no {R : Nat → Nat → Bool} {n : Nat} {left : Nat → Bool} {x : Nat} (h : freeB R n left x = false) : leastG R n left x = leastG R n left (x + 1) := by
  unfold leastG
  congr 1
  funext y
  by_cases e : y = x
  · subst e; rw [h]; simp
  · have : decide (x ≤ y) = decide (x + 1 ≤ y) := decide_eq_decide.2 (by omega)
    rw [this]
/-- the number of the least one, -1 if there is none -/
def atI : Option Nat → Int
  | none => -1
  | some y => (y : Int)
/-- m is the set of what is left -/
def MaskOf (n m : Nat) (left : Nat → Bool) : Prop := m < 2 ^ n ∧ ∀ x, m.testBit x = (decide (x < n) && left x)
theorem MaskOf.start (n : Nat) : MaskOf n (2 ^ n - 1) (fun _ => true) :=
  ⟨by have := Nat.two_pow_pos n; omega, fun x => by rw [Nat.testBit_two_pow_sub_one]; simp⟩
theorem MaskOf.zero {n : Nat} {left : Nat → Bool} (h : MaskOf n 0 left) : cntLeft left n = 0 := by
  unfold cntLeft
  rw [List.filter_eq_nil_iff.2]
  · rfl
  · intro x hx
    have := h.2 x
    simp at hx this
    simp [this hx]
theorem MaskOf.pos {n m : Nat} {left : Nat → Bool} (h : MaskOf n m left) (hm : 0 < m) : 0 < cntLeft left n := by
  obtain ⟨x, hx⟩ := Nat.exists_testBit_of_ne_zero (Nat.ne_of_gt hm)
  rw [h.2 x] at hx
  simp only [Bool.and_eq_true, decide_eq_true_eq] at hx
  have := cntLeft_without hx.1 hx.2
  omega
theorem testBit_sub6 : ∀ m : Fin 64, ∀ x : Fin 6, m.val.testBit x.val = true → ∀ y : Fin 6, (m.val - 2 ^ x.val).testBit y.val = (m.val.testBit y.val && !decide (y.val = x.val)) := by decide +kernel
theorem testBit_sub_pow {m x : Nat} (hm : m < 64) (hx : x < 6) (hb : m.testBit x = true) (y : Nat) : (m - 2 ^ x).testBit y = (m.testBit y && !decide (y = x)) := by
  by_cases hy : y < 6
  · exact testBit_sub6 ⟨m, hm⟩ ⟨x, hx⟩ hb ⟨y, hy⟩
  · have h1 : 2 ^ 6 ≤ 2 ^ y := Nat.pow_le_pow_right (by omega) (by omega)
    have h2 : (64 : Nat) ≤ 2 ^ y := h1
    rw [Nat.testBit_lt_two_pow (Nat.lt_of_le_of_lt (Nat.sub_le _ _) (Nat.lt_of_lt_of_le hm h2)), Nat.testBit_lt_two_pow (Nat.lt_of_lt_of_le hm h2)]; rfl
theorem MaskOf.sub {n m : Nat} (hn : n ≤ 6) {left : Nat → Bool} (h : MaskOf n m left) {x : Nat} (hx : x < n) (hl : left x = true) : MaskOf n (m - 2 ^ x) (without left x) ∧ 2 ^ x ≤ m := by
  have hb : m.testBit x = true := by rw [h.2 x]; simp [hx, hl]
  have h64 : m < 64 := Nat.lt_of_lt_of_le h.1 (Nat.pow_le_pow_right (n := 2) (by omega) hn)
  refine ⟨⟨Nat.lt_of_le_of_lt (Nat.sub_le _ _) h.1, fun y => ?_⟩, Nat.ge_two_pow_of_testBit hb⟩
  rw [testBit_sub_pow h64 (by omega) hb, h.2 y]
  unfold without
  cases decide (y < n) <;> cases left y <;> rfl
/-- what is free so far -/
def freeU (R : Nat → Nat → Bool) (left : Nat → Bool) (x y : Nat) : Bool := left x && (List.range y).all (fun z => !(left z && R z x))
theorem freeU_zero (R : Nat → Nat → Bool) (left : Nat → Bool) (x : Nat) : freeU R left x 0 = left x := by simp [freeU]
theorem freeU_succ (R : Nat → Nat → Bool) (left : Nat → Bool) (x y : Nat) : freeU R left x (y + 1) = (freeU R left x y && !(left y && R y x)) := by
  unfold freeU
  rw [List.range_succ, List.all_append, Bool.and_assoc]; simp
theorem freeU_end (R : Nat → Nat → Bool) (left : Nat → Bool) (n x : Nat) : freeU R left x n = freeB R n left x := rfl
def bI (b : Bool) : Int := if b then 1 else 0

set_option maxRecDepth 100000 in
set_option maxHeartbeats 4000000 in
theorem lineUp_any (A : Option Addr) (n c : Nat) (R : Nat → Nat → Bool) (w : World) (hr : RowAt w w.heap.size A (intC (natI (maskL n R)))) (hn6 : n ≤ 6) :
    Calls Try.prog 49 #[.slice A n c] w (OrdPost (greedy R n n (fun _ => true)) w) := by
  obtain ⟨i0, hi0, hz0, hz1, hz2⟩ := info_parts intInfo
  have HI := Lib.hid (And.intro hi0 (And.intro hz0 (And.intro hz1 hz2))); clear hi0 hz0 hz1 hz2
  have hp6 : 2 ^ n ≤ 2 ^ 6 := Nat.pow_le_pow_right (by omega) hn6
  have hp64 : 2 ^ n ≤ 64 := hp6
  have hp0 : 0 < 2 ^ n := Nat.two_pow_pos n
  have HPN := Lib.hid (fun W => sPower_any n _ W (by omega) rfl)
  have HPW := Lib.hid (fun W x (hx : x < n) => sPower_any x _ W (by omega) rfl)
  have HMS := Lib.hid (MaskOf.start n)
  have HBR := Lib.hid (fun W y x (hy : y < n) (hx : x < n) => (show Calls Try.prog 75 #[.int .i64 (((maskF (R y) n) : Nat) : Int), .int .i64 (x : Int)] W (fun e w' => e = .returned (.int .i64 (bI (R y x))) ∧ w' = W) by
    have h1 := sBit_any (maskF (R y) n) x W (by have := maskF_lt (R y) n; omega) (by omega)
    rw [maskF_test, decide_eq_true hx, Bool.true_and] at h1
    exact h1))
  have HAT := Lib.hid (fun W (hb : Below w.heap.size w W) y (hy : y < n) => (show ∃ b off, A = some ⟨b, off, none⟩ ∧ b < w.heap.size ∧ W.cell? ⟨b, off + y, none⟩ = some (.int .i64 ((maskF (R y) n : Nat) : Int)) by
    obtain ⟨b, off, h1, h2, h3⟩ := ints_at (l := natI (maskL n R)) (hr.below hb) (k := y) (by rw [natI_len, maskL_len]; exact hy)
    refine ⟨b, off, h1, h2, ?_⟩
    rw [h3]
    simp [natI, maskL]))
  have HR := Lib.hid hr; clear hr
  have HC0 := Lib.hid (show cntLeft (fun _ => true) n = n by unfold cntLeft; rw [List.filter_eq_self.2 (fun _ _ => rfl)]; simp)
  obtain ⟨G, hG⟩ : ∃ G, greedy R n n (fun _ => true) = G := ⟨_, rfl⟩
  rw [hG]
  have HG0 := Lib.hid (show G = (greedy R n n (fun _ => true)).map (([] : List Nat) ++ ·) by rw [hG]; simp)
  clear hG
  generalize h2n : 2 ^ n = tn at *
  clear hp6 h2n
  go_enter Try.func49, Try.ntmps49
  go_wp2_with fail
  refine (HPN.out _).mono ?_
  rintro e w1 ⟨rfl, hw1⟩
  obtain rfl := hw1.symm
  have HNIL := Lib.hid (show ApN w [] (.slice (some ⟨w.heap.size, 0, none⟩) 0 0) (w.alloc (.cells #[] 3)) from ⟨RI.new (e := 3) w [] (by simp), (Below.refl w.heap.size w).alloc (Nat.le_refl _) _⟩)
  clear HPN
  go_wp2_with fail
  go_loopw [4, 5] (fun v i wr => ∃ (o : List Nat) (left : Nat → Bool) (m d : Nat), i = .int .i64 (m : Int) ∧ o.length ≤ n ∧ ApN w (natI o) v wr ∧ MaskOf n m left ∧ cntLeft left n = d ∧ o.length + d = n ∧ G = (greedy R n d left).map (o ++ ·)) (fun _ i _ => (intOf i).toNat)
  case atStart =>
    have e1 : (tn : Int) - 1 = ((tn - 1 : Nat) : Int) := by omega
    rw [e1]
    exact ⟨[], fun _ => true, tn - 1, n, rfl, by simp, HNIL.out, HMS.out, HC0.out, by simp, HG0.out⟩
  case round =>
    obtain ⟨o, left, m, d, rfl, hol, hap, hmk, hcnt, hod, hg⟩ := hrel
    have HAP := Lib.hid hap; clear hap
    have HMK := Lib.hid hmk; clear hmk
    have HCN := Lib.hid hcnt; clear hcnt
    have HG := Lib.hid hg; clear hg
    have hm64 : m < 64 := Nat.lt_of_lt_of_le HMK.out.1 (Nat.pow_le_pow_right (n := 2) (by omega) hn6)
    by_cases hm : 0 < m
    rotate_left
    · obtain rfl : m = 0 := by omega
      have hd0 := HMK.out.zero
      rw [HCN.out] at hd0
      have HGO := Lib.hid (show G = some o by rw [HG.out, hd0]; simp [greedy])
      have HD := Lib.hid HAP.out.done
      clear hd0
      go_wp2_with fail
      go_ret2
      refine ⟨_, by rw [HGO.out]; rfl, ?_, HD.out.2⟩
      rw [HGO.out]; exact HD.out.1
    · have hdp := HMK.out.pos hm
      rw [HCN.out] at hdp
      obtain ⟨d, rfl⟩ : ∃ d', d = d' + 1 := ⟨d - 1, by omega⟩
      have HBM := Lib.hid (fun W x (hx : x < n) => (show Calls Try.prog 75 #[.int .i64 (m : Int), .int .i64 (x : Int)] W (fun e w' => e = .returned (.int .i64 (bI (left x))) ∧ w' = W) by
        have h1 := sBit_any m x W (by omega) (by omega)
        rw [HMK.out.2 x, decide_eq_true hx, Bool.true_and] at h1
        exact h1))
      have HLE := Lib.hid (leastG_end R n left)
      have hm0 : (0 : Int) < (m : Int) := by omega
      go_wp2_with fail
      go_loopw [6, 7] (fun a i W => ∃ k : Nat, k ≤ n ∧ i = .int .i64 ((k : Int) - 1) ∧ a = .int .i64 (atI (leastG R n left k)) ∧ W = wr) (fun _ i _ => (intOf i + 1).toNat)
      case atStart => exact ⟨n, by omega, rfl, by rw [HLE.out]; rfl, rfl⟩
      case round =>
        obtain ⟨k, hk, rfl, rfl, hW⟩ := hrel
        obtain rfl := hW.symm
        cases k with
        | zero =>
          have HL0 := Lib.hid (leastG_zero R n left)
          have hneg : ¬ ((0 : Int) ≤ (((0 : Nat) : Int) - 1)) := by omega
          cases hlf : leastF R n left with
          | none =>
            have HGN := Lib.hid (show G = none by rw [HG.out, greedy, hlf]; rfl)
            rw [HL0.out, hlf, show atI none = -1 from rfl]
            go_wp2_with fail
            go_ret2
            rw [HGN.out]
            exact ordPost_no HAP.out.2
          | some x =>
            obtain ⟨hx, hfr, _⟩ := leastF_some hlf
            have hl := (freeB_iff.1 hfr).1
            obtain ⟨hms, hge⟩ := HMK.out.sub hn6 hx hl
            have HMS2 := Lib.hid hms; clear hms
            have HG2 := Lib.hid (show G = (greedy R n d (without left x)).map ((o ++ [x]) ++ ·) by
              rw [HG.out, greedy, hlf, Option.map_map]
              congr 1
              funext t; simp)
            have HCN2 := Lib.hid (show cntLeft (without left x) n = d by have := cntLeft_without hx hl; have := HCN.out; omega)
            rw [HL0.out, hlf, show atI (some x) = (x : Int) from rfl]
            have hx0 : ¬ ((x : Int) < 0) := by omega
            have HBA := Lib.hid ((Below.refl wr.heap.size wr).alloc (Nat.le_refl _) (.cells #[.int .i64 (x : Int)] 3))
            have HOL := Lib.hid (natI_len o)
            have hown := (HAP.out.keep HBA.out).1
            rw [HOL.out] at hown
            have HOWN := Lib.hid hown; clear hown
            have hbase : w.heap.size ≤ (wr.alloc (.cells #[.int .i64 (x : Int)] 3)).heap.size := by have := HBA.out.size; have := HAP.out.2.size; omega
            have HPX := Lib.hid (fun W => HPW.out W x hx)
            have HNS := Lib.hid (show natI (o ++ [x]) = natI o ++ [(x : Int)] by simp [natI])
            have hpx0 : 0 < 2 ^ x := Nat.two_pow_pos x
            generalize 2 ^ x = px at *
            clear hlf hfr hl
            go_wp2_with (at_builtin; refine wpList_append_own _ rfl _ _ 24 rfl w.heap.size 3 i0 (.int .i64 0) 1 8 Try.underlying24 HI.out.1 HI.out.2.1 HI.out.2.2.1 HI.out.2.2.2 rfl (by decide) _ o.length _ rfl HOWN.out ⟨wr.heap.size, 0, none⟩ 1 1 [.int .i64 (x : Int)] rfl rfl ?_ ?_ ?_ ?_ hbase ?_)
            any_goals (first | (intro t u ht; match t, ht with | 0, ht => (simp at ht; subst ht; simp [Addr.add])) | (intro u hu; simp at hu; subst hu; rfl) | rfl | (unfold maxLen; omega) | omega)
            · intro v' w1 hown' hgrow _
              have HS := Lib.hid (HAP.out.step HBA.out (by rw [HOL.out]; exact hown') hgrow); clear hown' hgrow
              rw [← HNS.out] at HS
              go_wp2_with fail
              refine (HPX.out _).mono ?_
              rintro e w2 ⟨rfl, hw2⟩
              obtain rfl := hw2.symm
              have hsub : ((m - px : Nat) : Int) = (m : Int) - (px : Int) := by omega
              go_wp2_with fail
              go_roundw
              case rel => exact ⟨o ++ [x], without left x, m - px, d, by rw [hsub], by simp; omega, HS.out, HMS2.out, HCN2.out, by simp; omega, HG2.out⟩
              case measure =>
                have hx1 : 0 < px := hpx0
                simp [intOf]; omega
        | succ k =>
          have hkn : k < n := by omega
          have e1 : ((k + 1 : Nat) : Int) - 1 = (k : Int) := by omega
          rw [e1]
          clear e1
          have hk0 : (0 : Int) ≤ (k : Int) := by omega
          have HBK := Lib.hid (fun W => HBM.out W k hkn)
          have HF0 := Lib.hid (freeU_zero R left k)
          have HFE := Lib.hid (freeU_end R left n k)
          have HYES := Lib.hid (fun h => leastG_yes (R := R) (left := left) hkn h)
          have HNO := Lib.hid (fun h => leastG_no (R := R) (n := n) (left := left) (x := k) h)
          have HFS := Lib.hid (fun y => freeU_succ R left k y)
          have HBR2 := Lib.hid (fun W y (hy : y < n) => HBR.out W y k hy hkn)
          go_wp2_with fail
          refine (HBK.out _).mono ?_
          rintro e w2 ⟨rfl, hw2⟩
          obtain rfl := hw2.symm
          have hbb : ((bI (left k)) == (1 : Int)) = left k := by cases left k <;> rfl
          go_wp2_with fail
          go_loopw [8, 9] (fun f i W => ∃ y : Nat, y ≤ n ∧ i = .int .i64 (y : Int) ∧ f = .bool (freeU R left k y) ∧ W = wr) (fun _ i _ => n - (intOf i).toNat)
          case atStart => exact ⟨0, by omega, rfl, by rw [HF0.out, ← hbb], rfl⟩
          case round =>
            obtain ⟨y, hy, rfl, rfl, hW⟩ := hrel
            obtain rfl := hW.symm
            by_cases hyn : y < n
            · obtain ⟨b, off, hA, hbw, hcell⟩ := HAT.out wr HAP.out.2 y hyn
              subst hA
              have HBY := Lib.hid (fun W => HBM.out W y hyn)
              have HBR3 := Lib.hid (fun W => HBR2.out W y hyn)
              have HF1 := Lib.hid (HFS.out y)
              generalize maskF (R y) n = my at *
              have hyi : (y : Int) < (n : Int) := by omega
              have hy0 : (0 : Int) ≤ (y : Int) := by omega
              have hbs : b < wr.heap.size := Nat.lt_of_lt_of_le hbw HAP.out.2.size
              cases h1 : left y with
              | false =>
                rw [h1, show bI false = 0 from rfl] at HBY
                rw [h1, Bool.false_and, Bool.not_false, Bool.and_true] at HF1
                clear h1
                go_wp2_with fail
                refine (HBY.out _).mono ?_
                rintro e w2 ⟨rfl, hw2⟩
                obtain rfl := hw2.symm
                go_wp2_with fail
                go_roundw
                case rel => exact ⟨y + 1, by omega, by go_num, by rw [HF1.out], by first | trivial | rfl⟩
                case measure => simp [intOf]; omega
              | true =>
                rw [h1, show bI true = 1 from rfl] at HBY
                rw [h1, Bool.true_and] at HF1
                clear h1
                cases h2 : R y k with
                | false =>
                  rw [h2, show bI false = 0 from rfl] at HBR3
                  rw [h2, Bool.not_false, Bool.and_true] at HF1
                  clear h2
                  go_wp2_with fail
                  refine (HBY.out _).mono ?_
                  rintro e w2 ⟨rfl, hw2⟩
                  obtain rfl := hw2.symm
                  go_wp2_with fail
                  refine (HBR3.out _).mono ?_
                  rintro e w2 ⟨rfl, hw2⟩
                  obtain rfl := hw2.symm
                  go_wp2_with fail
                  go_roundw
                  case rel => exact ⟨y + 1, by omega, by go_num, by rw [HF1.out], by first | trivial | rfl⟩
                  case measure => simp [intOf]; omega
                | true =>
                  rw [h2, show bI true = 1 from rfl] at HBR3
                  rw [h2, Bool.not_true, Bool.and_false] at HF1
                  clear h2
                  go_wp2_with fail
                  refine (HBY.out _).mono ?_
                  rintro e w2 ⟨rfl, hw2⟩
                  obtain rfl := hw2.symm
                  go_wp2_with fail
                  refine (HBR3.out _).mono ?_
                  rintro e w2 ⟨rfl, hw2⟩
                  obtain rfl := hw2.symm
                  go_wp2_with fail
                  go_roundw
                  case rel => exact ⟨y + 1, by omega, by go_num, by rw [HF1.out], by first | trivial | rfl⟩
                  case measure => simp [intOf]; omega
            · obtain rfl : y = n := by omega
              cases hf : freeB R y left k with
              | true =>
                have HL := Lib.hid (HYES.out hf)
                have HFE2 := Lib.hid (HFE.out.trans hf)
                rw [HFE2.out]
                clear hf
                have hkd : ((k : Int) - 1 + 1).toNat < ((k : Int) + 1).toNat := by omega
                go_wp2_with fail
                go_roundw
                case rel => exact ⟨k, by omega, by go_num, by rw [HL.out]; rfl, by first | trivial | rfl⟩
                case measure => simp [intOf]
              | false =>
                have HL := Lib.hid (HNO.out hf)
                have HFE2 := Lib.hid (HFE.out.trans hf)
                rw [HFE2.out]
                clear hf
                go_wp2_with fail
                go_roundw
                case rel => exact ⟨k, by omega, by go_num, by rw [HL.out], by first | trivial | rfl⟩
                case measure => simp [intOf]
end Go.Proofs.Ytdpehojcoohjcab
