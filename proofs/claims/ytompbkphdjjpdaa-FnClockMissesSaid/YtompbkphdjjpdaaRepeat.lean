/- The contract of slices.Repeat at frames, of one frame (chapter 2), and 'copy' of elements of more than one cell from any place on. Conditions: at least one time; few. -/
import Derived.Test.YtompbkphdjjpdaaPoolL
import Derived.Test.YtompbkphdjjpdaaShelf
import Derived.Laws.CopyOwn
import Derived.Deep.RegionLaw
set_option linter.unusedVariables false
set_option linter.unusedSimpArgs false
namespace Go.Proofs.Ytompbkphdjjpdaa
open Go.RowKit Go.ChangeShapes Go.WideShapes

/-- 'copy' of elements of z cells, over a part of a row -/
theorem run_copy_at {P : Program} (w : World) (dT sT ty elem : TypeId) (g o dLen dCap : Nat) (a : Addr) (sLen sCap z n : Nat) (cur : Array Value) (t : TypeId) (cs : List Value)
    (hu : P.underlying dT = some (.slice elem)) (hs : (P.info? elem).map (·.size) = some z)
    (hg : w.heap[g]? = some (.cells cur t (0, 0))) (hm : n = Nat.min sLen dLen) (hn : cs.length = n * z)
    (hsrc : ∀ j v, cs[j]? = some v → w.cell? (a.add j) = some v) (hfit : o + cs.length ≤ cur.size) (h1 : ∀ v ∈ cs, v.oneCell' = true) :
    (Builtin.copy_ #[dT, sT] ty #[.slice (some ⟨g, o, none⟩) dLen dCap, .slice (some a) sLen sCap]).run P w =
      .ok (goInt n) (w.setRow g (cur.toList.take o ++ cs ++ cur.toList.drop (o + cs.length)).toArray) := by
  have hl := run_loadCells_list (P := P) w a cs hsrc
  have hst := run_storeCells_at P g o t cs 0 cur w hg (by simpa using hfit) h1
  cases hq : P.info? elem with
  | none => simp [hq] at hs
  | some i =>
    have hi : i.size = z := by simpa [hq] using hs
    simp [Builtin.copy_, run_underlying hu, Builtin.lenOf, Builtin.firstCells, sizeOf, typeInfo, hq, hi, ← hm, ← hn, hl, hst]

theorem step_copy_at {P : Program} {ops : Array Oper} {o : Oper} {a : Act} {w : World} {K : Act → World → Prop} {Q : Exit → Act → World → Prop} {E : Prop} (hgd : o.guard = none) (d s : Operand) (dT sT : TypeId)
    (ho : o.op = .call { callee := .builtin .copy, args := #[d, s], argTypes := #[dT, sT] }) (elem : TypeId) (z : Nat) (hu : P.underlying dT = some (.slice elem)) (hsz : (P.info? elem).map (·.size) = some z)
    (g off dLen dCap : Nat) (ad : Addr) (sLen sCap n : Nat) (hd : a.eval d = .slice (some ⟨g, off, none⟩) dLen dCap) (hs : a.eval s = .slice (some ad) sLen sCap)
    (cur : Array Value) (t : TypeId) (hg : w.heap[g]? = some (.cells cur t (0, 0))) (cs : List Value) (hm : n = Nat.min sLen dLen) (hn : cs.length = n * z)
    (hsrc : ∀ j v, cs[j]? = some v → w.cell? (ad.add j) = some v) (hfit : off + cs.length ≤ cur.size) (h1 : ∀ v ∈ cs, v.oneCell' = true)
    (h : ∀ w', w'.heap[g]? = some (.cells (cur.toList.take off ++ cs ++ cur.toList.drop (off + cs.length)).toArray t (0, 0)) → w.grownBy w' (some g) → K (a.put o.dst (goInt n)) w') :
    if Region.wanted o (yielded ops a.tmps) = true then Oper.wp P o a w K Q else E := by
  have hw : Region.wanted o (yielded ops a.tmps) = true := by simp [Region.wanted, hgd]
  rw [if_pos hw]
  have hrun := run_copy_at (P := P) w dT sT o.type elem g off dLen dCap ad sLen sCap z n cur t cs hu hsz hg hm hn hsrc hfit h1
  unfold Oper.wp
  simp [execOp, ho, resolve, invoke, builtin, hd, hs, hrun, Result.andThen]
  exact h _ (by simpa using setRow_heap w g _ _ t _ hg) ⟨rfl, rfl, rfl, by simp [World.setRow], fun k hk hne => setRow_other w g k _ (by rintro rfl; exact hne rfl)⟩

theorem wpList_copy_at {P : Program} {w : World} {ops : Array Oper} {rest : List Oper} {o : Oper} {a : Act} {Q : Exit → Act → World → Prop} (hgd : o.guard = none) (d s : Operand) (dT sT : TypeId)
    (ho : o.op = .call { callee := .builtin .copy, args := #[d, s], argTypes := #[dT, sT] }) (elem : TypeId) (z : Nat) (hu : P.underlying dT = some (.slice elem)) (hsz : (P.info? elem).map (·.size) = some z)
    (g off dLen dCap : Nat) (ad : Addr) (sLen sCap n : Nat) (hd : a.eval d = .slice (some ⟨g, off, none⟩) dLen dCap) (hs : a.eval s = .slice (some ad) sLen sCap)
    (cur : Array Value) (t : TypeId) (hg : w.heap[g]? = some (.cells cur t (0, 0))) (cs : List Value) (hm : n = Nat.min sLen dLen) (hn : cs.length = n * z)
    (hsrc : ∀ j v, cs[j]? = some v → w.cell? (ad.add j) = some v) (hfit : off + cs.length ≤ cur.size) (h1 : ∀ v ∈ cs, v.oneCell' = true)
    (h : ∀ w', w'.heap[g]? = some (.cells (cur.toList.take off ++ cs ++ cur.toList.drop (off + cs.length)).toArray t (0, 0)) → w.grownBy w' (some g) → wpList P ops Q rest (a.put o.dst (goInt n)) w') : wpList P ops Q (o :: rest) a w := by
  refine wpList_plain hgd fun K hK => ?_
  have hrun := run_copy_at (P := P) w dT sT o.type elem g off dLen dCap ad sLen sCap z n cur t cs hu hsz hg hm hn hsrc hfit h1
  unfold Oper.wp
  simp [execOp, ho, resolve, invoke, builtin, hd, hs, hrun, Result.andThen]
  exact hK _ _ (h _ (by simpa using setRow_heap w g _ _ t _ hg) ⟨rfl, rfl, rfl, by simp [World.setRow], fun k hk hne => setRow_other w g k _ (by rintro rfl; exact hne rfl)⟩)

/-- slices of frames, cut -/
theorem cutF_tail (g n c l : Nat) (W : World) (h1 : l ≤ n) (h3 : l < c) :
    (Instr.sliceAt 26 (.slice (some ⟨g, 0, none⟩) n c) (some (.int .i64 (l : Int))) none none).run Try.prog W = .ok (.slice (some ⟨g, l * 3, none⟩) (n - l) (c - l)) W := by
  have hu : Try.prog.underlying 26 = some (.slice (Try.prog.elem 26)) := by kernel_rfl
  have hs : (sizeOf (Try.prog.elem 26)).run Try.prog W = .ok 3 W := by kernel_rfl
  rw [run_sliceAt_slice (h := hu), run_slice_l (ht := hu) (h0 := by omega) (h1 := by omega), hs]
  simp only [Result.andThen_ok, sliced, Int.toNat_natCast, Option.map_some]
  rw [if_neg (by omega), add_zero_off, Nat.zero_add]
theorem cutF_head (g n c k : Nat) (W : World) (h : k ≤ c) :
    (Instr.sliceAt 26 (.slice (some ⟨g, 0, none⟩) n c) none (some (.int .i64 (k : Int))) none).run Try.prog W = .ok (.slice (some ⟨g, 0, none⟩) k c) W := by
  have hu : Try.prog.underlying 26 = some (.slice (Try.prog.elem 26)) := by kernel_rfl
  have hs : (sizeOf (Try.prog.elem 26)).run Try.prog W = .ok 3 W := by kernel_rfl
  rw [run_sliceAt_slice (h := hu), run_slice_h (ht := hu) (h0 := by omega) (h2 := by omega), hs]
  simp only [Result.andThen_ok, sliced, Int.toNat_natCast, Option.map_some, Nat.zero_mul]
  rw [add_zero_off]
  simp

/-- k frames of the row are f -/
def RepRel (w : World) (g n : Nat) (f : Fr) (k : Nat) (wr : World) : Prop :=
  w.heap.size ≤ g ∧ k ≤ n ∧ (∃ cur : Array Value, wr.heap[g]? = some (.cells cur 49 (0, 0)) ∧ cur.size = n * 3 ∧ cur.toList.take (k * 3) = frsC (List.replicate k f)) ∧ Below w.heap.size w wr

theorem RepL.m {n k m : Nat} (h : min k (n - k) = m) : m = Nat.min k (n - k) := h.symm
theorem RepL.len (m : Nat) (f : Fr) : (frsC (List.replicate m f)).length = m * 3 := by rw [frsC_len, List.length_replicate]
theorem RepL.src {w : World} {g k m : Nat} {t : TypeId} {f : Fr} {cur : Array Value} (h : w.heap[g]? = some (.cells cur t (0, 0))) (ht : cur.toList.take (k * 3) = frsC (List.replicate k f)) (hm : m ≤ k) :
    ∀ j v, (frsC (List.replicate m f))[j]? = some v → w.cell? ((⟨g, 0, none⟩ : Addr).add j) = some v := by
  intro j v hj
  rw [add_zero_off, Nat.zero_add, cell_of_row w g j _ _ _ h]
  have e : frsC (List.replicate k f) = frsC (List.replicate m f) ++ frsC (List.replicate (k - m) f) := by
    rw [← frsC_app, List.replicate_append_replicate, Nat.add_sub_cancel' hm]
  have hjl : j < m * 3 := by
    have := (List.getElem?_eq_some_iff.1 hj).1
    rw [RepL.len] at this; exact this
  have h2 : (cur.toList.take (k * 3))[j]? = some v := by
    rw [ht, e, List.getElem?_append_left (by rw [RepL.len]; exact hjl)]; exact hj
  rw [List.getElem?_take, if_pos (by omega)] at h2
  simpa using h2
theorem RepL.fit {n k m : Nat} {f : Fr} {cur : Array Value} (h : cur.size = n * 3) (hm : m ≤ n - k) (hk : k ≤ n) : k * 3 + (frsC (List.replicate m f)).length ≤ cur.size := by
  rw [RepL.len, h]; omega
theorem RepL.one (m : Nat) (f : Fr) : ∀ v ∈ frsC (List.replicate m f), v.oneCell' = true := by
  intro u hu
  obtain ⟨p, hp, hu⟩ := List.mem_flatMap.1 hu
  simp [frC] at hu
  rcases hu with rfl | rfl | rfl <;> rfl
theorem RepRel.step {w w3 W : World} {g n k m : Nat} {f : Fr} {cur : Array Value} (h1 : w.heap.size ≤ g) (hb : Below w.heap.size w W) (hsz : cur.size = n * 3) (ht : cur.toList.take (k * 3) = frsC (List.replicate k f)) (hm : m ≤ n - k) (hk : k ≤ n)
    (hh : w3.heap[g]? = some (.cells (cur.toList.take (k * 3) ++ frsC (List.replicate m f) ++ cur.toList.drop (k * 3 + (frsC (List.replicate m f)).length)).toArray 49 (0, 0))) (hg : W.grownBy w3 (some g)) : RepRel w g n f (k + m) w3 := by
  have hl : cur.toList.length = n * 3 := by simpa using hsz
  refine ⟨h1, by omega, ⟨_, hh, ?_, ?_⟩, hb.grown hg hb.size (fun q hq => by cases hq; exact h1)⟩
  · simp [RepL.len]; omega
  · have e : frsC (List.replicate (k + m) f) = cur.toList.take (k * 3) ++ frsC (List.replicate m f) := by
      rw [ht, ← frsC_app, List.replicate_append_replicate]
    rw [e]
    show (cur.toList.take (k * 3) ++ frsC (List.replicate m f) ++ cur.toList.drop (k * 3 + (frsC (List.replicate m f)).length)).take ((k + m) * 3) = _
    rw [List.take_append_of_le_length (by simp [RepL.len]; omega), List.take_of_length_le (by simp [RepL.len]; omega)]

set_option maxRecDepth 100000 in
set_option maxHeartbeats 600000 in
theorem repeat_any (ad : Addr) (c n : Nat) (f : Fr) (w : World) (hr : RowAt w w.heap.size (some ad) (frsC [f])) (h1 : 1 ≤ n) (hs : n ≤ 5) :
    Calls Try.prog 118 #[.slice (some ad) 1 c, .int .i64 (n : Int)] w (RowPost n (List.replicate n f) w) := by
  obtain ⟨i0, hi0, hz0, hz1, hz2⟩ := info_parts frameInfo
  have hb2 : i0.bytes * n ≤ 281474976710656 := by rw [hz2]; omega
  have HZ := Lib.hid (show (Try.prog.info? 49).map (·.size) = some 3 by rw [hi0]; simp [hz1])
  have HI := Lib.hid (And.intro hi0 (And.intro hz0 (And.intro hz1 hz2))); clear hi0 hz0 hz1 hz2
  have HR := Lib.hid hr; clear hr
  have HM := Lib.hid (fun w => (show Calls Try.prog 126 #[.int .u64 1, .int .u64 (n : Int)] w fun e w' => e = .returned (.tuple #[.int .u64 0, .int .u64 (n : Int)]) ∧ w' = w from by
    have := Try.bits_Mul 1 n (by omega) (by omega) w
    rw [show 1 * n / 18446744073709551616 = 0 by omega, show 1 * n % 18446744073709551616 = n by omega] at this
    exact this))
  go_enter Try.func118, Try.ntmps118
  go_wp2_with fail
  refine (HM.out _).mono ?_
  rintro e w2 ⟨rfl, hw2⟩
  obtain rfl := hw2.symm
  go_wp2_with (first
    | (refine wpList_copy_at rfl _ _ 26 26 rfl 49 3 Try.underlying26 HZ.out w.heap.size 0 n n ad 1 c 1 rfl rfl cur 49 HW.out.1 (frsC [f]) ?c0 rfl ?c1 ?c2 ?c3 ?_)
    | (refine wpList_make_full _ rfl _ _ 26 rfl w.heap.size 49 i0 (.agg #[.int .i64 0, .int .i64 0, .bool false]) 3 Try.underlying26 HI.out.1 HI.out.2.1 HI.out.2.2.1 .i64 .i64 _ _ n rfl rfl rfl rfl hb2 (by unfold maxLen; omega) (Nat.le_refl _) ?_
       intro w1 hown hg1
       obtain ⟨cur, hcell, hcs⟩ : ∃ cur : Array Value, w1.heap[w.heap.size]? = some (.cells cur 49 (0, 0)) ∧ cur.size = n * 3 := by
         rcases hown.2 with ⟨h1, _⟩ | ⟨g', N, cur, h1, hB, hh, _, hN, hc, _⟩
         · cases h1
         · injection h1 with hA _ hC
           injection hA with hA
           injection hA with hA
           subst hA hC
           exact ⟨cur, hh, hc⟩
       have HW := Lib.hid (And.intro hcell (And.intro hcs ((Below.refl w.heap.size w).grown hg1 (Nat.le_refl _) (by simp))))
       clear hown hg1 hcell hcs))
  case c0 => exact (Nat.min_eq_left h1).symm
  case c1 =>
    intro j v hj
    obtain ⟨b, off, e, hb, hc⟩ := (HR.out.below HW.out.2.2) (by intro h0; rw [h0] at hj; simp at hj)
    cases e
    have hcj := hc j v hj
    unfold Addr.add
    by_cases hj0 : j = 0
    · subst hj0; simpa using hcj
    · simp [hj0]; exact hcj
  case c2 => rw [HW.out.2.1]; show 0 + 3 ≤ n * 3; omega
  case c3 =>
    intro u hu
    obtain ⟨p, hp, hu⟩ := List.mem_flatMap.1 hu
    simp [frC] at hu
    rcases hu with rfl | rfl | rfl <;> rfl
  · intro w2 hh hg2
    have HF0 := Lib.hid (show RepRel w w.heap.size n f 1 w2 from by
      refine ⟨Nat.le_refl _, h1, ⟨_, hh, ?_, ?_⟩, HW.out.2.2.grown hg2 HW.out.2.2.size (fun q hq => by cases hq; exact Nat.le_refl _)⟩
      · have := HW.out.2.1
        simp [frsC_len]; omega
      · rfl)
    clear hh hg2
    go_wp2_with fail
    go_loopw [8] (fun i wr => ∃ k : Nat, i = .int .i64 k ∧ 1 ≤ k ∧ RepRel w w.heap.size n f k wr) (fun i _ => n - (intOf i).toNat)
    case atStart => exact ⟨1, rfl, Nat.le_refl _, HF0.out⟩
    case round =>
      clear HF0
      obtain ⟨k, rfl, hk1, hf⟩ := hrel
      have hkn := hf.2.1
      obtain ⟨cur, hcur, hsz, htk⟩ := hf.2.2.1
      have HC := Lib.hid (And.intro hcur (And.intro hsz htk))
      have HB := Lib.hid hf.2.2.2
      clear hf hcur hsz htk
      by_cases hlt : k < n
      · obtain ⟨m, hm⟩ : ∃ m, min k (n - k) = m := ⟨_, rfl⟩
        have hm1 : m ≤ k ∧ m ≤ n - k ∧ 1 ≤ m := by omega
        have HM2 := Lib.hid hm; clear hm
        have hcut1 := fun W => cutF_tail w.heap.size n n k W (by omega) (by omega)
        have hcut2 := fun W => cutF_head w.heap.size n n k W (by omega)
        have i1 : (0 : Int) ≤ (k : Int) := by omega
        have i2 : (k : Int) ≤ (n : Int) := by omega
        have e1 : IntKind.i64.wrap ((k : Int) + (m : Int)) = (k : Int) + (m : Int) := IntWalk.i64_in _ (by omega)
        go_wp2_with fail
        go_region_law (refine step_copy_at rfl (.tmp 41) (.tmp 44) 26 26 rfl 49 3 Try.underlying26 HZ.out w.heap.size (k * 3) (n - k) (n - k) ⟨w.heap.size, 0, none⟩ k n m (by simp [Act.eval, Act.put]) (by simp [Act.eval, Act.put]) cur 49 (by exact HC.out.1) (frsC (List.replicate m f)) (RepL.m HM2.out) (RepL.len _ _) (by exact RepL.src (by exact HC.out.1) HC.out.2.2 hm1.1) (RepL.fit HC.out.2.1 hm1.2.1 hkn) (RepL.one _ _) ?_
                       intro w3 hh3 hg3)
        have HS := Lib.hid (RepRel.step (Nat.le_refl _) (Below.drew HB.out) HC.out.2.1 HC.out.2.2 hm1.2.1 hkn hh3 hg3)
        clear hh3 hg3
        go_simp
        go_wp2_with fail
        go_roundw
        case rel => exact ⟨k + m, by go_num, by omega, HS.out⟩
        case measure => simp [intOf]; omega
      · obtain rfl : k = n := by omega
        have HF := Lib.hid (show RowF wr w.heap.size w.heap.size k k (List.replicate k f) from by
          refine ⟨by simp, ⟨by rw [frsC_len, List.length_replicate], .inr ⟨w.heap.size, k, cur, rfl, Nat.le_refl _, HC.out.1, Nat.le_refl _, by unfold maxLen; omega, HC.out.2.1, ?_⟩⟩⟩
          have := HC.out.2.2
          first | exact this | (rw [← this]; simp))
        go_wp2_with fail
        go_ret
        exact ⟨w.heap.size, k, rfl, HF.out, HB.out⟩
end Go.Proofs.Ytompbkphdjjpdaa
