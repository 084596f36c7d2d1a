/- Contracts of DepthsOf, in the program and in the model (chapter 2), and of what it calls. Conditions: the numbers lie in a row; they are few. -/
import Derived.Test.YtompbkphdjjpdaaTraceC
import Derived.Test.YtompbkphdjjpdaaExInt
import Derived.Test.YtompbkphdjjpdaaShelf
import Derived.Deep.QuietTactic
import Derived.BigQuiet
import Derived.Outline
set_option linter.unusedVariables false
set_option linter.unusedSimpArgs false
namespace Go.Proofs.Ytompbkphdjjpdaa
open Go.RowKit Go.ChangeShapes Go.WideShapes

/-! slices of numbers, cut -/
theorem cut_head (b off n c k : Nat) (W : World) (h : k ≤ c) :
    (Instr.sliceAt 35 (.slice (some ⟨b, off, none⟩) n c) none (some (.int .i64 (k : Int))) none).run Try.prog W = .ok (.slice (some ⟨b, off, none⟩) k c) W := by
  have hu : Try.prog.underlying 35 = some (.slice (Try.prog.elem 35)) := by kernel_rfl
  have hs : (sizeOf (Try.prog.elem 35)).run Try.prog W = .ok 1 W := by kernel_rfl
  rw [run_sliceAt_slice (h := hu), run_slice_h (ht := hu) (h0 := by omega) (h2 := by omega), hs]
  simp only [Result.andThen_ok, sliced, Int.toNat_natCast, Option.map_some, Nat.zero_mul]
  rw [add_zero_off]
  simp
theorem cut_mid (b off n c l h : Nat) (W : World) (h1 : l ≤ h) (h2 : h ≤ c) (h3 : l < c) :
    (Instr.sliceAt 35 (.slice (some ⟨b, off, none⟩) n c) (some (.int .i64 (l : Int))) (some (.int .i64 (h : Int))) none).run Try.prog W = .ok (.slice (some ⟨b, off + l, none⟩) (h - l) (c - l)) W := by
  have hu : Try.prog.underlying 35 = some (.slice (Try.prog.elem 35)) := by kernel_rfl
  have hs : (sizeOf (Try.prog.elem 35)).run Try.prog W = .ok 1 W := by kernel_rfl
  rw [run_sliceAt_slice (h := hu), run_slice_lh (ht := hu) (h0 := by omega) (h1 := by omega) (h2 := by omega), hs]
  simp only [Result.andThen_ok, sliced, Int.toNat_natCast, Option.map_some, Nat.mul_one]
  rw [if_neg (by omega), add_zero_off]
theorem cut_tail (b off n c l : Nat) (W : World) (h1 : l ≤ n) (h3 : l < c) :
    (Instr.sliceAt 35 (.slice (some ⟨b, off, none⟩) n c) (some (.int .i64 (l : Int))) none none).run Try.prog W = .ok (.slice (some ⟨b, off + l, none⟩) (n - l) (c - l)) W := by
  have hu : Try.prog.underlying 35 = some (.slice (Try.prog.elem 35)) := by kernel_rfl
  have hs : (sizeOf (Try.prog.elem 35)).run Try.prog W = .ok 1 W := by kernel_rfl
  rw [run_sliceAt_slice (h := hu), run_slice_l (ht := hu) (h0 := by omega) (h1 := by omega), hs]
  simp only [Result.andThen_ok, sliced, Int.toNat_natCast, Option.map_some, Nat.mul_one]
  rw [if_neg (by omega), add_zero_off]

theorem RowAt.part {w : World} {B b off : Nat} {l m : List Int} (a : Nat) (h : RowAt w B (some ⟨b, off, none⟩) (intC l)) (hm : ∀ i v, m[i]? = some v → l[a + i]? = some v) : RowAt w B (some ⟨b, off + a, none⟩) (intC m) := fun h0 => by
  obtain ⟨x, hx⟩ : ∃ x, m[0]? = some x := by
    cases m with
    | nil => exact absurd rfl h0
    | cons x t => exact ⟨x, rfl⟩
  have h1 : intC l ≠ [] := by
    intro e
    have h2 := hm 0 x hx
    have h3 : l = [] := by simpa [intC] using e
    rw [h3] at h2; cases h2
  obtain ⟨b', off', e, hb, hc⟩ := h h1
  cases e
  refine ⟨b, off + a, rfl, hb, fun i v hi => ?_⟩
  rw [Nat.add_assoc]
  refine hc _ _ ?_
  simp only [intC, List.getElem?_map, Option.map_eq_some_iff] at hi ⊢
  obtain ⟨y, hy, rfl⟩ := hi
  exact ⟨y, hm i y hy, rfl⟩
theorem RowAt.head {w : World} {B b off : Nat} {l : List Int} (k : Nat) (h : RowAt w B (some ⟨b, off, none⟩) (intC l)) : RowAt w B (some ⟨b, off, none⟩) (intC (l.take k)) := by
  have := h.part (m := l.take k) 0 (fun i v hi => by
    rw [List.getElem?_take] at hi
    split at hi
    · simpa using hi
    · cases hi)
  simpa using this
theorem RowAt.seg {w : World} {B b off : Nat} {l : List Int} (a k : Nat) (h : RowAt w B (some ⟨b, off, none⟩) (intC l)) : RowAt w B (some ⟨b, off + a, none⟩) (intC (segI l a k)) :=
  h.part a (fun i v hi => by
    unfold segI at hi
    rw [List.getElem?_drop, List.getElem?_take] at hi
    split at hi
    · exact hi
    · cases hi)

theorem contains_any (A : Option Addr) (n c : Nat) (l : List Int) (x : Int) (w : World) (hr : RowAt w w.heap.size A (intC l)) (hn : n = l.length) (hs : n ≤ 1048576) :
    Calls Try.prog 114 #[.slice A n c, .int .i64 x] w fun e w' => e = .returned (.bool (l.contains x)) ∧ w' = w := by
  cases l with
  | nil =>
    subst hn
    exact Try.slices_Contains_int_empty A c x w
  | cons a t =>
    obtain ⟨b, off, rfl, hb, hc⟩ := hr (by simp [intC])
    subst hn
    have := Try.slices_Contains_int b off (a :: t).length c (a :: t) x w (Nat.le_refl _) (by omega) (fun j hj => by
      have := hc j _ (intC_at hj)
      rw [this]
      simp [List.getD_eq_getElem?_getD, List.getElem?_eq_getElem hj])
    rw [List.take_length] at this
    exact this

set_option maxHeartbeats 1000000 in
theorem countD_any (A : Option Addr) (n c : Nat) (l : List Int) (w : World) (hr : RowAt w w.heap.size A (intC l)) (hn : n = l.length) (hs : n ≤ 1048576) (hnc : n ≤ c) :
    Calls Try.prog 86 #[.slice A n c] w fun e w' => e = .returned (.int .i64 (cntD l : Int)) ∧ w' = w := by
  have HR := Lib.hid hr; clear hr
  have HN := Lib.hid hn; clear hn
  have HD := Lib.hid (show cntD l = cntF l n by unfold cntD; rw [HN.out])
  go_enter Try.func86, Try.ntmps86
  go_wp2_with fail
  go_loop [3, 8] (fun q i => ∃ k : Nat, k ≤ n ∧ i = .int .i64 k ∧ q = .int .i64 (cntF l k : Int)) (fun _ i => n - (intOf i).toNat)
  case atStart => exact ⟨0, by omega, rfl, rfl⟩
  case round =>
    obtain ⟨k, hk, rfl, rfl⟩ := hrel
    have hle := cntF_le l k
    by_cases hlt : k < n
    · have hkl : k < l.length := by have := HN.out; omega
      obtain ⟨b, off, rfl, hbw, e0⟩ := ints_at HR.out hkl
      have HC := Lib.hid (fun c => contains_any (some ⟨b, off, none⟩) k c (l.take k) l[k] w (RowAt.head k HR.out) (by rw [List.length_take]; omega) (by omega))
      have HS := Lib.hid (show cntF l (k + 1) = cntF l k + if (l.take k).contains l[k] then 0 else 1 by
        rw [cntF]; simp [List.getD_eq_getElem?_getD, hkl])
      have hcut := fun W => cut_head b off n c k W (by omega)
      generalize l[k] = x1 at *
      cases hq : (l.take k).contains x1
      · rw [hq] at HC
        have HF := Lib.hid (show (cntF l k : Int) + 1 = (cntF l (k + 1) : Int) by rw [HS.out, hq]; simp)
        clear hq
        generalize cntF l k = m at *
        go_wp2_with fail
        refine (HC.out _).mono ?_
        rintro e w2 ⟨rfl, rfl⟩
        go_wp2_with fail
        go_round
        case rel => exact ⟨k + 1, by omega, by go_num, by rw [HF.out]⟩
        case measure => simp [intOf]; omega
      · rw [hq] at HC
        have HF := Lib.hid (show (cntF l k : Int) = (cntF l (k + 1) : Int) by rw [HS.out, hq]; simp)
        clear hq
        generalize cntF l k = m at *
        go_wp2_with fail
        refine (HC.out _).mono ?_
        rintro e w2 ⟨rfl, rfl⟩
        go_wp2_with fail
        go_round
        case rel => exact ⟨k + 1, by omega, by go_num, by rw [HF.out]⟩
        case measure => simp [intOf]; omega
    · obtain rfl : k = n := by omega
      go_wp2_with fail
      go_ret
      exact ⟨by rw [HD.out]; rfl, rfl⟩

/-- lastAsked among the first k -/
theorem lastHead_any (b off k c : Nat) (l : List Int) (p : Int) (w : World) (hr : RowAt w w.heap.size (some ⟨b, off, none⟩) (intC l)) (hk : k ≤ l.length) (hs : k ≤ 1048576) :
    Calls Try.prog 68 #[.slice (some ⟨b, off, none⟩) k c, .int .i64 p] w fun e w' => e = .returned (.int .i64 (lastIx l p k)) ∧ w' = w := by
  have := lastAsked_any (some ⟨b, off, none⟩) k c (l.take k) p w (RowAt.head k hr) (by rw [List.length_take]; omega) hs
  rw [lastIx_take l p k (Nat.le_refl _)] at this
  exact this

set_option maxRecDepth 100000 in
set_option maxHeartbeats 2000000 in
theorem iDepths_any (A : Option Addr) (n c : Nat) (l : List Int) (w : World) (hr : RowAt w w.heap.size A (intC l)) (hn : n = l.length) (hs : n ≤ 1048576) (hnc : n ≤ c) (hcm : c ≤ maxLen) :
    Calls Try.prog 41 #[.slice A n c] w (IntsPost (if traceB l = true then depthsI l else []) w) := by
  unfold maxLen at hcm
  have HT := Lib.hid (iTrace_any A n c l w hr hn hs)
  have HR := Lib.hid hr; clear hr
  have HN := Lib.hid hn; clear hn
  cases ht : traceB l
  · rw [ht] at HT
    clear ht
    rw [if_neg (by simp)]
    go_enter Try.func41, Try.ntmps41
    go_wp2_with fail
    refine (HT.out).mono ?_
    rintro e w2 ⟨rfl, hw2⟩
    obtain rfl := hw2.symm
    go_wp2_with fail
    go_ret
    exact ⟨_, rfl, ⟨none, 0, rfl, World.ownsRow_nil _ _ _ _⟩, Below.refl _ _⟩
  · rw [ht] at HT
    have hn30 : n ≤ 30 := by
      unfold traceB at ht
      simp only [Bool.and_eq_true, decide_eq_true_eq] at ht
      rw [HN.out]; exact ht.1
    clear ht
    rw [if_pos rfl]
    obtain ⟨i0, hi0, hz0, hz1, hz2⟩ := info_parts intInfo
    have hb2 : i0.bytes * n ≤ 281474976710656 := by rw [hz2]; omega
    have HI := Lib.hid (And.intro hi0 (And.intro hz0 (And.intro hz1 hz2))); clear hi0 hz0 hz1 hz2
    have HLN := Lib.hid (show n = (depthsI l).length by rw [depthsI_len]; exact HN.out)
    go_enter Try.func41, Try.ntmps41
    go_wp2_with fail
    refine (HT.out).mono ?_
    rintro e w2 ⟨rfl, hw2⟩
    obtain rfl := hw2.symm
    go_wp2_with ((refine wpList_make_full _ rfl _ _ 35 rfl w.heap.size 3 i0 (.int .i64 0) 1 Try.underlying35 HI.out.1 HI.out.2.1 HI.out.2.2.1 .i64 .i64 _ _ n rfl rfl rfl rfl hb2 (by unfold maxLen; omega) (Nat.le_refl _) ?_
                  intro w1 hown hg1
                  have HF := Lib.hid (FillI.start (l := depthsI l) hown hg1)
                  clear hown hg1))
    clear hb2
    go_loopw [15] (fun i wr => ∃ k : Nat, i = .int .i64 k ∧ FillI w w.heap.size n (depthsI l) k wr) (fun i _ => n - (intOf i).toNat)
    case atStart => exact ⟨0, rfl, HF.out⟩
    case round =>
      clear HF
      obtain ⟨k, rfl, hf⟩ := hrel
      have HF := Lib.hid hf; clear hf
      have hk := HF.out.1
      by_cases hlt : k < n
      · have hkl : k < l.length := by have := HN.out; omega
        obtain ⟨b, off, rfl, hbw, e0⟩ := ints_at (HR.out.below HF.out.2.2.2) hkl
        obtain ⟨⟨u0, c0⟩, f0⟩ := HF.out.cell hlt
        have hkd : k < (depthsI l).length := by have := HLN.out; omega
        have HDK := Lib.hid (show (depthsI l)[k] = depthI l k from depthsI_at l hkl)
        have hne : ¬ (w.heap.size = b) := by omega
        have HO := Lib.hid (fun x => HF.out.over HLN.out hlt x)
        have HL := Lib.hid (fun W c (hb : Below w.heap.size w W) => lastHead_any b off k c l l[k] W ((HR.out.below hb).mono hb.size) (by omega) (by omega))
        have HCD := Lib.hid (fun W v c (hb : Below w.heap.size w W) (hv : v < k) => countD_any (some ⟨b, off + v, none⟩) (k - v) c (segI l v k) W (RowAt.seg v k ((HR.out.below hb).mono hb.size)) (segI_len (by omega)).symm (by omega))
        have hge := lastIx_lt l l[k] k
        have HX := Lib.hid (show (depthsI l)[k] = if 0 ≤ lastIx l l[k] k then (cntD (segI l (lastIx l l[k] k).toNat k) : Int) else -1 by
          rw [depthsI_at l hkl]
          unfold depthI
          rw [show l.getD k 0 = l[k] by simp [List.getD_eq_getElem?_getD, hkl]])
        have HP := Lib.hid (fun W (hf : FillI w w.heap.size n (depthsI l) k W) x (hx : x = (depthsI l)[k]) => hf.put HLN.out hlt x hx)
        have HB := Lib.hid HF.out.2.2.2
        have hcut := fun W => cut_head b off n c k W (by omega)
        generalize l[k] = x1 at *
        generalize lastIx l x1 k = v at *
        by_cases hv : 0 ≤ v
        · obtain ⟨vn, rfl⟩ := Int.eq_ofNat_of_zero_le hv
          have HX2 := Lib.hid (show (cntD (segI l vn k) : Int) = (depthsI l)[k] by rw [HX.out, if_pos hv]; simp)
          have hcut2 := fun W => cut_mid b off n c vn k W (by omega) (by omega) (by omega)
          go_wp2_with fail
          refine (HL.out _ _ (HO.out _).2.2.2).mono ?_
          rintro e w3 ⟨rfl, hw3⟩
          obtain rfl := hw3.symm
          go_wp2_with fail
          refine (HCD.out _ vn _ (HO.out _).2.2.2 (by omega) (by omega)).mono ?_
          rintro e w4 ⟨rfl, hw4⟩
          obtain rfl := hw4.symm
          generalize cntD (segI l vn k) = q at *
          go_wp2_with fail
          go_roundw
          case rel => exact ⟨k + 1, by go_num, HP.out _ (HO.out _) _ HX2.out⟩
          case measure => simp [intOf]; omega
        · have HX2 := Lib.hid (show (-1 : Int) = (depthsI l)[k] by rw [HX.out, if_neg hv])
          go_wp2_with fail
          refine (HL.out _ _ (HO.out _).2.2.2).mono ?_
          rintro e w3 ⟨rfl, hw3⟩
          obtain rfl := hw3.symm
          go_wp2_with fail
          go_roundw
          case rel => exact ⟨k + 1, by go_num, HP.out _ HF.out _ HX2.out⟩
          case measure => simp [intOf]; omega
      · obtain rfl : k = n := by omega
        have HD := Lib.hid (HF.out.done HLN.out)
        go_wp2_with fail
        go_ret
        exact ⟨_, rfl, HD.out⟩

/-- what was appended so far -/
def ApI (w : World) (l : List Int) (k : Nat) (v : Value) (wr : World) : Prop :=
  wr.ownsRow w.heap.size 3 1 v k (intC (l.take k)) ∧ Below w.heap.size w wr
theorem ApI.step {w wr W w' : World} {l : List Int} {k : Nat} {v v' : Value} {x : Int} (h : ApI w l k v wr) (hb : Below wr.heap.size wr W) (hk : k < l.length) (hx : l[k] = x)
    (ho : w'.ownsRow w.heap.size 3 1 v' (k + 1) (intC (l.take k) ++ [.int .i64 x])) (hg : W.grownBy w' v.ownBlock) : ApI w l (k + 1) v' w' := by
  have hlt := h.1.lt
  refine ⟨?_, ?_⟩
  · rw [List.take_succ_eq_append_getElem hk, intC_app, hx]; exact ho
  · exact (h.2.trans (hb.mono h.2.size)).grown hg (Nat.le_trans h.2.size hb.size) (fun q hq => (hlt q hq).1)
theorem ApI.keep {w wr W : World} {l : List Int} {k : Nat} {v : Value} (h : ApI w l k v wr) (hb : Below wr.heap.size wr W) : ApI w l k v W :=
  ⟨h.1.kept (grown_of_below (row := none) hb) (Classical.em _), h.2.trans (hb.mono h.2.size)⟩
theorem ApI.drewN {w wr : World} {l : List Int} {k : Nat} {v : Value} (h : ApI w l k v wr) (m : Nat) : ApI w l k v (wr.drewN m) := h.keep (below_drewN _ _)
theorem ApI.done {w wr : World} {l : List Int} {k : Nat} {v : Value} (h : ApI w l k v wr) (hk : k = l.length) : OwnInts w.heap.size l v wr ∧ Below w.heap.size w wr := by
  subst hk
  obtain ⟨h1, h2⟩ := h
  rw [List.take_length] at h1
  refine ⟨?_, h2⟩
  obtain ⟨A, c, rfl⟩ : ∃ (A : Option Addr) (c : Nat), v = .slice A l.length c := by
    rcases h1.2 with ⟨a1, a2⟩ | ⟨g, N, cur, a1, _⟩
    · exact ⟨none, 0, a1.trans (by rw [a2])⟩
    · exact ⟨_, _, a1⟩
  exact ⟨A, c, rfl, h1⟩

theorem segI_nil (l : List Int) (a : Nat) : segI l a a = [] := by
  unfold segI
  exact List.eq_nil_of_length_eq_zero (by rw [List.length_drop, List.length_take]; omega)
theorem segI_snoc {l : List Int} {a t : Nat} (ha : a ≤ t) (ht : t < l.length) : segI l a (t + 1) = segI l a t ++ [l[t]] := by
  unfold segI
  rw [List.take_succ_eq_append_getElem ht, List.drop_append_of_le_length (by rw [List.length_take]; omega)]
/-- what the model keeps of its inner round -/
def SD (l : List Int) (i k m : Nat) (fd : Bool) : Prop := if fd = true then (m : Int) = depthI l i else sDep l i k m = depthI l i
theorem SD.start (l : List Int) {i : Nat} (hi : i < l.length) : SD l i i 0 false := by
  unfold SD; rw [if_neg (by simp)]; exact sDep_all l hi
theorem SD.step {l : List Int} {i k m m2 : Nat} {fd : Bool} {a b : Int} (h : SD l i (k + 1) m false) (ha : l.getD k 0 = a) (hb : l.getD i 0 = b) (hf : fd = decide (a = b)) (hm : m2 = m + if (segI l (k + 1) i).contains a then 0 else 1) : SD l i k m2 fd := by
  unfold SD at h ⊢
  rw [if_neg (by simp), sDep, ha, hb] at h
  subst hf hm
  by_cases e : a = b
  · rw [if_pos e] at h; rw [if_pos (by simpa using e)]; exact h
  · rw [if_neg e] at h; rw [if_neg (by simpa using e)]; exact h
theorem SD.found {l : List Int} {i k m : Nat} (h : SD l i k m true) : depthI l i = (m : Int) := by
  unfold SD at h; rw [if_pos rfl] at h; exact h.symm
theorem SD.none {l : List Int} {i m : Nat} (h : SD l i 0 m false) : depthI l i = -1 := by
  unfold SD at h; rw [if_neg (by simp)] at h; exact h.symm

end Go.Proofs.Ytompbkphdjjpdaa