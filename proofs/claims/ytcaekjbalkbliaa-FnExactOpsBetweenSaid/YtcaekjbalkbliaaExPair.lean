/- Contracts of the exact laws' own helpers on lists of Pair: sz, to, eq, and how such an argument is opened. Conditions: the elements lie in a row; they are few. -/
import Derived.Test.YtcaekjbalkbliaaKey
import Derived.Test.YtcaekjbalkbliaaOpen
import Derived.StillTailTactics
import Derived.Deep.RegionWith
set_option linter.unusedVariables false
set_option linter.unusedSimpArgs false
namespace Go.Proofs.Ytcaekjbalkbliaa
open Go.RowKit Go.ChangeShapes Go.WideShapes

abbrev Pr := ByteArray × ByteArray
def prC (p : Pr) : List Value := [.string p.1, .string p.2]
theorem prC_len (p : Pr) : (prC p).length = 2 := rfl
def prsC (l : List Pr) : List Value := l.flatMap prC
theorem prsC_len (l : List Pr) : (prsC l).length = l.length * 2 := flat_len prC 2 prC_len l
theorem prsC_app (a b : List Pr) : prsC (a ++ b) = prsC a ++ prsC b := by unfold prsC; rw [List.flatMap_append]
theorem prsC_snoc (A : List Pr) (x : Pr) : prsC (A ++ [x]) = prsC A ++ prC x := by rw [prsC_app]; simp [prsC]
theorem prsC_at0 {l : List Pr} {k : Nat} (h : k < l.length) : (prsC l)[k * 2]? = some (.string l[k].1) := by
  have := flat_at prC 2 prC_len l k 0 (by omega)
  rw [Nat.add_zero] at this
  rw [prsC, this, List.getElem?_eq_getElem h]; rfl
theorem prsC_at1 {l : List Pr} {k : Nat} (h : k < l.length) : (prsC l)[k * 2 + 1]? = some (.string l[k].2) := by
  have := flat_at prC 2 prC_len l k 1 (by omega)
  rw [prsC, this, List.getElem?_eq_getElem h]; rfl
theorem prs_at {w : World} {B : Nat} {A : Option Addr} {l : List Pr} {k : Nat} (h : RowAt w B A (prsC l)) (hk : k < l.length) :
    ∃ b off, A = some ⟨b, off, none⟩ ∧ b < B ∧ w.cell? ⟨b, off + k * 2, none⟩ = some (.string l[k].1) ∧ w.cell? ⟨b, off + k * 2 + 1, none⟩ = some (.string l[k].2) := by
  obtain ⟨b, off, rfl, hb, hc⟩ := h (by intro h0; have := prsC_len l; rw [h0] at this; simp at this; omega)
  exact ⟨b, off, rfl, hb, hc _ _ (prsC_at0 hk), by rw [Nat.add_assoc]; exact hc _ _ (prsC_at1 hk)⟩
theorem prInfo : (Try.prog.info? 52).map (fun i => (i.zero, i.size, i.bytes)) = some (some (.agg #[.string ⟨#[]⟩, .string ⟨#[]⟩]), 2, 32) := by kernel_rfl
def GoodPr (p : Pr) : Prop := p.1.size ≤ maxLen ∧ p.2.size ≤ maxLen
def SmallPr (p : Pr) : Prop := p.1.size ≤ 1048576 ∧ p.2.size ≤ 1048576
def WfPr (l : List Pr) : Prop := ∀ p ∈ l, GoodPr p

theorem pr_cells : Try.prog.cellsOf 50 = 2 := by kernel_rfl
theorem pr_cells_string : Try.prog.cellsOf 9 = 1 := by kernel_rfl
section
variable {H : Type} {enc : TypeId × Value → H} {P : Program} {w : World} {base : Nat} {spare : Nat → Bool} {held : Bool}
theorem pr_shape {t e : TypeId} {fuel : Nat} {v : Value} {x : DataW H × List MemPlace} (ht : P.underlying t = some (.slice e)) (h : DataW.trod enc P w base spare held fuel t [v] = some x) : ∃ A n c, v = .slice A n c := by
  rcases Go.Deep.open_slice ht h with ⟨hcs, _⟩ | ⟨ad, len, cap, m, q, D, Pl, hcs, _⟩
  · exact ⟨none, 0, 0, by simpa using hcs⟩
  · exact ⟨some ad, len, cap, by simpa using hcs⟩
set_option maxRecDepth 100000 in
theorem pr_read (m : Nat) (cs : List Value) (y : DataW H × List MemPlace) (hy : DataW.trod enc Try.prog w base spare held m 50 cs = some y) : ∃ a, cs = prC a ∧ GoodPr a := by
  obtain ⟨y0, y1, q, _, hl, h0, h1⟩ := trod_struct2 Try.underlying50 hy
  rw [pr_cells] at hl
  match cs, hl with
  | [v0, v1], _ =>
    obtain ⟨a0, e0, _, w0⟩ := DataW.trod_string Try.underlying9 h0
    obtain ⟨a1, e1, _, w1⟩ := DataW.trod_string Try.underlying9 h1
    rw [pr_cells_string] at e0
    rw [pr_cells_string] at e1
    simp at e0 e1
    subst e0 e1
    exact ⟨(a0, a1), rfl, w0, w1⟩
/-- a list of Pair as an argument, as it was read -/
def PrArg (w : World) (A : Option Addr) (n c : Nat) (l : List Pr) : Prop := n = l.length ∧ n ≤ c ∧ c ≤ maxLen ∧ RowAt w w.heap.size A (prsC l) ∧ WfPr l
theorem open_pr {fuel : Nat} {A : Option Addr} {n c : Nat} {x : DataW H × List MemPlace} (h : DataW.trod enc Try.prog w base spare held fuel 22 [.slice A n c] = some x) : ∃ l : List Pr, PrArg w A n c l := by
  have hE : ∀ (m : Nat) (cs : List Value) (y : DataW H × List MemPlace), DataW.trod enc Try.prog w base spare held m 50 cs = some y → ∃ a, cs = prC a ∧ GoodPr a := pr_read
  obtain ⟨l, h1, h2, h3, h4, h5⟩ := open_rows prC GoodPr 2 (by decide) prC_len Try.underlying22 pr_cells hE h
  exact ⟨l, h1, h2, h3, h4, h5⟩
end

theorem szPair_any (x0 : ByteArray) (x1 : ByteArray) (L : Int) (w : World) (s0 : x0.size ≤ maxLen) (s1 : x1.size ≤ maxLen) (h0 : 0 ≤ L) (hL : L ≤ 1048576) :
    Calls Try.prog 29 #[.agg #[.string x0, .string x1], .int .i64 L] w fun e w' => (∃ v : Int, e = .returned (.int .i64 v) ∧ (v < 0 ∨ (0 ≤ v ∧ v ≤ L ∧ x0.size ≤ 1048576 ∧ x1.size ≤ 1048576))) ∧ Below w.heap.size w w' := by
  unfold maxLen at s0
  unfold maxLen at s1
  have hB := fun o => (Below.refl w.heap.size w).alloc (Nat.le_refl _) o
  go_enter Try.func29, Try.ntmps29
  go_wp2
  all_goals go_ret
  all_goals first | exact ⟨⟨_, rfl, Or.inl (by omega)⟩, hB _⟩ | exact ⟨⟨_, rfl, Or.inr ⟨by omega, by omega, by omega, by omega⟩⟩, hB _⟩

set_option maxRecDepth 100000 in
set_option maxHeartbeats 1000000 in
theorem szPairS_any (A : Option Addr) (n c : Nat) (l : List Pr) (L : Int) (w : World) (hr : RowAt w w.heap.size A (prsC l)) (hn : n = l.length) (hm : n ≤ maxLen) (hw : WfPr l) (h0 : 0 ≤ L) (hL : L ≤ 1048576) :
    Calls Try.prog 7 #[.slice A n c, .int .i64 L] w fun e w' => (∃ v : Int, e = .returned (.int .i64 v) ∧ (v < 0 ∨ (0 ≤ v ∧ v ≤ L ∧ n ≤ 1048576 ∧ ∀ p ∈ l, SmallPr p))) ∧ Below w.heap.size w w' := by
  unfold maxLen at hm
  have HR := Lib.hid hr; clear hr
  have HN := Lib.hid hn; clear hn
  have HW := Lib.hid hw; clear hw
  by_cases hnl : (n : Int) ≤ L
  · go_enter Try.func7, Try.ntmps7
    go_wp2_with fail
    go_loopw [1, 5] (fun q i wr => ∃ (k : Nat) (v : Int), i = .int .i64 k ∧ q = .int .i64 v ∧ k ≤ n ∧ 0 ≤ v ∧ v ≤ L ∧ (∀ p ∈ l.take k, SmallPr p) ∧ Below w.heap.size w wr) (fun _ i _ => n - (intOf i).toNat)
    case atStart => exact ⟨0, L - n, rfl, rfl, Nat.zero_le _, by omega, by omega, by simp, Below.refl _ _⟩
    case round =>
      obtain ⟨k, v, rfl, rfl, hk, hv0, hv1, hs, hb⟩ := hrel
      have HS := Lib.hid hs; clear hs
      have HB := Lib.hid hb; clear hb
      by_cases hlt : k < n
      · have hkl : k < l.length := by have := HN.out; omega
        obtain ⟨b, off, rfl, hbw, e0, e1⟩ := prs_at (HR.out.below HB.out) hkl
        have hg := HW.out l[k] (List.getElem_mem hkl)
        have HT := Lib.hid (show l.take (k + 1) = l.take k ++ [l[k]] from List.take_succ_eq_append_getElem hkl)
        unfold GoodPr at hg
        obtain ⟨g0, g1⟩ := hg
        have HC := Lib.hid (fun w => szPair_any l[k].1 l[k].2 v w g0 g1 hv0 (by omega))
        go_wp2_with fail
        refine (HC.out _).mono ?_
        rintro e w3 ⟨⟨v2, rfl, hv2⟩, hb3⟩
        have HB3 := Lib.hid (HB.out.trans (hb3.mono HB.out.size)); clear hb3
        rcases Int.lt_or_le v2 0 with hneg | hpos
        · clear hv2
          go_wp2_with fail
          go_ret
          exact ⟨⟨_, rfl, Or.inl (by omega)⟩, HB3.out⟩
        · have hv3 : v2 ≤ v ∧ l[k].1.size ≤ 1048576 ∧ l[k].2.size ≤ 1048576 := by
            rcases hv2 with h | h
            · omega
            · exact h.2
          have HS3 := Lib.hid (show ∀ p ∈ l.take (k + 1), SmallPr p by
            rw [HT.out]
            intro p hp
            rcases List.mem_append.1 hp with h | h
            · exact HS.out p h
            · rw [List.mem_singleton.1 h]; exact hv3.2)
          have hv4 := hv3.1
          clear hv2 hv3
          go_wp2_with fail
          go_roundw
          case rel => exact ⟨k + 1, v2, by go_num, rfl, by omega, hpos, by omega, HS3.out, HB3.out⟩
          case measure => simp [intOf]; omega
      · obtain rfl : k = n := by omega
        have HS2 := Lib.hid (show ∀ p ∈ l, SmallPr p by
          have := HS.out; rw [HN.out, List.take_length] at this; exact this)
        go_wp2_with fail
        go_ret
        exact ⟨⟨_, rfl, Or.inr ⟨hv0, hv1, by omega, HS2.out⟩⟩, HB.out⟩
  · go_enter Try.func7, Try.ntmps7
    go_wp2_with fail
    go_ret
    exact ⟨⟨_, rfl, Or.inl (by omega)⟩, Below.refl _ _⟩

theorem toPair_any (x0 : ByteArray) (x1 : ByteArray) (w : World) :
    Calls Try.prog 32 #[.agg #[.string x0, .string x1]] w fun e w' => e = .returned (.agg #[.string x0, .string x1]) ∧ Below w.heap.size w w' := by
  go_enter Try.func32, Try.ntmps32
  go_wp2
  refine bodyPost_ret (v := .agg #[.string x0, .string x1]) (by simp [results, Try.results32, go_sem]) rfl ⟨rfl, ?_⟩
  exact (((Below.refl _ _).alloc (Nat.le_refl _) _).alloc (by simp) _).alloc (by simp; omega) _
theorem set_appPr {α : Type} (A : List α) (r v : α) (R : List α) (k : Nat) (hk : k = A.length) : (A ++ r :: R).set k v = (A ++ [v]) ++ R := by
  subst hk
  rw [List.set_append_right _ _ (Nat.le_refl _)]
  simp
/-- the row that the call fills: k of its elements are there -/
def FillPr (w : World) (g n : Nat) (l : List Pr) (k : Nat) (wr : World) : Prop :=
  k ≤ n ∧ w.heap.size ≤ g ∧ (∃ R : List Value, R.length = (n - k) * 2 ∧ wr.ownsRow w.heap.size 52 2 (.slice (some ⟨g, 0, none⟩) n n) n (prsC (l.take k) ++ R)) ∧ Below w.heap.size w wr
theorem FillPr.keep {w wr W : World} {g n : Nat} {l : List Pr} {k : Nat} (h : FillPr w g n l k wr) (hb : Below wr.heap.size wr W) : FillPr w g n l k W := by
  obtain ⟨h1, h2, ⟨R, hR, ho⟩, hB⟩ := h
  exact ⟨h1, h2, ⟨R, hR, ho.kept (grown_of_below (row := none) hb) (by simp [Value.ownBlock])⟩, hB.trans (hb.mono hB.size)⟩
theorem FillPr.put {w wr : World} {g n : Nat} {l : List Pr} {k : Nat} (h : FillPr w g n l k wr) (hn : n = l.length) (hk : k < n) :
    FillPr w g n l (k + 1) ((wr.setCell ⟨g, k * 2, none⟩ (.string (l[k]'(by omega)).1)).setCell ⟨g, k * 2 + 1, none⟩ (.string (l[k]'(by omega)).2)) := by
  obtain ⟨_, hg, ⟨R, hR, ho⟩, hB⟩ := h
  have hlen : (prsC (l.take k)).length = k * 2 := by rw [prsC_len, List.length_take]; congr 1; omega
  match R, hR with
  | [], hR => simp at hR; omega
  | [_], hR => simp at hR; omega
  | r0 :: r1 :: R, hR =>
    have o0 := (ho.stored (k * 2) (.string (l[k]'(by omega)).1)).1
    rw [set_appPr _ _ _ _ _ hlen.symm] at o0
    have o1 := (o0.stored (k * 2 + 1) (.string (l[k]'(by omega)).2)).1
    rw [set_appPr _ _ _ _ _ (by simp [hlen])] at o1
    refine ⟨by omega, hg, ⟨R, by simp at hR; omega, ?_⟩, ((hB.setCell hg _).setCell hg _)⟩
    have e : prsC (l.take (k + 1)) = prsC (l.take k) ++ [.string (l[k]'(by omega)).1] ++ [.string (l[k]'(by omega)).2] := by
      rw [List.take_succ_eq_append_getElem (by omega), prsC_snoc, List.append_assoc]; rfl
    rw [e]
    exact o1
theorem FillPr.start {w w1 : World} {n : Nat} {l : List Pr} {z : Array Value} (hown : w1.ownsRow w.heap.size 52 2 (.slice (some ⟨w.heap.size, 0, none⟩) n n) n (madeCells z (n * 2)).toList) (hg : w.grownBy w1 none) : FillPr w w.heap.size n l 0 w1 :=
  ⟨by omega, by omega, ⟨(madeCells z (n * 2)).toList, by simp [size_madeCells], by simpa [prsC] using hown⟩, (Below.refl _ _).grown hg (Nat.le_refl _) (by simp)⟩
theorem FillPr.cells {w wr : World} {g n : Nat} {l : List Pr} {k : Nat} (h : FillPr w g n l k wr) (hk : k < n) :
    (∃ u, wr.cell? ⟨g, k * 2, none⟩ = some u) ∧ (∃ u, wr.cell? ⟨g, k * 2 + 1, none⟩ = some u) ∧ wr.frozen? ⟨g, k * 2, none⟩ = false ∧ wr.frozen? ⟨g, k * 2 + 1, none⟩ = false := by
  obtain ⟨_, hg, ⟨R, hR, ho⟩, hB⟩ := h
  have c0 := ho.cellAt (k * 2) (by omega)
  have c1 := ho.cellAt (k * 2 + 1) (by omega)
  rw [List.getElem?_eq_getElem (by rw [ho.1]; omega)] at c0 c1
  exact ⟨⟨_, c0⟩, ⟨_, c1⟩, ho.frozenAt _, ho.frozenAt _⟩
/-- a list of the call's own, in a row -/
def OwnPr (B : Nat) (l : List Pr) (v : Value) (w : World) : Prop :=
  ∃ (A : Option Addr) (c : Nat), v = .slice A l.length c ∧ w.ownsRow B 52 2 (.slice A l.length c) l.length (prsC l)
theorem FillPr.done {w wr : World} {g n : Nat} {l : List Pr} (h : FillPr w g n l n wr) (hn : n = l.length) : OwnPr w.heap.size l (.slice (some ⟨g, 0, none⟩) n n) wr ∧ Below w.heap.size w wr := by
  obtain ⟨_, hg, ⟨R, hR, ho⟩, hB⟩ := h
  have : R = [] := List.eq_nil_of_length_eq_zero (by omega)
  subst this
  rw [List.append_nil, hn, List.take_length] at ho
  subst hn
  exact ⟨⟨_, _, rfl, ho⟩, hB⟩
def PrsPost (l : List Pr) (w : World) (e : Ending) (w' : World) : Prop := ∃ v, e = .returned v ∧ OwnPr w.heap.size l v w' ∧ Below w.heap.size w w'

set_option maxRecDepth 100000 in
set_option maxHeartbeats 1000000 in
theorem toPairS_any (A : Option Addr) (n c : Nat) (l : List Pr) (w : World) (hr : RowAt w w.heap.size A (prsC l)) (hn : n = l.length) (hs : n ≤ 1048576) :
    Calls Try.prog 9 #[.slice A n c] w (PrsPost l w) := by
  obtain ⟨i0, hi0, hz0, hz1, hz2⟩ := info_parts prInfo
  have HR := Lib.hid hr; clear hr
  have HN := Lib.hid hn; clear hn
  have hb2 : i0.bytes * n ≤ 281474976710656 := by rw [hz2]; omega
  have HI := Lib.hid (And.intro hi0 (And.intro hz0 (And.intro hz1 hz2))); clear hi0 hz0 hz1 hz2
  go_enter Try.func9, Try.ntmps9
  go_wp2_with ((refine wpList_make_full _ rfl _ _ 26 rfl w.heap.size 52 i0 (.agg #[.string ⟨#[]⟩, .string ⟨#[]⟩]) 2 Try.underlying26 HI.out.1 HI.out.2.1 HI.out.2.2.1 .i64 .i64 _ _ n rfl rfl rfl rfl hb2 (by unfold maxLen; omega) (Nat.le_refl _) ?_
                intro w1 hown hg1
                have HF := Lib.hid (FillPr.start (l := l) hown hg1)
                clear hown hg1))
  clear hb2
  go_loopw [4] (fun i wr => ∃ k : Nat, i = .int .i64 k ∧ FillPr w w.heap.size n l k wr) (fun i _ => n - (intOf i).toNat)
  case atStart => exact ⟨0, rfl, HF.out⟩
  case round =>
    clear HF
    obtain ⟨k, rfl, hf⟩ := hrel
    have HF := Lib.hid hf; clear hf
    have hk := HF.out.1
    by_cases hlt : k < n
    · have hkl : k < l.length := by have := HN.out; omega
      obtain ⟨b, off, rfl, hbw, e0, e1⟩ := prs_at (HR.out.below HF.out.2.2.2) hkl
      have HT := Lib.hid (fun w => toPair_any l[k].1 l[k].2 w)
      have HS := Lib.hid (fun W hb => (HF.out.keep (W := W) hb).put HN.out hlt)
      have HC := Lib.hid (fun W hb => (HF.out.keep (W := W) hb).cells hlt)
      generalize hx0 : l[k].1 = x0 at *
      generalize hx1 : l[k].2 = x1 at *
      clear hx0 hx1
      go_wp2_with fail
      refine (HT.out _).mono ?_
      rintro e w3 ⟨rfl, hb3⟩
      have HB3 := Lib.hid hb3; clear hb3
      obtain ⟨⟨u0, c0⟩, ⟨u1, c1⟩, f0, f1⟩ := HC.out _ HB3.out
      go_wp2_with fail
      go_roundw
      case rel => exact ⟨k + 1, by go_num, HS.out _ HB3.out⟩
      case measure => simp [intOf]; omega
    · obtain rfl : k = n := by omega
      have HD := Lib.hid (HF.out.done HN.out)
      go_wp2_with fail
      go_ret
      exact ⟨_, rfl, HD.out⟩

theorem eqPair_same (x0 : ByteArray) (x1 : ByteArray) (w : World) (s0 : x0.size ≤ maxLen) (s1 : x1.size ≤ maxLen) :
    Calls Try.prog 38 #[.agg #[.string x0, .string x1], .agg #[.string x0, .string x1]] w fun e w' => e = .returned (.bool true) ∧ Below w.heap.size w w' := by
  have hB : ∀ o1 o2, Below w.heap.size w ((w.alloc o1).alloc o2) := fun o1 o2 => ((Below.refl _ _).alloc (Nat.le_refl _) _).alloc (by simp) _
  go_enter Try.func38, Try.ntmps38
  go_wp2
  go_ret
  exact ⟨rfl, hB _ _⟩

set_option maxHeartbeats 1000000 in
set_option maxRecDepth 100000 in
theorem eqPairS_same (A1 A2 : Option Addr) (n c1 c2 : Nat) (l : List Pr) (w : World) (h1 : RowAt w w.heap.size A1 (prsC l)) (h2 : RowAt w w.heap.size A2 (prsC l)) (hn : n = l.length) (hs : n ≤ 1048576) (hw : ∀ p ∈ l, GoodPr p) :
    Calls Try.prog 12 #[.slice A1 n c1, .slice A2 n c2] w fun e w' => e = .returned (.bool true) ∧ Below w.heap.size w w' := by
  have H1 := Lib.hid h1; clear h1
  have H2 := Lib.hid h2; clear h2
  have HN := Lib.hid hn; clear hn
  have HW := Lib.hid hw; clear hw
  go_enter Try.func12, Try.ntmps12
  go_wp2
  go_loopw [5] (fun i wr => ∃ k : Nat, k ≤ n ∧ i = .int .i64 k ∧ Below w.heap.size w wr) (fun i _ => n - (intOf i).toNat)
  case atStart => exact ⟨0, by omega, rfl, Below.refl _ _⟩
  case round =>
    obtain ⟨k, hk, rfl, hb⟩ := hrel
    have HB := Lib.hid hb; clear hb
    by_cases hlt : k < n
    · have hk1 : k < l.length := by have := HN.out; omega
      obtain ⟨b, off, rfl, hbw, e0, e1⟩ := prs_at (H1.out.below HB.out) hk1
      obtain ⟨b2, off2, rfl, hbw2, d0, d1⟩ := prs_at (H2.out.below HB.out) hk1
      have hg := HW.out l[k] (List.getElem_mem hk1)
      unfold GoodPr at hg
      have HE := Lib.hid (fun w => eqPair_same l[k].1 l[k].2 w hg.1 hg.2)
      clear hg
      generalize hx0 : l[k].1 = x0 at *
      generalize hx1 : l[k].2 = x1 at *
      clear hx0 hx1
      go_wp2_with fail
      go_still_tail 8, (by kernel_rfl)
      go_wp2_with fail
      refine (HE.out _).mono ?_
      rintro e w3 ⟨rfl, hb3⟩
      have HB3 := Lib.hid (HB.out.trans ((below_drewN _ _).trans (hb3.mono HB.out.size))); clear hb3
      go_wp2_with fail
      go_roundw
      case rel => exact ⟨k + 1, by omega, by go_num, HB3.out⟩
      case measure => simp [intOf]; omega
    · obtain rfl : k = n := by omega
      go_wp2_with fail
      go_ret
      exact ⟨rfl, HB.out⟩

end Go.Proofs.Ytcaekjbalkbliaa
