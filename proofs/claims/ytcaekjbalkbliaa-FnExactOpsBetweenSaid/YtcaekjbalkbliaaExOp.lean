/- Contracts of the exact laws' own helpers on lists of Op: sz, to, eq, and how such an argument is opened. Conditions: the elements lie in a row; they are few. -/
import Derived.Test.YtcaekjbalkbliaaKey
import Derived.Test.YtcaekjbalkbliaaOpen
import Derived.StillTailTactics
import Derived.Deep.RegionWith
set_option linter.unusedVariables false
set_option linter.unusedSimpArgs false
namespace Go.Proofs.Ytcaekjbalkbliaa
open Go.RowKit Go.ChangeShapes Go.WideShapes

abbrev Cg := ByteArray × ByteArray × Bool
def cgC (p : Cg) : List Value := [.string p.1, .string p.2.1, .bool p.2.2]
theorem cgC_len (p : Cg) : (cgC p).length = 3 := rfl
def cgsC (l : List Cg) : List Value := l.flatMap cgC
theorem cgsC_len (l : List Cg) : (cgsC l).length = l.length * 3 := flat_len cgC 3 cgC_len l
theorem cgsC_app (a b : List Cg) : cgsC (a ++ b) = cgsC a ++ cgsC b := by unfold cgsC; rw [List.flatMap_append]
theorem cgsC_snoc (A : List Cg) (x : Cg) : cgsC (A ++ [x]) = cgsC A ++ cgC x := by rw [cgsC_app]; simp [cgsC]
theorem cgsC_at0 {l : List Cg} {k : Nat} (h : k < l.length) : (cgsC l)[k * 3]? = some (.string l[k].1) := by
  have := flat_at cgC 3 cgC_len l k 0 (by omega)
  rw [Nat.add_zero] at this
  rw [cgsC, this, List.getElem?_eq_getElem h]; rfl
theorem cgsC_at1 {l : List Cg} {k : Nat} (h : k < l.length) : (cgsC l)[k * 3 + 1]? = some (.string l[k].2.1) := by
  have := flat_at cgC 3 cgC_len l k 1 (by omega)
  rw [cgsC, this, List.getElem?_eq_getElem h]; rfl
theorem cgsC_at2 {l : List Cg} {k : Nat} (h : k < l.length) : (cgsC l)[k * 3 + 2]? = some (.bool l[k].2.2) := by
  have := flat_at cgC 3 cgC_len l k 2 (by omega)
  rw [cgsC, this, List.getElem?_eq_getElem h]; rfl
theorem cgs_at {w : World} {B : Nat} {A : Option Addr} {l : List Cg} {k : Nat} (h : RowAt w B A (cgsC l)) (hk : k < l.length) :
    ∃ b off, A = some ⟨b, off, none⟩ ∧ b < B ∧ w.cell? ⟨b, off + k * 3, none⟩ = some (.string l[k].1) ∧ w.cell? ⟨b, off + k * 3 + 1, none⟩ = some (.string l[k].2.1) ∧ w.cell? ⟨b, off + k * 3 + 2, none⟩ = some (.bool l[k].2.2) := by
  obtain ⟨b, off, rfl, hb, hc⟩ := h (by intro h0; have := cgsC_len l; rw [h0] at this; simp at this; omega)
  exact ⟨b, off, rfl, hb, hc _ _ (cgsC_at0 hk), by rw [Nat.add_assoc]; exact hc _ _ (cgsC_at1 hk), by rw [Nat.add_assoc]; exact hc _ _ (cgsC_at2 hk)⟩
theorem cgInfo : (Try.prog.info? 62).map (fun i => (i.zero, i.size, i.bytes)) = some (some (.agg #[.string ⟨#[]⟩, .string ⟨#[]⟩, .bool false]), 3, 40) := by kernel_rfl
def GoodCg (p : Cg) : Prop := p.1.size ≤ maxLen ∧ p.2.1.size ≤ maxLen
def SmallCg (p : Cg) : Prop := p.1.size ≤ 1048576 ∧ p.2.1.size ≤ 1048576
def WfCg (l : List Cg) : Prop := ∀ p ∈ l, GoodCg p

theorem cg_cells : Try.prog.cellsOf 76 = 3 := by kernel_rfl
theorem cg_cells_bool : Try.prog.cellsOf 4 = 1 := by kernel_rfl
theorem cg_cells_string : Try.prog.cellsOf 9 = 1 := by kernel_rfl
section
variable {H : Type} {enc : TypeId × Value → H} {P : Program} {w : World} {base : Nat} {spare : Nat → Bool} {held : Bool}
theorem cg_shape {t e : TypeId} {fuel : Nat} {v : Value} {x : DataW H × List MemPlace} (ht : P.underlying t = some (.slice e)) (h : DataW.trod enc P w base spare held fuel t [v] = some x) : ∃ A n c, v = .slice A n c := by
  rcases Go.Deep.open_slice ht h with ⟨hcs, _⟩ | ⟨ad, len, cap, m, q, D, Pl, hcs, _⟩
  · exact ⟨none, 0, 0, by simpa using hcs⟩
  · exact ⟨some ad, len, cap, by simpa using hcs⟩
set_option maxRecDepth 100000 in
theorem cg_read (m : Nat) (cs : List Value) (y : DataW H × List MemPlace) (hy : DataW.trod enc Try.prog w base spare held m 76 cs = some y) : ∃ a, cs = cgC a ∧ GoodCg a := by
  obtain ⟨y0, y1, y2, q, _, hl, h0, h1, h2⟩ := Go.Deep.trod_struct3 Try.underlying76 hy
  rw [cg_cells] at hl
  match cs, hl with
  | [v0, v1, v2], _ =>
    obtain ⟨a0, e0, _, w0⟩ := DataW.trod_string Try.underlying9 h0
    obtain ⟨a1, e1, _, w1⟩ := DataW.trod_string Try.underlying9 h1
    obtain ⟨a2, e2, _⟩ := DataW.trod_bool Try.underlying4 h2
    rw [cg_cells_string] at e0
    rw [cg_cells_string] at e1
    rw [cg_cells_bool] at e2
    simp at e0 e1 e2
    subst e0 e1 e2
    exact ⟨(a0, a1, a2), rfl, w0, w1⟩
/-- a list of Op as an argument, as it was read -/
def CgArg (w : World) (A : Option Addr) (n c : Nat) (l : List Cg) : Prop := n = l.length ∧ n ≤ c ∧ c ≤ maxLen ∧ RowAt w w.heap.size A (cgsC l) ∧ WfCg l
theorem open_cg {fuel : Nat} {A : Option Addr} {n c : Nat} {x : DataW H × List MemPlace} (h : DataW.trod enc Try.prog w base spare held fuel 41 [.slice A n c] = some x) : ∃ l : List Cg, CgArg w A n c l := by
  have hE : ∀ (m : Nat) (cs : List Value) (y : DataW H × List MemPlace), DataW.trod enc Try.prog w base spare held m 76 cs = some y → ∃ a, cs = cgC a ∧ GoodCg a := cg_read
  obtain ⟨l, h1, h2, h3, h4, h5⟩ := open_rows cgC GoodCg 3 (by decide) cgC_len Try.underlying41 cg_cells hE h
  exact ⟨l, h1, h2, h3, h4, h5⟩
end

theorem szOp_any (x0 : ByteArray) (x1 : ByteArray) (x2 : Bool) (L : Int) (w : World) (s0 : x0.size ≤ maxLen) (s1 : x1.size ≤ maxLen) (h0 : 0 ≤ L) (hL : L ≤ 1048576) :
    Calls Try.prog 47 #[.agg #[.string x0, .string x1, .bool x2], .int .i64 L] w fun e w' => (∃ v : Int, e = .returned (.int .i64 v) ∧ (v < 0 ∨ (0 ≤ v ∧ v ≤ L ∧ x0.size ≤ 1048576 ∧ x1.size ≤ 1048576))) ∧ Below w.heap.size w w' := by
  unfold maxLen at s0
  unfold maxLen at s1
  have hB := fun o => (Below.refl w.heap.size w).alloc (Nat.le_refl _) o
  go_enter Try.func47, Try.ntmps47
  go_wp2
  all_goals go_ret
  all_goals first | exact ⟨⟨_, rfl, Or.inl (by omega)⟩, hB _⟩ | exact ⟨⟨_, rfl, Or.inr ⟨by omega, by omega, by omega, by omega⟩⟩, hB _⟩

set_option maxRecDepth 100000 in
set_option maxHeartbeats 1000000 in
theorem szOpS_any (A : Option Addr) (n c : Nat) (l : List Cg) (L : Int) (w : World) (hr : RowAt w w.heap.size A (cgsC l)) (hn : n = l.length) (hm : n ≤ maxLen) (hw : WfCg l) (h0 : 0 ≤ L) (hL : L ≤ 1048576) :
    Calls Try.prog 22 #[.slice A n c, .int .i64 L] w fun e w' => (∃ v : Int, e = .returned (.int .i64 v) ∧ (v < 0 ∨ (0 ≤ v ∧ v ≤ L ∧ n ≤ 1048576 ∧ ∀ p ∈ l, SmallCg p))) ∧ Below w.heap.size w w' := by
  unfold maxLen at hm
  have HR := Lib.hid hr; clear hr
  have HN := Lib.hid hn; clear hn
  have HW := Lib.hid hw; clear hw
  by_cases hnl : (n : Int) ≤ L
  · go_enter Try.func22, Try.ntmps22
    go_wp2_with fail
    go_loopw [1, 5] (fun q i wr => ∃ (k : Nat) (v : Int), i = .int .i64 k ∧ q = .int .i64 v ∧ k ≤ n ∧ 0 ≤ v ∧ v ≤ L ∧ (∀ p ∈ l.take k, SmallCg p) ∧ Below w.heap.size w wr) (fun _ i _ => n - (intOf i).toNat)
    case atStart => exact ⟨0, L - n, rfl, rfl, Nat.zero_le _, by omega, by omega, by simp, Below.refl _ _⟩
    case round =>
      obtain ⟨k, v, rfl, rfl, hk, hv0, hv1, hs, hb⟩ := hrel
      have HS := Lib.hid hs; clear hs
      have HB := Lib.hid hb; clear hb
      by_cases hlt : k < n
      · have hkl : k < l.length := by have := HN.out; omega
        obtain ⟨b, off, rfl, hbw, e0, e1, e2⟩ := cgs_at (HR.out.below HB.out) hkl
        have hg := HW.out l[k] (List.getElem_mem hkl)
        have HT := Lib.hid (show l.take (k + 1) = l.take k ++ [l[k]] from List.take_succ_eq_append_getElem hkl)
        unfold GoodCg at hg
        obtain ⟨g0, g1⟩ := hg
        have HC := Lib.hid (fun w => szOp_any l[k].1 l[k].2.1 l[k].2.2 v w g0 g1 hv0 (by omega))
        go_wp2_with fail
        refine (HC.out _).mono ?_
        rintro e w3 ⟨⟨v2, rfl, hv2⟩, hb3⟩
        have HB3 := Lib.hid (HB.out.trans (hb3.mono HB.out.size)); clear hb3
        rcases Int.lt_or_le v2 0 with hneg | hpos
        · clear hv2
          go_wp2_with fail
          go_ret
          exact ⟨⟨_, rfl, Or.inl (by omega)⟩, HB3.out⟩
        · have hv3 : v2 ≤ v ∧ l[k].1.size ≤ 1048576 ∧ l[k].2.1.size ≤ 1048576 := by
            rcases hv2 with h | h
            · omega
            · exact h.2
          have HS3 := Lib.hid (show ∀ p ∈ l.take (k + 1), SmallCg p by
            rw [HT.out]
            intro p hp
            rcases List.mem_append.1 hp with h | h
            · exact HS.out p h
            · rw [List.mem_singleton.1 h]; exact hv3.2)
          have hv4 := hv3.1
          clear hv2 hv3
          go_wp2_with fail
          go_roundw
          case rel => exact ⟨k + 1, v2, by go_num, rfl, by omega, hpos, by omega, HS3.out, HB3.out⟩
          case measure => simp [intOf]; omega
      · obtain rfl : k = n := by omega
        have HS2 := Lib.hid (show ∀ p ∈ l, SmallCg p by
          have := HS.out; rw [HN.out, List.take_length] at this; exact this)
        go_wp2_with fail
        go_ret
        exact ⟨⟨_, rfl, Or.inr ⟨hv0, hv1, by omega, HS2.out⟩⟩, HB.out⟩
  · go_enter Try.func22, Try.ntmps22
    go_wp2_with fail
    go_ret
    exact ⟨⟨_, rfl, Or.inl (by omega)⟩, Below.refl _ _⟩

theorem toOp_any (x0 : ByteArray) (x1 : ByteArray) (x2 : Bool) (w : World) :
    Calls Try.prog 49 #[.agg #[.string x0, .string x1, .bool x2]] w fun e w' => e = .returned (.agg #[.string x0, .string x1, .bool x2]) ∧ Below w.heap.size w w' := by
  go_enter Try.func49, Try.ntmps49
  go_wp2
  refine bodyPost_ret (v := .agg #[.string x0, .string x1, .bool x2]) (by simp [results, Try.results49, go_sem]) rfl ⟨rfl, ?_⟩
  exact (((Below.refl _ _).alloc (Nat.le_refl _) _).alloc (by simp) _).alloc (by simp; omega) _
theorem set_appCg {α : Type} (A : List α) (r v : α) (R : List α) (k : Nat) (hk : k = A.length) : (A ++ r :: R).set k v = (A ++ [v]) ++ R := by
  subst hk
  rw [List.set_append_right _ _ (Nat.le_refl _)]
  simp
/-- the row that the call fills: k of its elements are there -/
def FillCg (w : World) (g n : Nat) (l : List Cg) (k : Nat) (wr : World) : Prop :=
  k ≤ n ∧ w.heap.size ≤ g ∧ (∃ R : List Value, R.length = (n - k) * 3 ∧ wr.ownsRow w.heap.size 62 3 (.slice (some ⟨g, 0, none⟩) n n) n (cgsC (l.take k) ++ R)) ∧ Below w.heap.size w wr
theorem FillCg.keep {w wr W : World} {g n : Nat} {l : List Cg} {k : Nat} (h : FillCg w g n l k wr) (hb : Below wr.heap.size wr W) : FillCg w g n l k W := by
  obtain ⟨h1, h2, ⟨R, hR, ho⟩, hB⟩ := h
  exact ⟨h1, h2, ⟨R, hR, ho.kept (grown_of_below (row := none) hb) (by simp [Value.ownBlock])⟩, hB.trans (hb.mono hB.size)⟩
theorem FillCg.put {w wr : World} {g n : Nat} {l : List Cg} {k : Nat} (h : FillCg w g n l k wr) (hn : n = l.length) (hk : k < n) :
    FillCg w g n l (k + 1) (((wr.setCell ⟨g, k * 3, none⟩ (.string (l[k]'(by omega)).1)).setCell ⟨g, k * 3 + 1, none⟩ (.string (l[k]'(by omega)).2.1)).setCell ⟨g, k * 3 + 2, none⟩ (.bool (l[k]'(by omega)).2.2)) := by
  obtain ⟨_, hg, ⟨R, hR, ho⟩, hB⟩ := h
  have hlen : (cgsC (l.take k)).length = k * 3 := by rw [cgsC_len, List.length_take]; congr 1; omega
  match R, hR with
  | [], hR => simp at hR; omega
  | [_], hR => simp at hR; omega
  | [_, _], hR => simp at hR; omega
  | r0 :: r1 :: r2 :: R, hR =>
    have o0 := (ho.stored (k * 3) (.string (l[k]'(by omega)).1)).1
    rw [set_appCg _ _ _ _ _ hlen.symm] at o0
    have o1 := (o0.stored (k * 3 + 1) (.string (l[k]'(by omega)).2.1)).1
    rw [set_appCg _ _ _ _ _ (by simp [hlen])] at o1
    have o2 := (o1.stored (k * 3 + 2) (.bool (l[k]'(by omega)).2.2)).1
    rw [set_appCg _ _ _ _ _ (by simp [hlen])] at o2
    refine ⟨by omega, hg, ⟨R, by simp at hR; omega, ?_⟩, (((hB.setCell hg _).setCell hg _).setCell hg _)⟩
    have e : cgsC (l.take (k + 1)) = cgsC (l.take k) ++ [.string (l[k]'(by omega)).1] ++ [.string (l[k]'(by omega)).2.1] ++ [.bool (l[k]'(by omega)).2.2] := by
      rw [List.take_succ_eq_append_getElem (by omega), cgsC_snoc, List.append_assoc, List.append_assoc]; rfl
    rw [e]
    exact o2
theorem FillCg.start {w w1 : World} {n : Nat} {l : List Cg} {z : Array Value} (hown : w1.ownsRow w.heap.size 62 3 (.slice (some ⟨w.heap.size, 0, none⟩) n n) n (madeCells z (n * 3)).toList) (hg : w.grownBy w1 none) : FillCg w w.heap.size n l 0 w1 :=
  ⟨by omega, by omega, ⟨(madeCells z (n * 3)).toList, by simp [size_madeCells], by simpa [cgsC] using hown⟩, (Below.refl _ _).grown hg (Nat.le_refl _) (by simp)⟩
theorem FillCg.cells {w wr : World} {g n : Nat} {l : List Cg} {k : Nat} (h : FillCg w g n l k wr) (hk : k < n) :
    (∃ u, wr.cell? ⟨g, k * 3, none⟩ = some u) ∧ (∃ u, wr.cell? ⟨g, k * 3 + 1, none⟩ = some u) ∧ (∃ u, wr.cell? ⟨g, k * 3 + 2, none⟩ = some u) ∧ wr.frozen? ⟨g, k * 3, none⟩ = false ∧ wr.frozen? ⟨g, k * 3 + 1, none⟩ = false ∧ wr.frozen? ⟨g, k * 3 + 2, none⟩ = false := by
  obtain ⟨_, hg, ⟨R, hR, ho⟩, hB⟩ := h
  have c0 := ho.cellAt (k * 3) (by omega)
  have c1 := ho.cellAt (k * 3 + 1) (by omega)
  have c2 := ho.cellAt (k * 3 + 2) (by omega)
  rw [List.getElem?_eq_getElem (by rw [ho.1]; omega)] at c0 c1 c2
  exact ⟨⟨_, c0⟩, ⟨_, c1⟩, ⟨_, c2⟩, ho.frozenAt _, ho.frozenAt _, ho.frozenAt _⟩
/-- a list of the call's own, in a row -/
def OwnCg (B : Nat) (l : List Cg) (v : Value) (w : World) : Prop :=
  ∃ (A : Option Addr) (c : Nat), v = .slice A l.length c ∧ w.ownsRow B 62 3 (.slice A l.length c) l.length (cgsC l)
theorem FillCg.done {w wr : World} {g n : Nat} {l : List Cg} (h : FillCg w g n l n wr) (hn : n = l.length) : OwnCg w.heap.size l (.slice (some ⟨g, 0, none⟩) n n) wr ∧ Below w.heap.size w wr := by
  obtain ⟨_, hg, ⟨R, hR, ho⟩, hB⟩ := h
  have : R = [] := List.eq_nil_of_length_eq_zero (by omega)
  subst this
  rw [List.append_nil, hn, List.take_length] at ho
  subst hn
  exact ⟨⟨_, _, rfl, ho⟩, hB⟩
def CgsPost (l : List Cg) (w : World) (e : Ending) (w' : World) : Prop := ∃ v, e = .returned v ∧ OwnCg w.heap.size l v w' ∧ Below w.heap.size w w'

set_option maxRecDepth 100000 in
set_option maxHeartbeats 1000000 in
theorem toOpS_any (A : Option Addr) (n c : Nat) (l : List Cg) (w : World) (hr : RowAt w w.heap.size A (cgsC l)) (hn : n = l.length) (hs : n ≤ 1048576) :
    Calls Try.prog 24 #[.slice A n c] w (CgsPost l w) := by
  obtain ⟨i0, hi0, hz0, hz1, hz2⟩ := info_parts cgInfo
  have HR := Lib.hid hr; clear hr
  have HN := Lib.hid hn; clear hn
  have hb2 : i0.bytes * n ≤ 281474976710656 := by rw [hz2]; omega
  have HI := Lib.hid (And.intro hi0 (And.intro hz0 (And.intro hz1 hz2))); clear hi0 hz0 hz1 hz2
  go_enter Try.func24, Try.ntmps24
  go_wp2_with ((refine wpList_make_full _ rfl _ _ 24 rfl w.heap.size 62 i0 (.agg #[.string ⟨#[]⟩, .string ⟨#[]⟩, .bool false]) 3 Try.underlying24 HI.out.1 HI.out.2.1 HI.out.2.2.1 .i64 .i64 _ _ n rfl rfl rfl rfl hb2 (by unfold maxLen; omega) (Nat.le_refl _) ?_
                intro w1 hown hg1
                have HF := Lib.hid (FillCg.start (l := l) hown hg1)
                clear hown hg1))
  clear hb2
  go_loopw [4] (fun i wr => ∃ k : Nat, i = .int .i64 k ∧ FillCg w w.heap.size n l k wr) (fun i _ => n - (intOf i).toNat)
  case atStart => exact ⟨0, rfl, HF.out⟩
  case round =>
    clear HF
    obtain ⟨k, rfl, hf⟩ := hrel
    have HF := Lib.hid hf; clear hf
    have hk := HF.out.1
    by_cases hlt : k < n
    · have hkl : k < l.length := by have := HN.out; omega
      obtain ⟨b, off, rfl, hbw, e0, e1, e2⟩ := cgs_at (HR.out.below HF.out.2.2.2) hkl
      have HT := Lib.hid (fun w => toOp_any l[k].1 l[k].2.1 l[k].2.2 w)
      have HS := Lib.hid (fun W hb => (HF.out.keep (W := W) hb).put HN.out hlt)
      have HC := Lib.hid (fun W hb => (HF.out.keep (W := W) hb).cells hlt)
      generalize hx0 : l[k].1 = x0 at *
      generalize hx1 : l[k].2.1 = x1 at *
      generalize hx2 : l[k].2.2 = x2 at *
      clear hx0 hx1 hx2
      go_wp2_with fail
      refine (HT.out _).mono ?_
      rintro e w3 ⟨rfl, hb3⟩
      have HB3 := Lib.hid hb3; clear hb3
      obtain ⟨⟨u0, c0⟩, ⟨u1, c1⟩, ⟨u2, c2⟩, f0, f1, f2⟩ := HC.out _ HB3.out
      go_wp2_with fail
      go_roundw
      case rel => exact ⟨k + 1, by go_num, HS.out _ HB3.out⟩
      case measure => simp [intOf]; omega
    · obtain rfl : k = n := by omega
      have HD := Lib.hid (HF.out.done HN.out)
      go_wp2_with fail
      go_ret
      exact ⟨_, rfl, HD.out⟩

theorem eqOp_same (x0 : ByteArray) (x1 : ByteArray) (x2 : Bool) (w : World) (s0 : x0.size ≤ maxLen) (s1 : x1.size ≤ maxLen) :
    Calls Try.prog 37 #[.agg #[.string x0, .string x1, .bool x2], .agg #[.string x0, .string x1, .bool x2]] w fun e w' => e = .returned (.bool true) ∧ Below w.heap.size w w' := by
  have hB : ∀ o1 o2, Below w.heap.size w ((w.alloc o1).alloc o2) := fun o1 o2 => ((Below.refl _ _).alloc (Nat.le_refl _) _).alloc (by simp) _
  cases x2
  all_goals
    go_enter Try.func37, Try.ntmps37
    go_wp2
    go_ret
    exact ⟨rfl, hB _ _⟩

set_option maxHeartbeats 1000000 in
set_option maxRecDepth 100000 in
theorem eqOpS_same (A1 A2 : Option Addr) (n c1 c2 : Nat) (l : List Cg) (w : World) (h1 : RowAt w w.heap.size A1 (cgsC l)) (h2 : RowAt w w.heap.size A2 (cgsC l)) (hn : n = l.length) (hs : n ≤ 1048576) (hw : ∀ p ∈ l, GoodCg p) :
    Calls Try.prog 11 #[.slice A1 n c1, .slice A2 n c2] w fun e w' => e = .returned (.bool true) ∧ Below w.heap.size w w' := by
  have H1 := Lib.hid h1; clear h1
  have H2 := Lib.hid h2; clear h2
  have HN := Lib.hid hn; clear hn
  have HW := Lib.hid hw; clear hw
  go_enter Try.func11, Try.ntmps11
  go_wp2
  go_loopw [5] (fun i wr => ∃ k : Nat, k ≤ n ∧ i = .int .i64 k ∧ Below w.heap.size w wr) (fun i _ => n - (intOf i).toNat)
  case atStart => exact ⟨0, by omega, rfl, Below.refl _ _⟩
  case round =>
    obtain ⟨k, hk, rfl, hb⟩ := hrel
    have HB := Lib.hid hb; clear hb
    by_cases hlt : k < n
    · have hk1 : k < l.length := by have := HN.out; omega
      obtain ⟨b, off, rfl, hbw, e0, e1, e2⟩ := cgs_at (H1.out.below HB.out) hk1
      obtain ⟨b2, off2, rfl, hbw2, d0, d1, d2⟩ := cgs_at (H2.out.below HB.out) hk1
      have hg := HW.out l[k] (List.getElem_mem hk1)
      unfold GoodCg at hg
      have HE := Lib.hid (fun w => eqOp_same l[k].1 l[k].2.1 l[k].2.2 w hg.1 hg.2)
      clear hg
      generalize hx0 : l[k].1 = x0 at *
      generalize hx1 : l[k].2.1 = x1 at *
      generalize hx2 : l[k].2.2 = x2 at *
      clear hx0 hx1 hx2
      go_wp2_with fail
      go_still_tail 8, (by kernel_rfl)
      go_wp2_with fail
      refine (HE.out _).mono ?_
      rintro e w3 ⟨rfl, hb3⟩
      have HB3 := Lib.hid (HB.out.trans ((below_drewN _ _).trans (hb3.mono HB.out.size))); clear hb3
      go_wp2_with fail
      go_roundw
      case rel => exact ⟨k + 1, by omega, by go_num, HB3.out⟩
      case measure => simp [intOf]; omega
    · obtain rfl : k = n := by omega
      go_wp2_with fail
      go_ret
      exact ⟨rfl, HB.out⟩

end Go.Proofs.Ytcaekjbalkbliaa
