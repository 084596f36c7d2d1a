/- Contracts of the exact laws' own helpers on lists of Version: sz, to, eq, and how such an argument is opened. Conditions: the elements lie in a row; they are few. -/
import Derived.Test.YtcaekjbalkbliaaKey
import Derived.Test.YtcaekjbalkbliaaOpen
import Derived.StillTailTactics
import Derived.Deep.RegionWith
set_option linter.unusedVariables false
set_option linter.unusedSimpArgs false
namespace Go.Proofs.Ytcaekjbalkbliaa
open Go.RowKit Go.ChangeShapes Go.WideShapes

abbrev Vr := ByteArray × ByteArray × Bool × Int
def vrC (p : Vr) : List Value := [.string p.1, .string p.2.1, .bool p.2.2.1, .int .i64 p.2.2.2]
theorem vrC_len (p : Vr) : (vrC p).length = 4 := rfl
def vrsC (l : List Vr) : List Value := l.flatMap vrC
theorem vrsC_len (l : List Vr) : (vrsC l).length = l.length * 4 := flat_len vrC 4 vrC_len l
theorem vrsC_app (a b : List Vr) : vrsC (a ++ b) = vrsC a ++ vrsC b := by unfold vrsC; rw [List.flatMap_append]
theorem vrsC_snoc (A : List Vr) (x : Vr) : vrsC (A ++ [x]) = vrsC A ++ vrC x := by rw [vrsC_app]; simp [vrsC]
theorem vrsC_at0 {l : List Vr} {k : Nat} (h : k < l.length) : (vrsC l)[k * 4]? = some (.string l[k].1) := by
  have := flat_at vrC 4 vrC_len l k 0 (by omega)
  rw [Nat.add_zero] at this
  rw [vrsC, this, List.getElem?_eq_getElem h]; rfl
theorem vrsC_at1 {l : List Vr} {k : Nat} (h : k < l.length) : (vrsC l)[k * 4 + 1]? = some (.string l[k].2.1) := by
  have := flat_at vrC 4 vrC_len l k 1 (by omega)
  rw [vrsC, this, List.getElem?_eq_getElem h]; rfl
theorem vrsC_at2 {l : List Vr} {k : Nat} (h : k < l.length) : (vrsC l)[k * 4 + 2]? = some (.bool l[k].2.2.1) := by
  have := flat_at vrC 4 vrC_len l k 2 (by omega)
  rw [vrsC, this, List.getElem?_eq_getElem h]; rfl
theorem vrsC_at3 {l : List Vr} {k : Nat} (h : k < l.length) : (vrsC l)[k * 4 + 3]? = some (.int .i64 l[k].2.2.2) := by
  have := flat_at vrC 4 vrC_len l k 3 (by omega)
  rw [vrsC, this, List.getElem?_eq_getElem h]; rfl
theorem vrs_at {w : World} {B : Nat} {A : Option Addr} {l : List Vr} {k : Nat} (h : RowAt w B A (vrsC l)) (hk : k < l.length) :
    ∃ b off, A = some ⟨b, off, none⟩ ∧ b < B ∧ w.cell? ⟨b, off + k * 4, none⟩ = some (.string l[k].1) ∧ w.cell? ⟨b, off + k * 4 + 1, none⟩ = some (.string l[k].2.1) ∧ w.cell? ⟨b, off + k * 4 + 2, none⟩ = some (.bool l[k].2.2.1) ∧ w.cell? ⟨b, off + k * 4 + 3, none⟩ = some (.int .i64 l[k].2.2.2) := by
  obtain ⟨b, off, rfl, hb, hc⟩ := h (by intro h0; have := vrsC_len l; rw [h0] at this; simp at this; omega)
  exact ⟨b, off, rfl, hb, hc _ _ (vrsC_at0 hk), by rw [Nat.add_assoc]; exact hc _ _ (vrsC_at1 hk), by rw [Nat.add_assoc]; exact hc _ _ (vrsC_at2 hk), by rw [Nat.add_assoc]; exact hc _ _ (vrsC_at3 hk)⟩
theorem vrInfo : (Try.prog.info? 71).map (fun i => (i.zero, i.size, i.bytes)) = some (some (.agg #[.string ⟨#[]⟩, .string ⟨#[]⟩, .bool false, .int .i64 0]), 4, 48) := by kernel_rfl
def GoodVr (p : Vr) : Prop := p.1.size ≤ maxLen ∧ p.2.1.size ≤ maxLen ∧ (-9223372036854775808 ≤ p.2.2.2 ∧ p.2.2.2 ≤ 9223372036854775807)
def SmallVr (p : Vr) : Prop := p.1.size ≤ 1048576 ∧ p.2.1.size ≤ 1048576
def WfVr (l : List Vr) : Prop := ∀ p ∈ l, GoodVr p

theorem vr_cells : Try.prog.cellsOf 68 = 4 := by kernel_rfl
theorem vr_cells_bool : Try.prog.cellsOf 4 = 1 := by kernel_rfl
theorem vr_cells_int : Try.prog.cellsOf 3 = 1 := by kernel_rfl
theorem vr_cells_string : Try.prog.cellsOf 9 = 1 := by kernel_rfl
section
variable {H : Type} {enc : TypeId × Value → H} {P : Program} {w : World} {base : Nat} {spare : Nat → Bool} {held : Bool}
theorem vr_shape {t e : TypeId} {fuel : Nat} {v : Value} {x : DataW H × List MemPlace} (ht : P.underlying t = some (.slice e)) (h : DataW.trod enc P w base spare held fuel t [v] = some x) : ∃ A n c, v = .slice A n c := by
  rcases Go.Deep.open_slice ht h with ⟨hcs, _⟩ | ⟨ad, len, cap, m, q, D, Pl, hcs, _⟩
  · exact ⟨none, 0, 0, by simpa using hcs⟩
  · exact ⟨some ad, len, cap, by simpa using hcs⟩
set_option maxRecDepth 100000 in
theorem vr_wf {n : Int} (h : (Lit.int .i64 n).wf = true) : -9223372036854775808 ≤ n ∧ n ≤ 9223372036854775807 := by
  simpa [Lit.wf, IntKind.min, IntKind.max, IntKind.signed, IntKind.bits] using h
theorem vr_trods {t : TypeId} {f0 f1 f2 f3 : Field} {fuel : Nat} {cs : List Value} {x : DataW H × List MemPlace} (ht : P.underlying t = some (.struct #[f0, f1, f2, f3])) (h : DataW.trod enc P w base spare held fuel t cs = some x) :
    ∃ y0 y1 y2 y3 n, True ∧ cs.length = P.cellsOf t ∧ DataW.trod enc P w base spare held n f0.type ((cs.drop f0.offset).take (P.cellsOf f0.type)) = some y0 ∧ DataW.trod enc P w base spare held n f1.type ((cs.drop f1.offset).take (P.cellsOf f1.type)) = some y1 ∧ DataW.trod enc P w base spare held n f2.type ((cs.drop f2.offset).take (P.cellsOf f2.type)) = some y2 ∧ DataW.trod enc P w base spare held n f3.type ((cs.drop f3.offset).take (P.cellsOf f3.type)) = some y3 := by
  obtain ⟨xs, n, _, rfl, hl, hlen, hf⟩ := DataW.trod_struct ht h
  match xs, hlen with
  | [y0, y1, y2, y3], _ => exact ⟨y0, y1, y2, y3, n, trivial, hl, by simpa using hf 0 f0 rfl, by simpa using hf 1 f1 rfl, by simpa using hf 2 f2 rfl, by simpa using hf 3 f3 rfl⟩
set_option maxRecDepth 100000 in
theorem vr_read (m : Nat) (cs : List Value) (y : DataW H × List MemPlace) (hy : DataW.trod enc Try.prog w base spare held m 68 cs = some y) : ∃ a, cs = vrC a ∧ GoodVr a := by
  obtain ⟨y0, y1, y2, y3, q, _, hl, h0, h1, h2, h3⟩ := vr_trods Try.underlying68 hy
  rw [vr_cells] at hl
  match cs, hl with
  | [v0, v1, v2, v3], _ =>
    obtain ⟨a0, e0, _, w0⟩ := DataW.trod_string Try.underlying9 h0
    obtain ⟨a1, e1, _, w1⟩ := DataW.trod_string Try.underlying9 h1
    obtain ⟨a2, e2, _⟩ := DataW.trod_bool Try.underlying4 h2
    obtain ⟨a3, e3, _, w3⟩ := DataW.trod_int Try.underlying3 h3
    rw [vr_cells_string] at e0
    rw [vr_cells_string] at e1
    rw [vr_cells_bool] at e2
    rw [vr_cells_int] at e3
    simp at e0 e1 e2 e3
    subst e0 e1 e2 e3
    exact ⟨(a0, a1, a2, a3), rfl, w0, w1, vr_wf w3⟩
/-- a list of Version as an argument, as it was read -/
def VrArg (w : World) (A : Option Addr) (n c : Nat) (l : List Vr) : Prop := n = l.length ∧ n ≤ c ∧ c ≤ maxLen ∧ RowAt w w.heap.size A (vrsC l) ∧ WfVr l
theorem open_vr {fuel : Nat} {A : Option Addr} {n c : Nat} {x : DataW H × List MemPlace} (h : DataW.trod enc Try.prog w base spare held fuel 33 [.slice A n c] = some x) : ∃ l : List Vr, VrArg w A n c l := by
  have hE : ∀ (m : Nat) (cs : List Value) (y : DataW H × List MemPlace), DataW.trod enc Try.prog w base spare held m 68 cs = some y → ∃ a, cs = vrC a ∧ GoodVr a := vr_read
  obtain ⟨l, h1, h2, h3, h4, h5⟩ := open_rows vrC GoodVr 4 (by decide) vrC_len Try.underlying33 vr_cells hE h
  exact ⟨l, h1, h2, h3, h4, h5⟩
end

theorem szVersion_any (x0 : ByteArray) (x1 : ByteArray) (x2 : Bool) (x3 : Int) (L : Int) (w : World) (s0 : x0.size ≤ maxLen) (s1 : x1.size ≤ maxLen) (h0 : 0 ≤ L) (hL : L ≤ 1048576) :
    Calls Try.prog 40 #[.agg #[.string x0, .string x1, .bool x2, .int .i64 x3], .int .i64 L] w fun e w' => (∃ v : Int, e = .returned (.int .i64 v) ∧ (v < 0 ∨ (0 ≤ v ∧ v ≤ L ∧ x0.size ≤ 1048576 ∧ x1.size ≤ 1048576))) ∧ Below w.heap.size w w' := by
  unfold maxLen at s0
  unfold maxLen at s1
  have hB := fun o => (Below.refl w.heap.size w).alloc (Nat.le_refl _) o
  go_enter Try.func40, Try.ntmps40
  go_wp2
  all_goals go_ret
  all_goals first | exact ⟨⟨_, rfl, Or.inl (by omega)⟩, hB _⟩ | exact ⟨⟨_, rfl, Or.inr ⟨by omega, by omega, by omega, by omega⟩⟩, hB _⟩

set_option maxRecDepth 100000 in
set_option maxHeartbeats 1000000 in
theorem szVersionS_any (A : Option Addr) (n c : Nat) (l : List Vr) (L : Int) (w : World) (hr : RowAt w w.heap.size A (vrsC l)) (hn : n = l.length) (hm : n ≤ maxLen) (hw : WfVr l) (h0 : 0 ≤ L) (hL : L ≤ 1048576) :
    Calls Try.prog 16 #[.slice A n c, .int .i64 L] w fun e w' => (∃ v : Int, e = .returned (.int .i64 v) ∧ (v < 0 ∨ (0 ≤ v ∧ v ≤ L ∧ n ≤ 1048576 ∧ ∀ p ∈ l, SmallVr p))) ∧ Below w.heap.size w w' := by
  unfold maxLen at hm
  have HR := Lib.hid hr; clear hr
  have HN := Lib.hid hn; clear hn
  have HW := Lib.hid hw; clear hw
  by_cases hnl : (n : Int) ≤ L
  · go_enter Try.func16, Try.ntmps16
    go_wp2_with fail
    go_loopw [1, 5] (fun q i wr => ∃ (k : Nat) (v : Int), i = .int .i64 k ∧ q = .int .i64 v ∧ k ≤ n ∧ 0 ≤ v ∧ v ≤ L ∧ (∀ p ∈ l.take k, SmallVr p) ∧ Below w.heap.size w wr) (fun _ i _ => n - (intOf i).toNat)
    case atStart => exact ⟨0, L - n, rfl, rfl, Nat.zero_le _, by omega, by omega, by simp, Below.refl _ _⟩
    case round =>
      obtain ⟨k, v, rfl, rfl, hk, hv0, hv1, hs, hb⟩ := hrel
      have HS := Lib.hid hs; clear hs
      have HB := Lib.hid hb; clear hb
      by_cases hlt : k < n
      · have hkl : k < l.length := by have := HN.out; omega
        obtain ⟨b, off, rfl, hbw, e0, e1, e2, e3⟩ := vrs_at (HR.out.below HB.out) hkl
        have hg := HW.out l[k] (List.getElem_mem hkl)
        have HT := Lib.hid (show l.take (k + 1) = l.take k ++ [l[k]] from List.take_succ_eq_append_getElem hkl)
        unfold GoodVr at hg
        obtain ⟨g0, g1, g3⟩ := hg
        have HC := Lib.hid (fun w => szVersion_any l[k].1 l[k].2.1 l[k].2.2.1 l[k].2.2.2 v w g0 g1 hv0 (by omega))
        go_wp2_with fail
        refine (HC.out _).mono ?_
        rintro e w3 ⟨⟨v2, rfl, hv2⟩, hb3⟩
        have HB3 := Lib.hid (HB.out.trans (hb3.mono HB.out.size)); clear hb3
        rcases Int.lt_or_le v2 0 with hneg | hpos
        · clear hv2
          go_wp2_with fail
          go_ret
          exact ⟨⟨_, rfl, Or.inl (by omega)⟩, HB3.out⟩
        · have hv3 : v2 ≤ v ∧ l[k].1.size ≤ 1048576 ∧ l[k].2.1.size ≤ 1048576 := by
            rcases hv2 with h | h
            · omega
            · exact h.2
          have HS3 := Lib.hid (show ∀ p ∈ l.take (k + 1), SmallVr p by
            rw [HT.out]
            intro p hp
            rcases List.mem_append.1 hp with h | h
            · exact HS.out p h
            · rw [List.mem_singleton.1 h]; exact hv3.2)
          have hv4 := hv3.1
          clear hv2 hv3
          go_wp2_with fail
          go_roundw
          case rel => exact ⟨k + 1, v2, by go_num, rfl, by omega, hpos, by omega, HS3.out, HB3.out⟩
          case measure => simp [intOf]; omega
      · obtain rfl : k = n := by omega
        have HS2 := Lib.hid (show ∀ p ∈ l, SmallVr p by
          have := HS.out; rw [HN.out, List.take_length] at this; exact this)
        go_wp2_with fail
        go_ret
        exact ⟨⟨_, rfl, Or.inr ⟨hv0, hv1, by omega, HS2.out⟩⟩, HB.out⟩
  · go_enter Try.func16, Try.ntmps16
    go_wp2_with fail
    go_ret
    exact ⟨⟨_, rfl, Or.inl (by omega)⟩, Below.refl _ _⟩

theorem toVersion_any (x0 : ByteArray) (x1 : ByteArray) (x2 : Bool) (x3 : Int) (w : World) :
    Calls Try.prog 44 #[.agg #[.string x0, .string x1, .bool x2, .int .i64 x3]] w fun e w' => e = .returned (.agg #[.string x0, .string x1, .bool x2, .int .i64 x3]) ∧ Below w.heap.size w w' := by
  go_enter Try.func44, Try.ntmps44
  go_wp2
  refine bodyPost_ret (v := .agg #[.string x0, .string x1, .bool x2, .int .i64 x3]) (by simp [results, Try.results44, go_sem]) rfl ⟨rfl, ?_⟩
  exact (((Below.refl _ _).alloc (Nat.le_refl _) _).alloc (by simp) _).alloc (by simp; omega) _
theorem set_appVr {α : Type} (A : List α) (r v : α) (R : List α) (k : Nat) (hk : k = A.length) : (A ++ r :: R).set k v = (A ++ [v]) ++ R := by
  subst hk
  rw [List.set_append_right _ _ (Nat.le_refl _)]
  simp
/-- the row that the call fills: k of its elements are there -/
def FillVr (w : World) (g n : Nat) (l : List Vr) (k : Nat) (wr : World) : Prop :=
  k ≤ n ∧ w.heap.size ≤ g ∧ (∃ R : List Value, R.length = (n - k) * 4 ∧ wr.ownsRow w.heap.size 71 4 (.slice (some ⟨g, 0, none⟩) n n) n (vrsC (l.take k) ++ R)) ∧ Below w.heap.size w wr
theorem FillVr.keep {w wr W : World} {g n : Nat} {l : List Vr} {k : Nat} (h : FillVr w g n l k wr) (hb : Below wr.heap.size wr W) : FillVr w g n l k W := by
  obtain ⟨h1, h2, ⟨R, hR, ho⟩, hB⟩ := h
  exact ⟨h1, h2, ⟨R, hR, ho.kept (grown_of_below (row := none) hb) (by simp [Value.ownBlock])⟩, hB.trans (hb.mono hB.size)⟩
theorem FillVr.put {w wr : World} {g n : Nat} {l : List Vr} {k : Nat} (h : FillVr w g n l k wr) (hn : n = l.length) (hk : k < n) :
    FillVr w g n l (k + 1) ((((wr.setCell ⟨g, k * 4, none⟩ (.string (l[k]'(by omega)).1)).setCell ⟨g, k * 4 + 1, none⟩ (.string (l[k]'(by omega)).2.1)).setCell ⟨g, k * 4 + 2, none⟩ (.bool (l[k]'(by omega)).2.2.1)).setCell ⟨g, k * 4 + 3, none⟩ (.int .i64 (l[k]'(by omega)).2.2.2)) := by
  obtain ⟨_, hg, ⟨R, hR, ho⟩, hB⟩ := h
  have hlen : (vrsC (l.take k)).length = k * 4 := by rw [vrsC_len, List.length_take]; congr 1; omega
  match R, hR with
  | [], hR => simp at hR; omega
  | [_], hR => simp at hR; omega
  | [_, _], hR => simp at hR; omega
  | [_, _, _], hR => simp at hR; omega
  | r0 :: r1 :: r2 :: r3 :: R, hR =>
    have o0 := (ho.stored (k * 4) (.string (l[k]'(by omega)).1)).1
    rw [set_appVr _ _ _ _ _ hlen.symm] at o0
    have o1 := (o0.stored (k * 4 + 1) (.string (l[k]'(by omega)).2.1)).1
    rw [set_appVr _ _ _ _ _ (by simp [hlen])] at o1
    have o2 := (o1.stored (k * 4 + 2) (.bool (l[k]'(by omega)).2.2.1)).1
    rw [set_appVr _ _ _ _ _ (by simp [hlen])] at o2
    have o3 := (o2.stored (k * 4 + 3) (.int .i64 (l[k]'(by omega)).2.2.2)).1
    rw [set_appVr _ _ _ _ _ (by simp [hlen])] at o3
    refine ⟨by omega, hg, ⟨R, by simp at hR; omega, ?_⟩, ((((hB.setCell hg _).setCell hg _).setCell hg _).setCell hg _)⟩
    have e : vrsC (l.take (k + 1)) = vrsC (l.take k) ++ [.string (l[k]'(by omega)).1] ++ [.string (l[k]'(by omega)).2.1] ++ [.bool (l[k]'(by omega)).2.2.1] ++ [.int .i64 (l[k]'(by omega)).2.2.2] := by
      rw [List.take_succ_eq_append_getElem (by omega), vrsC_snoc, List.append_assoc, List.append_assoc, List.append_assoc]; rfl
    rw [e]
    exact o3
theorem FillVr.start {w w1 : World} {n : Nat} {l : List Vr} {z : Array Value} (hown : w1.ownsRow w.heap.size 71 4 (.slice (some ⟨w.heap.size, 0, none⟩) n n) n (madeCells z (n * 4)).toList) (hg : w.grownBy w1 none) : FillVr w w.heap.size n l 0 w1 :=
  ⟨by omega, by omega, ⟨(madeCells z (n * 4)).toList, by simp [size_madeCells], by simpa [vrsC] using hown⟩, (Below.refl _ _).grown hg (Nat.le_refl _) (by simp)⟩
theorem FillVr.cells {w wr : World} {g n : Nat} {l : List Vr} {k : Nat} (h : FillVr w g n l k wr) (hk : k < n) :
    (∃ u, wr.cell? ⟨g, k * 4, none⟩ = some u) ∧ (∃ u, wr.cell? ⟨g, k * 4 + 1, none⟩ = some u) ∧ (∃ u, wr.cell? ⟨g, k * 4 + 2, none⟩ = some u) ∧ (∃ u, wr.cell? ⟨g, k * 4 + 3, none⟩ = some u) ∧ wr.frozen? ⟨g, k * 4, none⟩ = false ∧ wr.frozen? ⟨g, k * 4 + 1, none⟩ = false ∧ wr.frozen? ⟨g, k * 4 + 2, none⟩ = false ∧ wr.frozen? ⟨g, k * 4 + 3, none⟩ = false := by
  obtain ⟨_, hg, ⟨R, hR, ho⟩, hB⟩ := h
  have c0 := ho.cellAt (k * 4) (by omega)
  have c1 := ho.cellAt (k * 4 + 1) (by omega)
  have c2 := ho.cellAt (k * 4 + 2) (by omega)
  have c3 := ho.cellAt (k * 4 + 3) (by omega)
  rw [List.getElem?_eq_getElem (by rw [ho.1]; omega)] at c0 c1 c2 c3
  exact ⟨⟨_, c0⟩, ⟨_, c1⟩, ⟨_, c2⟩, ⟨_, c3⟩, ho.frozenAt _, ho.frozenAt _, ho.frozenAt _, ho.frozenAt _⟩
/-- a list of the call's own, in a row -/
def OwnVr (B : Nat) (l : List Vr) (v : Value) (w : World) : Prop :=
  ∃ (A : Option Addr) (c : Nat), v = .slice A l.length c ∧ w.ownsRow B 71 4 (.slice A l.length c) l.length (vrsC l)
theorem FillVr.done {w wr : World} {g n : Nat} {l : List Vr} (h : FillVr w g n l n wr) (hn : n = l.length) : OwnVr w.heap.size l (.slice (some ⟨g, 0, none⟩) n n) wr ∧ Below w.heap.size w wr := by
  obtain ⟨_, hg, ⟨R, hR, ho⟩, hB⟩ := h
  have : R = [] := List.eq_nil_of_length_eq_zero (by omega)
  subst this
  rw [List.append_nil, hn, List.take_length] at ho
  subst hn
  exact ⟨⟨_, _, rfl, ho⟩, hB⟩
def VrsPost (l : List Vr) (w : World) (e : Ending) (w' : World) : Prop := ∃ v, e = .returned v ∧ OwnVr w.heap.size l v w' ∧ Below w.heap.size w w'

set_option maxRecDepth 100000 in
set_option maxHeartbeats 1000000 in
theorem toVersionS_any (A : Option Addr) (n c : Nat) (l : List Vr) (w : World) (hr : RowAt w w.heap.size A (vrsC l)) (hn : n = l.length) (hs : n ≤ 1048576) :
    Calls Try.prog 18 #[.slice A n c] w (VrsPost l w) := by
  obtain ⟨i0, hi0, hz0, hz1, hz2⟩ := info_parts vrInfo
  have HR := Lib.hid hr; clear hr
  have HN := Lib.hid hn; clear hn
  have hb2 : i0.bytes * n ≤ 281474976710656 := by rw [hz2]; omega
  have HI := Lib.hid (And.intro hi0 (And.intro hz0 (And.intro hz1 hz2))); clear hi0 hz0 hz1 hz2
  go_enter Try.func18, Try.ntmps18
  go_wp2_with ((refine wpList_make_full _ rfl _ _ 36 rfl w.heap.size 71 i0 (.agg #[.string ⟨#[]⟩, .string ⟨#[]⟩, .bool false, .int .i64 0]) 4 Try.underlying36 HI.out.1 HI.out.2.1 HI.out.2.2.1 .i64 .i64 _ _ n rfl rfl rfl rfl hb2 (by unfold maxLen; omega) (Nat.le_refl _) ?_
                intro w1 hown hg1
                have HF := Lib.hid (FillVr.start (l := l) hown hg1)
                clear hown hg1))
  clear hb2
  go_loopw [4] (fun i wr => ∃ k : Nat, i = .int .i64 k ∧ FillVr w w.heap.size n l k wr) (fun i _ => n - (intOf i).toNat)
  case atStart => exact ⟨0, rfl, HF.out⟩
  case round =>
    clear HF
    obtain ⟨k, rfl, hf⟩ := hrel
    have HF := Lib.hid hf; clear hf
    have hk := HF.out.1
    by_cases hlt : k < n
    · have hkl : k < l.length := by have := HN.out; omega
      obtain ⟨b, off, rfl, hbw, e0, e1, e2, e3⟩ := vrs_at (HR.out.below HF.out.2.2.2) hkl
      have HT := Lib.hid (fun w => toVersion_any l[k].1 l[k].2.1 l[k].2.2.1 l[k].2.2.2 w)
      have HS := Lib.hid (fun W hb => (HF.out.keep (W := W) hb).put HN.out hlt)
      have HC := Lib.hid (fun W hb => (HF.out.keep (W := W) hb).cells hlt)
      generalize hx0 : l[k].1 = x0 at *
      generalize hx1 : l[k].2.1 = x1 at *
      generalize hx2 : l[k].2.2.1 = x2 at *
      generalize hx3 : l[k].2.2.2 = x3 at *
      clear hx0 hx1 hx2 hx3
      go_wp2_with fail
      refine (HT.out _).mono ?_
      rintro e w3 ⟨rfl, hb3⟩
      have HB3 := Lib.hid hb3; clear hb3
      obtain ⟨⟨u0, c0⟩, ⟨u1, c1⟩, ⟨u2, c2⟩, ⟨u3, c3⟩, f0, f1, f2, f3⟩ := HC.out _ HB3.out
      go_wp2_with fail
      go_roundw
      case rel => exact ⟨k + 1, by go_num, HS.out _ HB3.out⟩
      case measure => simp [intOf]; omega
    · obtain rfl : k = n := by omega
      have HD := Lib.hid (HF.out.done HN.out)
      go_wp2_with fail
      go_ret
      exact ⟨_, rfl, HD.out⟩

theorem eqVersion_same (x0 : ByteArray) (x1 : ByteArray) (x2 : Bool) (x3 : Int) (w : World) (s0 : x0.size ≤ maxLen) (s1 : x1.size ≤ maxLen) :
    Calls Try.prog 46 #[.agg #[.string x0, .string x1, .bool x2, .int .i64 x3], .agg #[.string x0, .string x1, .bool x2, .int .i64 x3]] w fun e w' => e = .returned (.bool true) ∧ Below w.heap.size w w' := by
  have hB : ∀ o1 o2, Below w.heap.size w ((w.alloc o1).alloc o2) := fun o1 o2 => ((Below.refl _ _).alloc (Nat.le_refl _) _).alloc (by simp) _
  cases x2
  all_goals
    have q3 : (x3 == x3) = true := by simp
    have r3 : (x3 != x3) = false := by simp
    go_enter Try.func46, Try.ntmps46
    go_wp2
    go_ret
    exact ⟨rfl, hB _ _⟩

set_option maxHeartbeats 1000000 in
set_option maxRecDepth 100000 in
theorem eqVersionS_same (A1 A2 : Option Addr) (n c1 c2 : Nat) (l : List Vr) (w : World) (h1 : RowAt w w.heap.size A1 (vrsC l)) (h2 : RowAt w w.heap.size A2 (vrsC l)) (hn : n = l.length) (hs : n ≤ 1048576) (hw : ∀ p ∈ l, GoodVr p) :
    Calls Try.prog 20 #[.slice A1 n c1, .slice A2 n c2] w fun e w' => e = .returned (.bool true) ∧ Below w.heap.size w w' := by
  have H1 := Lib.hid h1; clear h1
  have H2 := Lib.hid h2; clear h2
  have HN := Lib.hid hn; clear hn
  have HW := Lib.hid hw; clear hw
  go_enter Try.func20, Try.ntmps20
  go_wp2
  go_loopw [5] (fun i wr => ∃ k : Nat, k ≤ n ∧ i = .int .i64 k ∧ Below w.heap.size w wr) (fun i _ => n - (intOf i).toNat)
  case atStart => exact ⟨0, by omega, rfl, Below.refl _ _⟩
  case round =>
    obtain ⟨k, hk, rfl, hb⟩ := hrel
    have HB := Lib.hid hb; clear hb
    by_cases hlt : k < n
    · have hk1 : k < l.length := by have := HN.out; omega
      obtain ⟨b, off, rfl, hbw, e0, e1, e2, e3⟩ := vrs_at (H1.out.below HB.out) hk1
      obtain ⟨b2, off2, rfl, hbw2, d0, d1, d2, d3⟩ := vrs_at (H2.out.below HB.out) hk1
      have hg := HW.out l[k] (List.getElem_mem hk1)
      unfold GoodVr at hg
      have HE := Lib.hid (fun w => eqVersion_same l[k].1 l[k].2.1 l[k].2.2.1 l[k].2.2.2 w hg.1 hg.2.1)
      clear hg
      generalize hx0 : l[k].1 = x0 at *
      generalize hx1 : l[k].2.1 = x1 at *
      generalize hx2 : l[k].2.2.1 = x2 at *
      generalize hx3 : l[k].2.2.2 = x3 at *
      clear hx0 hx1 hx2 hx3
      go_wp2_with fail
      go_still_tail 8, (by kernel_rfl)
      go_wp2_with fail
      refine (HE.out _).mono ?_
      rintro e w3 ⟨rfl, hb3⟩
      have HB3 := Lib.hid (HB.out.trans ((below_drewN _ _).trans (hb3.mono HB.out.size))); clear hb3
      go_wp2_with fail
      go_roundw
      case rel => exact ⟨k + 1, by omega, by go_num, HB3.out⟩
      case measure => simp [intOf]; omega
    · obtain rfl : k = n := by omega
      go_wp2_with fail
      go_ret
      exact ⟨rfl, HB.out⟩

end Go.Proofs.Ytcaekjbalkbliaa
