/- Contracts of the exact laws' own helpers on lists of Entry: sz, to, eq, and how such an argument is opened. Conditions: the elements lie in a row; they are few. -/
import Derived.Test.YtgoonccjdoajnaaKey
import Derived.Test.YtgoonccjdoajnaaOpen
import Derived.StillTailTactics
import Derived.Deep.RegionWith
set_option linter.unusedVariables false
set_option linter.unusedSimpArgs false
namespace Go.Proofs.Ytgoonccjdoajnaa
open Go.RowKit Go.ChangeShapes Go.WideShapes

abbrev En := Int × Int
def enC (p : En) : List Value := [.int .i64 p.1, .int .i64 p.2]
theorem enC_len (p : En) : (enC p).length = 2 := rfl
def ensC (l : List En) : List Value := l.flatMap enC
theorem ensC_len (l : List En) : (ensC l).length = l.length * 2 := flat_len enC 2 enC_len l
theorem ensC_app (a b : List En) : ensC (a ++ b) = ensC a ++ ensC b := by unfold ensC; rw [List.flatMap_append]
theorem ensC_snoc (A : List En) (x : En) : ensC (A ++ [x]) = ensC A ++ enC x := by rw [ensC_app]; simp [ensC]
theorem ensC_at0 {l : List En} {k : Nat} (h : k < l.length) : (ensC l)[k * 2]? = some (.int .i64 l[k].1) := by
  have := flat_at enC 2 enC_len l k 0 (by omega)
  rw [Nat.add_zero] at this
  rw [ensC, this, List.getElem?_eq_getElem h]; rfl
theorem ensC_at1 {l : List En} {k : Nat} (h : k < l.length) : (ensC l)[k * 2 + 1]? = some (.int .i64 l[k].2) := by
  have := flat_at enC 2 enC_len l k 1 (by omega)
  rw [ensC, this, List.getElem?_eq_getElem h]; rfl
theorem ens_at {w : World} {B : Nat} {A : Option Addr} {l : List En} {k : Nat} (h : RowAt w B A (ensC l)) (hk : k < l.length) :
    ∃ b off, A = some ⟨b, off, none⟩ ∧ b < B ∧ w.cell? ⟨b, off + k * 2, none⟩ = some (.int .i64 l[k].1) ∧ w.cell? ⟨b, off + k * 2 + 1, none⟩ = some (.int .i64 l[k].2) := by
  obtain ⟨b, off, rfl, hb, hc⟩ := h (by intro h0; have := ensC_len l; rw [h0] at this; simp at this; omega)
  exact ⟨b, off, rfl, hb, hc _ _ (ensC_at0 hk), by rw [Nat.add_assoc]; exact hc _ _ (ensC_at1 hk)⟩
theorem enInfo : (Try.prog.info? 63).map (fun i => (i.zero, i.size, i.bytes)) = some (some (.agg #[.int .i64 0, .int .i64 0]), 2, 16) := by kernel_rfl
def GoodEn (p : En) : Prop := (-9223372036854775808 ≤ p.1 ∧ p.1 ≤ 9223372036854775807) ∧ (-9223372036854775808 ≤ p.2 ∧ p.2 ≤ 9223372036854775807)
def SmallEn (p : En) : Prop := True
def WfEn (l : List En) : Prop := ∀ p ∈ l, GoodEn p

theorem en_cells : Try.prog.cellsOf 93 = 2 := by kernel_rfl
theorem en_cells_int : Try.prog.cellsOf 3 = 1 := by kernel_rfl
section
variable {H : Type} {enc : TypeId × Value → H} {P : Program} {w : World} {base : Nat} {spare : Nat → Bool} {held : Bool}
theorem en_shape {t e : TypeId} {fuel : Nat} {v : Value} {x : DataW H × List MemPlace} (ht : P.underlying t = some (.slice e)) (h : DataW.trod enc P w base spare held fuel t [v] = some x) : ∃ A n c, v = .slice A n c := by
  rcases Go.Deep.open_slice ht h with ⟨hcs, _⟩ | ⟨ad, len, cap, m, q, D, Pl, hcs, _⟩
  · exact ⟨none, 0, 0, by simpa using hcs⟩
  · exact ⟨some ad, len, cap, by simpa using hcs⟩
set_option maxRecDepth 100000 in
theorem en_wf {n : Int} (h : (Lit.int .i64 n).wf = true) : -9223372036854775808 ≤ n ∧ n ≤ 9223372036854775807 := by
  simpa [Lit.wf, IntKind.min, IntKind.max, IntKind.signed, IntKind.bits] using h
set_option maxRecDepth 100000 in
theorem en_read (m : Nat) (cs : List Value) (y : DataW H × List MemPlace) (hy : DataW.trod enc Try.prog w base spare held m 93 cs = some y) : ∃ a, cs = enC a ∧ GoodEn a := by
  obtain ⟨y0, y1, q, _, hl, h0, h1⟩ := trod_struct2 Try.underlying93 hy
  rw [en_cells] at hl
  match cs, hl with
  | [v0, v1], _ =>
    obtain ⟨a0, e0, _, w0⟩ := DataW.trod_int Try.underlying3 h0
    obtain ⟨a1, e1, _, w1⟩ := DataW.trod_int Try.underlying3 h1
    rw [en_cells_int] at e0
    rw [en_cells_int] at e1
    simp at e0 e1
    subst e0 e1
    exact ⟨(a0, a1), rfl, en_wf w0, en_wf w1⟩
/-- a list of Entry as an argument, as it was read -/
def EnArg (w : World) (A : Option Addr) (n c : Nat) (l : List En) : Prop := n = l.length ∧ n ≤ c ∧ c ≤ maxLen ∧ RowAt w w.heap.size A (ensC l) ∧ WfEn l
theorem open_en {fuel : Nat} {A : Option Addr} {n c : Nat} {x : DataW H × List MemPlace} (h : DataW.trod enc Try.prog w base spare held fuel 83 [.slice A n c] = some x) : ∃ l : List En, EnArg w A n c l := by
  have hE : ∀ (m : Nat) (cs : List Value) (y : DataW H × List MemPlace), DataW.trod enc Try.prog w base spare held m 93 cs = some y → ∃ a, cs = enC a ∧ GoodEn a := en_read
  obtain ⟨l, h1, h2, h3, h4, h5⟩ := open_rows enC GoodEn 2 (by decide) enC_len Try.underlying83 en_cells hE h
  exact ⟨l, h1, h2, h3, h4, h5⟩
end

theorem szEntryS_any (A : Option Addr) (n c : Nat) (L : Int) (w : World) (hm : n ≤ maxLen) (h0 : 0 ≤ L) (hL : L ≤ 1048576) :
    Calls Try.prog 68 #[.slice A n c, .int .i64 L] w fun e w' => (∃ v : Int, e = .returned (.int .i64 v) ∧ (v < 0 ∨ (0 ≤ v ∧ v ≤ L ∧ n ≤ 1048576))) ∧ w' = w := by
  unfold maxLen at hm
  go_enter Try.func68, Try.ntmps68
  go_wp2
  all_goals go_ret
  all_goals first | exact ⟨⟨_, rfl, Or.inl (by omega)⟩, rfl⟩ | exact ⟨⟨_, rfl, Or.inr ⟨by omega, by omega, by omega⟩⟩, rfl⟩
theorem toEntry_any (x0 : Int) (x1 : Int) (w : World) :
    Calls Try.prog 80 #[.agg #[.int .i64 x0, .int .i64 x1]] w fun e w' => e = .returned (.agg #[.int .i64 x0, .int .i64 x1]) ∧ Below w.heap.size w w' := by
  go_enter Try.func80, Try.ntmps80
  go_wp2
  refine bodyPost_ret (v := .agg #[.int .i64 x0, .int .i64 x1]) (by simp [results, Try.results80, go_sem]) rfl ⟨rfl, ?_⟩
  exact (((Below.refl _ _).alloc (Nat.le_refl _) _).alloc (by simp) _).alloc (by simp; omega) _
theorem set_appEn {α : Type} (A : List α) (r v : α) (R : List α) (k : Nat) (hk : k = A.length) : (A ++ r :: R).set k v = (A ++ [v]) ++ R := by
  subst hk
  rw [List.set_append_right _ _ (Nat.le_refl _)]
  simp
/-- the row that the call fills: k of its elements are there -/
def FillEn (w : World) (g n : Nat) (l : List En) (k : Nat) (wr : World) : Prop :=
  k ≤ n ∧ w.heap.size ≤ g ∧ (∃ R : List Value, R.length = (n - k) * 2 ∧ wr.ownsRow w.heap.size 63 2 (.slice (some ⟨g, 0, none⟩) n n) n (ensC (l.take k) ++ R)) ∧ Below w.heap.size w wr
theorem FillEn.keep {w wr W : World} {g n : Nat} {l : List En} {k : Nat} (h : FillEn w g n l k wr) (hb : Below wr.heap.size wr W) : FillEn w g n l k W := by
  obtain ⟨h1, h2, ⟨R, hR, ho⟩, hB⟩ := h
  exact ⟨h1, h2, ⟨R, hR, ho.kept (grown_of_below (row := none) hb) (by simp [Value.ownBlock])⟩, hB.trans (hb.mono hB.size)⟩
theorem FillEn.put {w wr : World} {g n : Nat} {l : List En} {k : Nat} (h : FillEn w g n l k wr) (hn : n = l.length) (hk : k < n) :
    FillEn w g n l (k + 1) ((wr.setCell ⟨g, k * 2, none⟩ (.int .i64 (l[k]'(by omega)).1)).setCell ⟨g, k * 2 + 1, none⟩ (.int .i64 (l[k]'(by omega)).2)) := by
  obtain ⟨_, hg, ⟨R, hR, ho⟩, hB⟩ := h
  have hlen : (ensC (l.take k)).length = k * 2 := by rw [ensC_len, List.length_take]; congr 1; omega
  match R, hR with
  | [], hR => simp at hR; omega
  | [_], hR => simp at hR; omega
  | r0 :: r1 :: R, hR =>
    have o0 := (ho.stored (k * 2) (.int .i64 (l[k]'(by omega)).1)).1
    rw [set_appEn _ _ _ _ _ hlen.symm] at o0
    have o1 := (o0.stored (k * 2 + 1) (.int .i64 (l[k]'(by omega)).2)).1
    rw [set_appEn _ _ _ _ _ (by simp [hlen])] at o1
    refine ⟨by omega, hg, ⟨R, by simp at hR; omega, ?_⟩, ((hB.setCell hg _).setCell hg _)⟩
    have e : ensC (l.take (k + 1)) = ensC (l.take k) ++ [.int .i64 (l[k]'(by omega)).1] ++ [.int .i64 (l[k]'(by omega)).2] := by
      rw [List.take_succ_eq_append_getElem (by omega), ensC_snoc, List.append_assoc]; rfl
    rw [e]
    exact o1
theorem FillEn.start {w w1 : World} {n : Nat} {l : List En} {z : Array Value} (hown : w1.ownsRow w.heap.size 63 2 (.slice (some ⟨w.heap.size, 0, none⟩) n n) n (madeCells z (n * 2)).toList) (hg : w.grownBy w1 none) : FillEn w w.heap.size n l 0 w1 :=
  ⟨by omega, by omega, ⟨(madeCells z (n * 2)).toList, by simp [size_madeCells], by simpa [ensC] using hown⟩, (Below.refl _ _).grown hg (Nat.le_refl _) (by simp)⟩
theorem FillEn.cells {w wr : World} {g n : Nat} {l : List En} {k : Nat} (h : FillEn w g n l k wr) (hk : k < n) :
    (∃ u, wr.cell? ⟨g, k * 2, none⟩ = some u) ∧ (∃ u, wr.cell? ⟨g, k * 2 + 1, none⟩ = some u) ∧ wr.frozen? ⟨g, k * 2, none⟩ = false ∧ wr.frozen? ⟨g, k * 2 + 1, none⟩ = false := by
  obtain ⟨_, hg, ⟨R, hR, ho⟩, hB⟩ := h
  have c0 := ho.cellAt (k * 2) (by omega)
  have c1 := ho.cellAt (k * 2 + 1) (by omega)
  rw [List.getElem?_eq_getElem (by rw [ho.1]; omega)] at c0 c1
  exact ⟨⟨_, c0⟩, ⟨_, c1⟩, ho.frozenAt _, ho.frozenAt _⟩
/-- a list of the call's own, in a row -/
def OwnEn (B : Nat) (l : List En) (v : Value) (w : World) : Prop :=
  ∃ (A : Option Addr) (c : Nat), v = .slice A l.length c ∧ w.ownsRow B 63 2 (.slice A l.length c) l.length (ensC l)
theorem FillEn.done {w wr : World} {g n : Nat} {l : List En} (h : FillEn w g n l n wr) (hn : n = l.length) : OwnEn w.heap.size l (.slice (some ⟨g, 0, none⟩) n n) wr ∧ Below w.heap.size w wr := by
  obtain ⟨_, hg, ⟨R, hR, ho⟩, hB⟩ := h
  have : R = [] := List.eq_nil_of_length_eq_zero (by omega)
  subst this
  rw [List.append_nil, hn, List.take_length] at ho
  subst hn
  exact ⟨⟨_, _, rfl, ho⟩, hB⟩
def EnsPost (l : List En) (w : World) (e : Ending) (w' : World) : Prop := ∃ v, e = .returned v ∧ OwnEn w.heap.size l v w' ∧ Below w.heap.size w w'

set_option maxRecDepth 100000 in
set_option maxHeartbeats 1000000 in
theorem toEntryS_any (A : Option Addr) (n c : Nat) (l : List En) (w : World) (hr : RowAt w w.heap.size A (ensC l)) (hn : n = l.length) (hs : n ≤ 1048576) :
    Calls Try.prog 70 #[.slice A n c] w (EnsPost l w) := by
  obtain ⟨i0, hi0, hz0, hz1, hz2⟩ := info_parts enInfo
  have HR := Lib.hid hr; clear hr
  have HN := Lib.hid hn; clear hn
  have hb2 : i0.bytes * n ≤ 281474976710656 := by rw [hz2]; omega
  have HI := Lib.hid (And.intro hi0 (And.intro hz0 (And.intro hz1 hz2))); clear hi0 hz0 hz1 hz2
  go_enter Try.func70, Try.ntmps70
  go_wp2_with ((refine wpList_make_full _ rfl _ _ 57 rfl w.heap.size 63 i0 (.agg #[.int .i64 0, .int .i64 0]) 2 Try.underlying57 HI.out.1 HI.out.2.1 HI.out.2.2.1 .i64 .i64 _ _ n rfl rfl rfl rfl hb2 (by unfold maxLen; omega) (Nat.le_refl _) ?_
                intro w1 hown hg1
                have HF := Lib.hid (FillEn.start (l := l) hown hg1)
                clear hown hg1))
  clear hb2
  go_loopw [4] (fun i wr => ∃ k : Nat, i = .int .i64 k ∧ FillEn w w.heap.size n l k wr) (fun i _ => n - (intOf i).toNat)
  case atStart => exact ⟨0, rfl, HF.out⟩
  case round =>
    clear HF
    obtain ⟨k, rfl, hf⟩ := hrel
    have HF := Lib.hid hf; clear hf
    have hk := HF.out.1
    by_cases hlt : k < n
    · have hkl : k < l.length := by have := HN.out; omega
      obtain ⟨b, off, rfl, hbw, e0, e1⟩ := ens_at (HR.out.below HF.out.2.2.2) hkl
      have HT := Lib.hid (fun w => toEntry_any l[k].1 l[k].2 w)
      have HS := Lib.hid (fun W hb => (HF.out.keep (W := W) hb).put HN.out hlt)
      have HC := Lib.hid (fun W hb => (HF.out.keep (W := W) hb).cells hlt)
      generalize hx0 : l[k].1 = x0 at *
      generalize hx1 : l[k].2 = x1 at *
      clear hx0 hx1
      go_wp2_with fail
      refine (HT.out _).mono ?_
      rintro e w3 ⟨rfl, hb3⟩
      have HB3 := Lib.hid hb3; clear hb3
      obtain ⟨⟨u0, c0⟩, ⟨u1, c1⟩, f0, f1⟩ := HC.out _ HB3.out
      go_wp2_with fail
      go_roundw
      case rel => exact ⟨k + 1, by go_num, HS.out _ HB3.out⟩
      case measure => simp [intOf]; omega
    · obtain rfl : k = n := by omega
      have HD := Lib.hid (HF.out.done HN.out)
      go_wp2_with fail
      go_ret
      exact ⟨_, rfl, HD.out⟩

theorem eqEntry_same (x0 : Int) (x1 : Int) (w : World)  :
    Calls Try.prog 81 #[.agg #[.int .i64 x0, .int .i64 x1], .agg #[.int .i64 x0, .int .i64 x1]] w fun e w' => e = .returned (.bool true) ∧ Below w.heap.size w w' := by
  have hB : ∀ o1 o2, Below w.heap.size w ((w.alloc o1).alloc o2) := fun o1 o2 => ((Below.refl _ _).alloc (Nat.le_refl _) _).alloc (by simp) _
  have q0 : (x0 == x0) = true := by simp
  have r0 : (x0 != x0) = false := by simp
  have q1 : (x1 == x1) = true := by simp
  have r1 : (x1 != x1) = false := by simp
  go_enter Try.func81, Try.ntmps81
  go_wp2
  go_ret
  exact ⟨rfl, hB _ _⟩

set_option maxHeartbeats 1000000 in
set_option maxRecDepth 100000 in
theorem eqEntryS_same (A1 A2 : Option Addr) (n c1 c2 : Nat) (l : List En) (w : World) (h1 : RowAt w w.heap.size A1 (ensC l)) (h2 : RowAt w w.heap.size A2 (ensC l)) (hn : n = l.length) (hs : n ≤ 1048576) :
    Calls Try.prog 71 #[.slice A1 n c1, .slice A2 n c2] w fun e w' => e = .returned (.bool true) ∧ Below w.heap.size w w' := by
  have H1 := Lib.hid h1; clear h1
  have H2 := Lib.hid h2; clear h2
  have HN := Lib.hid hn; clear hn
  go_enter Try.func71, Try.ntmps71
  go_wp2
  go_loopw [5] (fun i wr => ∃ k : Nat, k ≤ n ∧ i = .int .i64 k ∧ Below w.heap.size w wr) (fun i _ => n - (intOf i).toNat)
  case atStart => exact ⟨0, by omega, rfl, Below.refl _ _⟩
  case round =>
    obtain ⟨k, hk, rfl, hb⟩ := hrel
    have HB := Lib.hid hb; clear hb
    by_cases hlt : k < n
    · have hk1 : k < l.length := by have := HN.out; omega
      obtain ⟨b, off, rfl, hbw, e0, e1⟩ := ens_at (H1.out.below HB.out) hk1
      obtain ⟨b2, off2, rfl, hbw2, d0, d1⟩ := ens_at (H2.out.below HB.out) hk1
      have HE := Lib.hid (fun w => eqEntry_same l[k].1 l[k].2 w )
      generalize hx0 : l[k].1 = x0 at *
      generalize hx1 : l[k].2 = x1 at *
      clear hx0 hx1
      go_wp2_with fail
      go_still_tail 8, (by kernel_rfl)
      go_wp2_with fail
      refine (HE.out _).mono ?_
      rintro e w3 ⟨rfl, hb3⟩
      have HB3 := Lib.hid (HB.out.trans ((below_drewN _ _).trans (hb3.mono HB.out.size))); clear hb3
      go_wp2_with fail
      go_roundw
      case rel => exact ⟨k + 1, by omega, by go_num, HB3.out⟩
      case measure => simp [intOf]; omega
    · obtain rfl : k = n := by omega
      go_wp2_with fail
      go_ret
      exact ⟨rfl, HB.out⟩

end Go.Proofs.Ytgoonccjdoajnaa
