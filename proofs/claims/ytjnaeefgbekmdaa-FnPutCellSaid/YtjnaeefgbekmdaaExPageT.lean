/- Contracts of the exact laws' own helpers on pages: toSlot, toSlotS, toPage (a page copied into memory of its own). Conditions: the slots lie in a row. -/
import Derived.Test.YtjnaeefgbekmdaaExPageH
set_option linter.unusedVariables false
set_option linter.unusedSimpArgs false
namespace Go.Proofs.Ytjnaeefgbekmdaa
open Go.RowKit Go.ChangeShapes Go.WideShapes

theorem toSlot_any (a b : Int) (w : World) :
    Calls Try.prog 106 #[.agg #[.int .i64 a, .int .i64 b]] w fun e w' => e = .returned (.agg #[.int .i64 a, .int .i64 b]) ∧ Below w.heap.size w w' := by
  go_enter Try.func106, Try.ntmps106
  go_wp2
  refine bodyPost_ret (v := .agg #[.int .i64 a, .int .i64 b]) (by simp [results, Try.results106, go_sem]) rfl ⟨rfl, ?_⟩
  exact (((Below.refl _ _).alloc (Nat.le_refl _) _).alloc (by simp) _).alloc (by simp; omega) _

theorem set_app {α : Type} (A : List α) (r v : α) (R : List α) (k : Nat) (hk : k = A.length) : (A ++ r :: R).set k v = (A ++ [v]) ++ R := by
  subst hk
  rw [List.set_append_right _ _ (Nat.le_refl _)]
  simp

theorem slotInfo : (Try.prog.info? 73).map (fun i => (i.zero, i.size, i.bytes)) = some (some (.agg #[.int .i64 0, .int .i64 0]), 2, 16) := by kernel_rfl

theorem slC_snoc (A : List Sl) (x : Sl) : slC (A ++ [x]) = slC A ++ slotC x := by
  unfold slC; rw [List.flatMap_append]; simp
/-- the row of slots that the call fills: k of them are there -/
def Filled (w : World) (g n : Nat) (l : List Sl) (k : Nat) (wr : World) : Prop :=
  k ≤ n ∧ w.heap.size ≤ g ∧ (∃ R : List Value, R.length = (n - k) * 2 ∧ wr.ownsRow w.heap.size 73 2 (.slice (some ⟨g, 0, none⟩) n n) n (slC (l.take k) ++ R)) ∧ Below w.heap.size w wr

theorem Filled.step {w wr W : World} {g n : Nat} {l : List Sl} {k : Nat} (h : Filled w g n l k wr) (hn : n = l.length) (hk : k < n) (hb : Below wr.heap.size wr W) :
    Filled w g n l (k + 1) ((W.setCell ⟨g, k * 2, none⟩ (.int .i64 (l[k]'(by omega)).1)).setCell ⟨g, k * 2 + 1, none⟩ (.int .i64 (l[k]'(by omega)).2)) := by
  obtain ⟨_, hg, ⟨R, hR, ho⟩, hB⟩ := h
  have hlen : (slC (l.take k)).length = k * 2 := by rw [slC_len, List.length_take]; congr 1; omega
  match R, hR with
  | [], hR => simp at hR; omega
  | [_], hR => simp at hR; omega
  | r1 :: r2 :: R, hR =>
    have o1 := ho.kept (grown_of_below (row := none) hb) (by simp [Value.ownBlock])
    have o2 := (o1.stored (k * 2) (.int .i64 (l[k]'(by omega)).1)).1
    rw [set_app _ _ _ _ _ hlen.symm] at o2
    have o3 := (o2.stored (k * 2 + 1) (.int .i64 (l[k]'(by omega)).2)).1
    rw [set_app _ _ _ _ _ (by simp [hlen])] at o3
    refine ⟨by omega, hg, ⟨R, by simp at hR; omega, ?_⟩, ?_⟩
    · have e : slC (l.take (k + 1)) = slC (l.take k) ++ [.int .i64 (l[k]'(by omega)).1] ++ [.int .i64 (l[k]'(by omega)).2] := by
        rw [List.take_succ_eq_append_getElem (by omega), slC_snoc, List.append_assoc]; rfl
      rw [e]
      exact o3
    · exact ((hB.trans (hb.mono hB.size)).setCell hg _).setCell hg _

theorem Filled.start {w w1 : World} {n : Nat} {l : List Sl} {z : Array Value} (hown : w1.ownsRow w.heap.size 73 2 (.slice (some ⟨w.heap.size, 0, none⟩) n n) n (madeCells z (n * 2)).toList) (hg : w.grownBy w1 none) : Filled w w.heap.size n l 0 w1 :=
  ⟨by omega, by omega, ⟨(madeCells z (n * 2)).toList, by simp [size_madeCells], by simpa [slC] using hown⟩, (Below.refl _ _).grown hg (Nat.le_refl _) (by simp)⟩

theorem Filled.cells {w wr W : World} {g n : Nat} {l : List Sl} {k : Nat} (h : Filled w g n l k wr) (hk : k < n) (hb : Below wr.heap.size wr W) :
    (∃ u, W.cell? ⟨g, k * 2, none⟩ = some u) ∧ (∃ u, W.cell? ⟨g, k * 2 + 1, none⟩ = some u) ∧ W.frozen? ⟨g, k * 2, none⟩ = false ∧ W.frozen? ⟨g, k * 2 + 1, none⟩ = false := by
  obtain ⟨_, hg, ⟨R, hR, ho⟩, hB⟩ := h
  have ho3 := ho.kept (grown_of_below (row := none) hb) (by simp [Value.ownBlock])
  have c0 := ho3.cellAt (k * 2) (by omega)
  have c1 := ho3.cellAt (k * 2 + 1) (by omega)
  rw [List.getElem?_eq_getElem (by rw [ho3.1]; omega)] at c0 c1
  exact ⟨⟨_, c0⟩, ⟨_, c1⟩, ho3.frozenAt _, ho3.frozenAt _⟩

set_option maxRecDepth 100000 in
theorem toSlotS_any (A : Option Addr) (n c : Nat) (l : List Sl) (w : World) (hr : RowAt w w.heap.size A (slC l)) (hn : n = l.length) (hs : n ≤ 1048576) :
    Calls Try.prog 79 #[.slice A n c] w fun e w' => (∃ g, e = .returned (.slice (some ⟨g, 0, none⟩) n n) ∧ w'.ownsRow w.heap.size 73 2 (.slice (some ⟨g, 0, none⟩) n n) n (slC l)) ∧ Below w.heap.size w w' := by
  obtain ⟨i0, hi0, hz0, hz1, hz2⟩ := info_parts slotInfo
  have HR := Lib.hid hr; clear hr
  have HN := Lib.hid hn; clear hn
  have hb2 : i0.bytes * n ≤ 281474976710656 := by rw [hz2]; omega
  have HI := Lib.hid (And.intro hi0 (And.intro hz0 (And.intro hz1 hz2))); clear hi0 hz0 hz1 hz2
  go_enter Try.func79, Try.ntmps79
  go_wp2_with ((refine wpList_make_full _ rfl _ _ 23 rfl w.heap.size 73 i0 (.agg #[.int .i64 0, .int .i64 0]) 2 Try.underlying23 HI.out.1 HI.out.2.1 HI.out.2.2.1 .i64 .i64 _ _ n rfl rfl rfl rfl hb2 (by unfold maxLen; omega) (Nat.le_refl _) ?_
                intro w1 hown hg1
                have HF := Lib.hid (Filled.start (l := l) hown hg1)
                clear hown hg1))
  clear hb2
  go_loopw [4] (fun i wr => ∃ k : Nat, i = .int .i64 k ∧ Filled w w.heap.size n l k wr) (fun i _ => n - (intOf i).toNat)
  case atStart => exact ⟨0, rfl, HF.out⟩
  case round =>
    clear HF
    obtain ⟨k, rfl, hf⟩ := hrel
    have HF := Lib.hid hf; clear hf
    have hk := HF.out.1
    by_cases hlt : k < n
    · have hkl : k < l.length := by have := HN.out; omega
      obtain ⟨b, off, rfl, hbw, e0, e1⟩ := slots_at (HR.out.below HF.out.2.2.2) hkl
      have HT := Lib.hid (fun w => toSlot_any l[k].1 l[k].2 w)
      have HS := Lib.hid (fun W hb => HF.out.step (W := W) HN.out hlt hb)
      generalize hx1 : l[k].1 = x1 at *
      generalize hx2 : l[k].2 = x2 at *
      go_wp2_with fail
      refine (HT.out _).mono ?_
      rintro e w3 ⟨rfl, hb3⟩
      have HB3 := Lib.hid hb3; clear hb3
      obtain ⟨⟨u0, c0⟩, ⟨u1, c1⟩, f0, f1⟩ := HF.out.cells hlt HB3.out
      go_wp2_with fail
      go_roundw
      case rel => exact ⟨k + 1, by go_num, HS.out _ HB3.out⟩
      case measure => simp [intOf]; omega
    · obtain rfl : k = n := by omega
      go_wp2_with fail
      go_ret
      obtain ⟨R, hR, ho⟩ := HF.out.2.2.1
      have : R = [] := List.eq_nil_of_length_eq_zero (by omega)
      subst this
      rw [List.append_nil, HN.out, List.take_length, ← HN.out] at ho
      exact ⟨⟨_, rfl, ho⟩, HF.out.2.2.2⟩

theorem own_mono {w : World} {B B' : Nat} {e : TypeId} {z n : Nat} {v : Value} {xs : List Value} (h : w.ownsRow B e z v n xs) (hB : B' ≤ B) : w.ownsRow B' e z v n xs := by
  refine ⟨h.1, ?_⟩
  rcases h.2 with h1 | ⟨g, cap, cur, hv, hg, r⟩
  · exact .inl h1
  · exact .inr ⟨g, cap, cur, hv, by omega, r⟩

/-- a page of the call's own: its text, its slots in a row of their own from block B on -/
def OwnPage (B : Nat) (s : ByteArray) (l : List Sl) (v : Value) (w : World) : Prop :=
  ∃ (A : Option Addr) (c : Nat), v = .agg #[.string s, .slice A l.length c] ∧ w.ownsRow B 73 2 (.slice A l.length c) l.length (slC l)

def ToPost (s : ByteArray) (l : List Sl) (w : World) (e : Ending) (w' : World) : Prop :=
  ∃ v, e = .returned v ∧ OwnPage w.heap.size s l v w' ∧ Below w.heap.size w w'

theorem toPage_any (s : ByteArray) (A : Option Addr) (n c : Nat) (l : List Sl) (w : World) (hr : RowAt w w.heap.size A (slC l)) (hn : n = l.length) (hs : n ≤ 1048576) :
    Calls Try.prog 37 #[.agg #[.string s, .slice A n c]] w (ToPost s l w) := by
  have HC := Lib.hid (fun W (hb : Below w.heap.size w W) => toSlotS_any A n c l W ((hr.below hb).mono hb.size) hn hs)
  have HN := Lib.hid hn; clear hr hn
  go_enter Try.func37, Try.ntmps37
  go_wp2_with fail
  refine (HC.out _ ((((Below.refl _ _).alloc (Nat.le_refl _) _).alloc (by simp) _).alloc (by simp; omega) _)).mono ?_
  rintro e w1 ⟨⟨g, rfl, ho⟩, hb1⟩
  have hsz := hb1.size
  simp only [World.size_alloc] at hsz
  have c20 : w1.cell? ⟨w.heap.size + 2, 0, none⟩ = some (.string s) := (hb1.cell (p := ⟨w.heap.size + 2, 0, none⟩) (by simp)).trans (by simp [go_sem])
  have c21 : w1.cell? ⟨w.heap.size + 2, 1, none⟩ = some (.slice none 0 0) := (hb1.cell (p := ⟨w.heap.size + 2, 1, none⟩) (by simp)).trans (by simp [go_sem])
  have f21 : w1.frozen? ⟨w.heap.size + 2, 1, none⟩ = false := (hb1.frozen (p := ⟨w.heap.size + 2, 1, none⟩) (by simp)).trans (by simp [go_sem])
  have c10 : w1.cell? ⟨w.heap.size + 1, 0, none⟩ = some (.string ⟨#[]⟩) := (hb1.cell (p := ⟨w.heap.size + 1, 0, none⟩) (by simp)).trans (by simp [go_sem])
  have c11 : w1.cell? ⟨w.heap.size + 1, 1, none⟩ = some (.slice none 0 0) := (hb1.cell (p := ⟨w.heap.size + 1, 1, none⟩) (by simp)).trans (by simp [go_sem])
  have f10 : w1.frozen? ⟨w.heap.size + 1, 0, none⟩ = false := (hb1.frozen (p := ⟨w.heap.size + 1, 0, none⟩) (by simp)).trans (by simp [go_sem])
  have f11 : w1.frozen? ⟨w.heap.size + 1, 1, none⟩ = false := (hb1.frozen (p := ⟨w.heap.size + 1, 1, none⟩) (by simp)).trans (by simp [go_sem])
  have HO := Lib.hid ho; clear ho
  have HB := Lib.hid hb1; clear hb1
  go_wp2_with fail
  go_ways
  refine bodyPost_ret (v := .agg #[.string s, .slice (some ⟨g, 0, none⟩) n n]) ?_ rfl ?_
  · simp [results, Try.results37, go_sem, c10, c11, c20, c21]
  · have hl := HN.out
    subst hl
    refine ⟨_, rfl, ⟨_, _, rfl, ?_⟩, ?_⟩
    · refine own_mono (ownsRow_setCell_below (ownsRow_setCell_below (ownsRow_setCell_below HO.out ?_ _) ?_ _) ?_ _) ?_ <;> simp <;> omega
    · refine (((((Below.refl _ _).alloc (Nat.le_refl _) _).alloc (by simp) _).alloc (by simp; omega) _).trans (HB.out.mono (by simp; omega))).setCell ?_ _ |>.setCell ?_ _ |>.setCell ?_ _ <;> simp <;> omega
end Go.Proofs.Ytjnaeefgbekmdaa
