/- Contracts of the exact laws' own helpers on pools: szPool, toPool, eqPool, markPool, heldPool. Conditions: the frames lie in a row; they are few. -/
import Derived.Test.YtompbkphdjjpdaaKey
import Derived.Test.YtompbkphdjjpdaaPoolM
import Derived.StillTailTactics
import Derived.Deep.RegionWith
set_option linter.unusedVariables false
set_option linter.unusedSimpArgs false
namespace Go.Proofs.Ytompbkphdjjpdaa
open Go.RowKit Go.ChangeShapes Go.WideShapes

theorem set_appF {α : Type} (A : List α) (r v : α) (R : List α) (k : Nat) (hk : k = A.length) : (A ++ r :: R).set k v = (A ++ [v]) ++ R := by
  subst hk
  rw [List.set_append_right _ _ (Nat.le_refl _)]
  simp
theorem own_monoF {w : World} {B B' : Nat} {e : TypeId} {z n : Nat} {v : Value} {xs : List Value} (h : w.ownsRow B e z v n xs) (hB : B' ≤ B) : w.ownsRow B' e z v n xs := by
  refine ⟨h.1, ?_⟩
  rcases h.2 with h1 | ⟨g, cap, cur, hv, hg, r⟩
  · exact .inl h1
  · exact .inr ⟨g, cap, cur, hv, by omega, r⟩
theorem frameInfo : (Try.prog.info? 49).map (fun i => (i.zero, i.size, i.bytes)) = some (some (.agg #[.int .i64 0, .int .i64 0, .bool false]), 3, 24) := by kernel_rfl

theorem szFrameS_any (A : Option Addr) (n c : Nat) (w : World) (hn : n ≤ maxLen) :
    Calls Try.prog 54 #[.slice A n c, .int .i64 1048576] w fun e w' => (∃ v : Int, e = .returned (.int .i64 v) ∧ (v < 0 ∨ (0 ≤ v ∧ n ≤ 1048576))) ∧ w' = w := by
  unfold maxLen at hn
  go_enter Try.func54, Try.ntmps54
  go_wp2
  · go_ret
    exact ⟨⟨_, rfl, Or.inl (by omega)⟩, rfl⟩
  · go_ret
    exact ⟨⟨_, rfl, Or.inr ⟨by omega, by omega⟩⟩, rfl⟩
theorem szPool_any (A : Option Addr) (n c : Nat) (h : Int) (w : World) (hn : n ≤ maxLen) :
    Calls Try.prog 15 #[.agg #[.slice A n c, .int .i64 h], .int .i64 1048576] w fun e w' => (∃ v : Int, e = .returned (.int .i64 v) ∧ (v < 0 ∨ (0 ≤ v ∧ n ≤ 1048576))) ∧ Below w.heap.size w w' := by
  have HC := Lib.hid (fun w => szFrameS_any A n c w hn)
  clear hn
  go_enter Try.func15, Try.ntmps15
  go_wp2_with fail
  refine (HC.out _).mono ?_
  rintro e w' ⟨⟨v, rfl, hv⟩, rfl⟩
  go_wp2_with fail
  all_goals go_ret
  · exact ⟨⟨_, rfl, Or.inl (by omega)⟩, (Below.refl _ _).alloc (Nat.le_refl _) _⟩
  · exact ⟨⟨_, rfl, Or.inr ⟨by omega, by omega⟩⟩, (Below.refl _ _).alloc (Nat.le_refl _) _⟩

theorem toFrame_any (a b : Int) (x : Bool) (w : World) :
    Calls Try.prog 111 #[.agg #[.int .i64 a, .int .i64 b, .bool x]] w fun e w' => e = .returned (.agg #[.int .i64 a, .int .i64 b, .bool x]) ∧ Below w.heap.size w w' := by
  go_enter Try.func111, Try.ntmps111
  go_wp2
  refine bodyPost_ret (v := .agg #[.int .i64 a, .int .i64 b, .bool x]) (by simp [results, Try.results111, go_sem]) rfl ⟨rfl, ?_⟩
  exact (((Below.refl _ _).alloc (Nat.le_refl _) _).alloc (by simp) _).alloc (by simp; omega) _

theorem eqFrame_same (a b : Int) (x : Bool) (w : World) :
    Calls Try.prog 113 #[.agg #[.int .i64 a, .int .i64 b, .bool x], .agg #[.int .i64 a, .int .i64 b, .bool x]] w fun e w' => e = .returned (.bool true) ∧ Below w.heap.size w w' := by
  have hB : ∀ o1 o2, Below w.heap.size w ((w.alloc o1).alloc o2) := fun o1 o2 => ((Below.refl _ _).alloc (Nat.le_refl _) _).alloc (by simp) _
  cases x
  all_goals
    go_enter Try.func113, Try.ntmps113
    go_wp2
    go_ret
    exact ⟨rfl, hB _ _⟩

/-- the row of frames that the call fills: k of them are there -/
def FillF (w : World) (g n : Nat) (l : List Fr) (k : Nat) (wr : World) : Prop :=
  k ≤ n ∧ w.heap.size ≤ g ∧ (∃ R : List Value, R.length = (n - k) * 3 ∧ wr.ownsRow w.heap.size 49 3 (.slice (some ⟨g, 0, none⟩) n n) n (frsC (l.take k) ++ R)) ∧ Below w.heap.size w wr
theorem frsC_snoc (A : List Fr) (x : Fr) : frsC (A ++ [x]) = frsC A ++ frC x := by
  unfold frsC; rw [List.flatMap_append]; simp
theorem FillF.keep {w wr W : World} {g n : Nat} {l : List Fr} {k : Nat} (h : FillF w g n l k wr) (hb : Below wr.heap.size wr W) : FillF w g n l k W := by
  obtain ⟨h1, h2, ⟨R, hR, ho⟩, hB⟩ := h
  exact ⟨h1, h2, ⟨R, hR, ho.kept (grown_of_below (row := none) hb) (by simp [Value.ownBlock])⟩, hB.trans (hb.mono hB.size)⟩
theorem FillF.put {w wr : World} {g n : Nat} {l : List Fr} {k : Nat} (h : FillF w g n l k wr) (hn : n = l.length) (hk : k < n) :
    FillF w g n l (k + 1) (((wr.setCell ⟨g, k * 3, none⟩ (.int .i64 (l[k]'(by omega)).1)).setCell ⟨g, k * 3 + 1, none⟩ (.int .i64 (l[k]'(by omega)).2.1)).setCell ⟨g, k * 3 + 2, none⟩ (.bool (l[k]'(by omega)).2.2)) := by
  obtain ⟨_, hg, ⟨R, hR, ho⟩, hB⟩ := h
  have hlen : (frsC (l.take k)).length = k * 3 := by rw [frsC_len, List.length_take]; congr 1; omega
  match R, hR with
  | [], hR => simp at hR; omega
  | [_], hR => simp at hR; omega
  | [_, _], hR => simp at hR; omega
  | r1 :: r2 :: r3 :: R, hR =>
    have o2 := (ho.stored (k * 3) (.int .i64 (l[k]'(by omega)).1)).1
    rw [set_appF _ _ _ _ _ hlen.symm] at o2
    have o3 := (o2.stored (k * 3 + 1) (.int .i64 (l[k]'(by omega)).2.1)).1
    rw [set_appF _ _ _ _ _ (by simp [hlen])] at o3
    have o4 := (o3.stored (k * 3 + 2) (.bool (l[k]'(by omega)).2.2)).1
    rw [set_appF _ _ _ _ _ (by simp [hlen])] at o4
    refine ⟨by omega, hg, ⟨R, by simp at hR; omega, ?_⟩, ((hB.setCell hg _).setCell hg _).setCell hg _⟩
    have e : frsC (l.take (k + 1)) = frsC (l.take k) ++ [.int .i64 (l[k]'(by omega)).1] ++ [.int .i64 (l[k]'(by omega)).2.1] ++ [.bool (l[k]'(by omega)).2.2] := by
      rw [List.take_succ_eq_append_getElem (by omega), frsC_snoc, List.append_assoc, List.append_assoc]; rfl
    rw [e]
    exact o4
theorem FillF.start {w w1 : World} {n : Nat} {l : List Fr} {z : Array Value} (hown : w1.ownsRow w.heap.size 49 3 (.slice (some ⟨w.heap.size, 0, none⟩) n n) n (madeCells z (n * 3)).toList) (hg : w.grownBy w1 none) : FillF w w.heap.size n l 0 w1 :=
  ⟨by omega, by omega, ⟨(madeCells z (n * 3)).toList, by simp [size_madeCells], by simpa [frsC] using hown⟩, (Below.refl _ _).grown hg (Nat.le_refl _) (by simp)⟩
theorem FillF.cells {w wr : World} {g n : Nat} {l : List Fr} {k : Nat} (h : FillF w g n l k wr) (hk : k < n) :
    (∃ u, wr.cell? ⟨g, k * 3, none⟩ = some u) ∧ (∃ u, wr.cell? ⟨g, k * 3 + 1, none⟩ = some u) ∧ (∃ u, wr.cell? ⟨g, k * 3 + 2, none⟩ = some u) ∧ wr.frozen? ⟨g, k * 3, none⟩ = false ∧ wr.frozen? ⟨g, k * 3 + 1, none⟩ = false ∧ wr.frozen? ⟨g, k * 3 + 2, none⟩ = false := by
  obtain ⟨_, hg, ⟨R, hR, ho⟩, hB⟩ := h
  have c0 := ho.cellAt (k * 3) (by omega)
  have c1 := ho.cellAt (k * 3 + 1) (by omega)
  have c2 := ho.cellAt (k * 3 + 2) (by omega)
  rw [List.getElem?_eq_getElem (by rw [ho.1]; omega)] at c0 c1 c2
  exact ⟨⟨_, c0⟩, ⟨_, c1⟩, ⟨_, c2⟩, ho.frozenAt _, ho.frozenAt _, ho.frozenAt _⟩
/-- frames of the call's own, in a row -/
def OwnFrames (B : Nat) (l : List Fr) (v : Value) (w : World) : Prop :=
  ∃ (A : Option Addr) (c : Nat), v = .slice A l.length c ∧ w.ownsRow B 49 3 (.slice A l.length c) l.length (frsC l)
theorem FillF.done {w wr : World} {g n : Nat} {l : List Fr} (h : FillF w g n l n wr) (hn : n = l.length) : OwnFrames w.heap.size l (.slice (some ⟨g, 0, none⟩) n n) wr ∧ Below w.heap.size w wr := by
  obtain ⟨_, hg, ⟨R, hR, ho⟩, hB⟩ := h
  have : R = [] := List.eq_nil_of_length_eq_zero (by omega)
  subst this
  rw [List.append_nil, hn, List.take_length] at ho
  subst hn
  exact ⟨⟨_, _, rfl, ho⟩, hB⟩
def FramesPost (l : List Fr) (w : World) (e : Ending) (w' : World) : Prop := ∃ v, e = .returned v ∧ OwnFrames w.heap.size l v w' ∧ Below w.heap.size w w'

set_option maxRecDepth 100000 in
set_option maxHeartbeats 1000000 in
theorem toFrameS_any (A : Option Addr) (n c : Nat) (l : List Fr) (w : World) (hr : RowAt w w.heap.size A (frsC l)) (hn : n = l.length) (hs : n ≤ 1048576) :
    Calls Try.prog 58 #[.slice A n c] w (FramesPost l w) := by
  obtain ⟨i0, hi0, hz0, hz1, hz2⟩ := info_parts frameInfo
  have HR := Lib.hid hr; clear hr
  have HN := Lib.hid hn; clear hn
  have hb2 : i0.bytes * n ≤ 281474976710656 := by rw [hz2]; omega
  have HI := Lib.hid (And.intro hi0 (And.intro hz0 (And.intro hz1 hz2))); clear hi0 hz0 hz1 hz2
  go_enter Try.func58, Try.ntmps58
  go_wp2_with ((refine wpList_make_full _ rfl _ _ 26 rfl w.heap.size 49 i0 (.agg #[.int .i64 0, .int .i64 0, .bool false]) 3 Try.underlying26 HI.out.1 HI.out.2.1 HI.out.2.2.1 .i64 .i64 _ _ n rfl rfl rfl rfl hb2 (by unfold maxLen; omega) (Nat.le_refl _) ?_
                intro w1 hown hg1
                have HF := Lib.hid (FillF.start (l := l) hown hg1)
                clear hown hg1))
  clear hb2
  go_loopw [4] (fun i wr => ∃ k : Nat, i = .int .i64 k ∧ FillF w w.heap.size n l k wr) (fun i _ => n - (intOf i).toNat)
  case atStart => exact ⟨0, rfl, HF.out⟩
  case round =>
    clear HF
    obtain ⟨k, rfl, hf⟩ := hrel
    have HF := Lib.hid hf; clear hf
    have hk := HF.out.1
    by_cases hlt : k < n
    · have hkl : k < l.length := by have := HN.out; omega
      obtain ⟨b, off, rfl, hbw, e0, e1, e2⟩ := frames_at (HR.out.below HF.out.2.2.2) hkl
      have HT := Lib.hid (fun w => toFrame_any l[k].1 l[k].2.1 l[k].2.2 w)
      have HS := Lib.hid (fun W hb => (HF.out.keep (W := W) hb).put HN.out hlt)
      have HC := Lib.hid (fun W hb => (HF.out.keep (W := W) hb).cells hlt)
      generalize hx1 : l[k].1 = x1 at *
      generalize hx2 : l[k].2.1 = x2 at *
      generalize hx3 : l[k].2.2 = x3 at *
      clear hx1 hx2 hx3
      go_wp2_with fail
      refine (HT.out _).mono ?_
      rintro e w3 ⟨rfl, hb3⟩
      have HB3 := Lib.hid hb3; clear hb3
      obtain ⟨⟨u0, c0⟩, ⟨u1, c1⟩, ⟨u2, c2⟩, f0, f1, f2⟩ := HC.out _ HB3.out
      go_wp2_with fail
      go_roundw
      case rel => exact ⟨k + 1, by go_num, HS.out _ HB3.out⟩
      case measure => simp [intOf]; omega
    · obtain rfl : k = n := by omega
      have HD := Lib.hid (HF.out.done HN.out)
      go_wp2_with fail
      go_ret
      exact ⟨_, rfl, HD.out⟩

/-- a pool of the call's own -/
def OwnPool (B : Nat) (l : List Fr) (h : Int) (v : Value) (w : World) : Prop :=
  ∃ (A : Option Addr) (c : Nat), v = .agg #[.slice A l.length c, .int .i64 h] ∧ w.ownsRow B 49 3 (.slice A l.length c) l.length (frsC l)
def PoolPost (l : List Fr) (h : Int) (w : World) (e : Ending) (w' : World) : Prop := ∃ v, e = .returned v ∧ OwnPool w.heap.size l h v w' ∧ Below w.heap.size w w'

theorem toPool_any (A : Option Addr) (n c : Nat) (l : List Fr) (h : Int) (w : World) (hr : RowAt w w.heap.size A (frsC l)) (hn : n = l.length) (hs : n ≤ 1048576) :
    Calls Try.prog 17 #[.agg #[.slice A n c, .int .i64 h]] w (PoolPost l h w) := by
  have HC := Lib.hid (fun W (hb : Below w.heap.size w W) => toFrameS_any A n c l W ((hr.below hb).mono hb.size) hn hs)
  have HN := Lib.hid hn; clear hr hn
  go_enter Try.func17, Try.ntmps17
  go_wp2_with fail
  refine (HC.out _ ((((Below.refl _ _).alloc (Nat.le_refl _) _).alloc (by simp) _).alloc (by simp; omega) _)).mono ?_
  rintro e w1 ⟨v, rfl, ⟨A', c', rfl, ho⟩, hb1⟩
  have hsz := hb1.size
  simp only [World.size_alloc] at hsz
  have c30 : w1.cell? ⟨w.heap.size, 0, none⟩ = some (.slice A n c) := (hb1.cell (p := ⟨w.heap.size, 0, none⟩) (by simp; omega)).trans (by simp [go_sem])
  have c31 : w1.cell? ⟨w.heap.size, 1, none⟩ = some (.int .i64 h) := (hb1.cell (p := ⟨w.heap.size, 1, none⟩) (by simp; omega)).trans (by simp [go_sem])
  have c20 : w1.cell? ⟨w.heap.size + 2, 0, none⟩ = some (.slice none 0 0) := (hb1.cell (p := ⟨w.heap.size + 2, 0, none⟩) (by simp)).trans (by simp [go_sem])
  have c21 : w1.cell? ⟨w.heap.size + 2, 1, none⟩ = some (.int .i64 0) := (hb1.cell (p := ⟨w.heap.size + 2, 1, none⟩) (by simp)).trans (by simp [go_sem])
  have f20 : w1.frozen? ⟨w.heap.size + 2, 0, none⟩ = false := (hb1.frozen (p := ⟨w.heap.size + 2, 0, none⟩) (by simp)).trans (by simp [go_sem])
  have f21 : w1.frozen? ⟨w.heap.size + 2, 1, none⟩ = false := (hb1.frozen (p := ⟨w.heap.size + 2, 1, none⟩) (by simp)).trans (by simp [go_sem])
  have c10 : w1.cell? ⟨w.heap.size + 1, 0, none⟩ = some (.slice none 0 0) := (hb1.cell (p := ⟨w.heap.size + 1, 0, none⟩) (by simp)).trans (by simp [go_sem])
  have c11 : w1.cell? ⟨w.heap.size + 1, 1, none⟩ = some (.int .i64 0) := (hb1.cell (p := ⟨w.heap.size + 1, 1, none⟩) (by simp)).trans (by simp [go_sem])
  have f10 : w1.frozen? ⟨w.heap.size + 1, 0, none⟩ = false := (hb1.frozen (p := ⟨w.heap.size + 1, 0, none⟩) (by simp)).trans (by simp [go_sem])
  have f11 : w1.frozen? ⟨w.heap.size + 1, 1, none⟩ = false := (hb1.frozen (p := ⟨w.heap.size + 1, 1, none⟩) (by simp)).trans (by simp [go_sem])
  have HO := Lib.hid ho; clear ho
  have HB := Lib.hid hb1; clear hb1
  go_wp2_with fail
  refine bodyPost_ret (v := .agg #[.slice A' l.length c', .int .i64 h]) ?_ rfl ?_
  · simp [results, Try.results17, go_sem, c10, c11, c20, c21]
  · refine ⟨_, rfl, ⟨_, _, rfl, ?_⟩, ?_⟩
    · refine own_monoF (ownsRow_setCell_below (ownsRow_setCell_below (ownsRow_setCell_below (ownsRow_setCell_below HO.out ?_ _) ?_ _) ?_ _) ?_ _) ?_ <;> simp <;> omega
    · refine (((((Below.refl _ _).alloc (Nat.le_refl _) _).alloc (by simp) _).alloc (by simp; omega) _).trans (HB.out.mono (by simp; omega))).setCell ?_ _ |>.setCell ?_ _ |>.setCell ?_ _ |>.setCell ?_ _ <;> simp <;> omega

set_option maxHeartbeats 1000000 in
set_option maxRecDepth 100000 in
theorem eqFrameS_same (A1 A2 : Option Addr) (n c1 c2 : Nat) (l : List Fr) (w : World) (h1 : RowAt w w.heap.size A1 (frsC l)) (h2 : RowAt w w.heap.size A2 (frsC l)) (hn : n = l.length) (hs : n ≤ 1048576) :
    Calls Try.prog 62 #[.slice A1 n c1, .slice A2 n c2] w fun e w' => e = .returned (.bool true) ∧ Below w.heap.size w w' := by
  have H1 := Lib.hid h1; clear h1
  have H2 := Lib.hid h2; clear h2
  have HN := Lib.hid hn; clear hn
  go_enter Try.func62, Try.ntmps62
  go_wp2
  go_loopw [5] (fun i wr => ∃ k : Nat, k ≤ n ∧ i = .int .i64 k ∧ Below w.heap.size w wr) (fun i _ => n - (intOf i).toNat)
  case atStart => exact ⟨0, by omega, rfl, Below.refl _ _⟩
  case round =>
    obtain ⟨k, hk, rfl, hb⟩ := hrel
    have HB := Lib.hid hb; clear hb
    by_cases hlt : k < n
    · have hk1 : k < l.length := by have := HN.out; omega
      obtain ⟨b, off, rfl, hbw, e0, e1, e2⟩ := frames_at (H1.out.below HB.out) hk1
      obtain ⟨b2, off2, rfl, hbw2, e3, e4, e5⟩ := frames_at (H2.out.below HB.out) hk1
      have HE := Lib.hid (fun w => eqFrame_same l[k].1 l[k].2.1 l[k].2.2 w)
      generalize hx1 : l[k].1 = x1 at *
      generalize hx2 : l[k].2.1 = x2 at *
      generalize hx3 : l[k].2.2 = x3 at *
      clear hx1 hx2 hx3
      go_wp2_with fail
      go_still_tail 8, (by kernel_rfl)
      go_wp2_with fail
      refine (HE.out _).mono ?_
      rintro e w3 ⟨rfl, hb3⟩
      have HB3 := Lib.hid (HB.out.trans ((below_drewN _ _).trans (hb3.mono HB.out.size))); clear hb3
      go_wp2_with fail
      go_roundw
      case rel => exact ⟨k + 1, by omega, by go_num, HB3.out⟩
      case measure => simp [intOf]; omega
    · obtain rfl : k = n := by omega
      go_wp2_with fail
      go_ret
      exact ⟨rfl, HB.out⟩

theorem eqPool_same (A1 A2 : Option Addr) (n c1 c2 : Nat) (l : List Fr) (h : Int) (w : World) (h1 : RowAt w w.heap.size A1 (frsC l)) (h2 : RowAt w w.heap.size A2 (frsC l)) (hn : n = l.length) (hs : n ≤ 1048576) :
    Calls Try.prog 19 #[.agg #[.slice A1 n c1, .int .i64 h], .agg #[.slice A2 n c2, .int .i64 h]] w fun e w' => e = .returned (.bool true) ∧ Below w.heap.size w w' := by
  have HB0 := Lib.hid (fun o1 o2 => ((Below.refl w.heap.size w).alloc (Nat.le_refl _) o1).alloc (by simp) o2)
  have HC := Lib.hid (fun W (hb : Below w.heap.size w W) => eqFrameS_same A1 A2 n c1 c2 l W ((h1.below hb).mono hb.size) ((h2.below hb).mono hb.size) hn hs)
  clear h1 h2 hn
  have q0 : (h == h) = true := by simp
  have q1 : (h != h) = false := by simp
  go_enter Try.func19, Try.ntmps19
  go_wp2_with fail
  refine (HC.out _ (HB0.out _ _)).mono ?_
  rintro e w' ⟨rfl, hb⟩
  have hsz := hb.size
  simp only [World.size_alloc] at hsz
  have c01 : w'.cell? ⟨w.heap.size, 1, none⟩ = some (.int .i64 h) := (hb.cell (p := ⟨w.heap.size, 1, none⟩) (by simp; omega)).trans (by simp [go_sem])
  have c11 : w'.cell? ⟨w.heap.size + 1, 1, none⟩ = some (.int .i64 h) := (hb.cell (p := ⟨w.heap.size + 1, 1, none⟩) (by simp)).trans (by simp [go_sem])
  have HB := Lib.hid ((HB0.out _ _).trans (hb.mono (HB0.out _ _).size)); clear hb
  go_wp2_with fail
  go_ret
  exact ⟨rfl, HB.out⟩

/-! marks -/
def markF : Nat → List Fr
  | 0 => []
  | n + 1 => markF n ++ [(1 + 3 * (n : Int), 1 + 3 * (n : Int) + 1, true)]
theorem markF_len : ∀ (n : Nat), (markF n).length = n
  | 0 => rfl
  | n + 1 => by rw [markF, List.length_append, markF_len]; rfl
theorem markF_at : ∀ (n i : Nat) (h : i < (markF n).length), (markF n)[i] = (1 + 3 * (i : Int), 1 + 3 * (i : Int) + 1, true)
  | 0, i, h => by simp [markF] at h
  | n + 1, i, h => by
    have hl := markF_len n
    rw [markF_len] at h
    rcases Nat.lt_or_ge i n with h1 | h1
    · simp only [markF]
      rw [List.getElem_append_left (by omega)]
      exact markF_at n i (by omega)
    · obtain rfl : i = n := by omega
      simp only [markF]
      rw [List.getElem_append_right (by omega)]
      simp [hl]
def blockOfF (A : Option Addr) : Option Nat := A.map (·.block)
/-- while the row is marked -/
def MarkFRel (w : World) (B g n c : Nat) (l : List Fr) (i : Nat) (wr : World) : Prop :=
  i ≤ n ∧ wr.ownsRow B 49 3 (.slice (some ⟨g, 0, none⟩) n c) n (frsC (markF i ++ l.drop i)) ∧ w.grownBy wr (some g)
theorem MarkFRel.cells {w wr : World} {B g n c : Nat} {l : List Fr} {i : Nat} (h : MarkFRel w B g n c l i wr) (hi : i < n) :
    (∃ u, wr.cell? ⟨g, i * 3, none⟩ = some u) ∧ (∃ u, wr.cell? ⟨g, i * 3 + 1, none⟩ = some u) ∧ (∃ u, wr.cell? ⟨g, i * 3 + 2, none⟩ = some u) ∧ wr.frozen? ⟨g, i * 3, none⟩ = false ∧ wr.frozen? ⟨g, i * 3 + 1, none⟩ = false ∧ wr.frozen? ⟨g, i * 3 + 2, none⟩ = false := by
  obtain ⟨_, ho, _⟩ := h
  have c0 := ho.cellAt (i * 3) (by omega)
  have c1 := ho.cellAt (i * 3 + 1) (by omega)
  have c2 := ho.cellAt (i * 3 + 2) (by omega)
  rw [List.getElem?_eq_getElem (by rw [ho.1]; omega)] at c0 c1 c2
  exact ⟨⟨_, c0⟩, ⟨_, c1⟩, ⟨_, c2⟩, ho.frozenAt _, ho.frozenAt _, ho.frozenAt _⟩
theorem MarkFRel.step {w wr : World} {B g n c : Nat} {l : List Fr} {i : Nat} (h : MarkFRel w B g n c l i wr) (hl : n = l.length) (hi : i < n) :
    MarkFRel w B g n c l (i + 1) (((wr.setCell ⟨g, i * 3, none⟩ (.int .i64 (1 + 3 * (i : Int)))).setCell ⟨g, i * 3 + 1, none⟩ (.int .i64 (1 + 3 * (i : Int) + 1))).setCell ⟨g, i * 3 + 2, none⟩ (.bool true)) := by
  obtain ⟨_, ho, hg⟩ := h
  have hlen : (frsC (markF i)).length = i * 3 := by rw [frsC_len, markF_len]
  rw [frsC_app, List.drop_eq_getElem_cons (by omega), frsC_cons] at ho
  have o2 := ho.stored (i * 3) (.int .i64 (1 + 3 * (i : Int)))
  rw [set_appF _ _ _ _ _ hlen.symm] at o2
  have o3 := o2.1.stored (i * 3 + 1) (.int .i64 (1 + 3 * (i : Int) + 1))
  rw [set_appF _ _ _ _ _ (by simp [hlen])] at o3
  have o4 := o3.1.stored (i * 3 + 2) (.bool true)
  rw [set_appF _ _ _ _ _ (by simp [hlen])] at o4
  refine ⟨by omega, ?_, ((hg.trans' o2.2).trans' o3.2).trans' o4.2⟩
  have e : frsC (markF (i + 1) ++ l.drop (i + 1)) = frsC (markF i) ++ [.int .i64 (1 + 3 * (i : Int))] ++ [.int .i64 (1 + 3 * (i : Int) + 1)] ++ [.bool true] ++ frsC (l.drop (i + 1)) := by
    rw [frsC_app, markF, frsC_app]; simp [frsC, frC]
  rw [e]
  exact o4.1

set_option maxRecDepth 100000 in
set_option maxHeartbeats 1000000 in
theorem markFrameS_any (B g n c : Nat) (l : List Fr) (w : World) (ho : w.ownsRow B 49 3 (.slice (some ⟨g, 0, none⟩) n c) n (frsC l)) (hl : n = l.length) (hn : n ≤ 1048576) :
    Calls Try.prog 63 #[.slice (some ⟨g, 0, none⟩) n c, .int .i64 1] w fun e w' => e = .returned (.int .i64 (1 + 3 * (n : Int))) ∧ w'.ownsRow B 49 3 (.slice (some ⟨g, 0, none⟩) n c) n (frsC (markF n)) ∧ w.grownBy w' (some g) := by
  have HO := Lib.hid ho; clear ho
  have HL := Lib.hid hl; clear hl
  go_enter Try.func63, Try.ntmps63
  go_wp2_with fail
  go_loopw [1, 5] (fun q i wr => ∃ j : Nat, i = .int .i64 j ∧ q = .int .i64 (1 + 3 * (j : Int)) ∧ MarkFRel w B g n c l j wr) (fun _ i _ => n - (intOf i).toNat)
  case atStart => exact ⟨0, rfl, by simp, by omega, by simpa [markF] using HO.out, World.grownBy.refl _ _⟩
  case round =>
    obtain ⟨j, rfl, rfl, hm⟩ := hrel
    have HM := Lib.hid hm; clear hm
    have hj := HM.out.1
    by_cases hlt : j < n
    · obtain ⟨⟨u0, c0⟩, ⟨u1, c1⟩, ⟨u2, c2⟩, f0, f1, f2⟩ := HM.out.cells hlt
      have HS := Lib.hid (HM.out.step HL.out hlt)
      have q3 : ((1 + 3 * (j : Int) + 1 + 1) % 3 == 0) = true := by simp; omega
      go_wp2_with fail
      go_roundw
      case rel => exact ⟨j + 1, by go_num, by go_num, HS.out⟩
      case measure => simp [intOf]; omega
    · obtain rfl : j = n := by omega
      have HF := Lib.hid HM.out.2
      rw [HL.out, List.drop_length, List.append_nil, ← HL.out] at HF
      go_wp2_with fail
      go_ret
      exact ⟨rfl, HF.out⟩

set_option maxRecDepth 100000 in
set_option maxHeartbeats 1000000 in
theorem heldFrameS_any (B : Nat) (A : Option Addr) (n c : Nat) (w : World) (hr : RowAt w B A (frsC (markF n))) (hn : n ≤ 1048576) :
    Calls Try.prog 64 #[.slice A n c, .int .i64 1] w fun e w' => e = .returned (.int .i64 (1 + 3 * (n : Int))) ∧ w' = w := by
  have HR := Lib.hid hr; clear hr
  go_enter Try.func64, Try.ntmps64
  go_wp2_with fail
  go_loop [1, 5] (fun q i => ∃ j : Nat, j ≤ n ∧ i = .int .i64 j ∧ q = .int .i64 (1 + 3 * (j : Int))) (fun _ i => n - (intOf i).toNat)
  case atStart => exact ⟨0, by omega, rfl, by simp⟩
  case round =>
    obtain ⟨j, hj, rfl, rfl⟩ := hrel
    by_cases hlt : j < n
    · have hjl : j < (markF n).length := by rw [markF_len]; exact hlt
      obtain ⟨b, off, rfl, hbw, e0, e1, e2⟩ := frames_at HR.out hjl
      rw [markF_at n j hjl] at e0 e1 e2
      have q0 : ((1 + 3 * (j : Int)) == (1 + 3 * (j : Int))) = true := by simp
      have q1 : ((1 + 3 * (j : Int)) != (1 + 3 * (j : Int))) = false := by simp
      have q2 : ((1 + 3 * (j : Int) + 1) == (1 + 3 * (j : Int) + 1)) = true := by simp
      have q4 : ((1 + 3 * (j : Int) + 1) != (1 + 3 * (j : Int) + 1)) = false := by simp
      have q3 : ((1 + 3 * (j : Int) + 1 + 1) % 3 == 0) = true := by simp; omega
      go_wp2_with fail
      go_round
      case rel => exact ⟨j + 1, by omega, by go_num, by go_num⟩
      case measure => simp [intOf]; omega
    · obtain rfl : j = n := by omega
      go_wp2_with fail
      go_ret
      exact ⟨rfl, rfl⟩

theorem markNoF_any (A : Option Addr) (c : Nat) (w : World) :
    Calls Try.prog 63 #[.slice A 0 c, .int .i64 1] w fun e w' => e = .returned (.int .i64 1) ∧ w' = w := by
  go_enter Try.func63, Try.ntmps63
  go_wp2_with fail
  go_loop [1, 5] (fun q i => q = .int .i64 1 ∧ i = .int .i64 0) (fun _ _ => 0)
  case atStart => exact ⟨rfl, rfl⟩
  case round =>
    obtain ⟨rfl, rfl⟩ := hrel
    go_wp2_with fail
    go_ret
    exact ⟨rfl, rfl⟩

theorem markPool_any (B : Nat) (A : Option Addr) (n c : Nat) (l : List Fr) (h : Int) (w : World) (ho : w.ownsRow B 49 3 (.slice A n c) n (frsC l)) (hl : n = l.length) (hn : n ≤ 1048576) :
    Calls Try.prog 20 #[.agg #[.slice A n c, .int .i64 h], .int .i64 1] w fun e w' => e = .returned (.int .i64 (1 + 3 * (n : Int))) ∧ w'.ownsRow B 49 3 (.slice A n c) n (frsC (markF n)) ∧ w.grownBy w' (blockOfF A) := by
  rcases ho.2 with ⟨hv, rfl⟩ | ⟨g, cap, cur, hv, hg, hh, _⟩
  · injection hv with hA _ hc
    subst hA hc
    have HO := Lib.hid ho; clear ho
    have HL := Lib.hid hl; clear hl
    go_enter Try.func20, Try.ntmps20
    go_wp2_with fail
    refine (markNoF_any _ _ _).mono ?_
    rintro e w' ⟨rfl, rfl⟩
    go_wp2_with fail
    go_ret
    have hl0 : l = [] := List.eq_nil_of_length_eq_zero HL.out.symm
    subst hl0
    exact ⟨by simp, HO.out.alloc _, World.grownBy_alloc _ _ _⟩
  · injection hv with hA hn2 hc
    subst hA hc
    clear hn2
    have HC := Lib.hid (fun o => markFrameS_any B g n c l (w.alloc o) (ho.alloc o) hl hn)
    clear ho hh hl
    go_enter Try.func20, Try.ntmps20
    go_wp2_with fail
    refine (HC.out _).mono ?_
    rintro e w' ⟨rfl, ho2, hg2⟩
    have HP := Lib.hid (And.intro ho2 ((World.grownBy_alloc w _ _).trans' hg2)); clear ho2 hg2
    go_wp2_with fail
    go_ret
    exact ⟨rfl, HP.out⟩

theorem heldPool_any (B : Nat) (A : Option Addr) (n c : Nat) (h : Int) (w : World) (ho : w.ownsRow B 49 3 (.slice A n c) n (frsC (markF n))) (hn : n ≤ 1048576) :
    Calls Try.prog 21 #[.agg #[.slice A n c, .int .i64 h], .int .i64 1] w fun e w' => e = .returned (.int .i64 (1 + 3 * (n : Int))) ∧ Below w.heap.size w w' := by
  have HC := Lib.hid (fun o => heldFrameS_any w.heap.size A n c (w.alloc o) ((RowAt.of_own ho).below ((Below.refl _ _).alloc (Nat.le_refl _) o)) hn)
  clear ho
  have h0 : (0 : Int) ≤ 1 + 3 * (n : Int) := by omega
  go_enter Try.func21, Try.ntmps21
  go_wp2_with fail
  refine (HC.out _).mono ?_
  rintro e w' ⟨rfl, rfl⟩
  go_wp2_with fail
  go_ret
  exact ⟨rfl, (Below.refl _ _).alloc (Nat.le_refl _) _⟩
end Go.Proofs.Ytompbkphdjjpdaa
