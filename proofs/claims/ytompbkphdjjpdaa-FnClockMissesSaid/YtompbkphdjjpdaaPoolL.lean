/- Contracts of frameOf, Clone, copyPool and LeavePage, in the program and in the model (chapter 2). Conditions: the frames lie in a row; they are few. -/
import Derived.Test.YtompbkphdjjpdaaPoolS
import Derived.Laws.AppendOwn
import Derived.Deep.RegionWith
set_option linter.unusedVariables false
set_option linter.unusedSimpArgs false
namespace Go.Proofs.Ytompbkphdjjpdaa
open Go.RowKit Go.ChangeShapes Go.WideShapes

/-! one number of a frame set -/
theorem frsC_set0 (l : List Fr) (i : Nat) (x : Int) (h : i < l.length) : (frsC l).set (i * 3) (.int .i64 x) = frsC (l.set i (x, l[i].2.1, l[i].2.2)) := by
  induction l generalizing i with
  | nil => simp at h
  | cons p t ih =>
    cases i with
    | zero => simp [frsC_cons]
    | succ i =>
      have h2 : i < t.length := by simpa using h
      have := ih i h2
      rw [List.set_cons_succ, frsC_cons, frsC_cons, show (i + 1) * 3 = i * 3 + 1 + 1 + 1 by omega]
      simp [this]
theorem frsC_set1 (l : List Fr) (i : Nat) (x : Int) (h : i < l.length) : (frsC l).set (i * 3 + 1) (.int .i64 x) = frsC (l.set i (l[i].1, x, l[i].2.2)) := by
  induction l generalizing i with
  | nil => simp at h
  | cons p t ih =>
    cases i with
    | zero => simp [frsC_cons]
    | succ i =>
      have h2 : i < t.length := by simpa using h
      have := ih i h2
      rw [List.set_cons_succ, frsC_cons, frsC_cons, show (i + 1) * 3 + 1 = i * 3 + 1 + 1 + 1 + 1 by omega]
      simp [this]
theorem frsC_set2 (l : List Fr) (i : Nat) (x : Bool) (h : i < l.length) : (frsC l).set (i * 3 + 2) (.bool x) = frsC (l.set i (l[i].1, l[i].2.1, x)) := by
  induction l generalizing i with
  | nil => simp at h
  | cons p t ih =>
    cases i with
    | zero => simp [frsC_cons]
    | succ i =>
      have h2 : i < t.length := by simpa using h
      have := ih i h2
      rw [List.set_cons_succ, frsC_cons, frsC_cons, show (i + 1) * 3 + 2 = i * 3 + 2 + 1 + 1 + 1 by omega]
      simp [this]

/-- a row of frames of the call's own, in block g -/
def RowF (w : World) (B g n c : Nat) (l : List Fr) : Prop := n = l.length ∧ w.ownsRow B 49 3 (.slice (some ⟨g, 0, none⟩) n c) n (frsC l)
section
variable {w w' : World} {B g n c i : Nat} {l : List Fr}
theorem RowF.ge (h : RowF w B g n c l) : B ≤ g := (h.2.lt g rfl).1
theorem RowF.lt (h : RowF w B g n c l) : g < w.heap.size := (h.2.lt g rfl).2
theorem RowF.keep (h : RowF w B g n c l) (hb : Below w.heap.size w w') : RowF w' B g n c l :=
  ⟨h.1, h.2.kept (grown_of_below (row := none) hb) (by simp [Value.ownBlock])⟩
theorem RowF.cells (h : RowF w B g n c l) (hi : i < l.length) :
    w.cell? ⟨g, i * 3, none⟩ = some (.int .i64 l[i].1) ∧ w.cell? ⟨g, i * 3 + 1, none⟩ = some (.int .i64 l[i].2.1) ∧ w.cell? ⟨g, i * 3 + 2, none⟩ = some (.bool l[i].2.2) ∧
    w.frozen? ⟨g, i * 3, none⟩ = false ∧ w.frozen? ⟨g, i * 3 + 1, none⟩ = false ∧ w.frozen? ⟨g, i * 3 + 2, none⟩ = false := by
  have hn := h.1
  have c0 := h.2.cellAt (i * 3) (by omega)
  have c1 := h.2.cellAt (i * 3 + 1) (by omega)
  have c2 := h.2.cellAt (i * 3 + 2) (by omega)
  rw [frsC_at0 hi] at c0
  rw [frsC_at1 hi] at c1
  rw [frsC_at2 hi] at c2
  exact ⟨c0, c1, c2, h.2.frozenAt _, h.2.frozenAt _, h.2.frozenAt _⟩
theorem RowF.set0 (h : RowF w B g n c l) (hi : i < l.length) (x : Int) : RowF (w.setCell ⟨g, i * 3, none⟩ (.int .i64 x)) B g n c (l.set i (x, l[i].2.1, l[i].2.2)) := by
  refine ⟨by rw [List.length_set]; exact h.1, ?_⟩
  rw [← frsC_set0 l i x hi]
  exact (h.2.stored _ _).1
theorem RowF.set1 (h : RowF w B g n c l) (hi : i < l.length) (x : Int) : RowF (w.setCell ⟨g, i * 3 + 1, none⟩ (.int .i64 x)) B g n c (l.set i (l[i].1, x, l[i].2.2)) := by
  refine ⟨by rw [List.length_set]; exact h.1, ?_⟩
  rw [← frsC_set1 l i x hi]
  exact (h.2.stored _ _).1
theorem RowF.set2 (h : RowF w B g n c l) (hi : i < l.length) (x : Bool) : RowF (w.setCell ⟨g, i * 3 + 2, none⟩ (.bool x)) B g n c (l.set i (l[i].1, l[i].2.1, x)) := by
  refine ⟨by rw [List.length_set]; exact h.1, ?_⟩
  rw [← frsC_set2 l i x hi]
  exact (h.2.stored _ _).1
theorem RowF.pool (h : RowF w B g n c l) (hd : Int) {B' : Nat} (hB : B' ≤ B) : OwnPool B' l hd (.agg #[.slice (some ⟨g, 0, none⟩) n c, .int .i64 hd]) w := by
  obtain ⟨h1, h2⟩ := h
  subst h1
  exact ⟨_, _, rfl, own_monoF h2 hB⟩
end

/-! where a page is -/
theorem frameIx_here {l : List Fr} {p : Int} {j : Nat} (hj : j < l.length) (h : l[j].1 = p) (hn : ∀ i (hi : i < l.length), i < j → l[i].1 ≠ p) : frameIx l p = j := by
  unfold frameIx
  rw [List.findIdx_eq hj]
  exact ⟨by simpa using h, fun i hi => by simpa using hn i (by omega) hi⟩
theorem frameIx_none {l : List Fr} {p : Int} (hn : ∀ i (hi : i < l.length), l[i].1 ≠ p) : frameIx l p = l.length := by
  unfold frameIx
  rw [List.findIdx_eq_length]
  intro x hx
  obtain ⟨i, hi, rfl⟩ := List.mem_iff_getElem.1 hx
  simpa using hn i hi
theorem frameIx_is {l : List Fr} {p : Int} (h : frameIx l p < l.length) : l[frameIx l p].1 = p := by
  have := List.findIdx_getElem (p := fun f : Fr => f.1 == p) (xs := l) (w := h)
  exact eq_of_beq this
def ixI (l : List Fr) (p : Int) : Int := if frameIx l p < l.length then (frameIx l p : Int) else -1

set_option maxHeartbeats 1000000 in
theorem sFrameOf_any (A : Option Addr) (n c : Nat) (l : List Fr) (h p : Int) (w : World) (hr : RowAt w w.heap.size A (frsC l)) (hn : n = l.length) (hs : n ≤ 1048576) :
    Calls Try.prog 56 #[.agg #[.slice A n c, .int .i64 h], .int .i64 p] w fun e w' => e = .returned (.int .i64 (ixI l p)) ∧ Below w.heap.size w w' := by
  have HB0 := Lib.hid ((Below.refl w.heap.size w).alloc (Nat.le_refl _) (.cells #[.slice A n c, .int .i64 h] 28))
  have HR := Lib.hid (hr.below HB0.out); clear hr
  have HN := Lib.hid hn; clear hn
  go_enter Try.func56, Try.ntmps56
  go_wp2_with fail
  go_loop [5] (fun i => ∃ k : Nat, k ≤ n ∧ i = .int .i64 k ∧ ∀ i (hi : i < l.length), i < k → l[i].1 ≠ p) (fun i => n - (intOf i).toNat)
  case atStart => exact ⟨0, by omega, rfl, fun i _ hi => by omega⟩
  case round =>
    obtain ⟨k, hk, rfl, hno⟩ := hrel
    have HNO := Lib.hid hno; clear hno
    by_cases hlt : k < n
    · have hkl : k < l.length := by have := HN.out; omega
      obtain ⟨b, off, rfl, hbw, e0, e1, e2⟩ := frames_at HR.out hkl
      have HX := Lib.hid (fun he => frameIx_here hkl he HNO.out)
      have HX2 := Lib.hid (fun (hne : l[k].1 ≠ p) => (show ∀ i (hi : i < l.length), i < k + 1 → l[i].1 ≠ p from fun i hi h1 => by
        rcases Nat.lt_or_ge i k with h2 | h2
        · exact HNO.out i hi h2
        · obtain rfl : i = k := by omega
          exact hne))
      generalize l[k].1 = x1 at *
      clear e1 e2
      by_cases he : x1 = p
      · have q0 : (x1 == p) = true := by simpa using he
        have HF := Lib.hid (show ixI l p = (k : Int) by unfold ixI; rw [HX.out he, if_pos hkl])
        clear he
        go_wp2_with fail
        go_ret
        exact ⟨by rw [HF.out]; rfl, HB0.out⟩
      · have q0 : (x1 == p) = false := by simpa using he
        have HF := Lib.hid (HX2.out he)
        clear he
        go_wp2_with fail
        go_round
        case rel => exact ⟨k + 1, by omega, by go_num, HF.out⟩
        case measure => simp [intOf]; omega
    · obtain rfl : k = n := by omega
      have HF := Lib.hid (show ixI l p = -1 by
        unfold ixI
        rw [frameIx_none (fun i hi => HNO.out i hi (by rw [HN.out]; exact hi)), if_neg (by omega)])
      go_wp2_with fail
      go_ret
      exact ⟨by rw [HF.out]; rfl, HB0.out⟩

def ptrF (g : Nat) (l : List Fr) (p : Int) : Value := .pointer (if frameIx l p < l.length then some ⟨g, frameIx l p * 3, none⟩ else none)
set_option maxHeartbeats 1000000 in
theorem iFrameOf_any (B g n c G : Nat) (l : List Fr) (h p : Int) (w : World) (hr : RowF w B g n c l) (hs : n ≤ 1048576) (hc : w.cell? ⟨G, 0, none⟩ = some (.slice (some ⟨g, 0, none⟩) n c)) :
    Calls Try.prog 61 #[.pointer (some ⟨G, 0, none⟩), .int .i64 p] w fun e w' => e = .returned (ptrF g l p) ∧ w' = w := by
  have HR := Lib.hid hr; clear hr
  have HN := Lib.hid HR.out.1
  go_enter Try.func61, Try.ntmps61
  go_wp2_with fail
  go_loop [11] (fun i => ∃ k : Nat, k ≤ n ∧ i = .int .i64 k ∧ ∀ i (hi : i < l.length), i < k → l[i].1 ≠ p) (fun i => n - (intOf i).toNat)
  case atStart => exact ⟨0, by omega, rfl, fun i _ hi => by omega⟩
  case round =>
    obtain ⟨k, hk, rfl, hno⟩ := hrel
    have HNO := Lib.hid hno; clear hno
    by_cases hlt : k < n
    · have hkl : k < l.length := by have := HN.out; omega
      obtain ⟨e0, _, _, _, _, _⟩ := HR.out.cells hkl
      have HX := Lib.hid (fun he => frameIx_here hkl he HNO.out)
      have HX2 := Lib.hid (fun (hne : l[k].1 ≠ p) => (show ∀ i (hi : i < l.length), i < k + 1 → l[i].1 ≠ p from fun i hi h1 => by
        rcases Nat.lt_or_ge i k with h2 | h2
        · exact HNO.out i hi h2
        · obtain rfl : i = k := by omega
          exact hne))
      generalize l[k].1 = x1 at *
      by_cases he : x1 = p
      · have q0 : (x1 == p) = true := by simpa using he
        have HF := Lib.hid (show ptrF g l p = .pointer (some ⟨g, k * 3, none⟩) by unfold ptrF; rw [HX.out he, if_pos hkl])
        clear he
        go_wp2_with fail
        go_ret
        exact ⟨by rw [HF.out]; rfl, rfl⟩
      · have q0 : (x1 == p) = false := by simpa using he
        have HF := Lib.hid (HX2.out he)
        clear he
        go_wp2_with fail
        go_round
        case rel => exact ⟨k + 1, by omega, by go_num, HF.out⟩
        case measure => simp [intOf]; omega
    · obtain rfl : k = n := by omega
      have HF := Lib.hid (show ptrF g l p = .pointer none by
        unfold ptrF
        rw [frameIx_none (fun i hi => HNO.out i hi (by rw [HN.out]; exact hi)), if_neg (by omega)])
      go_wp2_with fail
      go_ret
      exact ⟨by rw [HF.out]; rfl, rfl⟩

def RowPost (n : Nat) (l : List Fr) (w : World) (e : Ending) (w' : World) : Prop := ∃ g c, e = .returned (.slice (some ⟨g, 0, none⟩) n c) ∧ RowF w' w.heap.size g n c l ∧ Below w.heap.size w w'
theorem own_row {w : World} {B n : Nat} {v : Value} {l : List Fr} (h : w.ownsRow B 49 3 v n (frsC l)) (hn : n = l.length) (h0 : 0 < n) : ∃ g c, v = .slice (some ⟨g, 0, none⟩) n c ∧ RowF w B g n c l := by
  rcases h.2 with ⟨h1, h2⟩ | ⟨g, N, cur, h1, _⟩
  · omega
  · subst h1
    exact ⟨g, N, rfl, hn, h⟩

set_option maxRecDepth 100000 in
set_option maxHeartbeats 1000000 in
theorem clone_any (ad : Addr) (n c : Nat) (l : List Fr) (w : World) (hr : RowAt w w.heap.size (some ad) (frsC l)) (hn : n = l.length) (h0 : 0 < n) (hs : n ≤ 1048576) :
    Calls Try.prog 112 #[.slice (some ad) n c] w (RowPost n l w) := by
  obtain ⟨i0, hi0, hz0, hz1, hz2⟩ := info_parts frameInfo
  have HI := Lib.hid (And.intro hi0 (And.intro hz0 (And.intro hz1 hz2))); clear hi0 hz0 hz1 hz2
  have HR := Lib.hid hr; clear hr
  have HN := Lib.hid hn; clear hn
  have HB0 := Lib.hid ((Below.refl w.heap.size w).alloc (Nat.le_refl _) (.cells #[] 49))
  have HO := Lib.hid (show (w.alloc (.cells #[] 49)).ownsRow w.heap.size 49 3 (.slice (some ⟨w.heap.size, 0, none⟩) 0 0) 0 [] from
    ⟨rfl, .inr ⟨w.heap.size, 0, #[], rfl, by omega, heap_alloc_new w _, by omega, by simp [maxLen], rfl, rfl⟩⟩)
  have hnil := @Lib.run_eql_slice_nil
  go_enter Try.func112, Try.ntmps112
  go_wp2_with (at_builtin; refine wpList_append_own _ rfl _ _ 26 rfl w.heap.size 49 i0 (.agg #[.int .i64 0, .int .i64 0, .bool false]) 3 24 Try.underlying26 HI.out.1 HI.out.2.1 HI.out.2.2.1 HI.out.2.2.2 rfl (by decide) _ 0 [] rfl HO.out ad n c (frsC l) rfl ?c0 ?c1 ?c2 ?c3 ?c4 ?c5 ?_)
  case c0 => rw [frsC_len, HN.out]
  case c1 =>
    intro j u hj
    obtain ⟨b, off, e, hb, hc⟩ := (HR.out.below HB0.out) (by intro h0; rw [h0] at hj; simp at hj)
    cases e
    have hcj := hc j u hj
    unfold Addr.add
    by_cases hj0 : j = 0
    · subst hj0; simpa using hcj
    · simp [hj0]; exact hcj
  case c2 =>
    intro u hu
    obtain ⟨p, hp, hu⟩ := List.mem_flatMap.1 hu
    simp [frC] at hu
    rcases hu with rfl | rfl | rfl <;> rfl
  case c3 => unfold maxLen; omega
  case c4 => omega
  case c5 => have := HB0.out.size; omega
  · intro v' w1 hown' hgrow _
    have hbb : Below w.heap.size w w1 := HB0.out.grown hgrow HB0.out.size (fun q hq => (HO.out.lt q hq).1)
    obtain ⟨g, c', rfl, hrow⟩ := own_row hown' HN.out h0
    have HP := Lib.hid (And.intro hrow hbb); clear hown' hgrow hbb hrow
    go_wp2_with fail
    go_ret
    exact ⟨g, c', rfl, HP.out⟩

/-- a pool of the call's own whose frames lie in a row -/
def PoolRow (n : Nat) (l : List Fr) (h : Int) (w : World) (e : Ending) (w' : World) : Prop :=
  ∃ g c, e = .returned (.agg #[.slice (some ⟨g, 0, none⟩) n c, .int .i64 h]) ∧ RowF w' w.heap.size g n c l ∧ Below w.heap.size w w'
theorem RowF.mono {w : World} {B B' g n c : Nat} {l : List Fr} (h : RowF w B g n c l) (hB : B' ≤ B) : RowF w B' g n c l := ⟨h.1, own_monoF h.2 hB⟩
theorem RowF.alloc {w : World} {B g n c : Nat} {l : List Fr} (h : RowF w B g n c l) (o : Obj) : RowF (w.alloc o) B g n c l := h.keep ((Below.refl _ _).alloc (Nat.le_refl _) o)
theorem RowF.low {w : World} {B g n c b o : Nat} {l : List Fr} (h : RowF w B g n c l) (hb : b < B) (v : Value) : RowF (w.setCell ⟨b, o, none⟩ v) B g n c l := ⟨h.1, ownsRow_setCell_below h.2 hb v⟩

set_option maxRecDepth 100000 in
set_option maxHeartbeats 1000000 in
theorem copyPool_any (ad : Addr) (n c : Nat) (l : List Fr) (h : Int) (w : World) (hr : RowAt w w.heap.size (some ad) (frsC l)) (hn : n = l.length) (h0 : 0 < n) (hs : n ≤ 1048576) :
    Calls Try.prog 60 #[.agg #[.slice (some ad) n c, .int .i64 h]] w (PoolRow n l h w) := by
  have HC := Lib.hid (fun W (hb : Below w.heap.size w W) => clone_any ad n c l W ((hr.below hb).mono hb.size) hn h0 hs)
  have HB0 := Lib.hid (((Below.refl w.heap.size w).alloc (Nat.le_refl _) (.cells #[.slice (some ad) n c, .int .i64 h] 28)).alloc (by simp) (.cells #[.slice none 0 0, .int .i64 0] 28))
  clear hr hn
  go_enter Try.func60, Try.ntmps60
  go_wp2_with fail
  go_region_with (go_at_call 112
                  refine (HC.out _ (HB0.out.drew)).mono ?_
                  rintro e w1 ⟨g, c', rfl, hrow, hb1⟩
                  have hsz := hb1.size
                  have a0 : w1.cell? ⟨w.heap.size, 0, none⟩ = some (.slice (some ad) n c) := (hb1.cell (p := ⟨w.heap.size, 0, none⟩) (by simp; omega)).trans (by simp [go_sem])
                  have a1 : w1.cell? ⟨w.heap.size, 1, none⟩ = some (.int .i64 h) := (hb1.cell (p := ⟨w.heap.size, 1, none⟩) (by simp; omega)).trans (by simp [go_sem])
                  have b0 : w1.cell? ⟨w.heap.size + 1, 0, none⟩ = some (.slice none 0 0) := (hb1.cell (p := ⟨w.heap.size + 1, 0, none⟩) (by simp)).trans (by simp [go_sem])
                  have b1 : w1.cell? ⟨w.heap.size + 1, 1, none⟩ = some (.int .i64 0) := (hb1.cell (p := ⟨w.heap.size + 1, 1, none⟩) (by simp)).trans (by simp [go_sem])
                  have f0 : w1.frozen? ⟨w.heap.size + 1, 0, none⟩ = false := (hb1.frozen (p := ⟨w.heap.size + 1, 0, none⟩) (by simp)).trans (by simp [go_sem])
                  have f1 : w1.frozen? ⟨w.heap.size + 1, 1, none⟩ = false := (hb1.frozen (p := ⟨w.heap.size + 1, 1, none⟩) (by simp)).trans (by simp [go_sem])
                  have HROW := Lib.hid hrow
                  have HBX := Lib.hid (show Below w.heap.size w w1 from HB0.out.drew.trans (hb1.mono (by simp; omega)))
                  clear hrow hb1)
  all_goals go_wp2_with fail
  all_goals refine bodyPost_ret (v := .agg #[.slice (some ⟨g, 0, none⟩) n c', .int .i64 h]) ?_ rfl ?_
  all_goals first
    | (simp [results, Try.results60, go_sem, a0, a1, b0, b1]; done)
    | (refine ⟨g, c', rfl, RowF.mono (RowF.low (RowF.low HROW.out ?_ _) ?_ _) ?_, ?_⟩
       · simp
       · simp
       · simp; omega
       · refine (HBX.out.setCell ?_ _).setCell ?_ _ <;> simp)

/-- what LeavePage answers -/
def leaveR (l : List Fr) (h p : Int) : Option (List Fr) := if poolB l h = true then (if pageI p = true then leaveL p l else none) else none
def LeavePost (l : List Fr) (h p : Int) (w : World) (e : Ending) (w' : World) : Prop :=
  match leaveR l h p with
  | some l' => ∃ v, e = .returned (.tuple #[v, .bool true]) ∧ OwnPool w.heap.size l' h v w' ∧ Below w.heap.size w w'
  | none => e = .returned (.tuple #[.agg #[.slice none 0 0, .int .i64 0], .bool false]) ∧ Below w.heap.size w w'
theorem LeavePost.no {l : List Fr} {h p : Int} {w w' : World} (hn : leaveR l h p = none) (hb : Below w.heap.size w w') : LeavePost l h p w (.returned (.tuple #[.agg #[.slice none 0 0, .int .i64 0], .bool false])) w' := by
  unfold LeavePost; rw [hn]; exact ⟨rfl, hb⟩
theorem LeavePost.yes {l l' : List Fr} {h p : Int} {w w' : World} {v : Value} (hn : leaveR l h p = some l') (ho : OwnPool w.heap.size l' h v w') (hb : Below w.heap.size w w') : LeavePost l h p w (.returned (.tuple #[v, .bool true])) w' := by
  unfold LeavePost; rw [hn]; exact ⟨v, rfl, ho, hb⟩

set_option maxRecDepth 100000 in
set_option maxHeartbeats 4000000 in
theorem iLeave_any (A : Option Addr) (n c : Nat) (l : List Fr) (h p : Int) (w : World) (hr : RowAt w w.heap.size A (frsC l)) (hn : n = l.length) (hs : n ≤ 1048576) :
    Calls Try.prog 18 #[.agg #[.slice A n c, .int .i64 h], .int .i64 p] w (LeavePost l h p w) := by
  have HB0 := Lib.hid (((Below.refl w.heap.size w).alloc (Nat.le_refl _) (.cells #[.slice A n c, .int .i64 h] 28)).alloc (by simp) (.cells #[.slice none 0 0, .int .i64 0] 28))
  have HV := Lib.hid (fun W (hb : Below w.heap.size w W) => iPool_any A n c l h W ((hr.below hb).mono hb.size) hn hs)
  have HPG := Lib.hid (fun W => isPage_any p W)
  cases hv : poolB l h
  · rw [hv] at HV
    have HF := Lib.hid (show leaveR l h p = none by unfold leaveR; rw [hv]; rfl)
    clear hr hn hv
    go_enter Try.func18, Try.ntmps18
    go_wp2_with fail
    refine (HV.out _ HB0.out).mono ?_
    rintro e w1 ⟨rfl, hb1⟩
    have hsz := hb1.size
    have b0 : w1.cell? ⟨w.heap.size + 1, 0, none⟩ = some (.slice none 0 0) := (hb1.cell (p := ⟨w.heap.size + 1, 0, none⟩) (by simp)).trans (by simp [go_sem])
    have b1 : w1.cell? ⟨w.heap.size + 1, 1, none⟩ = some (.int .i64 0) := (hb1.cell (p := ⟨w.heap.size + 1, 1, none⟩) (by simp)).trans (by simp [go_sem])
    have f0 : w1.frozen? ⟨w.heap.size + 1, 0, none⟩ = false := (hb1.frozen (p := ⟨w.heap.size + 1, 0, none⟩) (by simp)).trans (by simp [go_sem])
    have f1 : w1.frozen? ⟨w.heap.size + 1, 1, none⟩ = false := (hb1.frozen (p := ⟨w.heap.size + 1, 1, none⟩) (by simp)).trans (by simp [go_sem])
    have HB1 := Lib.hid (HB0.out.trans (hb1.mono HB0.out.size)); clear hb1
    go_wp2_with fail
    refine bodyPost_ret (v := .tuple #[.agg #[.slice none 0 0, .int .i64 0], .bool false]) (by simp [results, Try.results18, go_sem, b0, b1]) rfl ?_
    refine LeavePost.no HF.out ((HB1.out.setCell ?_ _).setCell ?_ _) <;> simp
  · rw [hv] at HV
    obtain ⟨hl1, hl5, _, _, hok⟩ := poolB_iff.1 hv
    have HGD := Lib.hid (okL_good hok); clear hok
    have hn0 : 0 < n := by omega
    obtain ⟨ad, rfl⟩ : ∃ ad, A = some ad := by
      obtain ⟨b, off, e, _⟩ := hr (by intro h0; have := frsC_len l; rw [h0] at this; simp at this; omega)
      exact ⟨_, e⟩
    cases hp : pageI p
    · rw [hp] at HPG
      have HF := Lib.hid (show leaveR l h p = none by unfold leaveR; rw [hv, hp]; rfl)
      clear hr hn hv hp
      go_enter Try.func18, Try.ntmps18
      go_wp2_with fail
      refine (HV.out _ HB0.out).mono ?_
      rintro e w1 ⟨rfl, hb1⟩
      have hsz := hb1.size
      have b0 : w1.cell? ⟨w.heap.size + 1, 0, none⟩ = some (.slice none 0 0) := (hb1.cell (p := ⟨w.heap.size + 1, 0, none⟩) (by simp)).trans (by simp [go_sem])
      have b1 : w1.cell? ⟨w.heap.size + 1, 1, none⟩ = some (.int .i64 0) := (hb1.cell (p := ⟨w.heap.size + 1, 1, none⟩) (by simp)).trans (by simp [go_sem])
      have f0 : w1.frozen? ⟨w.heap.size + 1, 0, none⟩ = false := (hb1.frozen (p := ⟨w.heap.size + 1, 0, none⟩) (by simp)).trans (by simp [go_sem])
      have f1 : w1.frozen? ⟨w.heap.size + 1, 1, none⟩ = false := (hb1.frozen (p := ⟨w.heap.size + 1, 1, none⟩) (by simp)).trans (by simp [go_sem])
      have HB1 := Lib.hid (HB0.out.trans (hb1.mono HB0.out.size)); clear hb1
      go_wp2_with fail
      refine (HPG.out _).mono ?_
      rintro e w2 ⟨rfl, hw2⟩
      obtain rfl := hw2.symm
      go_wp2_with fail
      refine bodyPost_ret (v := .tuple #[.agg #[.slice none 0 0, .int .i64 0], .bool false]) (by simp [results, Try.results18, go_sem, b0, b1]) rfl ?_
      refine LeavePost.no HF.out ((HB1.out.setCell ?_ _).setCell ?_ _) <;> simp
    · rw [hp] at HPG
      have HF := Lib.hid (show leaveR l h p = leaveL p l by unfold leaveR; rw [hv, hp]; rfl)
      have HCP := Lib.hid (fun W (hb : Below w.heap.size w W) => copyPool_any ad n c l h W ((hr.below hb).mono hb.size) hn hn0 hs)
      have HN := Lib.hid hn
      clear hr hn hv hp
      go_enter Try.func18, Try.ntmps18
      go_wp2_with fail
      refine (HV.out _ HB0.out).mono ?_
      rintro e w1 ⟨rfl, hb1⟩
      have hsz := hb1.size
      have a0 : w1.cell? ⟨w.heap.size, 0, none⟩ = some (.slice (some ad) n c) := (hb1.cell (p := ⟨w.heap.size, 0, none⟩) (by simp; omega)).trans (by simp [go_sem])
      have a1 : w1.cell? ⟨w.heap.size, 1, none⟩ = some (.int .i64 h) := (hb1.cell (p := ⟨w.heap.size, 1, none⟩) (by simp; omega)).trans (by simp [go_sem])
      have b0 : w1.cell? ⟨w.heap.size + 1, 0, none⟩ = some (.slice none 0 0) := (hb1.cell (p := ⟨w.heap.size + 1, 0, none⟩) (by simp)).trans (by simp [go_sem])
      have b1 : w1.cell? ⟨w.heap.size + 1, 1, none⟩ = some (.int .i64 0) := (hb1.cell (p := ⟨w.heap.size + 1, 1, none⟩) (by simp)).trans (by simp [go_sem])
      have f0 : w1.frozen? ⟨w.heap.size + 1, 0, none⟩ = false := (hb1.frozen (p := ⟨w.heap.size + 1, 0, none⟩) (by simp)).trans (by simp [go_sem])
      have f1 : w1.frozen? ⟨w.heap.size + 1, 1, none⟩ = false := (hb1.frozen (p := ⟨w.heap.size + 1, 1, none⟩) (by simp)).trans (by simp [go_sem])
      have hs1 : w.heap.size + 2 ≤ w1.heap.size := by simpa using hsz
      have HB1 := Lib.hid (HB0.out.trans (hb1.mono HB0.out.size)); clear hb1 hsz
      have HB01 := Lib.hid b0
      have HB11 := Lib.hid b1
      have HF01 := Lib.hid f0
      have HF11 := Lib.hid f1
      go_wp2_with fail
      refine (HPG.out _).mono ?_
      rintro e w2 ⟨rfl, hw2⟩
      obtain rfl := hw2.symm
      go_wp2_with fail
      refine (HCP.out _ HB1.out).mono ?_
      rintro e w3 ⟨g, c', rfl, hrow, hb3⟩
      have hs3 := hb3.size
      have hg := hrow.ge
      have b30 : w3.cell? ⟨w.heap.size + 1, 0, none⟩ = some (.slice none 0 0) := (hb3.cell (p := ⟨w.heap.size + 1, 0, none⟩) (by show w.heap.size + 1 < w1.heap.size; omega)).trans HB01.out
      have b31 : w3.cell? ⟨w.heap.size + 1, 1, none⟩ = some (.int .i64 0) := (hb3.cell (p := ⟨w.heap.size + 1, 1, none⟩) (by show w.heap.size + 1 < w1.heap.size; omega)).trans HB11.out
      have f30 : w3.frozen? ⟨w.heap.size + 1, 0, none⟩ = false := (hb3.frozen (p := ⟨w.heap.size + 1, 0, none⟩) (by show w.heap.size + 1 < w1.heap.size; omega)).trans HF01.out
      have f31 : w3.frozen? ⟨w.heap.size + 1, 1, none⟩ = false := (hb3.frozen (p := ⟨w.heap.size + 1, 1, none⟩) (by show w.heap.size + 1 < w1.heap.size; omega)).trans HF11.out
      have HROW := Lib.hid (hrow.mono (B' := w.heap.size + 2) (by omega))
      have HROWA := Lib.hid (hrow.keep ((Below.refl w3.heap.size w3).alloc (Nat.le_refl _) (.cells #[.slice (some ⟨g, 0, none⟩) n c', .int .i64 h] 28)))
      have HB3 := Lib.hid (HB1.out.trans (hb3.mono HB1.out.size))
      have hgl := hrow.lt
      clear hrow hb3 a0 a1 b0 b1 f0 f1
      have hw3 : w.heap.size + 1 < w3.heap.size := by omega
      have HFO := Lib.hid (iFrameOf_any _ g n c' w3.heap.size l h p _ HROWA.out hs (by simp))
      cases hix : decide (frameIx l p < l.length)
      · have hix2 : ¬ frameIx l p < l.length := by simpa using hix
        have HN2 := Lib.hid (HF.out.trans (show leaveL p l = none by unfold leaveL; rw [if_neg hix2]))
        have HPT := Lib.hid (show ptrF g l p = .pointer none by unfold ptrF; rw [if_neg hix2])
        rw [HPT.out] at HFO
        clear hix hix2
        go_wp2_with fail
        refine (HFO.out).mono ?_
        rintro e w4 ⟨rfl, hw4⟩
        obtain rfl := hw4.symm
        go_wp2_with fail
        refine bodyPost_ret (v := .tuple #[.agg #[.slice none 0 0, .int .i64 0], .bool false]) (by simp [results, Try.results18, go_sem, b30, b31, hw3]) rfl ?_
        refine LeavePost.no HN2.out (((HB3.out.setCell ?_ _).setCell ?_ _).alloc ?_ _) <;> simp <;> omega
      · have hix2 : frameIx l p < l.length := by simpa using hix
        have HPT := Lib.hid (show ptrF g l p = .pointer (some ⟨g, frameIx l p * 3, none⟩) by unfold ptrF; rw [if_pos hix2])
        have HLV := Lib.hid (show leaveR l h p = if l[frameIx l p].2.1 = 0 then none else some (l.set (frameIx l p) (p, l[frameIx l p].2.1 - 1, l[frameIx l p].2.2)) by
          rw [HF.out]; unfold leaveL
          rw [if_pos hix2, List.getD_eq_getElem?_getD, List.getElem?_eq_getElem hix2]; rfl)
        have HIS := Lib.hid (frameIx_is hix2)
        rw [HPT.out] at HFO
        have HCE := Lib.hid (HROWA.out.cells hix2)
        obtain ⟨m0, m1, m2, k0, k1, k2⟩ := HCE.out
        have hgd := goodF_cases (HGD.out _ (List.getElem_mem hix2))
        have hbd : -1 ≤ l[frameIx l p].2.1 ∧ l[frameIx l p].2.1 ≤ 3 := by rcases hgd with h1 | h1 <;> omega
        clear hgd hix
        have HS1 := Lib.hid (fun x => HROW.out.set1 hix2 x)
        generalize hI : frameIx l p = I at *
        generalize hpin : l[I].2.1 = pin at *
        have hIn : I < n := by have := HN.out; omega
        by_cases hp0 : pin = 0
        · have HN2 := Lib.hid (show leaveR l h p = none by rw [HLV.out, if_pos hp0])
          have q0 : (pin == 0) = true := by simpa using hp0
          clear hp0
          go_wp2_with fail
          refine (HFO.out).mono ?_
          rintro e w4 ⟨rfl, hw4⟩
          obtain rfl := hw4.symm
          go_wp2_with fail
          refine bodyPost_ret (v := .tuple #[.agg #[.slice none 0 0, .int .i64 0], .bool false]) (by simp [results, Try.results18, go_sem, b30, b31, hw3]) rfl ?_
          refine LeavePost.no HN2.out (((HB3.out.setCell ?_ _).setCell ?_ _).alloc ?_ _) <;> simp <;> omega
        · have HN2 := Lib.hid (show leaveR l h p = some (l.set I (p, pin - 1, l[I].2.2)) by rw [HLV.out, if_neg hp0])
          have q0 : (pin == 0) = false := by simpa using hp0
          have HS1P := Lib.hid (HS1.out (pin - 1))
          rw [HIS.out] at HS1P
          clear hp0
          go_wp2_with fail
          refine (HFO.out).mono ?_
          rintro e w4 ⟨rfl, hw4⟩
          obtain rfl := hw4.symm
          go_wp2_with fail
          refine bodyPost_ret (v := .tuple #[.agg #[.slice (some ⟨g, 0, none⟩) n c', .int .i64 h], .bool true]) ?_ rfl ?_
          · simp [results, Try.results18, go_sem, b30, b31, hw3]
          · have hgw : w.heap.size + 2 ≤ g := HROW.out.ge
            refine LeavePost.yes HN2.out (RowF.pool (RowF.alloc (RowF.low (RowF.low HS1P.out ?_ _) ?_ _) _) h ?_) ((((HB3.out.setCell ?_ _).setCell ?_ _).setCell ?_ _).alloc ?_ _) <;> simp <;> omega
end Go.Proofs.Ytompbkphdjjpdaa
