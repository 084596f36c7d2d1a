/- Contracts of the exact laws' own helpers on lists of logs: szEntrySS, toEntrySS, eqEntrySS, and how such an argument is opened. Conditions: the rows lie in memory; they are few. -/
import Derived.Test.YtgoonccjdoajnaaExEntryM
set_option linter.unusedVariables false
set_option linter.unusedSimpArgs false
namespace Go.Proofs.Ytgoonccjdoajnaa
open Go.RowKit Go.ChangeShapes Go.WideShapes

theorem own_leG {w : World} {B B' n z : Nat} {e : TypeId} {v : Value} {xs : List Value} (h : w.ownsRow B e z v n xs) (hB : B' ≤ B) : w.ownsRow B' e z v n xs := by
  refine ⟨h.1, ?_⟩
  rcases h.2 with h | ⟨g, cap, cur, hv, hg, r⟩
  · exact .inl h
  · exact .inr ⟨g, cap, cur, hv, by omega, r⟩
theorem own_cap0G {w : World} {B n c k z : Nat} {e : TypeId} {A : Option Addr} {xs : List Value} (h : w.ownsRow B e z (.slice A n c) k xs) : A = none → c = 0 := by
  rintro rfl
  rcases h.2 with ⟨hv, _⟩ | ⟨g, cap, cur, hv, _⟩
  · injection hv
  · injection hv with h1; cases h1
/-- a slice's header -/
abbrev GHd := Option Addr × Nat × Nat
def ghC (h : GHd) : List Value := [.slice h.1 h.2.1 h.2.2]
theorem ghC_len (h : GHd) : (ghC h).length = 1 := rfl
def ghsC (l : List GHd) : List Value := l.flatMap ghC
theorem ghsC_len (l : List GHd) : (ghsC l).length = l.length := by have := flat_len ghC 1 ghC_len l; rw [Nat.mul_one] at this; exact this
theorem ghsC_snoc (A : List GHd) (x : GHd) : ghsC (A ++ [x]) = ghsC A ++ [.slice x.1 x.2.1 x.2.2] := by unfold ghsC; rw [List.flatMap_append]; simp [ghC]
theorem ghsC_at {l : List GHd} {k : Nat} (h : k < l.length) : (ghsC l)[k]? = some (.slice l[k].1 l[k].2.1 l[k].2.2) := by
  have := flat_at ghC 1 ghC_len l k 0 (by omega)
  rw [Nat.mul_one, Nat.add_zero] at this
  rw [ghsC, this, List.getElem?_eq_getElem h]; rfl
/-- lists of items that a slice of slices leads to -/
def GvAt (w : World) (B : Nat) (A : Option Addr) (L : List (List En)) : Prop :=
  ∃ hs : List GHd, hs.length = L.length ∧ RowAt w B A (ghsC hs) ∧ ∀ (i : Nat) (h1 : i < hs.length) (h2 : i < L.length), hs[i].2.1 = L[i].length ∧ ((hs[i].1 = none → hs[i].2.2 = 0) ∧ hs[i].2.1 ≤ hs[i].2.2) ∧ RowAt w B hs[i].1 (ensC L[i])
section
variable {w w' : World} {B B' : Nat} {A : Option Addr} {L : List (List En)} {k : Nat}
theorem GvAt.below (h : GvAt w B A L) (hb : Below B w w') : GvAt w' B A L := by
  obtain ⟨hs, h1, h2, h3⟩ := h
  exact ⟨hs, h1, h2.below hb, fun i a b => ⟨(h3 i a b).1, (h3 i a b).2.1, (h3 i a b).2.2.below hb⟩⟩
theorem GvAt.mono (h : GvAt w B A L) (hB : B ≤ B') : GvAt w B' A L := by
  obtain ⟨hs, h1, h2, h3⟩ := h
  exact ⟨hs, h1, h2.mono hB, fun i a b => ⟨(h3 i a b).1, (h3 i a b).2.1, (h3 i a b).2.2.mono hB⟩⟩
theorem GvAt.at0 (h : GvAt w B A L) (hk : k < L.length) : ∃ b off A' c', A = some ⟨b, off, none⟩ ∧ b < B ∧ w.cell? ⟨b, off + k, none⟩ = some (.slice A' L[k].length c') ∧ ((A' = none → c' = 0) ∧ L[k].length ≤ c') ∧ RowAt w B A' (ensC L[k]) := by
  obtain ⟨hs, h1, h2, h3⟩ := h
  have hkh : k < hs.length := by omega
  obtain ⟨b, off, rfl, hb, hc⟩ := h2 (by intro h0; have := ghsC_len hs; rw [h0] at this; simp at this; omega)
  have h4 := hc k _ (ghsC_at hkh)
  obtain ⟨h5, h6, h7⟩ := h3 k hkh hk
  rw [h5] at h4 h6
  exact ⟨b, off, hs[k].1, hs[k].2.2, rfl, hb, h4, h6, h7⟩
theorem GvAt.at_ (h : GvAt w B A L) (hk : k < L.length) : ∃ b off A' c', A = some ⟨b, off, none⟩ ∧ b < B ∧ w.cell? ⟨b, off + k, none⟩ = some (.slice A' L[k].length c') ∧ RowAt w B A' (ensC L[k]) := by
  obtain ⟨b, off, A', c', h1, h2, h3, _, h4⟩ := h.at0 hk
  exact ⟨b, off, A', c', h1, h2, h3, h4⟩
end
theorem gvInfo : (Try.prog.info? 57).map (fun i => (i.zero, i.size, i.bytes)) = some (some (.slice none 0 0), 1, 24) := by kernel_rfl
theorem gv_cells : Try.prog.cellsOf 83 = 1 := by kernel_rfl
def WfGv (L : List (List En)) : Prop := ∀ r ∈ L, r.length ≤ maxLen ∧ WfEn r
def SmallGv (L : List (List En)) : Prop := ∀ r ∈ L, r.length ≤ 1048576
section
variable {H : Type} {enc : TypeId × Value → H} {w : World} {base : Nat} {spare : Nat → Bool} {held : Bool}
def gvF (a : GHd × List En) : List Value := ghC a.1
set_option maxRecDepth 100000 in
theorem gv_read (m : Nat) (cs : List Value) (y : DataW H × List MemPlace) (hy : DataW.trod enc Try.prog w base spare held m 83 cs = some y) : ∃ a : GHd × List En, cs = gvF a ∧ (EnArg w a.1.1 a.1.2.1 a.1.2.2 a.2 ∧ (a.1.1 = none → a.1.2.2 = 0)) := by
  rcases Go.Deep.open_slice Try.underlying83 hy with ⟨hcs, _⟩ | ⟨ad, len, cap, mm, q, D, Pl, hcs, _⟩
  · subst hcs
    obtain ⟨l, hl⟩ := open_en hy
    exact ⟨((none, 0, 0), l), rfl, hl, fun _ => rfl⟩
  · subst hcs
    obtain ⟨l, hl⟩ := open_en hy
    exact ⟨((some ad, len, cap), l), rfl, hl, fun h => by cases h⟩
/-- a list of lists as an argument, as it was read -/
def GvArg (w : World) (A : Option Addr) (n c : Nat) (L : List (List En)) : Prop := n = L.length ∧ n ≤ c ∧ c ≤ maxLen ∧ GvAt w w.heap.size A L ∧ WfGv L
theorem open_gv {fuel : Nat} {A : Option Addr} {n c : Nat} {x : DataW H × List MemPlace} (h : DataW.trod enc Try.prog w base spare held fuel 22 [.slice A n c] = some x) : ∃ L : List (List En), GvArg w A n c L := by
  obtain ⟨l, h1, h2, h3, h4, h5⟩ := open_rows gvF (fun a => EnArg w a.1.1 a.1.2.1 a.1.2.2 a.2 ∧ (a.1.1 = none → a.1.2.2 = 0)) 1 (by decide) (fun a => rfl) Try.underlying22 gv_cells gv_read h
  refine ⟨l.map (fun a => a.2), by rw [List.length_map]; exact h1, h2, h3, ⟨l.map (fun a => a.1), by simp, ?_, ?_⟩, ?_⟩
  · have e : ghsC (l.map fun a => a.1) = l.flatMap gvF := by unfold ghsC; rw [List.flatMap_map]; rfl
    rw [e]; exact h4
  · intro i a b
    simp only [List.getElem_map]
    have hi : i < l.length := by simpa using a
    have := h5 l[i] (List.getElem_mem hi)
    exact ⟨this.1.1, ⟨this.2, this.1.2.1⟩, this.1.2.2.2.1⟩
  · intro r hr
    obtain ⟨a, ha, rfl⟩ := List.mem_map.1 hr
    have := (h5 a ha).1
    exact ⟨by have h6 := this.1; have h7 := this.2.1; have h8 := this.2.2.1; omega, this.2.2.2.2⟩
end

/-- how many entries there are -/
def sumE (L : List (List En)) : Nat := (L.map List.length).sum
theorem sumE_step {L : List (List En)} {k : Nat} (h : k < L.length) : sumE (L.take (k + 1)) = sumE (L.take k) + L[k].length := by
  unfold sumE; rw [List.take_succ_eq_append_getElem h, List.map_append, List.sum_append]; simp
theorem sumE_le (L : List (List En)) (k : Nat) : sumE (L.take k) ≤ sumE L := by
  have h : sumE L = sumE (L.take k) + sumE (L.drop k) := by
    unfold sumE; rw [← List.sum_append, ← List.map_append, List.take_append_drop]
  omega
theorem sumE_at {L : List (List En)} {k : Nat} (h : k < L.length) : L[k].length ≤ sumE L := by
  have h1 := sumE_step h
  have h2 := sumE_le L (k + 1)
  omega
theorem small_of_sum {L : List (List En)} (h : sumE L ≤ 1048576) : SmallGv L := fun r hr => by
  obtain ⟨i, hi, rfl⟩ := List.getElem_of_mem hr
  exact Nat.le_trans (sumE_at hi) h
theorem szEntryS_ex (A : Option Addr) (n c : Nat) (M : Int) (w : World) (hm : n ≤ maxLen) (h0 : 0 ≤ M) (hM : M ≤ 1048576) :
    Calls Try.prog 68 #[.slice A n c, .int .i64 M] w fun e w' => (∃ v : Int, e = .returned (.int .i64 v) ∧ (v < 0 ∨ (0 ≤ v ∧ v + (n : Int) = M))) ∧ w' = w := by
  unfold maxLen at hm
  go_enter Try.func68, Try.ntmps68
  go_wp2
  all_goals go_ret
  all_goals first | exact ⟨⟨_, rfl, Or.inl (by omega)⟩, rfl⟩ | exact ⟨⟨_, rfl, Or.inr ⟨by omega, by omega⟩⟩, rfl⟩
set_option maxRecDepth 100000 in
set_option maxHeartbeats 1000000 in
theorem szEntrySS_any (A : Option Addr) (n c : Nat) (L : List (List En)) (M : Int) (w : World) (hr : GvAt w w.heap.size A L) (hn : n = L.length) (hm : n ≤ maxLen) (hw : WfGv L) (h0 : 0 ≤ M) (hM : M ≤ 1048576) :
    Calls Try.prog 39 #[.slice A n c, .int .i64 M] w fun e w' => (∃ v : Int, e = .returned (.int .i64 v) ∧ (v < 0 ∨ (0 ≤ v ∧ n ≤ 1048576 ∧ sumE L ≤ 1048576))) ∧ w' = w := by
  unfold maxLen at hm
  have HR := Lib.hid hr; clear hr
  have HN := Lib.hid hn; clear hn
  have HW := Lib.hid hw; clear hw
  by_cases hnl : (n : Int) ≤ M
  · go_enter Try.func39, Try.ntmps39
    go_wp2_with fail
    go_loop [1, 5] (fun q i => ∃ (k : Nat) (v : Int), i = .int .i64 k ∧ q = .int .i64 v ∧ k ≤ n ∧ 0 ≤ v ∧ v + (sumE (L.take k) : Int) ≤ M) (fun _ i => n - (intOf i).toNat)
    case atStart => exact ⟨0, M - n, rfl, rfl, Nat.zero_le _, by omega, by simp [sumE]; omega⟩
    case round =>
      obtain ⟨k, v, rfl, rfl, hk, hv0, hv1⟩ := hrel
      by_cases hlt : k < n
      · have hkl : k < L.length := by have := HN.out; omega
        obtain ⟨b, off, A', c', hA, hbw, e0, hrow⟩ := HR.out.at_ hkl
        subst hA
        obtain ⟨g1, g2⟩ := HW.out L[k] (List.getElem_mem hkl)
        have HS := Lib.hid (sumE_step hkl)
        have HC := Lib.hid (szEntryS_ex A' L[k].length c' v w g1 hv0 (by omega))
        have hi1 : (k : Int) < (n : Int) := by omega
        clear g1 g2 hrow
        generalize L[k].length = m at *
        go_wp2_with fail
        refine (HC.out).mono ?_
        rintro e w3 ⟨⟨v2, rfl, hv2⟩, hw3⟩
        obtain rfl := hw3.symm
        rcases Int.lt_or_le v2 0 with hneg | hpos
        · clear hv2
          go_wp2_with fail
          go_ret
          exact ⟨⟨_, rfl, Or.inl (by omega)⟩, rfl⟩
        · have hv3 : v2 + (m : Int) = v := by
            rcases hv2 with h | h
            · omega
            · exact h.2
          have HV3 := Lib.hid hv3
          clear hv2 hv3
          go_wp2_with fail
          go_round
          case rel => exact ⟨k + 1, v2, by go_num, rfl, by omega, hpos, by have h1 := HS.out; have h2 := HV3.out; rw [h1]; omega⟩
          case measure => simp [intOf]; omega
      · obtain rfl : k = n := by omega
        have HS2 := Lib.hid (show (sumE L : Int) ≤ M by have h1 := HN.out; rw [h1, List.take_length] at hv1; omega)
        go_wp2_with fail
        go_ret
        exact ⟨⟨_, rfl, Or.inr ⟨hv0, by omega, by have := HS2.out; omega⟩⟩, rfl⟩
  · go_enter Try.func39, Try.ntmps39
    go_wp2_with fail
    go_ret
    exact ⟨⟨_, rfl, Or.inl (by omega)⟩, rfl⟩

/-- no two rows lie in one block -/
def Dis (hs : List GHd) : Prop := ∀ (i j : Nat) (h1 : i < hs.length) (h2 : j < hs.length), i ≠ j → ∀ q, blkOf hs[i].1 = some q → blkOf hs[j].1 ≠ some q
theorem Dis.nil : Dis [] := fun i j h => by simp at h
theorem Dis.snoc {hs : List GHd} (h : Dis hs) {B : Nat} (hb : ∀ (i : Nat) (h1 : i < hs.length) q, blkOf hs[i].1 = some q → q < B) {x : GHd} (hx : ∀ q, blkOf x.1 = some q → B ≤ q) : Dis (hs ++ [x]) := fun i j h1 h2 hij q hq hq2 => by
  simp only [List.length_append, List.length_singleton] at h1 h2
  rcases Nat.lt_or_ge i hs.length with a | a
  · rw [List.getElem_append_left a] at hq
    rcases Nat.lt_or_ge j hs.length with b | b
    · rw [List.getElem_append_left b] at hq2
      exact h i j a b hij q hq hq2
    · rw [List.getElem_append_right b] at hq2
      have : j - hs.length = 0 := by omega
      simp only [this, List.getElem_cons_zero] at hq2
      have h3 := hb i a q hq
      have h4 := hx q hq2
      omega
  · rw [List.getElem_append_right a] at hq
    have e : i - hs.length = 0 := by omega
    simp only [e, List.getElem_cons_zero] at hq
    have b : j < hs.length := by omega
    rw [List.getElem_append_left b] at hq2
    have h3 := hb j b q hq2
    have h4 := hx q hq
    omega
/-- the inner rows of the call's own -/
def InnGv (B : Nat) (w : World) (hs : List GHd) (L : List (List En)) : Prop := Dis hs ∧ ∀ (i : Nat) (h1 : i < hs.length) (h2 : i < L.length), hs[i].2.1 = L[i].length ∧ w.ownsRow B 63 2 (.slice hs[i].1 hs[i].2.1 hs[i].2.2) L[i].length (ensC L[i])
theorem InnGv.lt {B : Nat} {w : World} {hs : List GHd} {L : List (List En)} (h : InnGv B w hs L) (hl : hs.length ≤ L.length) : ∀ (i : Nat) (h1 : i < hs.length) q, blkOf hs[i].1 = some q → q < w.heap.size := fun i h1 q hq =>
  ((h.2 i h1 (by omega)).2.lt q (by rw [blk_slice]; exact hq)).2
theorem InnGv.keep {B : Nat} {W W' : World} {hs : List GHd} {L : List (List En)} (h : InnGv B W hs L) (hb : Below W.heap.size W W') : InnGv B W' hs L := ⟨h.1, fun i a b => ⟨(h.2 i a b).1, (h.2 i a b).2.kept (grown_of_below (row := none) hb) (by cases hs[i].1 <;> simp [Value.ownBlock])⟩⟩
/-- the row that the call fills: k of its elements are there -/
def FillGv (w : World) (g n : Nat) (L : List (List En)) (k : Nat) (wr : World) : Prop :=
  k ≤ n ∧ w.heap.size ≤ g ∧ g < wr.heap.size ∧ (∃ (hs : List GHd) (R : List Value), hs.length = k ∧ R.length = n - k ∧ wr.ownsRow w.heap.size 57 1 (.slice (some ⟨g, 0, none⟩) n n) n (ghsC hs ++ R) ∧ InnGv (g + 1) wr hs L) ∧ Below w.heap.size w wr
theorem FillGv.put {w wr W : World} {g n : Nat} {L : List (List En)} {k : Nat} (h : FillGv w g n L k wr) (hb : Below wr.heap.size wr W) (hn : n = L.length) (hk : k < n) {A : Option Addr} {c : Nat}
    (ho : W.ownsRow wr.heap.size 63 2 (.slice A (L[k]'(by omega)).length c) (L[k]'(by omega)).length (ensC (L[k]'(by omega)))) :
    FillGv w g n L (k + 1) (W.setCell ⟨g, k, none⟩ (.slice A (L[k]'(by omega)).length c)) := by
  obtain ⟨_, hg, hgs, ⟨hs, R, h4, h5, h6, h7⟩, hB⟩ := h
  have hlt := h7.lt (by omega)
  have h6 := h6.kept (grown_of_below (row := none) hb) (by simp [Value.ownBlock])
  have h7 := h7.keep hb
  have hbs := hb.size
  match R, h5 with
  | [], h5 => simp at h5; omega
  | r0 :: R, h5 =>
    have hlen : (ghsC hs).length = k := by rw [ghsC_len, h4]
    have o0 := (h6.stored k (.slice A (L[k]'(by omega)).length c)).1
    rw [set_appEn _ _ _ _ _ hlen.symm] at o0
    have hset : W.grownBy (W.setCell ⟨g, k, none⟩ (.slice A (L[k]'(by omega)).length c)) (some g) := grown_setCell _
    have hin : ∀ {B0 : Nat} {A' : Option Addr} {m c' : Nat} {r : List En}, g + 1 ≤ B0 → W.ownsRow B0 63 2 (.slice A' m c') r.length (ensC r) → (W.setCell ⟨g, k, none⟩ (.slice A (L[k]'(by omega)).length c)).ownsRow (g + 1) 63 2 (.slice A' m c') r.length (ensC r) := fun hB0 h => own_leG (h.kept hset (by
      rename_i B0 A' m c' r
      cases hA : A' with
      | none => exact .inl rfl
      | some a => exact .inr (fun e => by
          subst hA
          have := (h.lt a.block rfl).1; injection e with e; omega))) hB0
    refine ⟨by omega, hg, by simp; omega, ⟨hs ++ [(A, (L[k]'(by omega)).length, c)], R, by simp [h4], by simp at h5; omega, ?_, h7.1.snoc (B := wr.heap.size) hlt (fun q hq => (ho.lt q (by rw [blk_slice]; exact hq)).1), ?_⟩, (hB.trans (hb.mono hB.size)).setCell hg _⟩
    · rw [ghsC_snoc]; exact o0
    · intro i a b
      rcases Nat.lt_or_ge i hs.length with h1 | h1
      · rw [List.getElem_append_left h1]
        exact ⟨(h7.2 i h1 b).1, hin (Nat.le_refl _) (h7.2 i h1 b).2⟩
      · have : i = k := by simp at a; omega
        subst this
        rw [List.getElem_append_right h1]
        simp only [h4, Nat.sub_self, List.getElem_cons_zero]
        exact ⟨trivial, hin (by omega) ho⟩
theorem FillGv.start {w w1 : World} {n : Nat} {L : List (List En)} {z : Array Value} (hown : w1.ownsRow w.heap.size 57 1 (.slice (some ⟨w.heap.size, 0, none⟩) n n) n (madeCells z (n * 1)).toList) (hg : w.grownBy w1 none) : FillGv w w.heap.size n L 0 w1 :=
  ⟨by omega, by omega, (hown.lt w.heap.size rfl).2, ⟨[], (madeCells z (n * 1)).toList, rfl, by simp [size_madeCells], by simpa [ghsC] using hown, Dis.nil, fun i a b => by simp at a⟩, (Below.refl _ _).grown hg (Nat.le_refl _) (by simp)⟩
theorem FillGv.cells {w wr W : World} {g n : Nat} {L : List (List En)} {k : Nat} (h : FillGv w g n L k wr) (hb : Below wr.heap.size wr W) (hk : k < n) :
    (∃ u, W.cell? ⟨g, k, none⟩ = some u) ∧ W.frozen? ⟨g, k, none⟩ = false := by
  obtain ⟨_, hg, _, ⟨hs, R, h4, h5, ho, _⟩, hB⟩ := h
  have ho := ho.kept (grown_of_below (row := none) hb) (by simp [Value.ownBlock])
  have c0 := ho.cellAt k (by omega)
  rw [List.getElem?_eq_getElem (by rw [ho.1]; omega)] at c0
  exact ⟨⟨_, c0⟩, ho.frozenAt _⟩
/-- lists of the call's own -/
def OwnGv (B : Nat) (L : List (List En)) (v : Value) (w : World) : Prop :=
  ∃ (A : Option Addr) (c : Nat) (hs : List GHd), v = .slice A L.length c ∧ hs.length = L.length ∧ w.ownsRow B 57 1 (.slice A L.length c) L.length (ghsC hs) ∧ InnGv B w hs L
theorem InnGv.rows {B : Nat} {w : World} {hs : List GHd} {L : List (List En)} (h : InnGv B w hs L) : ∀ (i : Nat) (h1 : i < hs.length) (h2 : i < L.length), hs[i].2.1 = L[i].length ∧ ((hs[i].1 = none → hs[i].2.2 = 0) ∧ hs[i].2.1 ≤ hs[i].2.2) ∧ RowAt w w.heap.size hs[i].1 (ensC L[i]) := fun i a b => ⟨(h.2 i a b).1, ⟨own_cap0G (h.2 i a b).2, by have h5 := (h.2 i a b).2; rw [(h.2 i a b).1] at h5 ⊢; exact (own_caps h5).1⟩, by have h5 := (h.2 i a b).2; rw [(h.2 i a b).1] at h5; exact RowAt.of_own h5⟩
theorem OwnGv.at_ {B : Nat} {L : List (List En)} {v : Value} {w : World} (h : OwnGv B L v w) : ∃ (A : Option Addr) (c : Nat), v = .slice A L.length c ∧ GvAt w w.heap.size A L := by
  obtain ⟨A, c, hs, rfl, h1, h2, h3⟩ := h
  exact ⟨A, c, rfl, hs, h1, RowAt.of_own h2, h3.rows⟩
theorem FillGv.done {w wr : World} {g n : Nat} {L : List (List En)} (h : FillGv w g n L n wr) (hn : n = L.length) : OwnGv w.heap.size L (.slice (some ⟨g, 0, none⟩) n n) wr ∧ Below w.heap.size w wr := by
  obtain ⟨_, hg, _, ⟨hs, R, h4, h5, ho, hi⟩, hB⟩ := h
  have : R = [] := List.eq_nil_of_length_eq_zero (by omega)
  subst this
  rw [List.append_nil] at ho
  subst hn
  exact ⟨⟨_, _, hs, rfl, h4, ho, hi.1, fun i a b => ⟨(hi.2 i a b).1, own_leG (hi.2 i a b).2 (by omega)⟩⟩, hB⟩
def GvPost (L : List (List En)) (w : World) (e : Ending) (w' : World) : Prop := ∃ v, e = .returned v ∧ OwnGv w.heap.size L v w' ∧ Below w.heap.size w w'

set_option maxRecDepth 100000 in
set_option maxHeartbeats 1000000 in
theorem toEntrySS_any (A : Option Addr) (n c : Nat) (L : List (List En)) (w : World) (hr : GvAt w w.heap.size A L) (hn : n = L.length) (hs : n ≤ 1048576) (hsm : SmallGv L) :
    Calls Try.prog 41 #[.slice A n c] w (GvPost L w) := by
  obtain ⟨i0, hi0, hz0, hz1, hz2⟩ := info_parts gvInfo
  have HR := Lib.hid hr; clear hr
  have HN := Lib.hid hn; clear hn
  have HSM := Lib.hid hsm; clear hsm
  have hb2 : i0.bytes * n ≤ 281474976710656 := by rw [hz2]; omega
  have HI := Lib.hid (And.intro hi0 (And.intro hz0 (And.intro hz1 hz2))); clear hi0 hz0 hz1 hz2
  go_enter Try.func41, Try.ntmps41
  go_wp2_with ((refine wpList_make_full _ rfl _ _ 27 rfl w.heap.size 57 i0 (.slice none 0 0) 1 Try.underlying27 HI.out.1 HI.out.2.1 HI.out.2.2.1 .i64 .i64 _ _ n rfl rfl rfl rfl hb2 (by unfold maxLen; omega) (Nat.le_refl _) ?_
                intro w1 hown hg1
                have HF := Lib.hid (FillGv.start (L := L) hown hg1)
                clear hown hg1))
  clear hb2
  go_loopw [4] (fun i wr => ∃ k : Nat, i = .int .i64 k ∧ FillGv w w.heap.size n L k wr) (fun i _ => n - (intOf i).toNat)
  case atStart => exact ⟨0, rfl, HF.out⟩
  case round =>
    clear HF
    obtain ⟨k, rfl, hf⟩ := hrel
    have HF := Lib.hid hf; clear hf
    have hk := HF.out.1
    by_cases hlt : k < n
    · have hkl : k < L.length := by have := HN.out; omega
      obtain ⟨b, off, A', c', hA, hbw, e0, hrow⟩ := (HR.out.below HF.out.2.2.2.2).at_ hkl
      subst hA
      have hbs : b < wr.heap.size := Nat.lt_of_lt_of_le hbw HF.out.2.2.2.2.size
      have HT := Lib.hid (toEntryS_any A' L[k].length c' L[k] wr (hrow.mono HF.out.2.2.2.2.size) rfl (HSM.out L[k] (List.getElem_mem hkl)))
      have HS := Lib.hid (fun W (hb : Below wr.heap.size wr W) A c ho => HF.out.put hb HN.out hlt (A := A) (c := c) ho)
      have HC := Lib.hid (fun W (hb : Below wr.heap.size wr W) => HF.out.cells hb hlt)
      have hi1 : (k : Int) < (n : Int) := by omega
      have hgs := HF.out.2.2.1
      clear hrow
      generalize L[k] = r at *
      go_wp2_with fail
      refine (HT.out).mono ?_
      rintro e w3 ⟨v3, rfl, ⟨A3, c3, rfl, ho3⟩, hb3⟩
      have HB3 := Lib.hid hb3; clear hb3
      have HO3 := Lib.hid ho3; clear ho3
      obtain ⟨⟨u0, c0⟩, f0⟩ := HC.out _ HB3.out
      have HX := Lib.hid (HS.out _ HB3.out A3 c3 HO3.out)
      generalize r.length = q at *
      go_wp2_with fail
      go_roundw
      case rel => exact ⟨k + 1, by go_num, HX.out⟩
      case measure => simp [intOf]; omega
    · obtain rfl : k = n := by omega
      have HD := Lib.hid (HF.out.done HN.out)
      go_wp2_with fail
      go_ret
      exact ⟨_, rfl, HD.out⟩

set_option maxHeartbeats 1000000 in
set_option maxRecDepth 100000 in
theorem eqEntrySS_same (A1 A2 : Option Addr) (n c1 c2 : Nat) (L : List (List En)) (w : World) (h1 : GvAt w w.heap.size A1 L) (h2 : GvAt w w.heap.size A2 L) (hn : n = L.length) (hs : n ≤ 1048576) (hsm : SmallGv L) :
    Calls Try.prog 44 #[.slice A1 n c1, .slice A2 n c2] w fun e w' => e = .returned (.bool true) ∧ Below w.heap.size w w' := by
  have H1 := Lib.hid h1; clear h1
  have H2 := Lib.hid h2; clear h2
  have HN := Lib.hid hn; clear hn
  have HSM := Lib.hid hsm; clear hsm
  go_enter Try.func44, Try.ntmps44
  go_wp2
  go_loopw [5] (fun i wr => ∃ k : Nat, k ≤ n ∧ i = .int .i64 k ∧ Below w.heap.size w wr) (fun i _ => n - (intOf i).toNat)
  case atStart => exact ⟨0, by omega, rfl, Below.refl _ _⟩
  case round =>
    obtain ⟨k, hk, rfl, hb⟩ := hrel
    have HB := Lib.hid hb; clear hb
    by_cases hlt : k < n
    · have hk1 : k < L.length := by have := HN.out; omega
      obtain ⟨b, off, A1', c1', hA1, hbw, e0, hr1⟩ := (H1.out.below HB.out).at_ hk1
      obtain ⟨b2, off2, A2', c2', hA2, hbw2, e1, hr2⟩ := (H2.out.below HB.out).at_ hk1
      subst hA1 hA2
      have hsl := HSM.out L[k] (List.getElem_mem hk1)
      have HE := Lib.hid (eqEntryS_same A1' A2' L[k].length c1' c2' L[k] wr.drew ((hr1.mono HB.out.size).keep (fun _ _ => rfl)) ((hr2.mono HB.out.size).keep (fun _ _ => rfl)) rfl hsl)
      have hi1 : (k : Int) < (n : Int) := by omega
      have HBD := Lib.hid (show Below w.heap.size w wr.drew from HB.out.trans (below_drewN _ 1))
      clear hsl hr1 hr2
      generalize L[k].length = q at *
      generalize L[k] = r at *
      go_wp2_with fail
      go_still_tail 8, (by kernel_rfl)
      change wpList _ _ _ _ _ wr.drew
      clear e0 e1
      generalize wr.drew = W at *
      go_wp2_with fail
      refine (HE.out).mono ?_
      rintro e w3 ⟨rfl, hb3⟩
      have HB3 := Lib.hid (HBD.out.trans (hb3.mono HBD.out.size)); clear hb3
      go_wp2_with fail
      go_roundw
      case rel => exact ⟨k + 1, by omega, by go_num, HB3.out⟩
      case measure => simp [intOf]; omega
    · obtain rfl : k = n := by omega
      go_wp2_with fail
      go_ret
      exact ⟨rfl, HB.out⟩
end Go.Proofs.Ytgoonccjdoajnaa
