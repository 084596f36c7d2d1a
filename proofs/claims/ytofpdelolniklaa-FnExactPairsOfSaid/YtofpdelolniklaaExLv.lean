/- Contracts of the exact laws' own helpers on lists of lists of items: szItemSS, toItemSS, eqItemSS, and how such an argument is opened. Conditions: the rows lie in memory; they are few. -/
import Derived.Test.YtofpdelolniklaaExItem
import Derived.Test.YtofpdelolniklaaAsc
set_option linter.unusedVariables false
set_option linter.unusedSimpArgs false
namespace Go.Proofs.Ytofpdelolniklaa
open Go.RowKit Go.ChangeShapes Go.WideShapes

theorem own_leL {w : World} {B B' n z : Nat} {e : TypeId} {v : Value} {xs : List Value} (h : w.ownsRow B e z v n xs) (hB : B' ≤ B) : w.ownsRow B' e z v n xs := by
  refine ⟨h.1, ?_⟩
  rcases h.2 with h | ⟨g, cap, cur, hv, hg, r⟩
  · exact .inl h
  · exact .inr ⟨g, cap, cur, hv, by omega, r⟩
theorem own_cap0 {w : World} {B n c k z : Nat} {e : TypeId} {A : Option Addr} {xs : List Value} (h : w.ownsRow B e z (.slice A n c) k xs) : A = none → c = 0 := by
  rintro rfl
  rcases h.2 with ⟨hv, _⟩ | ⟨g, cap, cur, hv, _⟩
  · injection hv
  · injection hv with h1; cases h1
/-- a slice's header -/
abbrev Hd := Option Addr × Nat × Nat
def hdC (h : Hd) : List Value := [.slice h.1 h.2.1 h.2.2]
theorem hdC_len (h : Hd) : (hdC h).length = 1 := rfl
def hdsC (l : List Hd) : List Value := l.flatMap hdC
theorem hdsC_len (l : List Hd) : (hdsC l).length = l.length := by have := flat_len hdC 1 hdC_len l; rw [Nat.mul_one] at this; exact this
theorem hdsC_snoc (A : List Hd) (x : Hd) : hdsC (A ++ [x]) = hdsC A ++ [.slice x.1 x.2.1 x.2.2] := by unfold hdsC; rw [List.flatMap_append]; simp [hdC]
theorem hdsC_at {l : List Hd} {k : Nat} (h : k < l.length) : (hdsC l)[k]? = some (.slice l[k].1 l[k].2.1 l[k].2.2) := by
  have := flat_at hdC 1 hdC_len l k 0 (by omega)
  rw [Nat.mul_one, Nat.add_zero] at this
  rw [hdsC, this, List.getElem?_eq_getElem h]; rfl
/-- lists of items that a slice of slices leads to -/
def LvAt (w : World) (B : Nat) (A : Option Addr) (L : List (List It)) : Prop :=
  ∃ hs : List Hd, hs.length = L.length ∧ RowAt w B A (hdsC hs) ∧ ∀ (i : Nat) (h1 : i < hs.length) (h2 : i < L.length), hs[i].2.1 = L[i].length ∧ (hs[i].1 = none → hs[i].2.2 = 0) ∧ RowAt w B hs[i].1 (itsC L[i])
section
variable {w w' : World} {B B' : Nat} {A : Option Addr} {L : List (List It)} {k : Nat}
theorem LvAt.below (h : LvAt w B A L) (hb : Below B w w') : LvAt w' B A L := by
  obtain ⟨hs, h1, h2, h3⟩ := h
  exact ⟨hs, h1, h2.below hb, fun i a b => ⟨(h3 i a b).1, (h3 i a b).2.1, (h3 i a b).2.2.below hb⟩⟩
theorem LvAt.mono (h : LvAt w B A L) (hB : B ≤ B') : LvAt w B' A L := by
  obtain ⟨hs, h1, h2, h3⟩ := h
  exact ⟨hs, h1, h2.mono hB, fun i a b => ⟨(h3 i a b).1, (h3 i a b).2.1, (h3 i a b).2.2.mono hB⟩⟩
theorem LvAt.at0 (h : LvAt w B A L) (hk : k < L.length) : ∃ b off A' c', A = some ⟨b, off, none⟩ ∧ b < B ∧ w.cell? ⟨b, off + k, none⟩ = some (.slice A' L[k].length c') ∧ (A' = none → c' = 0) ∧ RowAt w B A' (itsC L[k]) := by
  obtain ⟨hs, h1, h2, h3⟩ := h
  have hkh : k < hs.length := by omega
  obtain ⟨b, off, rfl, hb, hc⟩ := h2 (by intro h0; have := hdsC_len hs; rw [h0] at this; simp at this; omega)
  have h4 := hc k _ (hdsC_at hkh)
  obtain ⟨h5, h6, h7⟩ := h3 k hkh hk
  rw [h5] at h4
  exact ⟨b, off, hs[k].1, hs[k].2.2, rfl, hb, h4, h6, h7⟩
theorem LvAt.at_ (h : LvAt w B A L) (hk : k < L.length) : ∃ b off A' c', A = some ⟨b, off, none⟩ ∧ b < B ∧ w.cell? ⟨b, off + k, none⟩ = some (.slice A' L[k].length c') ∧ RowAt w B A' (itsC L[k]) := by
  obtain ⟨b, off, A', c', h1, h2, h3, _, h4⟩ := h.at0 hk
  exact ⟨b, off, A', c', h1, h2, h3, h4⟩
end
theorem lvInfo : (Try.prog.info? 23).map (fun i => (i.zero, i.size, i.bytes)) = some (some (.slice none 0 0), 1, 24) := by kernel_rfl
theorem lv_cells : Try.prog.cellsOf 58 = 1 := by kernel_rfl
def WfLv (L : List (List It)) : Prop := ∀ r ∈ L, r.length ≤ maxLen ∧ WfIt r
def SmallLv (L : List (List It)) : Prop := ∀ r ∈ L, r.length ≤ 1048576 ∧ ∀ p ∈ r, SmallIt p
section
variable {H : Type} {enc : TypeId × Value → H} {w : World} {base : Nat} {spare : Nat → Bool} {held : Bool}
def lvF (a : Hd × List It) : List Value := hdC a.1
set_option maxRecDepth 100000 in
theorem lv_read (m : Nat) (cs : List Value) (y : DataW H × List MemPlace) (hy : DataW.trod enc Try.prog w base spare held m 58 cs = some y) : ∃ a : Hd × List It, cs = lvF a ∧ (ItArg w a.1.1 a.1.2.1 a.1.2.2 a.2 ∧ (a.1.1 = none → a.1.2.2 = 0)) := by
  rcases Go.Deep.open_slice Try.underlying58 hy with ⟨hcs, _⟩ | ⟨ad, len, cap, mm, q, D, Pl, hcs, _⟩
  · subst hcs
    obtain ⟨l, hl⟩ := open_it hy
    exact ⟨((none, 0, 0), l), rfl, hl, fun _ => rfl⟩
  · subst hcs
    obtain ⟨l, hl⟩ := open_it hy
    exact ⟨((some ad, len, cap), l), rfl, hl, fun h => by cases h⟩
/-- a list of lists as an argument, as it was read -/
def LvArg (w : World) (A : Option Addr) (n c : Nat) (L : List (List It)) : Prop := n = L.length ∧ n ≤ c ∧ c ≤ maxLen ∧ LvAt w w.heap.size A L ∧ WfLv L
theorem open_lv {fuel : Nat} {A : Option Addr} {n c : Nat} {x : DataW H × List MemPlace} (h : DataW.trod enc Try.prog w base spare held fuel 45 [.slice A n c] = some x) : ∃ L : List (List It), LvArg w A n c L := by
  obtain ⟨l, h1, h2, h3, h4, h5⟩ := open_rows lvF (fun a => ItArg w a.1.1 a.1.2.1 a.1.2.2 a.2 ∧ (a.1.1 = none → a.1.2.2 = 0)) 1 (by decide) (fun a => rfl) Try.underlying45 lv_cells lv_read h
  refine ⟨l.map (fun a => a.2), by rw [List.length_map]; exact h1, h2, h3, ⟨l.map (fun a => a.1), by simp, ?_, ?_⟩, ?_⟩
  · have e : hdsC (l.map fun a => a.1) = l.flatMap lvF := by unfold hdsC; rw [List.flatMap_map]; rfl
    rw [e]; exact h4
  · intro i a b
    simp only [List.getElem_map]
    have hi : i < l.length := by simpa using a
    have := h5 l[i] (List.getElem_mem hi)
    exact ⟨this.1.1, this.2, this.1.2.2.2.1⟩
  · intro r hr
    obtain ⟨a, ha, rfl⟩ := List.mem_map.1 hr
    have := (h5 a ha).1
    exact ⟨by have h6 := this.1; have h7 := this.2.1; have h8 := this.2.2.1; omega, this.2.2.2.2⟩
end

set_option maxRecDepth 100000 in
set_option maxHeartbeats 1000000 in
theorem szItemSS_any (A : Option Addr) (n c : Nat) (L : List (List It)) (M : Int) (w : World) (hr : LvAt w w.heap.size A L) (hn : n = L.length) (hm : n ≤ maxLen) (hw : WfLv L) (h0 : 0 ≤ M) (hM : M ≤ 1048576) :
    Calls Try.prog 23 #[.slice A n c, .int .i64 M] w fun e w' => (∃ v : Int, e = .returned (.int .i64 v) ∧ (v < 0 ∨ (0 ≤ v ∧ v ≤ M ∧ n ≤ 1048576 ∧ SmallLv L))) ∧ Below w.heap.size w w' := by
  unfold maxLen at hm
  have HR := Lib.hid hr; clear hr
  have HN := Lib.hid hn; clear hn
  have HW := Lib.hid hw; clear hw
  by_cases hnl : (n : Int) ≤ M
  · go_enter Try.func23, Try.ntmps23
    go_wp2_with fail
    go_loopw [1, 5] (fun q i wr => ∃ (k : Nat) (v : Int), i = .int .i64 k ∧ q = .int .i64 v ∧ k ≤ n ∧ 0 ≤ v ∧ v ≤ M ∧ SmallLv (L.take k) ∧ Below w.heap.size w wr) (fun _ i _ => n - (intOf i).toNat)
    case atStart => exact ⟨0, M - n, rfl, rfl, Nat.zero_le _, by omega, by omega, fun r hr => by simp at hr, Below.refl _ _⟩
    case round =>
      obtain ⟨k, v, rfl, rfl, hk, hv0, hv1, hs, hb⟩ := hrel
      have HS := Lib.hid hs; clear hs
      have HB := Lib.hid hb; clear hb
      by_cases hlt : k < n
      · have hkl : k < L.length := by have := HN.out; omega
        obtain ⟨b, off, A', c', hA, hbw, e0, hrow⟩ := (HR.out.below HB.out).at_ hkl
        subst hA
        obtain ⟨g1, g2⟩ := HW.out L[k] (List.getElem_mem hkl)
        have HT := Lib.hid (show L.take (k + 1) = L.take k ++ [L[k]] from List.take_succ_eq_append_getElem hkl)
        have HC := Lib.hid (szItemS_any A' L[k].length c' L[k] v wr (hrow.mono HB.out.size) rfl g1 g2 hv0 (by omega))
        have hi1 : (k : Int) < (n : Int) := by omega
        clear g1 g2 hrow
        generalize L[k] = r at *
        obtain ⟨m, hm2⟩ : ∃ m, r.length = m := ⟨_, rfl⟩
        have HML := Lib.hid hm2
        rw [hm2] at HC e0
        clear hm2
        go_wp2_with fail
        refine (HC.out).mono ?_
        rintro e w3 ⟨⟨v2, rfl, hv2⟩, hb3⟩
        have HB3 := Lib.hid (HB.out.trans (hb3.mono HB.out.size)); clear hb3
        rcases Int.lt_or_le v2 0 with hneg | hpos
        · clear hv2
          go_wp2_with fail
          go_ret
          exact ⟨⟨_, rfl, Or.inl (by omega)⟩, HB3.out⟩
        · have hv3 : v2 ≤ v ∧ m ≤ 1048576 ∧ ∀ p ∈ r, SmallIt p := by
            rcases hv2 with h | h
            · omega
            · exact h.2
          have HS3 := Lib.hid (show SmallLv (L.take (k + 1)) by
            rw [HT.out]
            intro p hp
            rcases List.mem_append.1 hp with h | h
            · exact HS.out p h
            · rw [List.mem_singleton.1 h]; exact ⟨by rw [HML.out]; exact hv3.2.1, hv3.2.2⟩)
          have hv4 := hv3.1
          clear hv2 hv3
          go_wp2_with fail
          go_roundw
          case rel => exact ⟨k + 1, v2, by go_num, rfl, by omega, hpos, by omega, HS3.out, HB3.out⟩
          case measure => simp [intOf]; omega
      · obtain rfl : k = n := by omega
        have HS2 := Lib.hid (show SmallLv L by
          have := HS.out; rw [HN.out, List.take_length] at this; exact this)
        go_wp2_with fail
        go_ret
        exact ⟨⟨_, rfl, Or.inr ⟨hv0, hv1, by omega, HS2.out⟩⟩, HB.out⟩
  · go_enter Try.func23, Try.ntmps23
    go_wp2_with fail
    go_ret
    exact ⟨⟨_, rfl, Or.inl (by omega)⟩, Below.refl _ _⟩

/-- the inner rows of the call's own -/
def InnLv (B : Nat) (w : World) (hs : List Hd) (L : List (List It)) : Prop := ∀ (i : Nat) (h1 : i < hs.length) (h2 : i < L.length), hs[i].2.1 = L[i].length ∧ w.ownsRow B 31 3 (.slice hs[i].1 hs[i].2.1 hs[i].2.2) L[i].length (itsC L[i])
/-- the row that the call fills: k of its elements are there -/
def FillLv (w : World) (g n : Nat) (L : List (List It)) (k : Nat) (wr : World) : Prop :=
  k ≤ n ∧ w.heap.size ≤ g ∧ g < wr.heap.size ∧ (∃ (hs : List Hd) (R : List Value), hs.length = k ∧ R.length = n - k ∧ wr.ownsRow w.heap.size 23 1 (.slice (some ⟨g, 0, none⟩) n n) n (hdsC hs ++ R) ∧ InnLv (g + 1) wr hs L) ∧ Below w.heap.size w wr
theorem FillLv.keep {w wr W : World} {g n : Nat} {L : List (List It)} {k : Nat} (h : FillLv w g n L k wr) (hb : Below wr.heap.size wr W) : FillLv w g n L k W := by
  obtain ⟨h1, h2, h3, ⟨hs, R, h4, h5, h6, h7⟩, hB⟩ := h
  exact ⟨h1, h2, Nat.lt_of_lt_of_le h3 hb.size, ⟨hs, R, h4, h5, h6.kept (grown_of_below (row := none) hb) (by simp [Value.ownBlock]), fun i a b => ⟨(h7 i a b).1, (h7 i a b).2.kept (grown_of_below (row := none) hb) (by cases hs[i].1 <;> simp [Value.ownBlock])⟩⟩, hB.trans (hb.mono hB.size)⟩
theorem FillLv.put {w wr : World} {g n : Nat} {L : List (List It)} {k : Nat} (h : FillLv w g n L k wr) (hn : n = L.length) (hk : k < n) {A : Option Addr} {c : Nat}
    (ho : wr.ownsRow (g + 1) 31 3 (.slice A (L[k]'(by omega)).length c) (L[k]'(by omega)).length (itsC (L[k]'(by omega)))) :
    FillLv w g n L (k + 1) (wr.setCell ⟨g, k, none⟩ (.slice A (L[k]'(by omega)).length c)) := by
  obtain ⟨_, hg, hgs, ⟨hs, R, h4, h5, h6, h7⟩, hB⟩ := h
  match R, h5 with
  | [], h5 => simp at h5; omega
  | r0 :: R, h5 =>
    have hlen : (hdsC hs).length = k := by rw [hdsC_len, h4]
    have o0 := (h6.stored k (.slice A (L[k]'(by omega)).length c)).1
    rw [set_appIt _ _ _ _ _ hlen.symm] at o0
    have hset : wr.grownBy (wr.setCell ⟨g, k, none⟩ (.slice A (L[k]'(by omega)).length c)) (some g) := grown_setCell _
    have hin : ∀ {A' : Option Addr} {m c' : Nat} {r : List It}, wr.ownsRow (g + 1) 31 3 (.slice A' m c') r.length (itsC r) → (wr.setCell ⟨g, k, none⟩ (.slice A (L[k]'(by omega)).length c)).ownsRow (g + 1) 31 3 (.slice A' m c') r.length (itsC r) := fun h => h.kept hset (by
      rename_i A' m c' r
      cases hA : A' with
      | none => exact .inl rfl
      | some a => exact .inr (fun e => by
          subst hA
          have := (h.lt a.block rfl).1; injection e with e; omega))
    refine ⟨by omega, hg, by simpa using hgs, ⟨hs ++ [(A, (L[k]'(by omega)).length, c)], R, by simp [h4], by simp at h5; omega, ?_, ?_⟩, hB.setCell hg _⟩
    · rw [hdsC_snoc]; exact o0
    · intro i a b
      rcases Nat.lt_or_ge i hs.length with h1 | h1
      · rw [List.getElem_append_left h1]
        exact ⟨(h7 i h1 b).1, hin (h7 i h1 b).2⟩
      · have : i = k := by simp at a; omega
        subst this
        rw [List.getElem_append_right h1]
        simp only [h4, Nat.sub_self, List.getElem_cons_zero]
        exact ⟨trivial, hin ho⟩
theorem FillLv.start {w w1 : World} {n : Nat} {L : List (List It)} {z : Array Value} (hown : w1.ownsRow w.heap.size 23 1 (.slice (some ⟨w.heap.size, 0, none⟩) n n) n (madeCells z (n * 1)).toList) (hg : w.grownBy w1 none) : FillLv w w.heap.size n L 0 w1 :=
  ⟨by omega, by omega, (hown.lt w.heap.size rfl).2, ⟨[], (madeCells z (n * 1)).toList, rfl, by simp [size_madeCells], by simpa [hdsC] using hown, fun i a b => by simp at a⟩, (Below.refl _ _).grown hg (Nat.le_refl _) (by simp)⟩
theorem FillLv.cells {w wr : World} {g n : Nat} {L : List (List It)} {k : Nat} (h : FillLv w g n L k wr) (hk : k < n) :
    (∃ u, wr.cell? ⟨g, k, none⟩ = some u) ∧ wr.frozen? ⟨g, k, none⟩ = false := by
  obtain ⟨_, hg, _, ⟨hs, R, h4, h5, ho, _⟩, hB⟩ := h
  have c0 := ho.cellAt k (by omega)
  rw [List.getElem?_eq_getElem (by rw [ho.1]; omega)] at c0
  exact ⟨⟨_, c0⟩, ho.frozenAt _⟩
/-- lists of the call's own -/
def OwnLv (B : Nat) (L : List (List It)) (v : Value) (w : World) : Prop :=
  ∃ (A : Option Addr) (c : Nat) (hs : List Hd), v = .slice A L.length c ∧ hs.length = L.length ∧ w.ownsRow B 23 1 (.slice A L.length c) L.length (hdsC hs) ∧ InnLv B w hs L
theorem InnLv.rows {B : Nat} {w : World} {hs : List Hd} {L : List (List It)} (h : InnLv B w hs L) : ∀ (i : Nat) (h1 : i < hs.length) (h2 : i < L.length), hs[i].2.1 = L[i].length ∧ (hs[i].1 = none → hs[i].2.2 = 0) ∧ RowAt w w.heap.size hs[i].1 (itsC L[i]) := fun i a b => ⟨(h i a b).1, own_cap0 (h i a b).2, by have h5 := (h i a b).2; rw [(h i a b).1] at h5; exact RowAt.of_own h5⟩
theorem OwnLv.at_ {B : Nat} {L : List (List It)} {v : Value} {w : World} (h : OwnLv B L v w) : ∃ (A : Option Addr) (c : Nat), v = .slice A L.length c ∧ LvAt w w.heap.size A L := by
  obtain ⟨A, c, hs, rfl, h1, h2, h3⟩ := h
  exact ⟨A, c, rfl, hs, h1, RowAt.of_own h2, h3.rows⟩
theorem FillLv.done {w wr : World} {g n : Nat} {L : List (List It)} (h : FillLv w g n L n wr) (hn : n = L.length) : OwnLv w.heap.size L (.slice (some ⟨g, 0, none⟩) n n) wr ∧ Below w.heap.size w wr := by
  obtain ⟨_, hg, _, ⟨hs, R, h4, h5, ho, hi⟩, hB⟩ := h
  have : R = [] := List.eq_nil_of_length_eq_zero (by omega)
  subst this
  rw [List.append_nil] at ho
  subst hn
  exact ⟨⟨_, _, hs, rfl, h4, ho, fun i a b => ⟨(hi i a b).1, own_leL (hi i a b).2 (by omega)⟩⟩, hB⟩
def LvPost (L : List (List It)) (w : World) (e : Ending) (w' : World) : Prop := ∃ v, e = .returned v ∧ OwnLv w.heap.size L v w' ∧ Below w.heap.size w w'

set_option maxRecDepth 100000 in
set_option maxHeartbeats 1000000 in
theorem toItemSS_any (A : Option Addr) (n c : Nat) (L : List (List It)) (w : World) (hr : LvAt w w.heap.size A L) (hn : n = L.length) (hs : n ≤ 1048576) (hsm : SmallLv L) :
    Calls Try.prog 25 #[.slice A n c] w (LvPost L w) := by
  obtain ⟨i0, hi0, hz0, hz1, hz2⟩ := info_parts lvInfo
  have HR := Lib.hid hr; clear hr
  have HN := Lib.hid hn; clear hn
  have HSM := Lib.hid hsm; clear hsm
  have hb2 : i0.bytes * n ≤ 281474976710656 := by rw [hz2]; omega
  have HI := Lib.hid (And.intro hi0 (And.intro hz0 (And.intro hz1 hz2))); clear hi0 hz0 hz1 hz2
  go_enter Try.func25, Try.ntmps25
  go_wp2_with ((refine wpList_make_full _ rfl _ _ 29 rfl w.heap.size 23 i0 (.slice none 0 0) 1 Try.underlying29 HI.out.1 HI.out.2.1 HI.out.2.2.1 .i64 .i64 _ _ n rfl rfl rfl rfl hb2 (by unfold maxLen; omega) (Nat.le_refl _) ?_
                intro w1 hown hg1
                have HF := Lib.hid (FillLv.start (L := L) hown hg1)
                clear hown hg1))
  clear hb2
  go_loopw [4] (fun i wr => ∃ k : Nat, i = .int .i64 k ∧ FillLv w w.heap.size n L k wr) (fun i _ => n - (intOf i).toNat)
  case atStart => exact ⟨0, rfl, HF.out⟩
  case round =>
    clear HF
    obtain ⟨k, rfl, hf⟩ := hrel
    have HF := Lib.hid hf; clear hf
    have hk := HF.out.1
    by_cases hlt : k < n
    · have hkl : k < L.length := by have := HN.out; omega
      obtain ⟨b, off, A', c', hA, hbw, e0, hrow⟩ := (HR.out.below HF.out.2.2.2.2).at_ hkl
      subst hA
      have hbs : b < wr.heap.size := Nat.lt_of_lt_of_le hbw HF.out.2.2.2.2.size
      have HT := Lib.hid (toItemS_any A' L[k].length c' L[k] wr (hrow.mono HF.out.2.2.2.2.size) rfl (HSM.out L[k] (List.getElem_mem hkl)).1)
      have HS := Lib.hid (fun W (hb : Below wr.heap.size wr W) A c ho => (HF.out.keep (W := W) hb).put HN.out hlt (A := A) (c := c) ho)
      have HC := Lib.hid (fun W hb => (HF.out.keep (W := W) hb).cells hlt)
      have hi1 : (k : Int) < (n : Int) := by omega
      have hgs := HF.out.2.2.1
      clear hrow
      generalize L[k] = r at *
      go_wp2_with fail
      refine (HT.out).mono ?_
      rintro e w3 ⟨v3, rfl, ⟨A3, c3, rfl, ho3⟩, hb3⟩
      have HB3 := Lib.hid hb3; clear hb3
      have HO3 := Lib.hid (own_leL ho3 (show w.heap.size + 1 ≤ wr.heap.size by omega)); clear ho3
      obtain ⟨⟨u0, c0⟩, f0⟩ := HC.out _ HB3.out
      have HX := Lib.hid (HS.out _ HB3.out A3 c3 HO3.out)
      generalize r.length = q at *
      go_wp2_with fail
      go_roundw
      case rel => exact ⟨k + 1, by go_num, HX.out⟩
      case measure => simp [intOf]; omega
    · obtain rfl : k = n := by omega
      have HD := Lib.hid (HF.out.done HN.out)
      go_wp2_with fail
      go_ret
      exact ⟨_, rfl, HD.out⟩

set_option maxHeartbeats 1000000 in
set_option maxRecDepth 100000 in
theorem eqItemSS_same (A1 A2 : Option Addr) (n c1 c2 : Nat) (L : List (List It)) (w : World) (h1 : LvAt w w.heap.size A1 L) (h2 : LvAt w w.heap.size A2 L) (hn : n = L.length) (hs : n ≤ 1048576) (hsm : SmallLv L) :
    Calls Try.prog 27 #[.slice A1 n c1, .slice A2 n c2] w fun e w' => e = .returned (.bool true) ∧ Below w.heap.size w w' := by
  have H1 := Lib.hid h1; clear h1
  have H2 := Lib.hid h2; clear h2
  have HN := Lib.hid hn; clear hn
  have HSM := Lib.hid hsm; clear hsm
  go_enter Try.func27, Try.ntmps27
  go_wp2
  go_loopw [5] (fun i wr => ∃ k : Nat, k ≤ n ∧ i = .int .i64 k ∧ Below w.heap.size w wr) (fun i _ => n - (intOf i).toNat)
  case atStart => exact ⟨0, by omega, rfl, Below.refl _ _⟩
  case round =>
    obtain ⟨k, hk, rfl, hb⟩ := hrel
    have HB := Lib.hid hb; clear hb
    by_cases hlt : k < n
    · have hk1 : k < L.length := by have := HN.out; omega
      obtain ⟨b, off, A1', c1', hA1, hbw, e0, hr1⟩ := (H1.out.below HB.out).at_ hk1
      obtain ⟨b2, off2, A2', c2', hA2, hbw2, e1, hr2⟩ := (H2.out.below HB.out).at_ hk1
      subst hA1 hA2
      have hsl := HSM.out L[k] (List.getElem_mem hk1)
      have HE := Lib.hid (eqItemS_same A1' A2' L[k].length c1' c2' L[k] wr.drew ((hr1.mono HB.out.size).keep (fun _ _ => rfl)) ((hr2.mono HB.out.size).keep (fun _ _ => rfl)) rfl hsl.1 (fun p hp => ⟨Nat.le_trans (hsl.2 p hp).1 (by simp [maxLen]), Nat.le_trans (hsl.2 p hp).2 (by simp [maxLen])⟩))
      have hi1 : (k : Int) < (n : Int) := by omega
      have HBD := Lib.hid (show Below w.heap.size w wr.drew from HB.out.trans (below_drewN _ 1))
      clear hsl hr1 hr2
      generalize L[k].length = q at *
      generalize L[k] = r at *
      go_wp2_with fail
      go_still_tail 8, (by kernel_rfl)
      change wpList _ _ _ _ _ wr.drew
      clear e0 e1
      generalize wr.drew = W at *
      go_wp2_with fail
      refine (HE.out).mono ?_
      rintro e w3 ⟨rfl, hb3⟩
      have HB3 := Lib.hid (HBD.out.trans (hb3.mono HBD.out.size)); clear hb3
      go_wp2_with fail
      go_roundw
      case rel => exact ⟨k + 1, by omega, by go_num, HB3.out⟩
      case measure => simp [intOf]; omega
    · obtain rfl : k = n := by omega
      go_wp2_with fail
      go_ret
      exact ⟨rfl, HB.out⟩
end Go.Proofs.Ytofpdelolniklaa
