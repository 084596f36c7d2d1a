/- Contracts of the model's reader of a code: newReader, pick, of, one. No condition. -/
import Derived.Test.YtgoonccjdoajnabProg
import Derived.Test.YtgoonccjdoajnabBase
import Derived.Deep.QuietTactic
import Derived.BigQuiet
import Derived.Outline
set_option linter.unusedVariables false
set_option linter.unusedSimpArgs false
namespace Go.Proofs.Ytgoonccjdoajnab
open Go.RowKit Go.ChangeShapes Go.WideShapes

def PickPost (r N : Nat) (n : Int) (w : World) (e : Ending) (w' : World) : Prop :=
  ∃ v : Int, e = .returned (.int .i64 v) ∧ 0 ≤ v ∧ (v < n ∨ v = 0) ∧ Rdr 77 w' r (N + 1) ∧ w.grownBy w' (some r)

theorem pick_post {r N : Nat} {n : Int} {w : World} {A : Option Addr} {l c p : Nat} (hh : w.heap[r]? = some (.cells #[.slice A l c, .int .i64 p] 77 (0, 0)))
    (hp : p ≤ N) (hl : l ≤ 2000) (hb : BytesAt w r A l) (v : Int) (h0 : 0 ≤ v) (hv : v < n ∨ v = 0) (k : Nat) {q : Int} (hq : q = ((p + 1 : Nat) : Int)) :
    PickPost r N n w (.returned (.int .i64 v)) ((w.setCell ⟨r, 1, none⟩ (.int .i64 q)).drewN k) := by
  subst hq
  refine ⟨v, rfl, h0, hv, ⟨A, l, c, p + 1, ?_, by omega, hl, ?_⟩, (grown_setCell _).trans' (grown_drewN k)⟩
  · show (w.setCell ⟨r, 1, none⟩ _).heap[r]? = _
    rw [heap_setCell_same w r 1 _ _ _ hh]; rfl
  · refine hb.keep fun i hi => ?_
    show (w.setCell ⟨r, 1, none⟩ _).heap[i]? = _
    exact heap_setCell_other _ _ _ _ (by simp; omega)

set_option maxHeartbeats 1000000 in
theorem pick_any (r N : Nat) (n : Int) (w : World) (h : Rdr 77 w r N) (hN : N ≤ 1000000) (hn : n ≤ 1000000) :
    Calls Try.prog 55 #[.pointer (some ⟨r, 0, none⟩), .int .i64 n] w (PickPost r N n w) := by
  obtain ⟨A, l, c, p, hh, hp, hl, hb⟩ := h
  have c0 : w.cell? ⟨r, 0, none⟩ = some (.slice A l c) := cell_of_row w r 0 _ _ _ hh
  have c1 : w.cell? ⟨r, 1, none⟩ = some (.int .i64 p) := cell_of_row w r 1 _ _ _ hh
  have f1 : w.frozen? ⟨r, 1, none⟩ = false := by simp [World.frozen?, hh]
  have HH := Lib.hid hh; clear hh
  have HB := Lib.hid hb; clear hb
  have HP := @pick_post r N n w A l c p HH.out hp hl HB.out
  have HPP := Lib.hid HP; clear HP
  by_cases hn1 : n < 1
  · go_enter Try.func55, Try.ntmps55
    go_wp2
    go_ret
    exact HPP.out 0 (by omega) (Or.inr rfl) 0 (by omega)
  · have hn2 : 1 ≤ n := by omega
    rcases Nat.eq_zero_or_pos l with h0 | h0
    · subst h0
      go_enter Try.func55, Try.ntmps55
      go_wp2
      go_ret
      exact HPP.out 0 (by omega) (Or.inr rfl) 0 (by omega)
    · obtain ⟨b, off, rfl, hbr, hcell⟩ := HB.out h0
      have hne : ((l : Int) == 0) = false := by simp; omega
      by_cases hpl : p < l
      · obtain ⟨z, hz, hz0, hz1⟩ := hcell p hpl
        clear hcell
        go_enter Try.func55, Try.ntmps55
        go_wp2
        go_ret
        have e1 := Int.emod_nonneg z (show n ≠ 0 by omega)
        have e2 := Int.emod_lt_of_pos z (show 0 < n by omega)
        exact HPP.out (z % n) e1 (Or.inl e2) 0 (by omega)
      · obtain ⟨z, hz, hz0, hz1⟩ := hcell (p % l) (Nat.mod_lt _ h0)
        obtain ⟨y, hy, hy0, hy1⟩ := hcell ((p * 7 + 3) % l) (Nat.mod_lt _ h0)
        clear hcell
        have hl0 : ¬ l = 0 := by omega
        have hml := Nat.mod_lt p h0
        have hml2 := Nat.mod_lt (p * 7 + 3) h0
        obtain ⟨d, hd⟩ : ∃ d, p / l = d := ⟨_, rfl⟩
        have hd2 : d ≤ p := by rw [← hd]; exact Nat.div_le_self _ _
        have e1 : ((p : Int)).tmod (l : Int) = (p : Int) % (l : Int) := (Int.ofNat_tmod p l).symm
        have e1a : 0 ≤ (p : Int) % (l : Int) := Int.emod_nonneg _ (by omega)
        have e1b : (p : Int) % (l : Int) < (l : Int) := Int.emod_lt_of_pos _ (by omega)
        have e1c : ((p : Int) % (l : Int)).toNat = p % l := by rw [← Int.natCast_emod, Int.toNat_natCast]
        have e2 : IntKind.i64.wrap (z * 131) = z * 131 := IntWalk.i64_in _ (by omega)
        have e3 : IntKind.i64.wrap ((p : Int) * 7) = (p : Int) * 7 := IntWalk.i64_in _ (by omega)
        have e4 : IntKind.i64.wrap ((p : Int) * 7 + 3) = (p : Int) * 7 + 3 := IntWalk.i64_in _ (by omega)
        have e5 : ((p : Int) * 7 + 3).tmod (l : Int) = ((p : Int) * 7 + 3) % (l : Int) := (Int.ofNat_tmod (p * 7 + 3) l).symm
        have e5a : 0 ≤ ((p : Int) * 7 + 3) % (l : Int) := Int.emod_nonneg _ (by omega)
        have e5b : ((p : Int) * 7 + 3) % (l : Int) < (l : Int) := Int.emod_lt_of_pos _ (by omega)
        have e5c : (((p : Int) * 7 + 3) % (l : Int)).toNat = (p * 7 + 3) % l := by
          rw [show (p : Int) * 7 + 3 = ((p * 7 + 3 : Nat) : Int) from by omega, ← Int.natCast_emod, Int.toNat_natCast]
        have e6 : IntKind.i64.wrap (y * 1117) = y * 1117 := IntWalk.i64_in _ (by omega)
        have e7 : IntKind.i64.wrap (z * 131 + y * 1117) = z * 131 + y * 1117 := IntWalk.i64_in _ (by omega)
        have e8 : IntKind.i64.wrap ((p : Int) * 29) = (p : Int) * 29 := IntWalk.i64_in _ (by omega)
        have e9 : IntKind.i64.wrap (z * 131 + y * 1117 + (p : Int) * 29) = z * 131 + y * 1117 + (p : Int) * 29 := IntWalk.i64_in _ (by omega)
        have e10 : ((p : Int)).tdiv (l : Int) = (d : Int) := by rw [← hd]; exact (Int.ofNat_tdiv p l).symm
        have e11 : IntKind.i64.wrap ((d : Int) * 53) = (d : Int) * 53 := IntWalk.i64_in _ (by omega)
        have e12 : IntKind.i64.wrap (z * 131 + y * 1117 + (p : Int) * 29 + (d : Int) * 53) = z * 131 + y * 1117 + (p : Int) * 29 + (d : Int) * 53 := IntWalk.i64_in _ (by omega)
        have hX0 : 0 ≤ z * 131 + y * 1117 + (p : Int) * 29 + (d : Int) * 53 := by omega
        have hX1 : z * 131 + y * 1117 + (p : Int) * 29 + (d : Int) * 53 ≤ 1000000000000 := by omega
        obtain ⟨X, hX⟩ : ∃ X, z * 131 + y * 1117 + (p : Int) * 29 + (d : Int) * 53 = X := ⟨_, rfl⟩
        have HX := Lib.hid hX
        rw [hX] at hX0 hX1
        clear hX
        have hD := Lib.hid hd; clear hd
        go_enter Try.func55, Try.ntmps55
        go_wp2
        go_quiet (fail)
        clear e1 e1a e1b e1c e5a e5b e5c e2 e3 e4 e5 e6 e7 e8 e9 e10 e11 e12
        rw [HX.out]
        have hxd : 0 ≤ X / 64 := by omega
        have hx := xor_i64 X (X / 64) hX0 hxd (by omega) (by omega)
        obtain ⟨hx0, hx1⟩ := hx
        go_wp2
        go_ret
        have e1 := Int.emod_nonneg (bits BinOp.xor IntKind.i64 X (X / 64)) (show n ≠ 0 by omega)
        have e2 := Int.emod_lt_of_pos (bits BinOp.xor IntKind.i64 X (X / 64)) (show 0 < n by omega)
        exact HPP.out _ e1 (Or.inl e2) nq (by omega)

/-- what a draw out of a list leaves: one of its elements, the reader one place on, nothing else written -/
def OfPost (r N : Nat) (xs : List Value) (w : World) (e : Ending) (w' : World) : Prop :=
  ∃ v, e = .returned v ∧ v ∈ xs ∧ Rdr 77 w' r (N + 1) ∧ w.grownBy w' (some r)

/-- the list lies in block g, not the reader's -/
def ListAt (w : World) (g : Nat) (xs : List Value) : Prop := ∀ (i : Nat) (v : Value), xs[i]? = some v → w.cell? ⟨g, i, none⟩ = some v

theorem ListAt.new {w : World} (xs : List Value) (t : TypeId) : ListAt (w.alloc (.cells xs.toArray t)) w.heap.size xs := by
  intro i v h
  simpa using h


set_option maxHeartbeats 400000 in
theorem one_any (r N g m c : Nat) (xs : List Value) (w : World) (h : Rdr 77 w r N) (hN : N ≤ 1000000) (hm : xs.length = m) (hm0 : 1 ≤ m) (hm1 : m ≤ 1000) (hx : ListAt w g xs) (hg : g ≠ r)
    (hs : ∀ v ∈ xs, ∃ s, v = .int .i64 s) :
    Calls Try.prog 47 #[.pointer (some ⟨r, 0, none⟩), .slice (some ⟨g, 0, none⟩) m c] w (OfPost r N xs w) := by
  have hc := pick_any r N (m : Int) w h hN (by omega)
  have HC := Lib.hid hc; clear hc
  have HM := Lib.hid hm; clear hm
  have HX := Lib.hid hx; clear hx
  have HS := Lib.hid hs; clear hs
  go_enter Try.func47, Try.ntmps47
  go_wp2_with fail
  refine (HC.out).mono ?_
  rintro e w' ⟨v, rfl, h0, hv, hr, hg'⟩
  obtain ⟨k, rfl⟩ := Int.eq_ofNat_of_zero_le h0
  have hk : k < m := by omega
  have hkx : k < xs.length := by rw [HM.out]; exact hk
  obtain ⟨s, hsv⟩ := HS.out xs[k] (List.getElem_mem hkx)
  have hcell : w'.cell? ⟨g, k, none⟩ = some (.int .i64 s) := by
    refine hg'.cell ?_ (by simpa using hg)
    rw [← hsv]
    exact HX.out k _ (List.getElem?_eq_getElem hkx)
  have hmem : Value.int .i64 s ∈ xs := by rw [← hsv]; exact List.getElem_mem hkx
  have HG := Lib.hid (And.intro hmem (And.intro hr hg')); clear hg' hmem hsv hr
  go_wp2_with fail
  go_ret
  exact ⟨_, rfl, HG.out.1, HG.out.2.1, HG.out.2.2⟩

/-- the reader's block is the call's own first -/
def ReaderPost (w : World) (e : Ending) (w' : World) : Prop :=
  e = .returned (.pointer (some ⟨w.heap.size, 0, none⟩)) ∧ Rdr 77 w' w.heap.size 0 ∧ Below w.heap.size w w'
theorem reader_post {w : World} {A : Option Addr} {n c : Nat} (h : BytesAt w w.heap.size A n) (hn : n ≤ 2000) :
    ReaderPost w (.returned (.pointer (some ⟨w.heap.size, 0, none⟩))) (w.alloc (.cells #[.slice A n c, .int .i64 0] 77)) :=
  ⟨rfl, ⟨A, n, c, 0, heap_alloc_new w _, Nat.le_refl _, hn, h.keep fun k hk => heap_alloc_old w _ hk⟩, (Below.refl _ _).alloc (Nat.le_refl _) _⟩

theorem newReader_any (A : Option Addr) (n c : Nat) (w : World) (h : BytesIn w A n c) :
    Calls Try.prog 43 #[.slice A n c] w (ReaderPost w) := by
  obtain ⟨hc, hm, hb⟩ := h
  have HB := Lib.hid hb; clear hb
  unfold maxLen at hm
  by_cases h2 : n ≤ 2000
  · go_enter Try.func43, Try.ntmps43
    go_wp2
    go_ret
    exact reader_post HB.out h2
  · have HB2 := Lib.hid (HB.out.cut (show 2000 ≤ n by omega))
    have h3 : 2000 ≤ c := by omega
    go_enter Try.func43, Try.ntmps43
    go_wp2
    go_ret
    exact reader_post HB2.out (by omega)

/-- what a draw of a text leaves -/
def StrPost (L r N : Nat) (w : World) (e : Ending) (w' : World) : Prop :=
  ∃ s : ByteArray, e = .returned (.string s) ∧ s.size ≤ L ∧ Rdr 77 w' r N ∧ w.grownBy w' (some r)
def strsB (xs : List Value) : Bool := xs.all fun | .string s => decide (s.size ≤ 16) | _ => false
theorem strsB_out {xs : List Value} (h : strsB xs = true) : ∀ v ∈ xs, ∃ s, v = .string s := by
  intro v hv
  have := List.all_eq_true.1 h v hv
  split at this
  · exact ⟨_, rfl⟩
  · cases this
theorem strsB_size {xs : List Value} (h : strsB xs = true) {s : ByteArray} (hv : Value.string s ∈ xs) : s.size ≤ 16 := by
  have := List.all_eq_true.1 h _ hv
  simpa using this

/-- a draw of a list of texts that was just made -/

theorem StrPost.from {L r N M : Nat} {w w1 : World} {e : Ending} {w' : World} (h : StrPost L r N w1 e w') (hg : w.grownBy w1 (some r)) (hM : N ≤ M) : StrPost L r M w e w' := by
  obtain ⟨s, he, hs, hr, hg'⟩ := h
  exact ⟨s, he, hs, hr.more hM, hg.trans' hg'⟩




end Go.Proofs.Ytgoonccjdoajnab
