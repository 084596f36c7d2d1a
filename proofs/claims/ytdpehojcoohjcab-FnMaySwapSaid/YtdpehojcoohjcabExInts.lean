/- What the exact laws on lists of numbers share: what lies where while they compare. No condition. -/
import Derived.Test.YtdpehojcoohjcabExInt
set_option linter.unusedVariables false
set_option linter.unusedSimpArgs false
namespace Go.Proofs.Ytdpehojcoohjcab
open Go.RowKit Go.ChangeShapes Go.WideShapes

theorem block_slice (A : Option Addr) (n c : Nat) : (Value.slice A n c).ownBlock = blockOf A := by cases A <;> rfl
theorem own_cap {w : World} {B n c z : Nat} {e : TypeId} {A : Option Addr} {xs : List Value} (h : w.ownsRow B e z (.slice A n c) n xs) : n ≤ c ∧ c ≤ maxLen := by
  rcases h.2 with ⟨hv, hn⟩ | ⟨g, cap, cur, hv, _, _, h1, h2, _⟩
  · injection hv with _ h1 h2
    subst h1 h2
    exact ⟨Nat.le_refl _, by simp [maxLen]⟩
  · injection hv with _ _ h3
    subst h3
    exact ⟨h1, h2⟩
/-- a list argument, as it was read -/
def IntsArg (w : World) (A : Option Addr) (n c : Nat) (l : List Int) : Prop := n = l.length ∧ n ≤ c ∧ c ≤ maxLen ∧ RowAt w w.heap.size A (intC l) ∧ WfI l

theorem intsArg_nil (w : World) : IntsArg w none 0 0 [] := ⟨rfl, Nat.le_refl _, by simp [maxLen], RowAt.nil _ _ _, fun x hx => by cases hx⟩
theorem intsArg_some {w : World} {x : Addr} {l c : Nat} {zs : List Int} (hl : l ≤ c) (hm : c ≤ maxLen) (hz : zs.length = c)
    (hcell : ∀ i, i < zs.length → w.cell? (x.add i) = some (.int .i64 (zs.getD i 0))) (hwz : ∀ n ∈ zs, (Lit.int .i64 n).wf = true) : IntsArg w (some x) l c (zs.take l) := by
  refine ⟨by rw [List.length_take]; omega, hl, hm, fun h0 => ?_, fun n hn => ?_⟩
  · have h1 : 0 < zs.length := by
      cases zs with
      | nil => simp [intC] at h0
      | cons a t => simp
    obtain ⟨b, off, spot⟩ := x
    have hc := hcell 0 h1
    have hspot : spot = none := by simpa [Addr.add] using World.cell?_spot hc
    subst hspot
    rw [add_zero_off] at hc
    refine ⟨b, off, rfl, World.block_lt_of_cell? w _ hc, fun i v hi => ?_⟩
    rw [intC, List.getElem?_map, Option.map_eq_some_iff] at hi
    obtain ⟨y, hy, rfl⟩ := hi
    rw [List.getElem?_take] at hy
    split at hy
    · obtain ⟨hi, e⟩ := List.getElem?_eq_some_iff.1 hy
      have hci := hcell i hi
      rw [add_zero_off] at hci
      rw [hci, ← e]
      simp [List.getD_eq_getElem?_getD, List.getElem?_eq_getElem hi]
    · cases hy
  · have hm := hwz n (List.mem_of_mem_take hn)
    simpa [Lit.wf, IntKind.min, IntKind.max, IntKind.signed, IntKind.bits] using hm

/-- the argument stands; the model's answer lies below B3, the list handed in from B3 on, the program's answer from B4 on -/
structure Ci (w : World) (B3 B4 : Nat) (Aw : Option Addr) (L : List Int) (Ax : Option Addr) (nx cx : Nat) (xm : List Int) (Ag : Option Addr) (ng cg : Nat) (gm : List Int) (W : World) : Prop where
  hb : Below w.heap.size w W
  h1 : w.heap.size ≤ B3
  h2 : B3 ≤ B4
  h3 : B4 ≤ W.heap.size
  tw : RowAt W B3 Aw (intC L)
  x : W.ownsRow B3 3 1 (.slice Ax nx cx) nx (intC xm)
  g : W.ownsRow B4 3 1 (.slice Ag ng cg) ng (intC gm)
  xa : ∀ q, blockOf Ax = some q → B3 ≤ q ∧ q < B4

section
variable {w : World} {B3 B4 : Nat} {Aw : Option Addr} {L : List Int} {Ax : Option Addr} {nx cx : Nat} {xm xm' : List Int} {Ag : Option Addr} {ng cg : Nat} {gm gm' : List Int} {W W' : World}
theorem Ci.ga (h : Ci w B3 B4 Aw L Ax nx cx xm Ag ng cg gm W) : ∀ q, blockOf Ag = some q → B4 ≤ q := fun q hq => (h.g.lt q (by rw [block_slice]; exact hq)).1
theorem Ci.keep (h : Ci w B3 B4 Aw L Ax nx cx xm Ag ng cg gm W) (hb : Below W.heap.size W W') : Ci w B3 B4 Aw L Ax nx cx xm Ag ng cg gm W' := by
  have h1 := h.h1
  have h2 := h.h2
  have h3 := h.h3
  have hs := hb.size
  exact { hb := h.hb.trans (hb.mono h.hb.size), h1 := h1, h2 := h2, h3 := by omega, tw := h.tw.below (hb.mono (by omega)),
          x := h.x.kept (grown_of_below (row := none) hb) (by cases Ax <;> simp [Value.ownBlock]),
          g := h.g.kept (grown_of_below (row := none) hb) (by cases Ag <;> simp [Value.ownBlock]), xa := h.xa }
theorem Ci.markX (h : Ci w B3 B4 Aw L Ax nx cx xm Ag ng cg gm W) (hx : W'.ownsRow B3 3 1 (.slice Ax nx cx) nx (intC xm')) (hg : W.grownBy W' (blockOf Ax)) : Ci w B3 B4 Aw L Ax nx cx xm' Ag ng cg gm W' := by
  have h1 := h.h1
  have h2 := h.h2
  have h3 := h.h3
  have hs := hg.size
  have hb : Below B3 W W' := (Below.refl _ _).grown hg (by omega) (fun q hq => (h.xa q hq).1)
  exact { hb := h.hb.trans (hb.mono (by omega)), h1 := h1, h2 := h2, h3 := by omega, tw := h.tw.below hb, x := hx,
          g := h.g.kept hg (by
            rw [block_slice]
            cases hq : blockOf Ag with
            | none => exact .inl rfl
            | some q => exact .inr (fun e => by have := h.ga q hq; have := (h.xa q e.symm).2; omega)), xa := h.xa }
theorem Ci.markG (h : Ci w B3 B4 Aw L Ax nx cx xm Ag ng cg gm W) (hx : W'.ownsRow B4 3 1 (.slice Ag ng cg) ng (intC gm')) (hg : W.grownBy W' (blockOf Ag)) : Ci w B3 B4 Aw L Ax nx cx xm Ag ng cg gm' W' := by
  have h1 := h.h1
  have h2 := h.h2
  have h3 := h.h3
  have hs := hg.size
  have hb : Below B4 W W' := (Below.refl _ _).grown hg (by omega) (fun q hq => h.ga q hq)
  exact { hb := h.hb.trans (hb.mono (by omega)), h1 := h1, h2 := h2, h3 := by omega, tw := h.tw.below (hb.mono (by omega)),
          x := h.x.kept hg (by
            rw [block_slice]
            cases hq : blockOf Ax with
            | none => exact .inl rfl
            | some q => exact .inr (fun e => by have := h.ga q e.symm; have := (h.xa q hq).2; omega)),
          g := hx, xa := h.xa }
end

/-- a list handed in for the laws on numbers alone: below its world it stands -/
theorem eqArg {w W : World} {A1 A2 : Option Addr} {n c1 c2 : Nat} {l : List Int} {B1 B2 : Nat} (h1 : W.ownsRow B1 3 1 (.slice A1 n c1) n (intC l)) (h2 : W.ownsRow B2 3 1 (.slice A2 n c2) n (intC l)) (hn : n = l.length) (hs : n ≤ 1048576) :
    Calls Try.prog 14 #[.slice A1 n c1, .slice A2 n c2] W fun e w' => e = .returned (.bool true) ∧ Below W.heap.size W w' :=
  eqIntS_same A1 A2 n c1 c2 l W (RowAt.of_own h1) (RowAt.of_own h2) hn hs
end Go.Proofs.Ytdpehojcoohjcab
