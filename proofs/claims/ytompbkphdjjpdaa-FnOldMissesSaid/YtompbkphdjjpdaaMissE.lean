/- Steps of the model's OldMisses and BestMisses: rows of numbers that are copied. No condition. -/
import Derived.Test.YtompbkphdjjpdaaMissD
import Derived.Deep.RegionWith
set_option linter.unusedVariables false
set_option linter.unusedSimpArgs false
namespace Go.Proofs.Ytompbkphdjjpdaa
open Go.RowKit Go.ChangeShapes Go.WideShapes

/-- 'append' to a row of the call's own, at a step of a region that draws its order -/
theorem step_append_own {P : Program} {w : World} {ops : Array Oper} {o : Oper} {a : Act} {K : Act → World → Prop} {Q : Exit → Act → World → Prop} {E : Prop} (hgd : o.guard = none) (s x : Operand) (t : TypeId)
    (ho : o.op = .call { callee := .builtin .append, args := #[s, x], argTypes := #[t, t] })
    (base : Nat) (e : TypeId) (i : TypeInfo) (z : Value) (size bytes : Nat) (ht : P.underlying t = some (.slice e)) (hi : P.info? e = some i) (hz : i.zero = some z)
    (hsize : i.size = size) (hby : i.bytes = bytes) (hzs : z.cells.size = size) (hsz : 0 < size)
    (v : Value) (n : Nat) (xs : List Value) (hs : a.eval s = v) (hown : w.ownsRow base e size v n xs)
    (ad : Addr) (m c : Nat) (news : List Value) (hx : a.eval x = .slice (some ad) m c) (hl : news.length = m * size) (hnews : ∀ j u, news[j]? = some u → w.cell? (ad.add j) = some u) (h1 : ∀ u ∈ news, u.oneCell' = true)
    (h63 : n + m ≤ maxLen) (hbytes : (n + m) * bytes ≤ 140737488355328) (hbase : base ≤ w.heap.size)
    (h : ∀ v' w', w'.ownsRow base e size v' (n + m) (xs ++ news) → w.grownBy w' v.ownBlock → (v' = .slice none 0 0 ↔ v = .slice none 0 0 ∧ m = 0) → K (a.put o.dst v') w') :
    if Region.wanted o (yielded ops a.tmps) = true then Oper.wp P o a w K Q else E := by
  have hw : Region.wanted o (yielded ops a.tmps) = true := by simp [Region.wanted, hgd]
  rw [if_pos hw]
  exact wp_append_own w s x t ho base e i z size bytes ht hi hz hsize hby hzs hsz v n xs hs hown ad m c news hx hl hnews h1 h63 hbytes hbase h

theorem below_step2 {w a b : World} (h : Below w.heap.size w a) (hb : Below a.heap.size a b) : Below w.heap.size w b := h.trans (hb.mono h.size)
/-- the numbers that are there, in the model -/
structure NwAt (w : World) (t : List Int) (ad : Addr) (mm c : Nat) (W : World) : Prop where
  len : mm = t.length
  le : mm ≤ c
  row : RowAt W W.heap.size (some ad) (intC t)
  hb : Below w.heap.size w W
theorem NwAt.keep {w : World} {t : List Int} {ad : Addr} {mm c : Nat} {W W' : World} (k : NwAt w t ad mm c W) (hb : Below W.heap.size W W') : NwAt w t ad mm c W' :=
  ⟨k.len, k.le, (k.row.below hb).mono hb.size, below_step2 k.hb hb⟩
theorem RowAt.news {w : World} {B : Nat} {ad : Addr} {t : List Int} (h : RowAt w B (some ad) (intC t)) : ∀ j u, (intC t)[j]? = some u → w.cell? (ad.add j) = some u := by
  intro j u hj
  obtain ⟨b, off, e, _, hc⟩ := h (by intro h0; rw [h0] at hj; simp at hj)
  cases e
  rw [add_zero_off]; exact hc j u hj
theorem RowAt.takeA {w : World} {B : Nat} {ad : Addr} {t : List Int} (h : RowAt w B (some ad) (intC t)) (k : Nat) : RowAt w B (some ad) (intC (t.take k)) := by
  intro h0
  obtain ⟨b, off, e, hb, hc⟩ := h (by intro h1; apply h0; have : t = [] := by simpa [intC] using h1
                                      rw [this]; simp [intC])
  refine ⟨b, off, e, hb, fun i v hi => hc i v ?_⟩
  rw [intC_take, List.getElem?_take] at hi
  split at hi
  · exact hi
  · cases hi
theorem slice_ptr {w : World} {B n z : Nat} {e : TypeId} {v : Value} {xs : List Value} (h : w.ownsRow B e z v n xs) (h0 : v ≠ .slice none 0 0) : ∃ g c, v = .slice (some ⟨g, 0, none⟩) n c ∧ n ≤ c ∧ B ≤ g ∧ g < w.heap.size := by
  rcases h.2 with ⟨h1, _⟩ | ⟨g, N, cur, a1, a2, a3, a4, _⟩
  · exact absurd h1 h0
  · exact ⟨g, N, a1, a4, a2, (Array.getElem?_eq_some_iff.1 a3).1⟩
theorem intC_one (t : List Int) : ∀ u ∈ intC t, u.oneCell' = true := by
  intro u hu
  obtain ⟨x, _, rfl⟩ := List.mem_map.1 hu
  rfl
/-- a number is struck out of a row: the parts, and where they lie -/
theorem cutHead_any (ad : Addr) (n c k : Nat) (W : World) (h : k ≤ c) (hs : ad.spot = none) :
    (Instr.sliceAt 35 (.slice (some ad) n c) none (some (.int .i64 (k : Int))) none).run Try.prog W = .ok (.slice (some ad) k c) W := by
  obtain ⟨b, off, sp⟩ := ad
  subst hs
  exact cut_head b off n c k W h
theorem cutTail_any (ad : Addr) (n c l : Nat) (h1 : l ≤ n) (h2 : n ≤ c) (hs : ad.spot = none) : ∃ ad' : Addr, ad'.spot = none ∧ (∀ W, (Instr.sliceAt 35 (.slice (some ad) n c) (some (.int .i64 (l : Int))) none none).run Try.prog W = .ok (.slice (some ad') (n - l) (c - l)) W) ∧
    ∀ (W : World) (B : Nat) (t : List Int), RowAt W B (some ad) (intC t) → n = t.length → RowAt W B (some ad') (intC (t.drop l)) := by
  obtain ⟨b, off, sp⟩ := ad
  subst hs
  by_cases h3 : l < c
  · exact ⟨⟨b, off + l, none⟩, rfl, fun W => cut_tail b off n c l W h1 h3, fun W B t hr _ => RowAt.tail l hr⟩
  · refine ⟨⟨b, off, none⟩, rfl, fun W => ?_, fun W B t hr hn => ?_⟩
    · have hu : Try.prog.underlying 35 = some (.slice (Try.prog.elem 35)) := by kernel_rfl
      have hs : (sizeOf (Try.prog.elem 35)).run Try.prog W = .ok 1 W := by kernel_rfl
      rw [run_sliceAt_slice (h := hu), run_slice_l (ht := hu) (h0 := by omega) (h1 := by omega), hs]
      simp only [Result.andThen_ok, sliced, Int.toNat_natCast, Option.map_some, Nat.mul_one]
      rw [if_pos (by omega)]
    · have : t.drop l = [] := List.drop_eq_nil_of_le (by omega)
      rw [this]; exact RowAt.nil _ _ _
theorem cutTail1_any (ad : Addr) (n c l : Nat) (i : Int) (hi : i = (l : Int)) (h1 : l ≤ n) (h2 : n ≤ c) (hs : ad.spot = none) : ∃ ad' : Addr, ad'.spot = none ∧ (∀ W, (Instr.sliceAt 35 (.slice (some ad) n c) (some (.int .i64 i)) none none).run Try.prog W = .ok (.slice (some ad') (n - l) (c - l)) W) ∧
    ∀ (W : World) (B : Nat) (t : List Int), RowAt W B (some ad) (intC t) → n = t.length → RowAt W B (some ad') (intC (t.drop l)) := by
  subst hi
  exact cutTail_any ad n c l h1 h2 hs
end Go.Proofs.Ytompbkphdjjpdaa
