/- A row of the call's own that grows, over any program; and a list cut at its head. No condition. -/
import Derived.Test.YtcaekjbalkbliaaMark
import Derived.Maps.AppendAt
import Derived.OwnWalk
set_option linter.unusedVariables false
set_option linter.unusedSimpArgs false
namespace Go.Proofs.Ytcaekjbalkbliaa
open Go.RowKit Go.ChangeShapes Go.WideShapes

theorem cells_at0 (w : World) (xs : List Value) (t : TypeId) (j : Nat) (u : Value) (h : xs[j]? = some u) : (w.alloc (.cells xs.toArray t)).cell? ((⟨w.heap.size, 0, none⟩ : Addr).add j) = some u := by
  rw [add_zero_off, Nat.zero_add]
  simpa using h
/-- a row of the call's own: its cells are cs -/
def OutR (T : TypeId) (z : Nat) (w : World) (cs : List Value) (m : Nat) (A : Option Addr) (c : Nat) (W : World) : Prop := W.ownsRow w.heap.size T z (.slice A m c) m cs ∧ Below w.heap.size w W
section
variable {T : TypeId} {z : Nat} {w W W' : World} {cs cs' : List Value} {m m' c : Nat} {A : Option Addr}
theorem OutR.keep (h : OutR T z w cs m A c W) (hb : Below W.heap.size W W') : OutR T z w cs m A c W' :=
  ⟨h.1.kept (grown_of_below (row := none) hb) (by cases A <;> simp [Value.ownBlock]), h.2.trans (hb.mono h.2.size)⟩
theorem OutR.app (h : OutR T z w cs m A c W) {v' : Value} (ho : W'.ownsRow w.heap.size T z v' m' cs') (hg : W.grownBy W' (Value.slice A m c).ownBlock) :
    ∃ A' c', v' = .slice A' m' c' ∧ OutR T z w cs' m' A' c' W' := by
  obtain ⟨A', c', rfl⟩ : ∃ (A' : Option Addr) (c' : Nat), v' = .slice A' m' c' := by
    rcases ho.2 with ⟨a1, a2⟩ | ⟨g, N, cur, a1, _⟩
    · exact ⟨none, 0, a1.trans (by rw [a2])⟩
    · exact ⟨_, _, a1⟩
  exact ⟨A', c', rfl, ho, h.2.grown hg h.2.size (fun q hq => (h.1.lt q hq).1)⟩
theorem OutR.nil (T : TypeId) (z : Nat) (w : World) : OutR T z w [] 0 none 0 w := ⟨World.ownsRow_nil _ _ _ _, Below.refl _ _⟩
theorem OutR.empty (T : TypeId) (z : Nat) (w : World) : OutR T z w [] 0 (some ⟨w.heap.size, 0, none⟩) 0 (w.alloc (.cells #[] T)) :=
  ⟨⟨by simp, .inr ⟨w.heap.size, 0, #[], rfl, Nat.le_refl _, heap_alloc_new w _, by omega, by simp [maxLen], by simp, by simp⟩⟩, (Below.refl _ _).alloc (Nat.le_refl _) _⟩
end

/-- a list cut at its head -/
theorem cut_head {P : Program} {T : TypeId} {z : Nat} (hu : P.underlying T = some (.slice (P.elem T))) (hz : ∀ W, (sizeOf (P.elem T)).run P W = .ok z W) (b off n c i : Nat) (h1 : i ≤ n) (h2 : n ≤ c) :
    ∃ ad' : Addr, ad'.spot = none ∧ (∀ W, (Instr.sliceAt T (.slice (some ⟨b, off, none⟩) n c) (some (.int .i64 (i : Int))) none none).run P W = .ok (.slice (some ad') (n - i) (c - i)) W) ∧
      ∀ (W : World) (B : Nat) (cs : List Value), cs.length = n * z → RowAt W B (some ⟨b, off, none⟩) cs → RowAt W B (some ad') (cs.drop (i * z)) := by
  by_cases h3 : i < c
  · refine ⟨⟨b, off + i * z, none⟩, rfl, fun W => ?_, fun W B cs hl hr h0 => ?_⟩
    · rw [run_sliceAt_slice (h := hu), run_slice_l (ht := hu) (h0 := by omega) (h1 := by omega), hz]
      simp only [Result.andThen_ok, sliced, Int.toNat_natCast, Option.map_some]
      rw [if_neg (by omega), add_zero_off]
    · obtain ⟨b2, off2, e, hb, hc⟩ := hr (by intro h; rw [h] at h0; simp at h0)
      injection e with e; injection e with e4 e5; subst e4 e5
      refine ⟨b, off + i * z, rfl, hb, fun j v hv => ?_⟩
      rw [List.getElem?_drop] at hv
      have := hc _ v hv
      rw [Nat.add_assoc]; exact this
  · have : i = n := by omega
    subst this
    refine ⟨⟨b, off, none⟩, rfl, fun W => ?_, fun W B cs hl hr h0 => absurd (List.drop_eq_nil_of_le (by omega)) h0⟩
    rw [run_sliceAt_slice (h := hu), run_slice_l (ht := hu) (h0 := by omega) (h1 := by omega), hz]
    simp only [Result.andThen_ok, sliced, Int.toNat_natCast, Option.map_some]
    rw [if_pos (by omega)]
end Go.Proofs.Ytcaekjbalkbliaa
