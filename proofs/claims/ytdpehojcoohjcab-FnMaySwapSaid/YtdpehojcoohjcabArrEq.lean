/- Two arrays of numbers are the same just if their numbers are (chapter 8). No condition. -/
import Derived.Test.YtdpehojcoohjcabRowI
import Derived.Laws.StructEq
import Derived.ChangeKeysEq
set_option linter.unusedVariables false
set_option linter.unusedSimpArgs false
namespace Go.Proofs.Ytdpehojcoohjcab
open Go.RowKit Go.ChangeShapes Go.WideShapes

theorem equalIn_arr {P : Program} (w : World) (d : Nat) (t elem : TypeId) (len : Nat) (a b : List Int) (ht : P.underlying t = some (.array len elem)) (hs : ∀ w, (sizeOf elem).run P w = .ok 1 w) (he : P.underlying elem = some (.int .i64)) (hp : ∀ w {cs : Array Value} {off : Nat} {v : Value}, cs[off]? = some v → (part elem cs off).run P w = .ok v w) (ha : a.length = len) (hb : b.length = len) :
    (Op.equalIn (d + 2) t (.agg (intC a).toArray) (.agg (intC b).toArray)).run P w = .ok (decide (a = b)) w := by
  rw [Op.equalIn]
  simp only [Sem.run_bind, run_underlying ht, Result.andThen_ok, hs]
  rw [Std.Legacy.Range.forIn_eq_forIn_range']
  simp only [Std.Legacy.Range.size, Nat.sub_zero, Nat.add_sub_cancel, Nat.div_one]
  have key : ∀ (m k : Nat), k + m = len → ((forIn (List.range' k m 1) ((none : Option Bool), ()) fun i (s : Option Bool × Unit) => (do
      let x ← part elem (intC a).toArray (i * 1)
      let y ← part elem (intC b).toArray (i * 1)
      let r ← Op.equalIn (d + 1) elem x y
      if (!r) = true then pure (ForInStep.done (some false, ())) else pure (ForInStep.yield (none, ())) : Sem (ForInStep (Option Bool × Unit)))) : Sem (Option Bool × Unit)).run P w = .ok ((if a.drop k = b.drop k then (none, ()) else (some false, ())) : Option Bool × Unit) w := by
    intro m
    induction m with
    | zero =>
      intro k hk
      rw [List.drop_of_length_le (by omega), List.drop_of_length_le (by omega)]
      simp
    | succ m ih =>
      intro k hk
      have hka : k < a.length := by omega
      have hkb : k < b.length := by omega
      have p1 : (part elem (intC a).toArray (k * 1)).run P w = .ok (.int .i64 a[k]) w := hp w (by simp [intC, hka])
      have p2 : (part elem (intC b).toArray (k * 1)).run P w = .ok (.int .i64 b[k]) w := hp w (by simp [intC, hkb])
      rw [List.range'_succ, List.forIn_cons]
      simp only [Sem.run_bind, p1, p2, Result.andThen_ok, run_equalIn_int w d elem .i64 .i64 _ _ he]
      have da := List.drop_eq_getElem_cons hka
      have db := List.drop_eq_getElem_cons hkb
      have hd : (a.drop k = b.drop k) ↔ (a[k] = b[k] ∧ a.drop (k + 1) = b.drop (k + 1)) := by rw [da, db, List.cons.injEq]
      by_cases e : a[k] = b[k]
      · have e2 : (a[k] == b[k]) = true := by simpa using e
        simp only [e2, Bool.not_true, Bool.false_eq_true, if_false, Sem.run_pure, Result.andThen_ok]
        rw [ih (k + 1) (by omega)]
        simp only [hd, e, true_and]
      · have e2 : (a[k] == b[k]) = false := by simpa using e
        simp [e2, hd, e]
  have h0 := key len 0 (by omega)
  simp only [List.drop_zero] at h0
  rw [h0]
  by_cases e : a = b <;> simp [e]
theorem part_int (w : World) {cs : Array Value} {off : Nat} {v : Value} (h : cs[off]? = some v) : (part 3 cs off).run Try.prog w = .ok v w := run_part_plain w (by kernel_rfl) h
theorem ahd_eql (a b : List Int) (ha : a.length = 4) (hb : b.length = 4) (w : World) :
    (binOp .eql 98 (.agg (intC a).toArray) (.agg (intC b).toArray)).run Try.prog w = .ok (.bool (decide (a = b))) w := by
  rw [run_eql_struct, show (10000 : Nat) = 9998 + 2 from rfl, equalIn_arr w 9998 98 3 4 a b Try.underlying98 (fun w => by kernel_rfl) Try.underlying3 (fun w {_ _ _} h => part_int w h) ha hb]
  rfl
theorem vw_eql (a b : List Int) (ha : a.length = 13) (hb : b.length = 13) (w : World) :
    (binOp .eql 56 (.agg (intC a).toArray) (.agg (intC b).toArray)).run Try.prog w = .ok (.bool (decide (a = b))) w := by
  rw [run_eql_struct, show (10000 : Nat) = 9998 + 2 from rfl, equalIn_arr w 9998 56 3 13 a b Try.underlying56 (fun w => by kernel_rfl) Try.underlying3 (fun w {_ _ _} h => part_int w h) ha hb]
  rfl
end Go.Proofs.Ytdpehojcoohjcab
