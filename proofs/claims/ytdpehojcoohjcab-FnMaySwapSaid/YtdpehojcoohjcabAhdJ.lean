/- Contracts of asTheyStand of the program (chapter 8). Conditions: the acts are few. -/
import Derived.Test.YtdpehojcoohjcabRowI
set_option linter.unusedVariables false
set_option linter.unusedSimpArgs false
namespace Go.Proofs.Ytdpehojcoohjcab
open Go.RowKit Go.ChangeShapes Go.WideShapes

/-- numbers that the call has appended -/
def ApN (w : World) (L : List Int) (v : Value) (wr : World) : Prop := wr.ownsRow w.heap.size 3 1 v L.length (intC L) ∧ Below w.heap.size w wr
theorem ApN.keep {w wr W : World} {L : List Int} {v : Value} (h : ApN w L v wr) (hb : Below wr.heap.size wr W) : ApN w L v W :=
  ⟨h.1.kept (grown_of_below (row := none) hb) (Classical.em _), h.2.trans (hb.mono h.2.size)⟩
theorem ApN.step {w wr W w' : World} {L : List Int} {v v' : Value} {x : Int} (h : ApN w L v wr) (hb : Below wr.heap.size wr W)
    (ho : w'.ownsRow w.heap.size 3 1 v' (L.length + 1) (intC L ++ [.int .i64 x])) (hg : W.grownBy w' v.ownBlock) : ApN w (L ++ [x]) v' w' := by
  have hlt := h.1.lt
  refine ⟨?_, ?_⟩
  · rw [intC_app, List.length_append]; exact ho
  · exact (h.2.trans (hb.mono h.2.size)).grown hg (Nat.le_trans h.2.size hb.size) (fun q hq => (hlt q hq).1)
theorem ApN.done {w wr : World} {L : List Int} {v : Value} (h : ApN w L v wr) : OwnInts w.heap.size L v wr ∧ Below w.heap.size w wr := by
  obtain ⟨h1, h2⟩ := h
  refine ⟨?_, h2⟩
  obtain ⟨A, c, rfl⟩ : ∃ (A : Option Addr) (c : Nat), v = .slice A L.length c := by
    rcases h1.2 with ⟨a1, a2⟩ | ⟨g, N, cur, a1, _⟩
    · exact ⟨none, 0, a1.trans (by rw [a2])⟩
    · exact ⟨_, _, a1⟩
  exact ⟨A, c, rfl, h1⟩
theorem ApN.nil (w wr : World) (hb : Below w.heap.size w wr) : ApN w [] (.slice none 0 0) wr := ⟨World.ownsRow_nil _ _ _ _, hb⟩
/-- the places of n acts -/
def upN (n : Nat) : List Int := natI (List.range n)
theorem upN_succ (n : Nat) : upN (n + 1) = upN n ++ [(n : Int)] := by unfold upN natI; rw [List.range_succ, List.map_append]; rfl
theorem upN_len (n : Nat) : (upN n).length = n := by simp [upN, natI]
set_option maxRecDepth 100000 in
set_option maxHeartbeats 2000000 in
theorem iStand_any (A : Option Addr) (n c : Nat) (w : World) (hs : n ≤ 1048576) :
    Calls Try.prog 41 #[.slice A n c] w (IntsPost (upN n) w) := by
  obtain ⟨i0, hi0, hz0, hz1, hz2⟩ := info_parts intInfo
  have HI := Lib.hid (And.intro hi0 (And.intro hz0 (And.intro hz1 hz2))); clear hi0 hz0 hz1 hz2
  go_enter Try.func41, Try.ntmps41
  go_wp2_with fail
  go_loopw [3, 7] (fun v i wr => ∃ k : Nat, i = .int .i64 k ∧ k ≤ n ∧ ApN w (upN k) v wr) (fun _ i _ => n - (intOf i).toNat)
  case atStart => exact ⟨0, rfl, by omega, ApN.nil _ _ (Below.refl _ _)⟩
  case round =>
    obtain ⟨k, rfl, hk, ha⟩ := hrel
    have HA := Lib.hid ha; clear ha
    by_cases hlt : k < n
    · have HUS := Lib.hid (upN_succ k)
      have HUL := Lib.hid (upN_len k)
      have HBA := Lib.hid ((Below.refl wr.heap.size wr).alloc (Nat.le_refl _) (.cells #[.int .i64 (k : Int)] 3))
      have hown := (HA.out.keep HBA.out).1
      rw [HUL.out] at hown
      have HOWN := Lib.hid hown; clear hown
      have hbase : w.heap.size ≤ (wr.alloc (.cells #[.int .i64 (k : Int)] 3)).heap.size := by have := HBA.out.size; have := HA.out.2.size; omega
      go_wp2_with (at_builtin; refine wpList_append_own _ rfl _ _ 24 rfl w.heap.size 3 i0 (.int .i64 0) 1 8 Try.underlying24 HI.out.1 HI.out.2.1 HI.out.2.2.1 HI.out.2.2.2 rfl (by decide) _ k _ rfl HOWN.out ⟨wr.heap.size, 0, none⟩ 1 1 [.int .i64 (k : Int)] rfl rfl ?_ ?_ ?_ ?_ hbase ?_)
      · intro t u ht
        match t, ht with
        | 0, ht => simp at ht; subst ht; simp [Addr.add]
      · intro u hu; simp at hu; subst hu; rfl
      · unfold maxLen; omega
      · omega
      · intro v' w1 hown' hgrow _
        have HS := Lib.hid (HA.out.step HBA.out (by rw [HUL.out]; exact hown') hgrow); clear hown' hgrow
        rw [← HUS.out] at HS
        go_wp2_with fail
        go_roundw
        case rel => exact ⟨k + 1, by go_num, by omega, HS.out⟩
        case measure => simp [intOf]; omega
    · obtain rfl : k = n := by omega
      have HD := Lib.hid HA.out.done
      go_wp2_with fail
      go_ret
      exact ⟨_, rfl, HD.out⟩
end Go.Proofs.Ytdpehojcoohjcab
