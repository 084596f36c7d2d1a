/- The walk of the law FnPutCell. Condition: the code lies in a row. -/
import Derived.Test.YtelhgpmklhdhcaaPutF
import Derived.Test.YtelhgpmklhdhcaaEqPg
import Derived.Test.YtelhgpmklhdhcaaFnPgD
import Derived.Test.YtelhgpmklhdhcaaPutS
set_option linter.unusedVariables false
set_option linter.unusedSimpArgs false
namespace Go.Proofs.Ytelhgpmklhdhcaa
open Go.RowKit Go.ChangeShapes Go.WideShapes

theorem Pg3Post.got {r : ((ByteArray × List Sl) × Int) × Bool} {w w' : World} {e : Ending} {S : ByteArray} {L : List Sl} {av : Int} {ok : Bool} (ho : r = (((S, L), av), ok)) (hp : Pg3Post r w e w') :
    ∃ A c, e = .returned (.tuple #[.agg #[.string S, .slice A L.length c], .int .i64 av, .bool ok]) ∧ w'.ownsRow w.heap.size 81 2 (.slice A L.length c) L.length (slC L) ∧ Below w.heap.size w w' := by
  subst ho
  obtain ⟨v, rfl, ⟨A, c, rfl, h⟩, hb⟩ := hp
  exact ⟨A, c, rfl, h, hb⟩
theorem putR_few {s S : ByteArray} {l L : List Sl} {c : ByteArray} {av : Int} {ok : Bool} (h : putR s l c = (((S, L), av), ok)) : L.length ≤ 24 := by
  have h1 : (putR s l c).1.1.2.length ≤ 24 := by
    unfold putR putOne
    split
    · split
      · rename_i h2
        obtain ⟨a, ha⟩ := putOk h2
        have := ha.n
        have := ha.end_
        simp only [putL_len]; omega
      · split
        · rename_i h2
          obtain ⟨a, ha⟩ := putOk h2
          have := ha.n
          have := ha.end_
          simp only [putL_len]; omega
        · simp
    · simp
  rw [h] at h1
  exact h1
theorem PBox.keep {b B : Nat} {s : ByteArray} {A : Option Addr} {m c : Nat} {W W' : World} (h : PBox b s A m c W) (hb : Below B W W') (hB : b < B) : PBox b s A m c W' :=
  ⟨(hb.cell (p := ⟨b, 0, none⟩) hB).trans h.f0, (hb.cell (p := ⟨b, 1, none⟩) hB).trans h.f1, Nat.lt_of_lt_of_le h.lt hb.size⟩
theorem below_grown {B : Nat} {W W' : World} {g : Nat} (hg : W.grownBy W' (some g)) (hB : B ≤ g) (hs : B ≤ W.heap.size) : Below B W W' := below_of_grown hg hB hs
theorem own_below {W W' : World} {B B' n c : Nat} {A : Option Addr} {e : TypeId} {z : Nat} {xs : List Value} (h : W.ownsRow B' e z (.slice A n c) n xs) (hb : Below B W W') (hq : ∀ q, (Value.slice A n c).ownBlock = some q → q < B) : W'.ownsRow B' e z (.slice A n c) n xs := by
  refine ⟨h.1, ?_⟩
  rcases h.2 with h1 | ⟨g, cap, cur, hv, hg, hh, r⟩
  · exact .inl h1
  · exact .inr ⟨g, cap, cur, hv, hg, (hb.block g (hq g (by rw [hv]; rfl))).trans hh, r⟩
theorem noT_yes {t : ByteArray} (h : t.toList = []) : noT t = true := by unfold noT; rw [size_of_nil h]; rfl
theorem noT_no {t : ByteArray} (h : ¬ t.toList = []) : noT t = false := by have := size_pos h; exact decide_eq_false (by omega)
theorem own_text {W : World} {B n : Nat} {v : Value} {T : List ByteArray} (h : W.ownsRow B 9 1 v n (strC T)) (hn : 0 < n) : ∃ g c, v = .slice (some ⟨g, 0, none⟩) n c ∧ B ≤ g ∧ g < W.heap.size := by
  rcases h.2 with ⟨_, h2⟩ | ⟨g, cap, cur, hv, hg, hh, _⟩
  · omega
  · exact ⟨g, cap, hv, hg, (Array.getElem?_eq_some_iff.1 hh).1⟩
theorem strC_set (T : List ByteArray) (f : Nat) (t : ByteArray) : (strC T).set f (.string t) = strC (T.set f t) := by unfold strC; rw [List.map_set]
theorem spaceB_bd (s : ByteArray) (l : List Sl) : -1 ≤ spaceB s l ∧ spaceB s l ≤ 48 := by
  unfold spaceB
  cases hv : iValid s l
  · simp
  · have := ((valid_iff s l).1 hv).room_bd
    simp only [if_true]; omega


end Go.Proofs.Ytelhgpmklhdhcaa
