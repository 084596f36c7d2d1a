/- The walk of the law FnTightPage. Condition: the code lies in a row. -/
import Derived.Test.YtelhgpmklhdhcaaFnSpaceW
import Derived.Test.YtelhgpmklhdhcaaEqPg
import Derived.Test.YtelhgpmklhdhcaaTgU
set_option linter.unusedVariables false
set_option linter.unusedSimpArgs false
namespace Go.Proofs.Ytelhgpmklhdhcaa
open Go.RowKit Go.ChangeShapes Go.WideShapes

theorem tight_facts {s S : ByteArray} {l L : List Sl} {ok : Bool} (h : tightR s l = ((S, L), ok)) : ok = false ∨ (ok = true ∧ spaceA S L = spaceB s l ∧ spaceB S L = spaceB s l ∧ tightR S L = ((S, L), true) ∧ Wf L ∧ S.size = 48) := by
  unfold tightR at h
  split at h
  · rename_i hv
    injection h with h1 h2
    injection h1 with h3 h4
    have hp := (valid_iff s l).1 hv
    have hp2 := hp.tight
    have hv2 := (valid_iff _ _).2 hp2
    subst h3 h4
    refine .inr ⟨h2.symm, ?_, ?_, ?_, hp2.wf, hp2.size⟩
    · unfold spaceA spaceB; rw [if_pos hv2, if_pos hv, hp.tight_room]
    · unfold spaceB; rw [if_pos hv2, if_pos hv, hp.tight_spare]
    · unfold tightR; rw [if_pos hv2, hp.tightB_tightB, hp.tight_tight]
  · injection h with _ h2
    exact .inl h2.symm
theorem tightR_few {s S : ByteArray} {l L : List Sl} {ok : Bool} (h : tightR s l = ((S, L), ok)) : L.length ≤ l.length := by
  have := tightR_len s l
  rw [h] at this
  exact this

end Go.Proofs.Ytelhgpmklhdhcaa
