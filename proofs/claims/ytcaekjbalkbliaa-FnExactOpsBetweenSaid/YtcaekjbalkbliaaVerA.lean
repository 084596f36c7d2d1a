/- Lists of versions, plain mathematics: versions with changes added. No condition. -/
import Derived.Test.YtcaekjbalkbliaaVerL
import Derived.Test.YtcaekjbalkbliaaOpsC
import Derived.Test.YtcaekjbalkbliaaShort
set_option linter.unusedVariables false
set_option linter.unusedSimpArgs false
namespace Go.Proofs.Ytcaekjbalkbliaa
open Go.RowKit Go.ChangeShapes Go.WideShapes

def okVr (p : Vr) : Bool := okIt (p.1, p.2.1, p.2.2.1) && (decide (1 ≤ p.2.2.2) && decide (p.2.2.2 ≤ 20))
def versB (l : List Vr) : Bool := versK okVr l
/-- a change as a version -/
def madeV (at_ : Int) (o : Cg) : Vr := (o.1, o.2.1, o.2.2, at_)
def addL (l : List Vr) (ops : List Cg) (at_ : Int) : List Vr := l ++ ops.map (madeV at_)
def laterT (l : List Vr) (at_ : Int) : Bool := match l.getLast? with | some v => decide (v.2.2.2 < at_) | none => true
def timeB (at_ : Int) : Bool := decide (1 ≤ at_) && decide (at_ ≤ 20)
def addB (l : List Vr) (ops : List Cg) (at_ : Int) : Bool := versB l && opsB ops && timeB at_ && laterT l at_ && versB (addL l ops at_)
def addR (l : List Vr) (ops : List Cg) (at_ : Int) : List Vr × Bool := if addB l ops at_ then (addL l ops at_, true) else ([], false)
theorem addL_len (l : List Vr) (ops : List Cg) (at_ : Int) : (addL l ops at_).length = l.length + ops.length := by simp [addL]
theorem okVr_key {p : Vr} (h : okVr p = true) : keyB p.1 = true := by
  unfold okVr okIt at h
  simp only [Bool.and_eq_true] at h
  exact h.1.1.1
theorem okVr_time {p : Vr} (h : okVr p = true) : 1 ≤ p.2.2.2 ∧ p.2.2.2 ≤ 20 := by
  unfold okVr at h
  rw [Bool.and_eq_true, Bool.and_eq_true, decide_eq_true_iff, decide_eq_true_iff] at h
  exact h.2
theorem versB_ok {l : List Vr} (h : versB l = true) : l.length ≤ 30 ∧ ∀ p ∈ l, okVr p = true := by
  have := versK_iff.1 h; exact ⟨this.1, this.2.1⟩
theorem short_len_same : ∀ {l : List Cg}, (shortK l).length = l.length → shortK l = l
  | [], _ => rfl
  | p :: l, h => by
    have hl := shortK_len l
    rw [shortK] at h ⊢
    split
    · rename_i hb
      rw [if_pos hb, List.length_cons] at h; omega
    · rename_i hb
      rw [if_neg hb, List.length_cons, List.length_cons] at h
      rw [short_len_same (by omega)]
theorem short_eq_once : ∀ {l : List Cg}, shortK l = l → l.Pairwise (fun p q => (q.1.toList == p.1.toList) = false)
  | [], _ => List.Pairwise.nil
  | p :: l, h => by
    have hl := shortK_len l
    rw [shortK] at h
    split at h
    · have := congrArg List.length h
      rw [List.length_cons] at this; omega
    · rename_i hb
      injection h with _ h
      refine List.Pairwise.cons (fun q hq => ?_) (short_eq_once h)
      have h2 : laterB p.1 l = false := by simpa using hb
      have := List.any_eq_false.1 h2 q hq
      simpa using this
theorem once_short_eq : ∀ {l : List Cg}, l.Pairwise (fun p q => (q.1.toList == p.1.toList) = false) → shortK l = l
  | [], _ => rfl
  | p :: l, h => by
    obtain ⟨h1, h2⟩ := List.pairwise_cons.1 h
    have h3 : laterB p.1 l = false := List.any_eq_false.2 (fun q hq => by rw [h1 q hq]; simp)
    rw [shortK, h3, once_short_eq h2]; rfl
theorem vers_last {l : List Vr} (h : versB l = true) {at_ : Int} (ht : laterT l at_ = true) : ∀ v ∈ l, v.2.2.2 < at_ := by
  intro v hv
  obtain ⟨i, hi, rfl⟩ := List.getElem_of_mem hv
  unfold laterT at ht
  rw [List.getLast?_eq_getElem?, List.getElem?_eq_getElem (by omega)] at ht
  have ht2 := of_decide_eq_true ht
  have hu : upV okVr l l.length = true := by
    unfold versB versK at h; rw [Bool.and_eq_true] at h; exact h.2
  have := upV_times hu (Nat.le_refl _) (i := i) (j := l.length - 1) (by omega) (by omega)
  omega
/-- what is added is valid just if there is room and no key twice -/
theorem addL_ok {l : List Vr} {ops : List Cg} {at_ : Int} (h1 : versB l = true) (h2 : opsB ops = true) (h3 : timeB at_ = true) (h4 : laterT l at_ = true) :
    versB (addL l ops at_) = (decide ((shortK ops).length = ops.length) && decide (l.length + ops.length ≤ 30)) := by
  have hlast := vers_last h1 h4
  obtain ⟨k1, k2, k3⟩ := versK_iff.1 h1
  have ho := (opsB_ok h2).2
  unfold timeB at h3
  rw [Bool.eq_iff_iff, Bool.and_eq_true, decide_eq_true_iff, decide_eq_true_iff]
  unfold versB
  rw [versK_iff, addL_len]
  unfold addL
  rw [List.pairwise_append, List.pairwise_map]
  constructor
  · rintro ⟨g1, g2, _, g3, _⟩
    refine ⟨?_, g1⟩
    rw [once_short_eq]
    refine g3.imp (fun {p q} hc => ?_)
    unfold clash sameV madeV at hc
    simp at hc
    simpa using fun e => hc e.symm
  · rintro ⟨g1, g2⟩
    have hon := short_eq_once (short_len_same g1)
    refine ⟨g2, ?_, k3, ?_, ?_⟩
    · intro p hp
      rcases List.mem_append.1 hp with hp | hp
      · exact k2 p hp
      · obtain ⟨o, ho2, rfl⟩ := List.mem_map.1 hp
        unfold okVr madeV
        rw [ho o ho2]
        exact h3
    · refine hon.imp (fun {p q} hc => ?_)
      unfold clash sameV madeV
      simp
      simp at hc
      exact fun e => hc e.symm
    · intro a ha b hb
      obtain ⟨o, ho2, rfl⟩ := List.mem_map.1 hb
      have := hlast a ha
      unfold clash sameV madeV
      simp
      omega
theorem addB_model (l : List Vr) (ops : List Cg) (at_ : Int) : addB l ops at_ = (versB l && opsB ops && decide ((shortK ops).length = ops.length) && timeB at_ && laterT l at_ && decide (l.length + ops.length ≤ 30)) := by
  unfold addB
  cases h1 : versB l
  · rfl
  · cases h2 : opsB ops
    · rfl
    · cases h3 : timeB at_
      · simp
      · cases h4 : laterT l at_
        · simp
        · rw [addL_ok h1 h2 h3 h4]; simp
end Go.Proofs.Ytcaekjbalkbliaa
