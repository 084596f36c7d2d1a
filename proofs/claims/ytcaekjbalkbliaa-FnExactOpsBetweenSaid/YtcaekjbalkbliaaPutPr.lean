/- The contract of putPair of the model. Conditions: the elements lie in a row; they are few. -/
import Derived.Test.YtcaekjbalkbliaaExPair
import Derived.Test.YtcaekjbalkbliaaPutM
import Derived.Deep.QuietTactic
import Derived.BigQuiet
set_option linter.unusedVariables false
set_option linter.unusedSimpArgs false
namespace Go.Proofs.Ytcaekjbalkbliaa
open Go.RowKit Go.ChangeShapes Go.WideShapes

abbrev keyPr : Pr → ByteArray := fun p => p.1
theorem prs_in {w : World} {B b off : Nat} {l : List Pr} {k : Nat} (h : RowAt w B (some ⟨b, off, none⟩) (prsC l)) (hk : k < l.length) : w.cell? ⟨b, off + k * 2, none⟩ = some (.string l[k].1) ∧ w.cell? ⟨b, off + k * 2 + 1, none⟩ = some (.string l[k].2) := by
  obtain ⟨b2, off2, e, _, e0, e1⟩ := prs_at h hk
  injection e with e; injection e with h1 h2; subst h1 h2
  exact ⟨e0, e1⟩
/-- a row of the call's own, behind the box of the element -/
def OutPr (w : World) (o : Obj) (out : List Pr) (m : Nat) (A : Option Addr) (c : Nat) (W : World) : Prop := m = out.length ∧ W.ownsRow (w.heap.size + 1) 52 2 (.slice A m c) m (prsC out) ∧ Below (w.heap.size + 1) (w.alloc o) W
section
variable {w W W' : World} {o : Obj} {out : List Pr} {m c : Nat} {A : Option Addr}
theorem OutPr.keep (h : OutPr w o out m A c W) (hb : Below W.heap.size W W') : OutPr w o out m A c W' :=
  ⟨h.1, h.2.1.kept (grown_of_below (row := none) hb) (by cases A <;> simp [Value.ownBlock]), h.2.2.trans (hb.mono (by have := h.2.2.size; simpa using this))⟩
theorem OutPr.below (h : OutPr w o out m A c W) : Below w.heap.size w W := ((Below.refl _ _).alloc (Nat.le_refl _) o).trans (h.2.2.mono (by omega))
theorem OutPr.app (h : OutPr w o out m A c W) {v' : Value} {y : Pr} (ho : W'.ownsRow (w.heap.size + 1) 52 2 v' (m + 1) (prsC out ++ prC y)) (hg : W.grownBy W' (Value.slice A m c).ownBlock) :
    ∃ A' c', v' = .slice A' (m + 1) c' ∧ OutPr w o (out ++ [y]) (m + 1) A' c' W' := by
  obtain ⟨A', c', rfl⟩ : ∃ (A' : Option Addr) (c' : Nat), v' = .slice A' (m + 1) c' := by
    rcases ho.2 with ⟨a1, a2⟩ | ⟨g, N, cur, a1, _⟩
    · exact ⟨none, 0, a1.trans (by rw [a2])⟩
    · exact ⟨_, _, a1⟩
  refine ⟨A', c', rfl, by rw [List.length_append, ← h.1]; rfl, by rw [prsC_snoc]; exact ho, ?_⟩
  exact h.2.2.grown hg (by have := h.2.2.size; simpa using this) (fun q hq => (h.2.1.lt q hq).1)
theorem OutPr.start (w : World) (o : Obj) : OutPr w o [] 0 (some ⟨w.heap.size + 1, 0, none⟩) 0 ((w.alloc o).alloc (.cells #[] 52)) := by
  refine ⟨rfl, ⟨by simp [prsC], .inr ⟨w.heap.size + 1, 0, #[], rfl, by omega, ?_, by omega, by simp [maxLen], rfl, by simp [prsC]⟩⟩, (Below.refl _ _).alloc (by simp) _⟩
  have := heap_alloc_new (w.alloc o) (.cells #[] 52)
  simpa using this
theorem OutPr.own (h : OutPr w o out m A c W) : OwnPr w.heap.size out (.slice A m c) W := by
  obtain ⟨h1, h2, h3⟩ := h
  subst h1
  refine ⟨A, c, rfl, h2.1, ?_⟩
  rcases h2.2 with h | ⟨g, cap, cur, hv, hg, r⟩
  · exact .inl h
  · exact .inr ⟨g, cap, cur, hv, by omega, r⟩
end

def PutPrPost (L : List Pr) (w : World) (e : Ending) (w' : World) : Prop := ∃ v, e = .returned v ∧ OwnPr w.heap.size L v w' ∧ Below w.heap.size w w'
set_option maxRecDepth 100000 in
set_option maxHeartbeats 4000000 in
theorem sPutPr_any (A : Option Addr) (n c : Nat) (l : List Pr) (x0 : ByteArray) (x1 : ByteArray) (w : World) (hr : RowAt w w.heap.size A (prsC l)) (hn : n = l.length) (hs : n ≤ 1048576) :
    Calls Try.prog 73 #[.slice A n c, .agg #[.string x0, .string x1]] w (PutPrPost (putK keyPr (x0, x1) l) w) := by
  obtain ⟨i0, hi0, hz0, hz1, hz2⟩ := info_parts prInfo
  have HI := Lib.hid (And.intro hi0 (And.intro hz0 (And.intro hz1 hz2))); clear hi0 hz0 hz1 hz2
  have HR := Lib.hid hr; clear hr
  have HN := Lib.hid hn; clear hn
  have HO0 := Lib.hid (OutPr.start w (.cells #[.string x0, .string x1] 52))
  go_enter Try.func73, Try.ntmps73
  go_wp2_with fail
  go_loopw [5, 6, 7] (fun q f i wr => ∃ (k m : Nat) (out : List Pr) (A' : Option Addr) (c' : Nat) (dn : Bool), q = .slice A' m c' ∧ f = .bool dn ∧ i = .int .i64 k ∧ k ≤ n ∧ PutInv keyPr (x0, x1) l k out dn ∧ OutPr w (.cells #[.string x0, .string x1] 52) out m A' c' wr) (fun _ _ i _ => n - (intOf i).toNat)
  case atStart => exact ⟨0, 0, [], _, _, false, rfl, rfl, rfl, by omega, PutInv.start _ _, HO0.out⟩
  case round =>
    obtain ⟨k, m, out, A', c', dn, rfl, rfl, rfl, hk, hinv, ho⟩ := hrel
    clear HO0
    have hmk : m ≤ k + 1 := by have := hinv.2.1; have := ho.1; omega
    have HV := Lib.hid hinv; clear hinv
    have HO := Lib.hid ho; clear ho
    by_cases hlt : k < n
    · have hkl : k < l.length := by have := HN.out; omega
      obtain ⟨b, off, hA, hbw, _⟩ := prs_at (HR.out.below HO.out.below) hkl
      subst hA
      obtain ⟨e0, e1⟩ := prs_in (HR.out.below (HO.out.below)) hkl
      have p0 : wr.cell? ⟨w.heap.size, 0, none⟩ = some (.string x0) := (HO.out.2.2.cell (p := ⟨w.heap.size, 0, none⟩) (by simp)).trans (by simp)
      have p1 : wr.cell? ⟨w.heap.size, 1, none⟩ = some (.string x1) := (HO.out.2.2.cell (p := ⟨w.heap.size, 1, none⟩) (by simp)).trans (by simp)
      have HE := Lib.hid (fun W (hb : Below w.heap.size w W) => prs_in (HR.out.below hb) hkl)
      have HOK := Lib.hid (fun N o => HO.out.keep (show Below wr.heap.size wr ((wr.drewN N).alloc o) from (below_drewN wr.heap.size N).alloc (Nat.le_refl _) o))
      have hi1 : (k : Int) < (n : Int) := by omega
      have hbs : b < wr.heap.size := Nat.lt_of_lt_of_le hbw HO.out.below.size
      cases dn with
      | true =>
        have HV2 := Lib.hid (HV.out.copy hkl)
        have HY := Lib.hid (show l[k] = (l[k].1, l[k].2) from rfl)
        rw [HY.out] at HV2
        generalize l[k].1 = y0 at *
        generalize l[k].2 = y1 at *
        go_wp2_with fail
        go_quiet (fail)
        go_wp2_with (at_builtin; refine wpList_append_own _ rfl _ _ 26 rfl (w.heap.size + 1) 52 i0 (.agg #[.string ⟨#[]⟩, .string ⟨#[]⟩]) 2 32 Try.underlying26 HI.out.1 HI.out.2.1 HI.out.2.2.1 HI.out.2.2.2 rfl (by decide) (.slice A' m c') (m) (prsC out) rfl (HOK.out _ _).2.1 ⟨wr.heap.size, 0, none⟩ 1 1 [.string y0, .string y1] rfl rfl ?c1 ?c2 ?c3 ?c4 ?c5 ?_)
        case c1 => exact fun j u hj => cells_new _ _ _ j u hj
        case c2 => intro u hu; simp at hu; rcases hu with rfl | rfl <;> rfl
        case c3 => unfold maxLen; omega
        case c4 => omega
        case c5 => first | (have := HO.out.2.2.size; simp at this ⊢; omega)
        intro v' w2 hown' hgrow _
        obtain ⟨A2, c2, rfl, ho2⟩ := OutPr.app (y := (y0, y1)) (HOK.out _ _) hown' hgrow
        have HO2 := Lib.hid ho2
        clear ho2 hown' hgrow
        go_wp2_with fail
        go_roundw
        case rel => exact ⟨k + 1, m + 1, _, A2, c2, true, rfl, rfl, by go_num, by omega, HV2.out, HO2.out⟩
        case measure => simp [intOf]; omega
      | false =>
        cases hle : leS x0 l[k].1 with
        | false =>
          have HV2 := Lib.hid (HV.out.pass hkl hle)
          have HY := Lib.hid (show l[k] = (l[k].1, l[k].2) from rfl)
          rw [HY.out] at HV2
          have hc : (Op.bytesLess x0.toList l[k].1.toList || x0.toList == l[k].1.toList) = false := hle
          clear hle
          generalize l[k].1 = y0 at *
          generalize l[k].2 = y1 at *
          go_wp2_with fail
          go_quiet (fail)
          go_wp2_with (at_builtin; refine wpList_append_own _ rfl _ _ 26 rfl (w.heap.size + 1) 52 i0 (.agg #[.string ⟨#[]⟩, .string ⟨#[]⟩]) 2 32 Try.underlying26 HI.out.1 HI.out.2.1 HI.out.2.2.1 HI.out.2.2.2 rfl (by decide) (.slice A' m c') (m) (prsC out) rfl (HOK.out _ _).2.1 ⟨wr.heap.size, 0, none⟩ 1 1 [.string y0, .string y1] rfl rfl ?c1 ?c2 ?c3 ?c4 ?c5 ?_)
          case c1 => exact fun j u hj => cells_new _ _ _ j u hj
          case c2 => intro u hu; simp at hu; rcases hu with rfl | rfl <;> rfl
          case c3 => unfold maxLen; omega
          case c4 => omega
          case c5 => first | (have := HO.out.2.2.size; simp at this ⊢; omega)
          intro v' w2 hown' hgrow _
          obtain ⟨A2, c2, rfl, ho2⟩ := OutPr.app (y := (y0, y1)) (HOK.out _ _) hown' hgrow
          have HO2 := Lib.hid ho2
          clear ho2 hown' hgrow
          go_wp2_with fail
          go_roundw
          case rel => exact ⟨k + 1, m + 1, _, A2, c2, false, rfl, rfl, by go_num, by omega, HV2.out, HO2.out⟩
          case measure => simp [intOf]; omega
        | true =>
          have hc : (Op.bytesLess x0.toList l[k].1.toList || x0.toList == l[k].1.toList) = true := hle
          by_cases he : x0.toList = l[k].1.toList
          · have HV2 := Lib.hid (HV.out.over hkl hle he)
            have q1 : (x0.toList == l[k].1.toList) = true := by simpa using he
            have HEQ := Lib.hid he
            clear he hle
            generalize l[k].1 = y0 at *
            generalize l[k].2 = y1 at *
            go_wp2_with fail
            go_quiet (fail)
            go_wp2_with (at_builtin; refine wpList_append_own _ rfl _ _ 26 rfl (w.heap.size + 1) 52 i0 (.agg #[.string ⟨#[]⟩, .string ⟨#[]⟩]) 2 32 Try.underlying26 HI.out.1 HI.out.2.1 HI.out.2.2.1 HI.out.2.2.2 rfl (by decide) (.slice A' m c') (m) (prsC out) rfl (HOK.out _ _).2.1 ⟨wr.heap.size, 0, none⟩ 1 1 [.string x0, .string x1] rfl rfl ?c1 ?c2 ?c3 ?c4 ?c5 ?_)
            case c1 => exact fun j u hj => cells_new _ _ _ j u hj
            case c2 => intro u hu; simp at hu; rcases hu with rfl | rfl <;> rfl
            case c3 => unfold maxLen; omega
            case c4 => omega
            case c5 => first | (have := HO.out.2.2.size; simp at this ⊢; omega)
            intro v' w2 hown' hgrow _
            obtain ⟨A2, c2, rfl, ho2⟩ := OutPr.app (y := (x0, x1)) (HOK.out _ _) hown' hgrow
            have HO2 := Lib.hid ho2
            clear ho2 hown' hgrow
            have p0 : w2.cell? ⟨w.heap.size, 0, none⟩ = some (.string x0) := (HO2.out.2.2.cell (p := ⟨w.heap.size, 0, none⟩) (by simp)).trans (by simp)
            have p1 : w2.cell? ⟨w.heap.size, 1, none⟩ = some (.string x1) := (HO2.out.2.2.cell (p := ⟨w.heap.size, 1, none⟩) (by simp)).trans (by simp)
            obtain ⟨f0, f1⟩ := HE.out _ HO2.out.below
            have hbs2 : b < w2.heap.size := Nat.lt_of_lt_of_le hbw HO2.out.below.size
            go_wp2_with fail
            go_quiet (fail)
            go_wp2_with fail
            go_roundw
            case rel => exact ⟨k + 1, m + 1, _, A2, c2, true, rfl, rfl, by go_num, by omega, HV2.out, HO2.out.keep (below_drewN _ _)⟩
            case measure => simp [intOf]; omega
          · have HV2 := Lib.hid (HV.out.ahead hkl hle he)
            have HY := Lib.hid (show l[k] = (l[k].1, l[k].2) from rfl)
            rw [HY.out] at HV2
            have q1 : (x0.toList == l[k].1.toList) = false := by simpa using he
            have q2 : Op.bytesLess x0.toList l[k].1.toList = true := by rw [q1, Bool.or_false] at hc; exact hc
            clear he hle hc
            generalize l[k].1 = y0 at *
            generalize l[k].2 = y1 at *
            go_wp2_with fail
            go_quiet (fail)
            go_wp2_with (at_builtin; refine wpList_append_own _ rfl _ _ 26 rfl (w.heap.size + 1) 52 i0 (.agg #[.string ⟨#[]⟩, .string ⟨#[]⟩]) 2 32 Try.underlying26 HI.out.1 HI.out.2.1 HI.out.2.2.1 HI.out.2.2.2 rfl (by decide) (.slice A' m c') (m) (prsC out) rfl (HOK.out _ _).2.1 ⟨wr.heap.size, 0, none⟩ 1 1 [.string x0, .string x1] rfl rfl ?c1 ?c2 ?c3 ?c4 ?c5 ?_)
            case c1 => exact fun j u hj => cells_new _ _ _ j u hj
            case c2 => intro u hu; simp at hu; rcases hu with rfl | rfl <;> rfl
            case c3 => unfold maxLen; omega
            case c4 => omega
            case c5 => first | (have := HO.out.2.2.size; simp at this ⊢; omega)
            intro v' w2 hown' hgrow _
            obtain ⟨A2, c2, rfl, ho2⟩ := OutPr.app (y := (x0, x1)) (HOK.out _ _) hown' hgrow
            have HO2 := Lib.hid ho2
            clear ho2 hown' hgrow
            have p0 : w2.cell? ⟨w.heap.size, 0, none⟩ = some (.string x0) := (HO2.out.2.2.cell (p := ⟨w.heap.size, 0, none⟩) (by simp)).trans (by simp)
            have p1 : w2.cell? ⟨w.heap.size, 1, none⟩ = some (.string x1) := (HO2.out.2.2.cell (p := ⟨w.heap.size, 1, none⟩) (by simp)).trans (by simp)
            obtain ⟨f0, f1⟩ := HE.out _ HO2.out.below
            have hbs2 : b < w2.heap.size := Nat.lt_of_lt_of_le hbw HO2.out.below.size
            have HOK2 := Lib.hid (fun N o => HO2.out.keep (show Below w2.heap.size w2 ((w2.drewN N).alloc o) from (below_drewN w2.heap.size N).alloc (Nat.le_refl _) o))
            go_wp2_with fail
            go_quiet (fail)
            go_wp2_with (at_builtin; refine wpList_append_own _ rfl _ _ 26 rfl (w.heap.size + 1) 52 i0 (.agg #[.string ⟨#[]⟩, .string ⟨#[]⟩]) 2 32 Try.underlying26 HI.out.1 HI.out.2.1 HI.out.2.2.1 HI.out.2.2.2 rfl (by decide) (.slice A2 (m + 1) c2) ((m + 1)) (prsC (out ++ [(x0, x1)])) rfl (HOK2.out _ _).2.1 ⟨w2.heap.size, 0, none⟩ 1 1 [.string y0, .string y1] rfl rfl ?c1 ?c2 ?c3 ?c4 ?c5 ?_)
            case c1 => exact fun j u hj => cells_new _ _ _ j u hj
            case c2 => intro u hu; simp at hu; rcases hu with rfl | rfl <;> rfl
            case c3 => unfold maxLen; omega
            case c4 => omega
            case c5 => first | (have := HO2.out.2.2.size; simp at this ⊢; omega)
            intro v' w3 hown' hgrow _
            obtain ⟨A3, c3, rfl, ho2⟩ := OutPr.app (y := (y0, y1)) (HOK2.out _ _) hown' hgrow
            have HO3 := Lib.hid ho2
            clear ho2 hown' hgrow
            go_wp2_with fail
            go_roundw
            case rel => exact ⟨k + 1, m + 1 + 1, _, A3, c3, true, rfl, rfl, by go_num, by omega, HV2.out, HO3.out⟩
            case measure => simp [intOf]; omega
    · obtain rfl : k = n := by omega
      have HKN := Lib.hid (show k = l.length from HN.out)
      cases dn with
      | true =>
        have HF := Lib.hid (PutInv.done (by have := HV.out; rw [HKN.out] at this; exact this))
        go_wp2_with fail
        refine bodyPost_ret (v := .slice A' (m) c') (by simp [results, Try.results73, go_sem]) rfl ?_
        exact ⟨_, rfl, by rw [← HF.out]; exact HO.out.own, HO.out.below⟩
      | false =>
        have HF := Lib.hid (PutInv.last (by have := HV.out; rw [HKN.out] at this; exact this))
        have p0 : wr.cell? ⟨w.heap.size, 0, none⟩ = some (.string x0) := (HO.out.2.2.cell (p := ⟨w.heap.size, 0, none⟩) (by simp)).trans (by simp)
        have p1 : wr.cell? ⟨w.heap.size, 1, none⟩ = some (.string x1) := (HO.out.2.2.cell (p := ⟨w.heap.size, 1, none⟩) (by simp)).trans (by simp)
        have HOK := Lib.hid (fun o => HO.out.keep ((Below.refl wr.heap.size wr).alloc (Nat.le_refl _) o))
        go_wp2_with (at_builtin; refine wpList_append_own _ rfl _ _ 26 rfl (w.heap.size + 1) 52 i0 (.agg #[.string ⟨#[]⟩, .string ⟨#[]⟩]) 2 32 Try.underlying26 HI.out.1 HI.out.2.1 HI.out.2.2.1 HI.out.2.2.2 rfl (by decide) (.slice A' m c') (m) (prsC out) rfl (HOK.out _).2.1 ⟨wr.heap.size, 0, none⟩ 1 1 [.string x0, .string x1] rfl rfl ?c1 ?c2 ?c3 ?c4 ?c5 ?_)
        case c1 => exact fun j u hj => cells_new _ _ _ j u hj
        case c2 => intro u hu; simp at hu; rcases hu with rfl | rfl <;> rfl
        case c3 => unfold maxLen; omega
        case c4 => omega
        case c5 => first | (have := HO.out.2.2.size; simp at this ⊢; omega)
        intro v' w2 hown' hgrow _
        obtain ⟨A2, c2, rfl, ho2⟩ := OutPr.app (y := (x0, x1)) (HOK.out _) hown' hgrow
        have HO2 := Lib.hid ho2
        clear ho2 hown' hgrow
        go_wp2_with fail
        refine bodyPost_ret (v := .slice A2 (m + 1) c2) (by simp [results, Try.results73, go_sem]) rfl ?_
        exact ⟨_, rfl, by rw [← HF.out]; exact HO2.out.own, HO2.out.below⟩
end Go.Proofs.Ytcaekjbalkbliaa
