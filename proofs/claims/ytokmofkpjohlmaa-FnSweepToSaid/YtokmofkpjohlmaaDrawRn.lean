/- The drawn changes and runs (the model's generators someOps, memOf, someRun). Condition: the reader lies in its block. -/
import Derived.Test.YtokmofkpjohlmaaDrawL
import Derived.Test.YtokmofkpjohlmaaPutIt
import Derived.StillTailTactics
set_option linter.unusedVariables false
set_option linter.unusedSimpArgs false
namespace Go.Proofs.Ytokmofkpjohlmaa
open Go.RowKit Go.ChangeShapes Go.WideShapes

theorem RowD.under {r M : Nat} {e : TypeId} {z : Nat} {w W W' : World} {A : Option Addr} {n c : Nat} {cs : List Value} {B : Nat} (h : RowD r M e z w A n c cs W) (hb : Below B W W') (hq : ∀ q, (Value.slice A n c).ownBlock = some q → q < B) (hr : r < B) (hw : w.heap.size ≤ B) : RowD r M e z w A n c cs W' := by
  refine ⟨⟨h.own.1, ?_⟩, h.rd.below hb hr, ⟨hb.os.trans h.gr.os, hb.tape.trans h.gr.tape, hb.output.trans h.gr.output, Nat.le_trans h.gr.size hb.size, fun k hk hn => (hb.block k (by omega)).trans (h.gr.block k hk hn)⟩⟩
  rcases h.own.2 with h1 | ⟨g, cap, cur, hv, hg, hh, s⟩
  · exact .inl h1
  · exact .inr ⟨g, cap, cur, hv, hg, (hb.block g (hq g (by rw [hv]; rfl))).trans hh, s⟩

def FewI (l : List It) : Prop := ∀ p ∈ l, p.1.size ≤ 16 ∧ p.2.1.size ≤ 16
theorem FewI.nil : FewI [] := fun p hp => by cases hp
theorem FewI.snoc {l : List It} (h : FewI l) {a b : ByteArray} {g : Bool} (ha : a.size ≤ 16) (hb : b.size ≤ 16) : FewI (l ++ [(a, b, g)]) := fun p hp => by
  rcases List.mem_append.1 hp with h1 | h1
  · exact h p h1
  · rw [List.mem_singleton.1 h1]; exact ⟨ha, hb⟩
theorem FewI.put {l : List It} (h : FewI l) {x : It} (hx : x.1.size ≤ 16 ∧ x.2.1.size ≤ 16) : FewI (putK keyIt x l) := fun p hp => by
  rcases putK_mem hp with h1 | h1
  · rw [h1]; exact hx
  · exact h p h1
theorem FewI.wf {l : List It} (h : FewI l) : WfIt l := fun p hp => ⟨by have := (h p hp).1; unfold maxLen; omega, by have := (h p hp).2; unfold maxLen; omega⟩
/-- the run of changes -/
def memK (l : List It) : List It := l.foldl (fun o p => putK keyIt p o) []
theorem memK_snoc (l : List It) (p : It) : memK (l ++ [p]) = putK keyIt p (memK l) := by unfold memK; rw [List.foldl_append]; rfl
theorem memK_step {l : List It} {k : Nat} (h : k < l.length) : memK (l.take (k + 1)) = putK keyIt l[k] (memK (l.take k)) := by
  rw [List.take_succ_eq_append_getElem h, memK_snoc]
theorem memK_len (l : List It) : ∀ k, k ≤ l.length → (memK (l.take k)).length ≤ k
  | 0, _ => by simp [memK]
  | k + 1, h => by
    rw [memK_step (by omega)]
    have := memK_len l k (by omega)
    have := (putK_len (key := keyIt) (l[k]'(by omega)) (memK (l.take k))).2
    omega
theorem memK_few {l : List It} (h : FewI l) : ∀ k, k ≤ l.length → FewI (memK (l.take k))
  | 0, _ => by simp only [List.take_zero]; exact FewI.nil
  | k + 1, hk => by
    rw [memK_step (by omega)]
    exact (memK_few h k (by omega)).put (h _ (List.getElem_mem _))
theorem opInfo : (Try.prog.info? 82).map (fun i => (i.zero, i.size, i.bytes)) = some (some (.agg #[.string ⟨#[]⟩, .string ⟨#[]⟩, .bool false]), 3, 40) := by kernel_rfl
def OpsDrawn (r M : Nat) (w : World) (e : Ending) (w' : World) : Prop := ∃ (l : List It) (A : Option Addr) (m c : Nat), e = .returned (.slice A m c) ∧ m = l.length ∧ m ≤ 13 ∧ FewI l ∧ RowD r M 82 3 w A m c (itsC l) w'

set_option maxRecDepth 100000 in
set_option maxHeartbeats 4000000 in
theorem someOps_any (r N : Nat) (w : World) (h : Rdr 117 w r N) (hN : N ≤ 800000) :
    Calls Try.prog 90 #[.pointer (some ⟨r, 0, none⟩)] w (OpsDrawn r (N + 200) w) := by
  obtain ⟨i0, hi0, hz0, hz1, hz2⟩ := info_parts opInfo
  have HI := Lib.hid (And.intro hi0 (And.intro hz0 (And.intro hz1 hz2))); clear hi0 hz0 hz1 hz2
  have hrl := h.lt
  have HS := Lib.hid (RowD.start h 82 3)
  clear h
  have ho1 := fun cs m c t hm hm0 hm1 hs => oneNew_any 0 12 r N m c cs t _ HS.out.rd (by omega) hm hm0 hm1 hs
  simp only [World.size_alloc] at ho1
  have HO1 := Lib.hid ho1; clear ho1
  go_enter Try.func90, Try.ntmps90
  go_wp2_with fail
  refine (HO1.out _ _ _ _ (by rfl) (by omega) (by omega) (by rfl)).mono ?_
  rintro e w1 ⟨nn, rfl, hn1, hn2, hr1, hg1⟩
  have HS1 := Lib.hid (HS.out.grow hrl hg1 hr1); clear hr1 hg1
  obtain ⟨n, rfl⟩ := Int.eq_ofNat_of_zero_le hn1
  go_wp2_with fail
  go_loopw [3, 4] (fun q i wr => ∃ (l : List It) (A : Option Addr) (m c k : Nat), q = .slice A m c ∧ m = l.length ∧ i = .int .i64 k ∧ m + k ≤ 12 ∧ FewI l ∧ RowD r (N + 1 + 8 * (12 - k)) 82 3 w A m c (itsC l) wr) (fun _ i _ => (intOf i).toNat)
  case atStart => exact ⟨[], _, 0, _, n, rfl, rfl, rfl, by omega, FewI.nil, HS1.out.more (by omega)⟩
  case round =>
    obtain ⟨l, A, m, c, k, rfl, hm, rfl, hmk, hfew, hrel⟩ := hrel
    have HM := Lib.hid hm; clear hm
    have HFW := Lib.hid hfew; clear hfew
    have HR := Lib.hid hrel; clear hrel
    cases k with
    | succ k =>
      have hpos : (0 : Int) < ((k + 1 : Nat) : Int) := by omega
      have HK := Lib.hid (goodKey_any r _ wr HR.out.rd (by omega))
      go_wp2_with fail
      refine (HK.out).mono ?_
      rintro e w3 ⟨s1, rfl, hs1, hr3, hg3⟩
      have HR3 := Lib.hid (HR.out.grow hrl hg3 hr3); clear hr3 hg3
      have HV := Lib.hid (goodValue_any r _ w3 HR3.out.rd (by omega))
      go_wp2_with fail
      refine (HV.out).mono ?_
      rintro e w4 ⟨s2, rfl, hs2, hr4, hg4⟩
      have HR4 := Lib.hid (HR3.out.grow hrl hg4 hr4); clear hr4 hg4
      have HQ := Lib.hid (fun q hq => (HR4.out.own.lt q hq).2)
      have hw4 : w.heap.size ≤ w4.heap.size := HR4.out.gr.size
      have hr4 : r < w4.heap.size := HR4.out.rd.lt
      have HRA := Lib.hid (HR4.out.alloc (.cells #[.string s1, .string s2, .bool false] 82))
      have HP := Lib.hid (pick_any r _ 4 _ HRA.out.rd (by omega) (by omega))
      go_wp2_with fail
      refine (HP.out).mono ?_
      rintro e w5 ⟨x, rfl, hx0, hxn, hr5, hg5⟩
      have HR5 := Lib.hid (HRA.out.grow hrl hg5 hr5)
      have cl : ∀ o, w5.cell? ⟨w4.heap.size, o, none⟩ = (w4.alloc (.cells #[.string s1, .string s2, .bool false] 82)).cell? ⟨w4.heap.size, o, none⟩ := fun o => World.cell?_of_block (hg5.block w4.heap.size (by simp) (fun e => by injection e; omega))
      have cf : ∀ o, w5.frozen? ⟨w4.heap.size, o, none⟩ = (w4.alloc (.cells #[.string s1, .string s2, .bool false] 82)).frozen? ⟨w4.heap.size, o, none⟩ := fun o => World.frozen?_of_block (hg5.block w4.heap.size (by simp) (fun e => by injection e; omega))
      have c0 : w5.cell? ⟨w4.heap.size, 0, none⟩ = some (.string s1) := (cl 0).trans (by simp)
      have c1 : w5.cell? ⟨w4.heap.size, 1, none⟩ = some (.string s2) := (cl 1).trans (by simp)
      have c2 : w5.cell? ⟨w4.heap.size, 2, none⟩ = some (.bool false) := (cl 2).trans (by simp)
      have f0 : w5.frozen? ⟨w4.heap.size, 0, none⟩ = false := (cf 0).trans (by simp [go_sem])
      have f1 : w5.frozen? ⟨w4.heap.size, 1, none⟩ = false := (cf 1).trans (by simp [go_sem])
      have f2 : w5.frozen? ⟨w4.heap.size, 2, none⟩ = false := (cf 2).trans (by simp [go_sem])
      have hw5 : w4.heap.size < w5.heap.size := by have := hg5.size; simp at this; omega
      clear cl cf hr5 hg5
      by_cases hx : x = 0
      · subst hx
        have HR6 := Lib.hid (HR5.out.under (W' := ((w5.setCell ⟨w4.heap.size, 0, none⟩ (.string s1)).setCell ⟨w4.heap.size, 1, none⟩ (.string ⟨#[]⟩)).setCell ⟨w4.heap.size, 2, none⟩ (.bool true)) ((((Below.refl w4.heap.size w5).setCell (Nat.le_refl _) _).setCell (Nat.le_refl _) _).setCell (Nat.le_refl _) _) HQ.out hr4 hw4)
        have HR7 := Lib.hid (fun o => HR6.out.alloc o)
        go_wp2_with (at_builtin; refine wpList_append_own _ rfl _ _ 38 rfl w.heap.size 82 i0 (.agg #[.string ⟨#[]⟩, .string ⟨#[]⟩, .bool false]) 3 40 Try.underlying38 HI.out.1 HI.out.2.1 HI.out.2.2.1 HI.out.2.2.2 rfl (by decide) (.slice A m c) m (itsC l) rfl (HR7.out _).own ⟨w5.heap.size, 0, none⟩ 1 1 [.string s1, .string ⟨#[]⟩, .bool true] rfl rfl ?c1 ?c2 ?c3 ?c4 ?c5 ?_)
        case c1 =>
          intro j u hj
          have hz : (((w5.setCell ⟨w4.heap.size, 0, none⟩ (.string s1)).setCell ⟨w4.heap.size, 1, none⟩ (.string ⟨#[]⟩)).setCell ⟨w4.heap.size, 2, none⟩ (.bool true)).heap.size = w5.heap.size := by simp
          have := cells_new (((w5.setCell ⟨w4.heap.size, 0, none⟩ (.string s1)).setCell ⟨w4.heap.size, 1, none⟩ (.string ⟨#[]⟩)).setCell ⟨w4.heap.size, 2, none⟩ (.bool true)) [.string s1, .string ⟨#[]⟩, .bool true] 82 j u hj
          rw [hz] at this
          exact this
        case c2 => intro u hu; simp at hu; rcases hu with rfl | rfl | rfl <;> rfl
        case c3 => unfold maxLen; omega
        case c4 => omega
        case c5 => simp; omega
        intro v' w6 hown' hgrow _
        obtain ⟨A6, c6, rfl, hr6⟩ := (HR7.out _).app hrl hown' hgrow
        have HR8 := Lib.hid (show RowD r _ 82 3 w A6 (m + 1) c6 (itsC (l ++ [(s1, ⟨#[]⟩, true)])) w6 by rw [itsC_snoc]; exact hr6)
        have HF8 := Lib.hid (HFW.out.snoc (a := s1) (b := ⟨#[]⟩) (g := true) hs1 (by decide))
        have HL8 := Lib.hid (show m + 1 = (l ++ [(s1, (⟨#[]⟩ : ByteArray), true)]).length by rw [List.length_append, ← HM.out]; rfl)
        clear hr6 hown' hgrow
        generalize l ++ [(s1, (⟨#[]⟩ : ByteArray), true)] = L at *
        go_wp2_with fail
        go_roundw
        case rel => exact ⟨L, A6, m + 1, c6, k, rfl, HL8.out, by go_num, by omega, HF8.out, HR8.out.more (by omega)⟩
        case measure => simp [intOf] <;> omega
      · have q0 : (x == 0) = false := by simpa using hx
        clear hx
        have HR7 := Lib.hid (fun o => HR5.out.alloc o)
        go_wp2_with (at_builtin; refine wpList_append_own _ rfl _ _ 38 rfl w.heap.size 82 i0 (.agg #[.string ⟨#[]⟩, .string ⟨#[]⟩, .bool false]) 3 40 Try.underlying38 HI.out.1 HI.out.2.1 HI.out.2.2.1 HI.out.2.2.2 rfl (by decide) (.slice A m c) m (itsC l) rfl (HR7.out _).own ⟨w5.heap.size, 0, none⟩ 1 1 [.string s1, .string s2, .bool false] rfl rfl ?c1 ?c2 ?c3 ?c4 ?c5 ?_)
        case c1 => exact fun j u hj => cells_new _ _ _ j u hj
        case c2 => intro u hu; simp at hu; rcases hu with rfl | rfl | rfl <;> rfl
        case c3 => unfold maxLen; omega
        case c4 => omega
        case c5 => simp; omega
        intro v' w6 hown' hgrow _
        obtain ⟨A6, c6, rfl, hr6⟩ := (HR7.out _).app hrl hown' hgrow
        have HR8 := Lib.hid (show RowD r _ 82 3 w A6 (m + 1) c6 (itsC (l ++ [(s1, s2, false)])) w6 by rw [itsC_snoc]; exact hr6)
        have HF8 := Lib.hid (HFW.out.snoc (g := false) hs1 hs2)
        have HL8 := Lib.hid (show m + 1 = (l ++ [(s1, s2, false)]).length by rw [List.length_append, ← HM.out]; rfl)
        clear hr6 hown' hgrow
        generalize l ++ [(s1, s2, false)] = L at *
        go_wp2_with fail
        go_roundw
        case rel => exact ⟨L, A6, m + 1, c6, k, rfl, HL8.out, by go_num, by omega, HF8.out, HR8.out.more (by omega)⟩
        case measure => simp [intOf] <;> omega
    | zero =>
      have HP := Lib.hid (pick_any r _ 40 wr HR.out.rd (by omega) (by omega))
      go_wp2_with fail
      refine (HP.out).mono ?_
      rintro e w3 ⟨x, rfl, hx0, hxn, hr3, hg3⟩
      have HR3 := Lib.hid (HR.out.grow hrl hg3 hr3); clear hr3 hg3
      have HR4 := Lib.hid (fun o => HR3.out.alloc o)
      by_cases hx : x = 0
      · subst hx
        go_wp2_with (at_builtin; refine wpList_append_own _ rfl _ _ 38 rfl w.heap.size 82 i0 (.agg #[.string ⟨#[]⟩, .string ⟨#[]⟩, .bool false]) 3 40 Try.underlying38 HI.out.1 HI.out.2.1 HI.out.2.2.1 HI.out.2.2.2 rfl (by decide) (.slice A m c) m (itsC l) rfl (HR4.out _).own ⟨w3.heap.size, 0, none⟩ 1 1 [.string ⟨#[]⟩, .string ⟨#[120]⟩, .bool false] rfl rfl ?c1 ?c2 ?c3 ?c4 ?c5 ?_)
        case c1 => exact fun j u hj => cells_new _ _ _ j u hj
        case c2 => intro u hu; simp at hu; rcases hu with rfl | rfl | rfl <;> rfl
        case c3 => unfold maxLen; omega
        case c4 => omega
        case c5 => have := HR3.out.gr.size; simp; omega
        intro v' w4 hown' hgrow _
        obtain ⟨A4, c4, rfl, hr4⟩ := (HR4.out _).app hrl hown' hgrow
        have HR5 := Lib.hid hr4; clear hr4 hown' hgrow
        go_wp2_with fail
        go_ret
        refine ⟨l ++ [(⟨#[]⟩, ⟨#[120]⟩, false)], A4, m + 1, c4, rfl, by rw [List.length_append, ← HM.out]; rfl, by omega, HFW.out.snoc (by decide) (by decide), ?_⟩
        rw [itsC_snoc]
        exact HR5.out.more (by omega)
      · by_cases hx1 : x = 1
        · subst hx1
          go_wp2_with (at_builtin; refine wpList_append_own _ rfl _ _ 38 rfl w.heap.size 82 i0 (.agg #[.string ⟨#[]⟩, .string ⟨#[]⟩, .bool false]) 3 40 Try.underlying38 HI.out.1 HI.out.2.1 HI.out.2.2.1 HI.out.2.2.2 rfl (by decide) (.slice A m c) m (itsC l) rfl (HR4.out _).own ⟨w3.heap.size, 0, none⟩ 1 1 [.string ⟨#[97]⟩, .string ⟨#[120]⟩, .bool true] rfl rfl ?c1 ?c2 ?c3 ?c4 ?c5 ?_)
          case c1 => exact fun j u hj => cells_new _ _ _ j u hj
          case c2 => intro u hu; simp at hu; rcases hu with rfl | rfl | rfl <;> rfl
          case c3 => unfold maxLen; omega
          case c4 => omega
          case c5 => have := HR3.out.gr.size; simp; omega
          intro v' w4 hown' hgrow _
          obtain ⟨A4, c4, rfl, hr4⟩ := (HR4.out _).app hrl hown' hgrow
          have HR5 := Lib.hid hr4; clear hr4 hown' hgrow
          go_wp2_with fail
          go_ret
          refine ⟨l ++ [(⟨#[97]⟩, ⟨#[120]⟩, true)], A4, m + 1, c4, rfl, by rw [List.length_append, ← HM.out]; rfl, by omega, HFW.out.snoc (by decide) (by decide), ?_⟩
          rw [itsC_snoc]
          exact HR5.out.more (by omega)
        · have q0 : (x == 0) = false := by simpa using hx
          have q1 : (x == 1) = false := by simpa using hx1
          clear hx hx1
          go_wp2_with fail
          go_ret
          exact ⟨l, A, m, c, rfl, HM.out, by omega, HFW.out, HR3.out.more (by omega)⟩

def RunDrawn (r M : Nat) (w : World) (e : Ending) (w' : World) : Prop := ∃ (l : List It) (A : Option Addr) (m c : Nat), e = .returned (.slice A m c) ∧ m = l.length ∧ m ≤ 25 ∧ FewI l ∧ RowD r M 110 3 w A m c (itsC l) w'
def ItsGot (w : World) (e : Ending) (w' : World) : Prop := ∃ (l : List It) (A : Option Addr) (m c : Nat), e = .returned (.slice A m c) ∧ m = l.length ∧ m ≤ 25 ∧ FewI l ∧ w'.ownsRow w.heap.size 110 3 (.slice A m c) m (itsC l) ∧ Below w.heap.size w w'
end Go.Proofs.Ytokmofkpjohlmaa
