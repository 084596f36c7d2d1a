/- The drawn versions (the model's generator someVersions) and the draws of DrawValidVersions and DrawTimesOf. Condition: the reader lies in its block. -/
import Derived.Test.YtokmofkpjohlmaaDrawRn
import Derived.Test.YtokmofkpjohlmaaVerB
set_option linter.unusedVariables false
set_option linter.unusedSimpArgs false
namespace Go.Proofs.Ytokmofkpjohlmaa
open Go.RowKit Go.ChangeShapes Go.WideShapes

def FewV (l : List Vr) : Prop := ∀ p ∈ l, p.1.size ≤ 16 ∧ p.2.1.size ≤ 16 ∧ 0 ≤ p.2.2.2 ∧ p.2.2.2 ≤ 21
theorem few_nilV : FewV [] := fun p hp => by cases hp
theorem FewV.wf {l : List Vr} (h : FewV l) : WfVr l := fun p hp => by
  obtain ⟨h1, h2, h3, h4⟩ := h p hp
  exact ⟨by unfold maxLen; omega, by unfold maxLen; omega, by omega, by omega⟩
theorem FewI.wfC {l : List Cg} (h : FewI l) : WfCg l := fun p hp => ⟨by have := (h p hp).1; unfold maxLen; omega, by have := (h p hp).2; unfold maxLen; omega⟩
theorem few_short {l : List Cg} (h : FewI l) : FewI (shortK l) := fun p hp => h p (shortK_mem hp)
theorem few_add {l : List Vr} {ops : List Cg} {at_ : Int} (h1 : FewV l) (h2 : FewI ops) (h3 : addB l ops at_ = true) : FewV (addR l ops at_).1 ∧ (addR l ops at_).1.length ≤ 30 := by
  rw [addR_yes h3]
  unfold addB at h3
  simp only [Bool.and_eq_true] at h3
  refine ⟨fun p hp => ?_, (versB_ok h3.2).1⟩
  have hok := okVr_time ((versB_ok h3.2).2 p hp)
  unfold addL at hp
  rcases List.mem_append.1 hp with hp | hp
  · exact h1 p hp
  · obtain ⟨o, ho, rfl⟩ := List.mem_map.1 hp
    exact ⟨(h2 o ho).1, (h2 o ho).2, by show (0 : Int) ≤ at_; have : 1 ≤ at_ ∧ at_ ≤ 20 := hok; omega, by show at_ ≤ (21 : Int); have : 1 ≤ at_ ∧ at_ ≤ 20 := hok; omega⟩
theorem few_setV {p : Vr} {tl : List Vr} {y : Int} (h : FewV (p :: tl)) (h0 : 0 ≤ y) (h1 : y ≤ 21) : FewV ((p.1, p.2.1, p.2.2.1, y) :: tl) := fun q hq => by
  rcases List.mem_cons.1 hq with rfl | hq
  · have := h p List.mem_cons_self
    exact ⟨this.1, this.2.1, h0, h1⟩
  · exact h q (List.mem_cons_of_mem _ hq)
def VrsDrawn (r M : Nat) (w : World) (e : Ending) (w' : World) : Prop := ∃ (l : List Vr) (A : Option Addr) (m c : Nat), e = .returned (.slice A m c) ∧ m = l.length ∧ m ≤ 30 ∧ FewV l ∧ RowD r M 57 4 w A m c (vrsC l) w'
theorem drawn_setAt {r M : Nat} {w W : World} {g m c : Nat} {p : Vr} {t : List Vr} (h : RowD r M 57 4 w (some ⟨g, 0, none⟩) m c (vrsC (p :: t)) W) (hr : r < w.heap.size) (x : Int) :
    RowD r M 57 4 w (some ⟨g, 0, none⟩) m c (vrsC ((p.1, p.2.1, p.2.2.1, x) :: t)) (W.setCell ⟨g, 3, none⟩ (.int .i64 x)) := by
  obtain ⟨h1, h2⟩ := World.ownsRow.stored h.own 3 (.int .i64 x)
  have e : (vrsC (p :: t)).set 3 (.int .i64 x) = vrsC ((p.1, p.2.1, p.2.2.1, x) :: t) := by simp [vrsC, vrC]
  rw [e] at h1
  obtain ⟨A', c', e, hR⟩ := h.app hr h1 h2
  injection e with e1 e2 e3
  subst e1 e3
  exact hR

set_option maxRecDepth 100000 in
set_option maxHeartbeats 4000000 in
theorem someVersions_any (r N : Nat) (w : World) (h : Rdr 117 w r N) (hN : N ≤ 700000) :
    Calls Try.prog 83 #[.pointer (some ⟨r, 0, none⟩)] w (VrsDrawn r (N + 3000) w) := by
  have hrl := h.lt
  have HS := Lib.hid (RowD.start h 57 4)
  clear h
  have ho1 := fun cs m c t hm hm0 hm1 hs => oneNew_any 0 6 r N m c cs t _ HS.out.rd (by omega) hm hm0 hm1 hs
  simp only [World.size_alloc] at ho1
  have HO1 := Lib.hid ho1; clear ho1
  go_enter Try.func83, Try.ntmps83
  go_wp2_with fail
  refine (HO1.out _ _ _ _ (by rfl) (by omega) (by omega) (by rfl)).mono ?_
  rintro e w1 ⟨nn, rfl, hn1, hn2, hr1, hg1⟩
  have HS1 := Lib.hid (HS.out.grow hrl hg1 hr1); clear hr1 hg1
  obtain ⟨n, rfl⟩ := Int.eq_ofNat_of_zero_le hn1
  go_wp2_with fail
  go_loopw [3, 4, 5] (fun q a i wr => ∃ (l : List Vr) (A : Option Addr) (m c k : Nat) (t : Int), q = .slice A m c ∧ a = .int .i64 t ∧ 0 ≤ t ∧ t ≤ 20 ∧ m = l.length ∧ m ≤ 30 ∧ i = .int .i64 k ∧ k ≤ 6 ∧ FewV l ∧ RowD r (N + 1 + 400 * (6 - k)) 57 4 w A m c (vrsC l) wr) (fun _ _ i _ => (intOf i).toNat)
  case atStart => exact ⟨[], _, 0, _, n, 0, rfl, rfl, by omega, by omega, rfl, by omega, rfl, by omega, few_nilV, HS1.out.more (by omega)⟩
  case round =>
    obtain ⟨l, A, m, c, k, t, rfl, rfl, ht0, ht1, hm, hm30, rfl, hk6, hfew, hrel⟩ := hrel
    have HM := Lib.hid hm; clear hm
    have HFW := Lib.hid hfew; clear hfew
    have HR := Lib.hid hrel; clear hrel
    by_cases hgo : 0 < k ∧ t < 17
    · obtain ⟨hk0, ht17⟩ := hgo
      have hpos : (0 : Int) < (k : Int) := by omega
      have HP := Lib.hid (pick_any r _ 3 wr HR.out.rd (by omega) (by omega))
      go_wp2_with fail
      refine (HP.out).mono ?_
      rintro e w3 ⟨x, rfl, hx0, hxn, hr3, hg3⟩
      have HR3 := Lib.hid (HR.out.grow hrl hg3 hr3); clear hr3 hg3
      have hw1 : IntKind.i64.wrap (t + 1) = t + 1 := IntWalk.i64_in _ (by omega)
      have hw2 : IntKind.i64.wrap (t + 1 + x) = t + 1 + x := IntWalk.i64_in _ (by omega)
      have HSO := Lib.hid (someOps_any r _ w3 HR3.out.rd (by omega))
      go_wp2_with fail
      refine (HSO.out).mono ?_
      rintro e w4 ⟨ops, A4, m4, c4, rfl, hm4, hm13, hf4, hr4⟩
      have HR4 := Lib.hid (HR3.out.grow hrl hr4.gr hr4.rd)
      have HM4 := Lib.hid hm4; clear hm4
      have HF4 := Lib.hid hf4; clear hf4
      have HSH := Lib.hid (sShort_any A4 m4 c4 ops w4 hr4.row HM4.out (by omega)); clear hr4
      go_wp2_with fail
      refine (HSH.out).mono ?_
      rintro e w5 ⟨_, rfl, ⟨A5, c5, rfl, ho5⟩, hb5⟩
      have HR5 := Lib.hid (HR4.out.keep hb5); clear hb5
      have hl5 : (shortK ops).length ≤ 1048576 := by have := shortK_len ops; have := HM4.out; omega
      have HAD := Lib.hid (sAdd_any A m c l A5 (shortK ops).length c5 (shortK ops) (t + 1 + x) w5 HR5.out.row HM.out (by omega) HFW.out.wf (RowAt.of_own ho5) rfl hl5 (few_short HF4.out).wfC (own_none HR5.out.own) (own_none ho5))
      have HFA := Lib.hid (fun h => few_add (at_ := t + 1 + x) HFW.out (few_short HF4.out) h)
      have HYES := Lib.hid (fun h => addR_yes (l := l) (ops := shortK ops) (at_ := t + 1 + x) h)
      have HNO := Lib.hid (fun h => addR_no (l := l) (ops := shortK ops) (at_ := t + 1 + x) h)
      unfold AddPost at HAD
      clear ho5
      generalize (shortK ops).length = n5 at *
      cases hab : addB l (shortK ops) (t + 1 + x)
      · have hq := HNO.out hab
        rw [hq] at HAD
        clear hq HFA HYES HNO hab
        go_wp2_with fail
        refine (HAD.out).mono ?_
        rintro e w6 ⟨_, rfl, ⟨A6, c6, rfl, ho6⟩, hb6⟩
        have HR6 := Lib.hid (HR5.out.keep hb6); clear hb6 ho6
        go_wp2_with fail
        go_roundw
        case rel => exact ⟨l, A, m, c, k - 1, t + 1 + x, rfl, by first | rfl | go_num, by omega, by omega, HM.out, hm30, by go_num, by omega, HFW.out, HR6.out.more (by omega)⟩
        case measure => simp [intOf] <;> omega
      · obtain ⟨hf6, hl6⟩ := HFA.out hab
        have hq2 : (addR l (shortK ops) (t + 1 + x)).2 = true := by rw [HYES.out hab]
        rw [hq2] at HAD
        generalize (addR l (shortK ops) (t + 1 + x)).1 = l6 at *
        have HF6 := Lib.hid hf6; clear hf6
        clear hq2 HFA HYES HNO hab
        have HL6 := Lib.hid (show l6.length = l6.length from rfl)
        go_wp2_with fail
        refine (HAD.out).mono ?_
        rintro e w6 ⟨_, rfl, ⟨A6, c6, rfl, ho6⟩, hb6⟩
        have HR6 := Lib.hid (HR5.out.new hb6 ho6); clear hb6 ho6
        go_wp2_with fail
        go_roundw
        case rel => exact ⟨l6, A6, l6.length, c6, k - 1, t + 1 + x, rfl, by first | rfl | go_num, by omega, by omega, rfl, hl6, by go_num, by omega, HF6.out, HR6.out.more (by omega)⟩
        case measure => simp [intOf] <;> omega
    · have HFIN := Lib.hid (fun (l : List Vr) (A : Option Addr) (m c M : Nat) (W : World) (h1 : m = l.length) (h2 : m ≤ 30) (h3 : FewV l) (h4 : RowD r M 57 4 w A m c (vrsC l) W) (h5 : M ≤ N + 3000) => (⟨l, A, m, c, rfl, h1, h2, h3, h4.more h5⟩ : VrsDrawn r (N + 3000) w (.returned (.slice A m c)) W))
      cases l with
      | nil =>
        have hm0 : m = 0 := by simpa using HM.out
        subst hm0
        have HE := Lib.hid (HFIN.out [] A 0 c _ wr rfl (by omega) HFW.out HR.out (by omega))
        by_cases hk0 : 0 < k
        · have hpos : (0 : Int) < (k : Int) := by omega
          have ht17 : ¬ t < 17 := fun h => hgo ⟨hk0, h⟩
          clear hgo
          go_wp2_with fail
          go_ret
          exact HE.out
        · have hpos : ¬ (0 : Int) < (k : Int) := by omega
          clear hgo
          go_wp2_with fail
          go_ret
          exact HE.out
      | cons p tl =>
        have hmp : (0 : Int) < (m : Int) := by have := HM.out; simp at this; omega
        have HP := Lib.hid (pick_any r _ 30 wr HR.out.rd (by omega) (by omega))
        obtain ⟨g, hgA, hmc, hcm⟩ : ∃ g, A = some ⟨g, 0, none⟩ ∧ m ≤ c ∧ c ≤ maxLen := by
          rcases HR.out.own.2 with ⟨hv, hn⟩ | ⟨g, cap, cur, hv, _, _, h1, h2, _⟩
          · omega
          · injection hv with h3 _ h4
            subst h3 h4
            exact ⟨g, rfl, h1, h2⟩
        subst hgA
        have hcase : (0 < k ∧ ¬ t < 17) ∨ ¬ 0 < k := by
          by_cases hk0 : 0 < k
          · exact .inl ⟨hk0, fun h => hgo ⟨hk0, h⟩⟩
          · exact .inr hk0
        clear hgo
        rcases hcase with ⟨hk0, ht17⟩ | hk0
        · have hpos : (0 : Int) < (k : Int) := by omega
          go_wp2_with fail
          refine (HP.out).mono ?_
          rintro e w3 ⟨x, rfl, hx0, hxn, hr3, hg3⟩
          have HR3 := Lib.hid (HR.out.grow hrl hg3 hr3); clear hr3 hg3
          by_cases hx : x = 0
          · subst hx
            have HO3 := Lib.hid (oneNew_any 0 21 r _ 3 3 #[.int .i64 0, .int .i64 20, .int .i64 21] 3 w3 HR3.out.rd (by omega) (by rfl) (by omega) (by omega) (by rfl))
            have HRA := Lib.hid (HR3.out.alloc (.cells #[.int .i64 0, .int .i64 20, .int .i64 21] 3))
            have hc4 : (vrsC (p :: tl))[3]? = some (.int .i64 p.2.2.2) := by simp [vrsC, vrC]
            go_wp2_with fail
            refine (HO3.out).mono ?_
            rintro e w4 ⟨y, rfl, hy0, hy1, hr4, hg4⟩
            have HR4 := Lib.hid (HR3.out.grow hrl hg4 hr4)
            have hc5 : w4.cell? ⟨g, 3, none⟩ = some (.int .i64 p.2.2.2) := by rw [HR4.out.own.cellAt 3 (by have := HR4.out.own.1; have := HM.out; simp at this; omega)]; exact hc4
            have hf5 : w4.frozen? ⟨g, 3, none⟩ = false := HR4.out.own.frozenAt _
            have HE := Lib.hid (HFIN.out ((p.1, p.2.1, p.2.2.1, y) :: tl) (some ⟨g, 0, none⟩) m c _ (w4.setCell ⟨g, 3, none⟩ (.int .i64 y)) (by rw [HM.out]; rfl) hm30 (few_setV HFW.out hy0 hy1) (drawn_setAt HR4.out hrl y) (by omega))
            clear hr4 hg4 hc4
            go_wp2_with fail
            go_ret
            exact HE.out
          · have q0 : (x == 0) = false := by simpa using hx
            have HE := Lib.hid (HFIN.out _ _ m c _ w3 HM.out hm30 HFW.out HR3.out (by omega))
            clear hx
            go_wp2_with fail
            go_ret
            exact HE.out
        · have hpos : ¬ (0 : Int) < (k : Int) := by omega
          go_wp2_with fail
          refine (HP.out).mono ?_
          rintro e w3 ⟨x, rfl, hx0, hxn, hr3, hg3⟩
          have HR3 := Lib.hid (HR.out.grow hrl hg3 hr3); clear hr3 hg3
          by_cases hx : x = 0
          · subst hx
            have HO3 := Lib.hid (oneNew_any 0 21 r _ 3 3 #[.int .i64 0, .int .i64 20, .int .i64 21] 3 w3 HR3.out.rd (by omega) (by rfl) (by omega) (by omega) (by rfl))
            have HRA := Lib.hid (HR3.out.alloc (.cells #[.int .i64 0, .int .i64 20, .int .i64 21] 3))
            have hc4 : (vrsC (p :: tl))[3]? = some (.int .i64 p.2.2.2) := by simp [vrsC, vrC]
            go_wp2_with fail
            refine (HO3.out).mono ?_
            rintro e w4 ⟨y, rfl, hy0, hy1, hr4, hg4⟩
            have HR4 := Lib.hid (HR3.out.grow hrl hg4 hr4)
            have hc5 : w4.cell? ⟨g, 3, none⟩ = some (.int .i64 p.2.2.2) := by rw [HR4.out.own.cellAt 3 (by have := HR4.out.own.1; have := HM.out; simp at this; omega)]; exact hc4
            have hf5 : w4.frozen? ⟨g, 3, none⟩ = false := HR4.out.own.frozenAt _
            have HE := Lib.hid (HFIN.out ((p.1, p.2.1, p.2.2.1, y) :: tl) (some ⟨g, 0, none⟩) m c _ (w4.setCell ⟨g, 3, none⟩ (.int .i64 y)) (by rw [HM.out]; rfl) hm30 (few_setV HFW.out hy0 hy1) (drawn_setAt HR4.out hrl y) (by omega))
            clear hr4 hg4 hc4
            go_wp2_with fail
            go_ret
            exact HE.out
          · have q0 : (x == 0) = false := by simpa using hx
            have HE := Lib.hid (HFIN.out _ _ m c _ w3 HM.out hm30 HFW.out HR3.out (by omega))
            clear hx
            go_wp2_with fail
            go_ret
            exact HE.out
def VrsGot (w : World) (e : Ending) (w' : World) : Prop := ∃ (l : List Vr) (A : Option Addr) (m c : Nat), e = .returned (.slice A m c) ∧ m = l.length ∧ m ≤ 30 ∧ FewV l ∧ w'.ownsRow w.heap.size 57 4 (.slice A m c) m (vrsC l) ∧ Below w.heap.size w w'
set_option maxRecDepth 100000 in
theorem drawValidVersions_any (A : Option Addr) (n c : Nat) (w : World) (h : BytesIn w A n c) :
    Calls Try.prog 42 #[.slice A n c] w (VrsGot w) := by
  have HP := Lib.hid (newReader_any A n c w h)
  go_enter Try.func42, Try.ntmps42
  go_wp2_with fail
  refine (HP.out).mono ?_
  rintro e w1 ⟨rfl, hr1, hb1⟩
  have HB := Lib.hid hb1; clear hb1
  have HK := Lib.hid (someVersions_any w.heap.size 0 w1 hr1 (by omega)); clear hr1
  go_wp2_with fail
  refine (HK.out).mono ?_
  rintro e w2 ⟨l, A2, m2, c2, rfl, hm, hm2, hf, hr⟩
  have HG := Lib.hid hr; clear hr
  have HM := Lib.hid hm; clear hm
  have HF := Lib.hid hf; clear hf
  go_wp2_with fail
  go_ret
  exact ⟨l, A2, m2, c2, rfl, HM.out, hm2, HF.out, own_le HG.out.own HB.out.size, HB.out.trans (below_of_grown HG.out.gr (Nat.le_refl _) HB.out.size)⟩
set_option maxRecDepth 100000 in
theorem drawTimesOf_any (A : Option Addr) (n c : Nat) (w : World) (h : BytesIn w A n c) :
    Calls Try.prog 43 #[.slice A n c] w (VrsGot w) := by
  have HP := Lib.hid (newReader_any A n c w h)
  go_enter Try.func43, Try.ntmps43
  go_wp2_with fail
  refine (HP.out).mono ?_
  rintro e w1 ⟨rfl, hr1, hb1⟩
  have HB := Lib.hid hb1; clear hb1
  have HK := Lib.hid (someVersions_any w.heap.size 0 w1 hr1 (by omega)); clear hr1
  go_wp2_with fail
  refine (HK.out).mono ?_
  rintro e w2 ⟨l, A2, m2, c2, rfl, hm, hm2, hf, hr⟩
  have HG := Lib.hid hr; clear hr
  have HM := Lib.hid hm; clear hm
  have HF := Lib.hid hf; clear hf
  go_wp2_with fail
  go_ret
  exact ⟨l, A2, m2, c2, rfl, HM.out, hm2, HF.out, own_le HG.out.own HB.out.size, HB.out.trans (below_of_grown HG.out.gr (Nat.le_refl _) HB.out.size)⟩
end Go.Proofs.Ytokmofkpjohlmaa
