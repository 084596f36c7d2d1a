/- The drawn pairs (the model's generator somePairs). Condition: the reader lies in its block. -/
import Derived.Test.YtdpehojcoohjcaaDrawL
import Derived.Test.YtdpehojcoohjcaaPutPr
set_option linter.unusedVariables false
set_option linter.unusedSimpArgs false
namespace Go.Proofs.Ytdpehojcoohjcaa
open Go.RowKit Go.ChangeShapes Go.WideShapes

def Few (l : List Pr) : Prop := ∀ p ∈ l, p.1.size ≤ 16 ∧ p.2.size ≤ 16
theorem Few.nil : Few [] := fun p hp => by cases hp
theorem Few.snoc {l : List Pr} (h : Few l) {a b : ByteArray} (ha : a.size ≤ 16) (hb : b.size ≤ 16) : Few (l ++ [(a, b)]) := fun p hp => by
  rcases List.mem_append.1 hp with h1 | h1
  · exact h p h1
  · rw [List.mem_singleton.1 h1]; exact ⟨ha, hb⟩
theorem Few.put {l : List Pr} (h : Few l) {a b : ByteArray} (ha : a.size ≤ 16) (hb : b.size ≤ 16) : Few (putK keyPr (a, b) l) := fun p hp => by
  rcases putK_mem hp with h1 | h1
  · rw [h1]; exact ⟨ha, hb⟩
  · exact h p h1
theorem Few.wf {l : List Pr} (h : Few l) : WfPr l := fun p hp => ⟨by have := (h p hp).1; unfold maxLen; omega, by have := (h p hp).2; unfold maxLen; omega⟩
def PrsDrawn (r M : Nat) (w : World) (e : Ending) (w' : World) : Prop := ∃ (l : List Pr) (A : Option Addr) (m c : Nat), e = .returned (.slice A m c) ∧ m = l.length ∧ m ≤ 25 ∧ Few l ∧ RowD r M 37 2 w A m c (prsC l) w'

set_option maxRecDepth 100000 in
set_option maxHeartbeats 4000000 in
theorem somePairs_any (r N : Nat) (w : World) (h : Rdr 51 w r N) (hN : N ≤ 800000) :
    Calls Try.prog 23 #[.pointer (some ⟨r, 0, none⟩)] w (PrsDrawn r (N + 200) w) := by
  obtain ⟨i0, hi0, hz0, hz1, hz2⟩ := info_parts prInfo
  have HI := Lib.hid (And.intro hi0 (And.intro hz0 (And.intro hz1 hz2))); clear hi0 hz0 hz1 hz2
  have hrl := h.lt
  have HS := Lib.hid (RowD.start h 37 2)
  clear h
  have ho1 := fun cs m c t hm hm0 hm1 hs => oneNew_any 0 20 r N m c cs t _ HS.out.rd (by omega) hm hm0 hm1 hs
  simp only [World.size_alloc] at ho1
  have HO1 := Lib.hid ho1; clear ho1
  go_enter Try.func23, Try.ntmps23
  go_wp2_with fail
  refine (HO1.out _ _ _ _ (by rfl) (by omega) (by omega) (by rfl)).mono ?_
  rintro e w1 ⟨nn, rfl, hn1, hn2, hr1, hg1⟩
  have HS1 := Lib.hid (HS.out.grow hrl hg1 hr1); clear hr1 hg1
  obtain ⟨n, rfl⟩ := Int.eq_ofNat_of_zero_le hn1
  go_wp2_with fail
  go_loopw [3, 4] (fun q i wr => ∃ (l : List Pr) (A : Option Addr) (m c k : Nat), q = .slice A m c ∧ m = l.length ∧ i = .int .i64 k ∧ m + k ≤ 20 ∧ Few l ∧ RowD r (N + 1 + 8 * (20 - k)) 37 2 w A m c (prsC l) wr) (fun _ i _ => (intOf i).toNat)
  case atStart => exact ⟨[], _, 0, _, n, rfl, rfl, rfl, by omega, Few.nil, HS1.out.more (by omega)⟩
  case round =>
    obtain ⟨l, A, m, c, k, rfl, hm, rfl, hmk, hfew, hrel⟩ := hrel
    have HM := Lib.hid hm; clear hm
    have HFW := Lib.hid hfew; clear hfew
    have HR := Lib.hid hrel; clear hrel
    cases k with
    | succ k =>
      have hpos : (0 : Int) < ((k + 1 : Nat) : Int) := by omega
      have HK := Lib.hid (goodKey_any r _ wr HR.out.rd (by omega))
      go_wp2_with fail
      refine (HK.out).mono ?_
      rintro e w3 ⟨s1, rfl, hs1, hr3, hg3⟩
      have HR3 := Lib.hid (HR.out.grow hrl hg3 hr3); clear hr3 hg3
      have HV := Lib.hid (goodValue_any r _ w3 HR3.out.rd (by omega))
      go_wp2_with fail
      refine (HV.out).mono ?_
      rintro e w4 ⟨s2, rfl, hs2, hr4, hg4⟩
      have HR4 := Lib.hid (HR3.out.grow hrl hg4 hr4); clear hr4 hg4
      have HP := Lib.hid (sPutPr_any A m c l s1 s2 w4 HR4.out.row HM.out (by omega))
      have HL := Lib.hid (putK_len (key := keyPr) (s1, s2) l)
      have HF2 := Lib.hid (HFW.out.put hs1 hs2)
      generalize putK keyPr (s1, s2) l = L at *
      go_wp2_with fail
      refine (HP.out).mono ?_
      rintro e w5 ⟨v, rfl, ⟨A5, c5, rfl, ho5⟩, hb5⟩
      have HR5 := Lib.hid (HR4.out.new hb5 ho5); clear hb5 ho5
      have hL : L.length ≤ m + 1 := by have := HL.out.2; have := HM.out; omega
      go_wp2_with fail
      go_roundw
      case rel => exact ⟨L, A5, L.length, c5, k, rfl, rfl, by go_num, by omega, HF2.out, HR5.out.more (by omega)⟩
      case measure => simp [intOf] <;> omega
    | zero =>
      have HP := Lib.hid (pick_any r _ 40 wr HR.out.rd (by omega) (by omega))
      go_wp2_with fail
      refine (HP.out).mono ?_
      rintro e w3 ⟨x, rfl, hx0, hxn, hr3, hg3⟩
      have HR3 := Lib.hid (HR.out.grow hrl hg3 hr3); clear hr3 hg3
      by_cases hx : x = 0
      · subst hx
        have HR4 := Lib.hid (fun o => HR3.out.alloc o)
        go_wp2_with (at_builtin; refine wpList_append_own _ rfl _ _ 24 rfl w.heap.size 37 i0 (.agg #[.string ⟨#[]⟩, .string ⟨#[]⟩]) 2 32 Try.underlying24 HI.out.1 HI.out.2.1 HI.out.2.2.1 HI.out.2.2.2 rfl (by decide) (.slice A m c) m (prsC l) rfl (HR4.out _).own ⟨w3.heap.size, 0, none⟩ 1 1 [.string ⟨#[97]⟩, .string ⟨#[120]⟩] rfl rfl ?c1 ?c2 ?c3 ?c4 ?c5 ?_)
        case c1 => exact fun j u hj => cells_new _ _ _ j u hj
        case c2 => intro u hu; simp at hu; rcases hu with rfl | rfl <;> rfl
        case c3 => unfold maxLen; omega
        case c4 => omega
        case c5 => have := HR3.out.gr.size; simp; omega
        intro v' w4 hown' hgrow _
        obtain ⟨A4, c4, rfl, hr4⟩ := (HR4.out _).app hrl hown' hgrow
        have HR5 := Lib.hid hr4; clear hr4 hown' hgrow
        go_wp2_with fail
        go_ret
        refine ⟨l ++ [(⟨#[97]⟩, ⟨#[120]⟩)], A4, m + 1, c4, rfl, by rw [List.length_append, ← HM.out]; rfl, by omega, HFW.out.snoc (by decide) (by decide), ?_⟩
        rw [prsC_snoc]
        exact HR5.out.more (by omega)
      · by_cases hx1 : x = 1
        · subst hx1
          have ho3 := fun cs m c t hm hm0 hm1 hs => ofNew_any r _ m c cs t w3 HR3.out.rd (by omega) hm hm0 hm1 hs
          have HO3 := Lib.hid ho3; clear ho3
          go_wp2_with fail
          refine (HO3.out _ _ _ _ (by rfl) (by omega) (by omega) (by rfl)).mono ?_
          rintro e w4 ⟨s, rfl, hs, hr4, hg4⟩
          have HR4 := Lib.hid (HR3.out.grow hrl hg4 hr4); clear hr4 hg4
          have HRA := Lib.hid (fun o => HR4.out.alloc o)
          go_wp2_with (at_builtin; refine wpList_append_own _ rfl _ _ 24 rfl w.heap.size 37 i0 (.agg #[.string ⟨#[]⟩, .string ⟨#[]⟩]) 2 32 Try.underlying24 HI.out.1 HI.out.2.1 HI.out.2.2.1 HI.out.2.2.2 rfl (by decide) (.slice A m c) m (prsC l) rfl (HRA.out _).own ⟨w4.heap.size, 0, none⟩ 1 1 [.string ⟨#[122, 122, 122]⟩, .string s] rfl rfl ?c1 ?c2 ?c3 ?c4 ?c5 ?_)
          case c1 => exact fun j u hj => cells_new _ _ _ j u hj
          case c2 => intro u hu; simp at hu; rcases hu with rfl | rfl <;> rfl
          case c3 => unfold maxLen; omega
          case c4 => omega
          case c5 => have := HR4.out.gr.size; simp; omega
          intro v' w5 hown' hgrow _
          obtain ⟨A5, c5, rfl, hr5⟩ := (HRA.out _).app hrl hown' hgrow
          have HR5 := Lib.hid hr5; clear hr5 hown' hgrow
          go_wp2_with fail
          go_ret
          refine ⟨l ++ [(⟨#[122, 122, 122]⟩, s)], A5, m + 1, c5, rfl, by rw [List.length_append, ← HM.out]; rfl, by omega, HFW.out.snoc (by decide) hs, ?_⟩
          rw [prsC_snoc]
          exact HR5.out.more (by omega)
        · have q0 : (x == 0) = false := by simpa using hx
          have q1 : (x == 1) = false := by simpa using hx1
          clear hx hx1
          go_wp2_with fail
          go_ret
          exact ⟨l, A, m, c, rfl, HM.out, by omega, HFW.out, HR3.out.more (by omega)⟩
def PrsGot (w : World) (e : Ending) (w' : World) : Prop := ∃ (l : List Pr) (A : Option Addr) (m c : Nat), e = .returned (.slice A m c) ∧ m = l.length ∧ m ≤ 25 ∧ Few l ∧ w'.ownsRow w.heap.size 37 2 (.slice A m c) m (prsC l) ∧ Below w.heap.size w w'
end Go.Proofs.Ytdpehojcoohjcaa
