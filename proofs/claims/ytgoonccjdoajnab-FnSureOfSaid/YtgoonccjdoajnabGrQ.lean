/- Contracts of copyLogs and withLog of the model (chapter 10). Conditions: the logs lie in memory; they are few. -/
import Derived.Test.YtgoonccjdoajnabGrD
set_option linter.unusedVariables false
set_option linter.unusedSimpArgs false
namespace Go.Proofs.Ytgoonccjdoajnab
open Go.RowKit Go.ChangeShapes Go.WideShapes

/-- while the logs are copied -/
structure CpG (w : World) (L : List (List En)) (k : Nat) (A : Option Addr) (c : Nat) (W : World) : Prop where
  le : k ≤ L.length
  rows : ∃ hs : List GHd, hs.length = k ∧ W.ownsRow w.heap.size 39 1 (.slice A k c) k (ghsC hs) ∧ InnGv w.heap.size W hs L
  hb : Below w.heap.size w W
theorem InnGv.grow {B B2 : Nat} {W W' : World} {hs : List GHd} {L : List (List En)} {A : Option Addr} {n c k : Nat} {xs : List Value} (h : InnGv B W hs L) (ho : W.ownsRow B2 39 1 (.slice A n c) k xs) (hg : W.grownBy W' (Value.slice A n c).ownBlock) : InnGv B W' hs L := ⟨h.1, fun i a b => ⟨(h.2 i a b).1, (h.2 i a b).2.kept hg (by
  cases hq : (Value.slice hs[i].1 hs[i].2.1 hs[i].2.2).ownBlock with
  | none => exact .inl rfl
  | some q => exact .inr (fun e => own_apartG (h.2 i a b).2 ho typesG_apart q hq e.symm))⟩⟩
theorem InnGv.snoc {B : Nat} {W : World} {hs : List GHd} {L : List (List En)} {A : Option Addr} {c B1 : Nat} (h : InnGv B W hs L) (hk : hs.length < L.length) (hlt : ∀ (i : Nat) (h1 : i < hs.length) q, blkOf hs[i].1 = some q → q < B1) (hB : B ≤ B1) (ho : W.ownsRow B1 42 2 (.slice A (L[hs.length]'hk).length c) (L[hs.length]'hk).length (ensC (L[hs.length]'hk))) : InnGv B W (hs ++ [(A, (L[hs.length]'hk).length, c)]) L := ⟨h.1.snoc hlt (fun q hq => (ho.lt q (by rw [blk_slice]; exact hq)).1), fun i a b => by
  rcases Nat.lt_or_ge i hs.length with h1 | h1
  · rw [List.getElem_append_left h1]; exact h.2 i h1 b
  · obtain rfl : i = hs.length := by simp at a; omega
    rw [List.getElem_append_right h1]
    simp only [Nat.sub_self, List.getElem_cons_zero]
    exact ⟨trivial, own_leG ho hB⟩⟩

set_option maxRecDepth 100000 in
set_option maxHeartbeats 2000000 in
theorem sCopyG_any (AL : Option Addr) (n c : Nat) (L : List (List En)) (w : World) (hL : GvAt w w.heap.size AL L) (hn : n = L.length) (hs : n ≤ 1048576) (hsm : SmallGv L) :
    Calls Try.prog 65 #[.slice AL n c] w (GvPost L w) := by
  obtain ⟨i0, hi0, hz0, hz1, hz2⟩ := info_parts enInfo
  have HI := Lib.hid (And.intro hi0 (And.intro hz0 (And.intro hz1 hz2))); clear hi0 hz0 hz1 hz2
  obtain ⟨j0, hi0, hz0, hz1, hz2⟩ := info_parts gvInfo
  have HJ := Lib.hid (And.intro hi0 (And.intro hz0 (And.intro hz1 hz2))); clear hi0 hz0 hz1 hz2
  have HL := Lib.hid hL; clear hL
  have HN := Lib.hid hn; clear hn
  have HSM := Lib.hid hsm; clear hsm
  have HC0 := Lib.hid (show CpG w L 0 (some ⟨w.heap.size, 0, none⟩) 0 (w.alloc (.cells #[] 39)) from ⟨by omega, ⟨[], rfl, own_startG w _ 1, Dis.nil, fun i a => by simp at a⟩, (Below.refl _ _).alloc (Nat.le_refl _) _⟩)
  go_enter Try.func65, Try.ntmps65
  go_wp2_with fail
  go_loopw [3, 4] (fun q i wr => ∃ (k : Nat) (A : Option Addr) (c' : Nat), q = .slice A k c' ∧ i = .int .i64 k ∧ k ≤ n ∧ CpG w L k A c' wr) (fun _ i _ => n - (intOf i).toNat)
  case atStart => exact ⟨0, _, _, rfl, rfl, by omega, HC0.out⟩
  case round =>
    obtain ⟨k, A, c', rfl, rfl, hk, hc⟩ := hrel
    clear HC0
    have HC := Lib.hid hc; clear hc
    by_cases hlt : k < n
    · have hkl : k < L.length := by have := HN.out; omega
      obtain ⟨b, off, AH, cH, hA, hbw, e0, hcz, hrow⟩ := (HL.out.below HC.out.hb).at0 hkl
      subst hA
      have hbs : b < wr.heap.size := Nat.lt_of_lt_of_le hbw HC.out.hb.size
      have hi1 : (k : Int) < (n : Int) := by omega
      obtain ⟨rl, hrl⟩ : ∃ rl, L[k].length = rl := ⟨_, rfl⟩
      have hrs : rl ≤ 1048576 := by rw [← hrl]; exact HSM.out _ (List.getElem_mem hkl)
      have HRL := Lib.hid hrl
      have hcz1 := hcz.1
      rw [hrl] at e0
      clear hrl hcz
      have HB1 := Lib.hid ((Below.refl wr.heap.size wr).alloc (Nat.le_refl _) (.cells #[] 42))
      have HO1 := Lib.hid (own_startG wr 42 2)
      have HRW := Lib.hid ((hrow.mono HC.out.hb.size).below HB1.out)
      clear hrow
      go_wp2_with (at_builtin; refine wpList_append_row rfl _ _ 39 rfl wr.heap.size 42 i0 (.agg #[.int .i64 0, .int .i64 0]) 2 16 Try.underlying39 HI.out.1 HI.out.2.1 HI.out.2.2.1 HI.out.2.2.2 rfl (by decide) _ 0 [] rfl HO1.out AH rl cH wr.heap.size (ensC L[k]) rfl hcz1 ?c0 HRW.out (ens_one L[k]) ?c3 ?c4 ?c5 ?_)
      try (case c0 => rw [ensC_len, HRL.out])
      try (case c3 => unfold maxLen; omega)
      try (case c4 => omega)
      try (case c5 => exact HB1.out.size)
      intro v5 w5 hown5 hgrow5
      have hb5 : Below wr.heap.size wr w5 := HB1.out.grown hgrow5 HB1.out.size (fun q hq => (HO1.out.lt q hq).1)
      obtain ⟨A5, c5, rfl⟩ := own_shapeG hown5
      have HO5 := Lib.hid (show w5.ownsRow wr.heap.size 42 2 (.slice A5 rl c5) rl (ensC L[k]) by simpa using hown5)
      have HB5 := Lib.hid hb5
      clear hown5 hgrow5 hb5
      obtain ⟨hs, hsl, hso, hsi⟩ := HC.out.rows
      have HLT := Lib.hid (hsi.lt (by omega))
      have HSL := Lib.hid hsl; clear hsl
      have HSO := Lib.hid (own_keepG (own_keepG hso HB5.out) ((Below.refl w5.heap.size w5).alloc (Nat.le_refl _) (.cells #[.slice A5 rl c5] 39))); clear hso
      have HSI := Lib.hid ((hsi.keep HB5.out).keep ((Below.refl w5.heap.size w5).alloc (Nat.le_refl _) (.cells #[.slice A5 rl c5] 39))); clear hsi
      have HNR := Lib.hid (row_newG w5 [.slice A5 rl c5] 39 w5.heap.size rfl)
      have HBX := Lib.hid (show Below w.heap.size w (w5.alloc (.cells #[.slice A5 rl c5] 39)) from (HC.out.hb.trans (HB5.out.mono HC.out.hb.size)).alloc (Nat.le_trans HC.out.hb.size HB5.out.size) _)
      go_wp2_with (at_builtin; refine wpList_append_row rfl _ _ 23 rfl w.heap.size 39 j0 (.slice none 0 0) 1 24 Try.underlying23 HJ.out.1 HJ.out.2.1 HJ.out.2.2.1 HJ.out.2.2.2 rfl (by decide) _ k (ghsC hs) rfl HSO.out (some ⟨w5.heap.size, 0, none⟩) 1 1 _ [.slice A5 rl c5] rfl ?dz rfl HNR.out ?d2 ?d3 ?d4 ?d5 ?_)
      try (case dz => exact fun h => (by cases h))
      try (case d2 => first | rfl | (intro u hu; simp at hu; subst hu; rfl))
      try (case d3 => unfold maxLen; omega)
      try (case d4 => omega)
      try (case d5 => exact HBX.out.size)
      intro v6 w6 hown6 hgrow6
      obtain ⟨A6, c6, rfl⟩ := own_shapeG hown6
      have hb6 : Below w.heap.size w w6 := HBX.out.grown hgrow6 HBX.out.size (fun q hq => (HSO.out.lt q hq).1)
      have hin : InnGv w.heap.size w6 hs L := HSI.out.grow HSO.out hgrow6
      have ho6 : w6.ownsRow wr.heap.size 42 2 (.slice A5 rl c5) rl (ensC L[k]) := (own_keepG HO5.out ((Below.refl w5.heap.size w5).alloc (Nat.le_refl _) (.cells #[.slice A5 rl c5] 39))).kept hgrow6 (by
        cases hq : (Value.slice A5 rl c5).ownBlock with
        | none => exact .inl rfl
        | some q => exact .inr (fun e => own_apartG (own_keepG HO5.out ((Below.refl w5.heap.size w5).alloc (Nat.le_refl _) (.cells #[.slice A5 rl c5] 39))) HSO.out typesG_apart q hq e.symm))
      have HC6 := Lib.hid (show CpG w L (k + 1) A6 c6 w6 from ⟨hkl, ⟨hs ++ [(A5, rl, c5)], by rw [List.length_append, HSL.out]; rfl, by rw [ghsC_snoc]; exact hown6, by
        have h2 := HSL.out
        have h3 := HRL.out
        subst h2 h3
        exact hin.snoc hkl HLT.out HC.out.hb.size ho6⟩, hb6⟩)
      clear hown6 hgrow6 hb6 hin ho6
      go_wp2_with fail
      go_roundw
      case rel => exact ⟨k + 1, A6, c6, rfl, by go_num, by omega, HC6.out⟩
      case measure => simp [intOf]; omega
    · obtain rfl : k = n := by omega
      obtain ⟨hs, hsl, hso, hsi⟩ := HC.out.rows
      have HP := Lib.hid (show OwnGv w.heap.size L (.slice A k c') wr by
        have h9 := HN.out
        rw [h9] at hsl hso ⊢
        exact ⟨A, c', hs, rfl, hsl, hso, hsi⟩)
      clear hsl hso hsi
      go_wp2_with fail
      go_ret
      exact ⟨_, rfl, HP.out, HC.out.hb⟩
end Go.Proofs.Ytgoonccjdoajnab
