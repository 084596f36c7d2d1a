/- Contracts of firstOrder of the program, for each closure that it is handed (chapter 8). Conditions: what is begun is the call's own; the closure tells whether an order fits. -/
import Derived.Test.YtdpehojcoohjcabLinUp
import Derived.Test.YtdpehojcoohjcabShelf
import Derived.ArgAppend
import Derived.Deep.DeepAppendRoom
set_option linter.unusedVariables false
set_option linter.unusedSimpArgs false
namespace Go.Proofs.Ytdpehojcoohjcab
open Go.RowKit Go.ChangeShapes Go.WideShapes

theorem hasN_any (A : Option Addr) (n c : Nat) (l : List Int) (x : Int) (w : World) (hr : RowAt w w.heap.size A (intC l)) (hn : n = l.length) (hs : n ≤ 1048576) :
    Calls Try.prog 73 #[.slice A n c, .int .i64 x] w fun e w' => e = .returned (.bool (l.contains x)) ∧ w' = w := by
  cases l with
  | nil =>
    subst hn
    exact Try.slices_Contains_int_empty A c x w
  | cons a t =>
    obtain ⟨b, off, rfl, hb, hc⟩ := hr (by simp [intC])
    subst hn
    have := Try.slices_Contains_int b off (a :: t).length c (a :: t) x w (Nat.le_refl _) (by omega) (fun j hj => by
      have := hc j _ (intC_at hj)
      rw [this]
      simp [List.getD_eq_getElem?_getD, List.getElem?_eq_getElem hj])
    rw [List.take_length] at this
    exact this
theorem natI_has (s : List Nat) (x : Nat) : (natI s).contains (x : Int) = decide (x ∈ s) := by
  unfold natI
  rw [Bool.eq_iff_iff]
  simp only [List.contains_iff_mem, List.mem_map, decide_eq_true_eq]
  constructor
  · rintro ⟨y, hy, e⟩
    have : y = x := by omega
    subst this; exact hy
  · intro h; exact ⟨x, h, rfl⟩
theorem own_trunc {W : World} {B g k c : Nat} {e : TypeId} {xs : List Value} {x : Value} (h : W.ownsRow B e 1 (.slice (some ⟨g, 0, none⟩) (k + 1) c) (k + 1) (xs ++ [x])) (hx : xs.length = k) : W.ownsRow B e 1 (.slice (some ⟨g, 0, none⟩) k c) k xs := by
  obtain ⟨h0, h⟩ := h
  refine ⟨by omega, .inr ?_⟩
  rcases h with ⟨h1, _⟩ | ⟨g', cap, cur, h1, h2, h3, h4, h5, h6, h7⟩
  · cases h1
  · injection h1 with h1 _ hc
    injection h1 with h1
    injection h1 with h1
    subst h1 hc
    refine ⟨g, c, cur, rfl, h2, h3, by omega, h5, h6, ?_⟩
    have h8 : (cur.toList.take ((k + 1) * 1)).take (k * 1) = xs := by rw [h7, List.take_append_of_le_length (by omega), List.take_of_length_le (by omega)]
    rw [List.take_take] at h8
    rw [show min (k * 1) ((k + 1) * 1) = k * 1 by omega] at h8
    exact h8
theorem grown_new {a b c : World} {g : Nat} {row : Option Nat} (h : a.grownBy b none) (k : b.grownBy c (some g)) (hg : a.heap.size ≤ g) : a.grownBy c row := by
  obtain ⟨h1, h2, h3, h4, h5⟩ := h
  obtain ⟨k1, k2, k3, k4, k5⟩ := k
  refine ⟨k1.trans h1, k2.trans h2, k3.trans h3, Nat.le_trans h4 k4, fun i hi _ => ?_⟩
  rw [k5 i (Nat.lt_of_lt_of_le hi h4) (fun e => by injection e with e; omega), h5 i hi (by simp)]
theorem grown_any {a b : World} {row : Option Nat} (h : a.grownBy b none) : a.grownBy b row := by
  obtain ⟨h1, h2, h3, h4, h5⟩ := h
  exact ⟨h1, h2, h3, h4, fun i hi _ => h5 i hi (by simp)⟩
theorem own_mono8 {W : World} {B B' n : Nat} {e : TypeId} {v : Value} {xs : List Value} (h : W.ownsRow B e 1 v n xs) (hb : B' ≤ B) : W.ownsRow B' e 1 v n xs := by
  obtain ⟨h0, h⟩ := h
  refine ⟨h0, ?_⟩
  rcases h with h | ⟨g, cap, cur, h1, h2, h3⟩
  · exact .inl h
  · exact .inr ⟨g, cap, cur, h1, Nat.le_trans hb h2, h3⟩
/-- what firstOrder hands back: an order in a row of the call's own, or none, and what was begun is as it was -/
def FstPost (B : Nat) (s : List Nat) (v : Value) (r : Option (List Nat)) (w : World) (e : Ending) (w' : World) : Prop :=
  w.grownBy w' v.ownBlock ∧ match r with
    | some o => ∃ v', e = .returned (.tuple #[v', .bool true]) ∧ w'.ownsRow B 3 1 v' o.length (intC (natI o))
    | none => e = .returned (.tuple #[.slice none 0 0, .bool false]) ∧ w'.ownsRow B 3 1 v s.length (intC (natI s))
theorem own_sl {w : World} {B n : Nat} {e : TypeId} {v : Value} {xs : List Value} (h : w.ownsRow B e 1 v n xs) : ∃ A c, v = .slice A n c ∧ n ≤ c ∧ c ≤ maxLen ∧ (A = none → n = 0 ∧ c = 0) ∧ ∀ a, A = some a → a = ⟨a.block, 0, none⟩ := by
  rcases h.2 with ⟨h1, h2⟩ | ⟨g, cap, cur, h1, _, _, h4, h5, _⟩
  · exact ⟨none, 0, by rw [h1, h2], by omega, by simp [maxLen], fun _ => ⟨h2, rfl⟩, fun a h => by cases h⟩
  · exact ⟨_, _, h1, h4, h5, fun h => (by cases h), fun a h => by cases h; rfl⟩

set_option maxRecDepth 100000 in
set_option maxHeartbeats 4000000 in
theorem iFst_OrderOf (n B : Nat) (fits : List Nat → Bool) (p1 p2 : Value) (w0 : World) (hn6 : n ≤ 6)
    (hfit : ∀ W A c o, Below B w0 W → RowAt W W.heap.size A (intC (natI o)) → PreO n 0 o → Calls Try.prog 84 #[.slice A n c, p1, p2] W fun e w' => e = .returned (.bool (fits o)) ∧ Below W.heap.size W w') :
    ∀ (d : Nat) (s : List Nat) (v : Value) (w : World), PreO n d s → w.ownsRow B 3 1 v s.length (intC (natI s)) → Below B w0 w → B ≤ w.heap.size →
    Calls Try.prog 45 #[.int .i64 (n : Int), v, .func (.func 84) #[] #[p1, p2]] w (FstPost B s v (firstO n fits d s) w) := by
  obtain ⟨i0, hi0, hz0, hz1, hz2⟩ := info_parts intInfo
  have HI := Lib.hid (And.intro hi0 (And.intro hz0 (And.intro hz1 hz2))); clear hi0 hz0 hz1 hz2
  have HFIT := Lib.hid hfit; clear hfit
  intro d
  induction d with
  | zero =>
    intro s v w hp hown hbw hB
    obtain ⟨A, c, rfl, hnc, hcm, _, _⟩ := own_sl hown
    have HRO := Lib.hid (RowAt.of_own hown)
    have HOWN := Lib.hid hown; clear hown
    have hsl : s.length = n := by have := hp.1; omega
    have HP := Lib.hid hp; clear hp
    have HF := Lib.hid (HFIT.out w A c s hbw HRO.out HP.out)
    have HFO := Lib.hid (show firstO n fits 0 s = if fits s then some s else none from rfl)
    obtain ⟨G, hG⟩ : ∃ G, firstO n fits 0 s = G := ⟨_, rfl⟩
    rw [hG]
    rw [hG] at HFO
    clear hG
    obtain ⟨sn, hsn⟩ : ∃ x, s.length = x := ⟨_, rfl⟩
    rw [hsn] at HOWN hsl
    subst hsl
    rw [hsn]
    have HSN := Lib.hid hsn; clear hsn
    cases hf : fits s with
    | true =>
      rw [hf] at HF HFO
      clear hf
      have HG := Lib.hid (show G = some s by rw [HFO.out]; rfl)
      have HK := Lib.hid (fun W (h : Below w.heap.size w W) => HOWN.out.kept (grown_of_below (row := none) h) (by cases A <;> simp [Value.ownBlock]))
      go_enter Try.func45, Try.ntmps45
      go_wp2_with fail
      refine (HF.out).mono ?_
      rintro e w2 ⟨rfl, hb2⟩
      have HB2 := Lib.hid hb2; clear hb2
      go_wp2_with fail
      go_ret2
      refine ⟨grown_of_below HB2.out, ?_⟩
      rw [HG.out]
      exact ⟨_, rfl, by rw [HSN.out]; exact HK.out _ HB2.out⟩
    | false =>
      rw [hf] at HF HFO
      clear hf
      have HG := Lib.hid (show G = none by rw [HFO.out]; rfl)
      have HK := Lib.hid (fun W (h : Below w.heap.size w W) => HOWN.out.kept (grown_of_below (row := none) h) (by cases A <;> simp [Value.ownBlock]))
      have HHAS := Lib.hid (fun W (h : Below w.heap.size w W) x (hx : x < sn) => (show Calls Try.prog 73 #[.slice A sn c, .int .i64 (x : Int)] W (fun e w' => e = .returned (.bool true) ∧ w' = W) by
        have h1 := hasN_any A sn c (natI s) x W (RowAt.of_own (HK.out W h)) (by rw [natI_len, HSN.out]) (by omega)
        rw [natI_has, decide_eq_true (HP.out.full hx)] at h1
        exact h1))
      go_enter Try.func45, Try.ntmps45
      go_wp2_with fail
      refine (HF.out).mono ?_
      rintro e w2 ⟨rfl, hb2⟩
      have HB2 := Lib.hid hb2; clear hb2
      go_wp2_with fail
      go_loopw [22] (fun i W => ∃ k : Nat, i = .int .i64 (k : Int) ∧ k ≤ sn ∧ W = w2) (fun i _ => sn - (intOf i).toNat)
      case atStart => exact ⟨0, rfl, by omega, rfl⟩
      case round =>
        obtain ⟨k, rfl, hk, hW⟩ := hrel
        obtain rfl := hW.symm
        by_cases hlt : k < sn
        · have HH := Lib.hid (fun W h => HHAS.out W h k hlt)
          go_wp2_with fail
          refine (HH.out _ HB2.out).mono ?_
          rintro e w3 ⟨rfl, hw3⟩
          obtain rfl := hw3.symm
          go_wp2_with fail
          go_roundw
          case rel => exact ⟨k + 1, by go_num, by omega, by first | trivial | rfl⟩
          case measure => simp [intOf]; omega
        · obtain rfl : k = sn := by omega
          go_wp2_with fail
          go_ret2
          refine ⟨grown_of_below HB2.out, ?_⟩
          rw [HG.out]
          exact ⟨rfl, by rw [HSN.out]; exact HK.out _ HB2.out⟩
  | succ d ih =>
    intro s v w hp hown hbw hB
    have IH := Lib.hid ih; clear ih
    obtain ⟨A, c, rfl, hnc, hcm, hnone, hsome⟩ := own_sl hown
    have hsl : s.length < n := by have := hp.1; omega
    have HP := Lib.hid hp; clear hp
    have HOWN := Lib.hid hown; clear hown
    have HBW := Lib.hid hbw; clear hbw
    have HFO := Lib.hid (show firstO n fits (d + 1) s = firstS (fun x => if x ∈ s then none else firstO n fits d (s ++ [x])) 0 n from rfl)
    obtain ⟨G, hG⟩ : ∃ G, firstO n fits (d + 1) s = G := ⟨_, rfl⟩
    rw [hG]
    rw [hG] at HFO
    clear hG
    obtain ⟨f, hf⟩ : ∃ f, (fun x => if x ∈ s then none else firstO n fits d (s ++ [x])) = f := ⟨_, rfl⟩
    rw [hf] at HFO
    have HFX := Lib.hid (fun x => congrFun hf x); clear hf
    obtain ⟨sn, hsn⟩ : ∃ x, s.length = x := ⟨_, rfl⟩
    rw [hsn] at HOWN hsl hnc hnone
    rw [hsn]
    have HNONE := Lib.hid hnone; clear hnone
    have HSOME := Lib.hid hsome; clear hsome
    have HSN := Lib.hid hsn; clear hsn
    have hne : ((sn : Int) == (n : Int)) = false := by simp; omega
    have HHAS := Lib.hid (fun W (h : W.ownsRow B 3 1 (.slice A sn c) sn (intC (natI s))) (hb : B ≤ W.heap.size) (x : Nat) => (show Calls Try.prog 73 #[.slice A sn c, .int .i64 (x : Int)] W (fun e w' => e = .returned (.bool (decide (x ∈ s))) ∧ w' = W) by
      have h1 := hasN_any A sn c (natI s) x W (RowAt.of_own h) (by rw [natI_len, HSN.out]) (by omega)
      rw [natI_has] at h1
      exact h1))
    go_enter Try.func45, Try.ntmps45
    go_wp2_with fail
    go_loopw [22] (fun i W => ∃ k : Nat, i = .int .i64 (k : Int) ∧ k ≤ n ∧ W.ownsRow B 3 1 (.slice A sn c) sn (intC (natI s)) ∧ w.grownBy W (blkOf A) ∧ G = firstS f k (n - k)) (fun i _ => n - (intOf i).toNat)
    case atStart => exact ⟨0, rfl, by omega, HOWN.out, World.grownBy.refl _ _, HFO.out⟩
    case round =>
      obtain ⟨k, rfl, hk, how, hgr, hg⟩ := hrel
      have HO := Lib.hid how; clear how
      have HGR := Lib.hid hgr; clear hgr
      have HG := Lib.hid hg; clear hg
      have hBW : B ≤ wr.heap.size := Nat.le_trans hB HGR.out.size
      by_cases hlt : k < n
      · have HH := Lib.hid (HHAS.out wr HO.out hBW k)
        have HST := Lib.hid (show firstS f k (n - k) = match f k with | some o => some o | none => firstS f (k + 1) (n - (k + 1)) by
          rw [show n - k = (n - (k + 1)) + 1 by omega, firstS]
          cases f k <;> rfl)
        by_cases hmem : k ∈ s
        · rw [decide_eq_true hmem] at HH
          have HN := Lib.hid (show G = firstS f (k + 1) (n - (k + 1)) by rw [HG.out, HST.out, ← HFX.out k, if_pos hmem])
          clear hmem
          go_wp2_with fail
          refine (HH.out).mono ?_
          rintro e w3 ⟨rfl, hw3⟩
          obtain rfl := hw3.symm
          go_wp2_with fail
          go_roundw
          case rel => exact ⟨k + 1, by go_num, by omega, HO.out, HGR.out, HN.out⟩
          case measure => simp [intOf]; omega
        · rw [decide_eq_false hmem] at HH
          have HFK := Lib.hid (show f k = firstO n fits d (s ++ [k]) by rw [← HFX.out k, if_neg hmem])
          have HPS := Lib.hid (HP.out.snoc hlt hmem)
          clear hmem
          have HNS := Lib.hid (show intC (natI s) ++ [.int .i64 (k : Int)] = intC (natI (s ++ [k])) by simp [natI, intC])
          have hsl1 : (s ++ [k]).length = sn + 1 := by have := HSN.out; simp; omega
          have HIH := Lib.hid (fun v W (h1 : W.ownsRow B 3 1 v (sn + 1) (intC (natI (s ++ [k])))) (h2 : Below B w0 W) (h3 : B ≤ W.heap.size) => (show Calls Try.prog 45 #[.int .i64 (n : Int), v, .func (.func 84) #[] #[p1, p2]] W (FstPost B (s ++ [k]) v (f k) W) by
            rw [HFK.out]; exact IH.out _ v W HPS.out (by rw [hsl1]; exact h1) h2 h3))
          have HBX := Lib.hid ((Below.refl wr.heap.size wr).alloc (Nat.le_refl _) (.cells #[.int .i64 (k : Int)] 3))
          have HOA := Lib.hid (HO.out.kept (grown_of_below (row := none) HBX.out) (by cases A <;> simp [Value.ownBlock]))
          have HGA := Lib.hid (HGR.out.trans' (grown_of_below (row := blkOf A) HBX.out))
          have HEND := Lib.hid (fun W2 r (he : f k = r) (hg : wr.grownBy W2 (blkOf A)) => HGR.out.trans' hg)
          have HB0 := Lib.hid (fun W2 (hg : w.grownBy W2 (blkOf A)) => (HBW.out.grown hg hB (fun q hq => (HOWN.out.lt q (by rw [blk_slice]; exact hq)).1) : Below B w0 W2))
          by_cases hcap : sn + 1 ≤ c
          · obtain ⟨g, rfl⟩ : ∃ g, A = some ⟨g, 0, none⟩ := by
              cases A with
              | none => have := HNONE.out rfl; omega
              | some a => exact ⟨a.block, by rw [← HSOME.out a rfl]⟩
            go_wp2_with fail
            refine (HH.out).mono ?_
            rintro e w3 ⟨rfl, hw3⟩
            obtain rfl := hw3.symm
            go_wp2_with (at_builtin; refine wpList_append_own_spare _ rfl _ _ 24 rfl B 3 i0 1 Try.underlying24 HI.out.1 HI.out.2.2.1 g sn c _ rfl HOA.out ⟨wr.heap.size, 0, none⟩ 1 1 [.int .i64 (k : Int)] rfl rfl ?_ ?_ hcap ?_)
            any_goals (first | (intro t u ht; match t, ht with | 0, ht => (simp at ht; subst ht; simp [Addr.add])) | (intro u hu; simp at hu; subst hu; rfl))
            intro w4 ho4 hg4
            rw [HNS.out] at ho4
            have HO4 := Lib.hid ho4; clear ho4
            have HG4 := Lib.hid (show wr.grownBy w4 (some g) from (grown_of_below (row := some g) HBX.out).trans' hg4); clear hg4
            go_wp2_with fail
            refine (HIH.out _ w4 HO4.out (HB0.out _ (HGR.out.trans' HG4.out)) (Nat.le_trans hBW HG4.out.size)).mono ?_
            rintro e w5 ⟨hg5, hm5⟩
            have HG5 := Lib.hid (HGR.out.trans' (HG4.out.trans' (show w4.grownBy w5 (some g) from hg5))); clear hg5
            cases hfk : f k with
            | some o =>
              rw [hfk] at hm5
              obtain ⟨v5, rfl, ho5⟩ := hm5
              have HO5 := Lib.hid ho5; clear ho5
              have HGS := Lib.hid (show G = some o by rw [HG.out, HST.out, hfk])
              clear hfk
              go_wp2_with fail
              go_ret2
              refine ⟨HG5.out, ?_⟩
              rw [HGS.out]
              exact ⟨_, rfl, HO5.out⟩
            | none =>
              rw [hfk] at hm5
              obtain ⟨rfl, ho5⟩ := hm5
              rw [hsl1, ← HNS.out] at ho5
              have HO5 := Lib.hid (own_trunc ho5 (by rw [intC_len, natI_len]; exact HSN.out)); clear ho5
              have HGS := Lib.hid (show G = firstS f (k + 1) (n - (k + 1)) by rw [HG.out, HST.out, hfk])
              clear hfk
              go_wp2_with fail
              go_roundw
              case rel => exact ⟨k + 1, by go_num, by omega, HO5.out, HG5.out, HGS.out⟩
              case measure => simp [intOf]; omega
          · go_wp2_with fail
            refine (HH.out).mono ?_
            rintro e w3 ⟨rfl, hw3⟩
            obtain rfl := hw3.symm
            go_wp2_with (at_builtin; refine wpList_append_grows _ rfl _ _ 24 rfl 3 i0 (.int .i64 0) 1 8 Try.underlying24 HI.out.1 HI.out.2.1 HI.out.2.2.1 HI.out.2.2.2 rfl (by decide) A sn c (intC (natI s)) rfl HNONE.out HOA.out.1 ?_ ⟨wr.heap.size, 0, none⟩ 1 1 [.int .i64 (k : Int)] rfl rfl ?_ ?_ (by omega) (by unfold maxLen; omega) (by omega) ?_)
            · intro b hb j u hj
              subst hb
              have := HSOME.out b rfl
              rw [this] at HOA
              obtain ⟨b', off', e1, _, hcell⟩ := (RowAt.of_own HOA.out) (by intro h0; rw [h0] at hj; simp at hj)
              injection e1 with e1
              injection e1 with e1 e2
              rw [this, Addr.add_lit]
              subst e2
              rw [e1]
              exact hcell j u hj
            any_goals (first | (intro t u ht; match t, ht with | 0, ht => (simp at ht; subst ht; simp [Addr.add])) | (intro u hu; simp at hu; subst hu; rfl))
            intro v4 w4 ho4 hg4
            rw [HNS.out] at ho4
            have HO4 := Lib.hid ho4; clear ho4
            have HG4 := Lib.hid (show wr.grownBy w4 none from (grown_of_below (row := none) HBX.out).trans' hg4); clear hg4
            have HOB := Lib.hid (HO.out.kept HG4.out (by cases A <;> simp [Value.ownBlock]))
            have HG4' := Lib.hid (HGR.out.trans' (show wr.grownBy w4 (blkOf A) from grown_any HG4.out))
            have hB4 : B ≤ wr.heap.size + 1 := by omega
            obtain ⟨A4, c4, hv4, _, _, hnone4, hsome4⟩ := own_sl HO4.out
            subst hv4
            obtain ⟨g4, rfl⟩ : ∃ g, A4 = some ⟨g, 0, none⟩ := by
              cases A4 with
              | none => have := hnone4 rfl; omega
              | some a => exact ⟨a.block, by rw [← hsome4 a rfl]⟩
            clear hnone4 hsome4
            have hg4s := (HO4.out.lt g4 rfl).1
            try simp at hg4s
            go_wp2_with fail
            refine (HIH.out _ w4 (own_mono8 HO4.out hB4) (HB0.out _ HG4'.out) (Nat.le_trans hBW HG4.out.size)).mono ?_
            rintro e w5 ⟨hg5, hm5⟩
            have HG5 := Lib.hid (show wr.grownBy w5 (blkOf A) from grown_new HG4.out (show w4.grownBy w5 (some g4) from hg5) (by omega))
            have HOC := Lib.hid (HOB.out.kept (show w4.grownBy w5 (some g4) from hg5) (by
              rw [blk_slice]
              cases hq : blkOf A with
              | none => exact .inl rfl
              | some q => exact .inr (fun e => by injection e with e; have := (HO.out.lt q (by rw [blk_slice]; exact hq)).2; omega)))
            clear hg5
            cases hfk : f k with
            | some o =>
              rw [hfk] at hm5
              obtain ⟨v5, rfl, ho5⟩ := hm5
              have HO5 := Lib.hid ho5; clear ho5
              have HGS := Lib.hid (show G = some o by rw [HG.out, HST.out, hfk])
              clear hfk
              go_wp2_with fail
              go_ret2
              refine ⟨by rw [blk_slice]; exact HGR.out.trans' HG5.out, ?_⟩
              rw [HGS.out]
              exact ⟨_, rfl, HO5.out⟩
            | none =>
              rw [hfk] at hm5
              obtain ⟨rfl, ho5⟩ := hm5
              clear ho5
              have HGS := Lib.hid (show G = firstS f (k + 1) (n - (k + 1)) by rw [HG.out, HST.out, hfk])
              clear hfk
              go_wp2_with fail
              go_roundw
              case rel => exact ⟨k + 1, by go_num, by omega, HOC.out, HGR.out.trans' HG5.out, HGS.out⟩
              case measure => simp [intOf]; omega
      · obtain rfl : k = n := by omega
        have HGS := Lib.hid (show G = none by rw [HG.out, Nat.sub_self]; rfl)
        go_wp2_with fail
        go_ret2
        refine ⟨by rw [blk_slice]; exact HGR.out, ?_⟩
        rw [HGS.out]
        exact ⟨rfl, by rw [HSN.out]; exact HO.out⟩

set_option maxRecDepth 100000 in
set_option maxHeartbeats 4000000 in
theorem iFst_ViewOrder (n B : Nat) (fits : List Nat → Bool) (p1 p2 : Value) (w0 : World) (hn6 : n ≤ 6)
    (hfit : ∀ W A c o, Below B w0 W → RowAt W W.heap.size A (intC (natI o)) → PreO n 0 o → Calls Try.prog 46 #[.slice A n c, p1, p2] W fun e w' => e = .returned (.bool (fits o)) ∧ Below W.heap.size W w') :
    ∀ (d : Nat) (s : List Nat) (v : Value) (w : World), PreO n d s → w.ownsRow B 3 1 v s.length (intC (natI s)) → Below B w0 w → B ≤ w.heap.size →
    Calls Try.prog 45 #[.int .i64 (n : Int), v, .func (.func 46) #[] #[p1, p2]] w (FstPost B s v (firstO n fits d s) w) := by
  obtain ⟨i0, hi0, hz0, hz1, hz2⟩ := info_parts intInfo
  have HI := Lib.hid (And.intro hi0 (And.intro hz0 (And.intro hz1 hz2))); clear hi0 hz0 hz1 hz2
  have HFIT := Lib.hid hfit; clear hfit
  intro d
  induction d with
  | zero =>
    intro s v w hp hown hbw hB
    obtain ⟨A, c, rfl, hnc, hcm, _, _⟩ := own_sl hown
    have HRO := Lib.hid (RowAt.of_own hown)
    have HOWN := Lib.hid hown; clear hown
    have hsl : s.length = n := by have := hp.1; omega
    have HP := Lib.hid hp; clear hp
    have HF := Lib.hid (HFIT.out w A c s hbw HRO.out HP.out)
    have HFO := Lib.hid (show firstO n fits 0 s = if fits s then some s else none from rfl)
    obtain ⟨G, hG⟩ : ∃ G, firstO n fits 0 s = G := ⟨_, rfl⟩
    rw [hG]
    rw [hG] at HFO
    clear hG
    obtain ⟨sn, hsn⟩ : ∃ x, s.length = x := ⟨_, rfl⟩
    rw [hsn] at HOWN hsl
    subst hsl
    rw [hsn]
    have HSN := Lib.hid hsn; clear hsn
    cases hf : fits s with
    | true =>
      rw [hf] at HF HFO
      clear hf
      have HG := Lib.hid (show G = some s by rw [HFO.out]; rfl)
      have HK := Lib.hid (fun W (h : Below w.heap.size w W) => HOWN.out.kept (grown_of_below (row := none) h) (by cases A <;> simp [Value.ownBlock]))
      go_enter Try.func45, Try.ntmps45
      go_wp2_with fail
      refine (HF.out).mono ?_
      rintro e w2 ⟨rfl, hb2⟩
      have HB2 := Lib.hid hb2; clear hb2
      go_wp2_with fail
      go_ret2
      refine ⟨grown_of_below HB2.out, ?_⟩
      rw [HG.out]
      exact ⟨_, rfl, by rw [HSN.out]; exact HK.out _ HB2.out⟩
    | false =>
      rw [hf] at HF HFO
      clear hf
      have HG := Lib.hid (show G = none by rw [HFO.out]; rfl)
      have HK := Lib.hid (fun W (h : Below w.heap.size w W) => HOWN.out.kept (grown_of_below (row := none) h) (by cases A <;> simp [Value.ownBlock]))
      have HHAS := Lib.hid (fun W (h : Below w.heap.size w W) x (hx : x < sn) => (show Calls Try.prog 73 #[.slice A sn c, .int .i64 (x : Int)] W (fun e w' => e = .returned (.bool true) ∧ w' = W) by
        have h1 := hasN_any A sn c (natI s) x W (RowAt.of_own (HK.out W h)) (by rw [natI_len, HSN.out]) (by omega)
        rw [natI_has, decide_eq_true (HP.out.full hx)] at h1
        exact h1))
      go_enter Try.func45, Try.ntmps45
      go_wp2_with fail
      refine (HF.out).mono ?_
      rintro e w2 ⟨rfl, hb2⟩
      have HB2 := Lib.hid hb2; clear hb2
      go_wp2_with fail
      go_loopw [22] (fun i W => ∃ k : Nat, i = .int .i64 (k : Int) ∧ k ≤ sn ∧ W = w2) (fun i _ => sn - (intOf i).toNat)
      case atStart => exact ⟨0, rfl, by omega, rfl⟩
      case round =>
        obtain ⟨k, rfl, hk, hW⟩ := hrel
        obtain rfl := hW.symm
        by_cases hlt : k < sn
        · have HH := Lib.hid (fun W h => HHAS.out W h k hlt)
          go_wp2_with fail
          refine (HH.out _ HB2.out).mono ?_
          rintro e w3 ⟨rfl, hw3⟩
          obtain rfl := hw3.symm
          go_wp2_with fail
          go_roundw
          case rel => exact ⟨k + 1, by go_num, by omega, by first | trivial | rfl⟩
          case measure => simp [intOf]; omega
        · obtain rfl : k = sn := by omega
          go_wp2_with fail
          go_ret2
          refine ⟨grown_of_below HB2.out, ?_⟩
          rw [HG.out]
          exact ⟨rfl, by rw [HSN.out]; exact HK.out _ HB2.out⟩
  | succ d ih =>
    intro s v w hp hown hbw hB
    have IH := Lib.hid ih; clear ih
    obtain ⟨A, c, rfl, hnc, hcm, hnone, hsome⟩ := own_sl hown
    have hsl : s.length < n := by have := hp.1; omega
    have HP := Lib.hid hp; clear hp
    have HOWN := Lib.hid hown; clear hown
    have HBW := Lib.hid hbw; clear hbw
    have HFO := Lib.hid (show firstO n fits (d + 1) s = firstS (fun x => if x ∈ s then none else firstO n fits d (s ++ [x])) 0 n from rfl)
    obtain ⟨G, hG⟩ : ∃ G, firstO n fits (d + 1) s = G := ⟨_, rfl⟩
    rw [hG]
    rw [hG] at HFO
    clear hG
    obtain ⟨f, hf⟩ : ∃ f, (fun x => if x ∈ s then none else firstO n fits d (s ++ [x])) = f := ⟨_, rfl⟩
    rw [hf] at HFO
    have HFX := Lib.hid (fun x => congrFun hf x); clear hf
    obtain ⟨sn, hsn⟩ : ∃ x, s.length = x := ⟨_, rfl⟩
    rw [hsn] at HOWN hsl hnc hnone
    rw [hsn]
    have HNONE := Lib.hid hnone; clear hnone
    have HSOME := Lib.hid hsome; clear hsome
    have HSN := Lib.hid hsn; clear hsn
    have hne : ((sn : Int) == (n : Int)) = false := by simp; omega
    have HHAS := Lib.hid (fun W (h : W.ownsRow B 3 1 (.slice A sn c) sn (intC (natI s))) (hb : B ≤ W.heap.size) (x : Nat) => (show Calls Try.prog 73 #[.slice A sn c, .int .i64 (x : Int)] W (fun e w' => e = .returned (.bool (decide (x ∈ s))) ∧ w' = W) by
      have h1 := hasN_any A sn c (natI s) x W (RowAt.of_own h) (by rw [natI_len, HSN.out]) (by omega)
      rw [natI_has] at h1
      exact h1))
    go_enter Try.func45, Try.ntmps45
    go_wp2_with fail
    go_loopw [22] (fun i W => ∃ k : Nat, i = .int .i64 (k : Int) ∧ k ≤ n ∧ W.ownsRow B 3 1 (.slice A sn c) sn (intC (natI s)) ∧ w.grownBy W (blkOf A) ∧ G = firstS f k (n - k)) (fun i _ => n - (intOf i).toNat)
    case atStart => exact ⟨0, rfl, by omega, HOWN.out, World.grownBy.refl _ _, HFO.out⟩
    case round =>
      obtain ⟨k, rfl, hk, how, hgr, hg⟩ := hrel
      have HO := Lib.hid how; clear how
      have HGR := Lib.hid hgr; clear hgr
      have HG := Lib.hid hg; clear hg
      have hBW : B ≤ wr.heap.size := Nat.le_trans hB HGR.out.size
      by_cases hlt : k < n
      · have HH := Lib.hid (HHAS.out wr HO.out hBW k)
        have HST := Lib.hid (show firstS f k (n - k) = match f k with | some o => some o | none => firstS f (k + 1) (n - (k + 1)) by
          rw [show n - k = (n - (k + 1)) + 1 by omega, firstS]
          cases f k <;> rfl)
        by_cases hmem : k ∈ s
        · rw [decide_eq_true hmem] at HH
          have HN := Lib.hid (show G = firstS f (k + 1) (n - (k + 1)) by rw [HG.out, HST.out, ← HFX.out k, if_pos hmem])
          clear hmem
          go_wp2_with fail
          refine (HH.out).mono ?_
          rintro e w3 ⟨rfl, hw3⟩
          obtain rfl := hw3.symm
          go_wp2_with fail
          go_roundw
          case rel => exact ⟨k + 1, by go_num, by omega, HO.out, HGR.out, HN.out⟩
          case measure => simp [intOf]; omega
        · rw [decide_eq_false hmem] at HH
          have HFK := Lib.hid (show f k = firstO n fits d (s ++ [k]) by rw [← HFX.out k, if_neg hmem])
          have HPS := Lib.hid (HP.out.snoc hlt hmem)
          clear hmem
          have HNS := Lib.hid (show intC (natI s) ++ [.int .i64 (k : Int)] = intC (natI (s ++ [k])) by simp [natI, intC])
          have hsl1 : (s ++ [k]).length = sn + 1 := by have := HSN.out; simp; omega
          have HIH := Lib.hid (fun v W (h1 : W.ownsRow B 3 1 v (sn + 1) (intC (natI (s ++ [k])))) (h2 : Below B w0 W) (h3 : B ≤ W.heap.size) => (show Calls Try.prog 45 #[.int .i64 (n : Int), v, .func (.func 46) #[] #[p1, p2]] W (FstPost B (s ++ [k]) v (f k) W) by
            rw [HFK.out]; exact IH.out _ v W HPS.out (by rw [hsl1]; exact h1) h2 h3))
          have HBX := Lib.hid ((Below.refl wr.heap.size wr).alloc (Nat.le_refl _) (.cells #[.int .i64 (k : Int)] 3))
          have HOA := Lib.hid (HO.out.kept (grown_of_below (row := none) HBX.out) (by cases A <;> simp [Value.ownBlock]))
          have HGA := Lib.hid (HGR.out.trans' (grown_of_below (row := blkOf A) HBX.out))
          have HEND := Lib.hid (fun W2 r (he : f k = r) (hg : wr.grownBy W2 (blkOf A)) => HGR.out.trans' hg)
          have HB0 := Lib.hid (fun W2 (hg : w.grownBy W2 (blkOf A)) => (HBW.out.grown hg hB (fun q hq => (HOWN.out.lt q (by rw [blk_slice]; exact hq)).1) : Below B w0 W2))
          by_cases hcap : sn + 1 ≤ c
          · obtain ⟨g, rfl⟩ : ∃ g, A = some ⟨g, 0, none⟩ := by
              cases A with
              | none => have := HNONE.out rfl; omega
              | some a => exact ⟨a.block, by rw [← HSOME.out a rfl]⟩
            go_wp2_with fail
            refine (HH.out).mono ?_
            rintro e w3 ⟨rfl, hw3⟩
            obtain rfl := hw3.symm
            go_wp2_with (at_builtin; refine wpList_append_own_spare _ rfl _ _ 24 rfl B 3 i0 1 Try.underlying24 HI.out.1 HI.out.2.2.1 g sn c _ rfl HOA.out ⟨wr.heap.size, 0, none⟩ 1 1 [.int .i64 (k : Int)] rfl rfl ?_ ?_ hcap ?_)
            any_goals (first | (intro t u ht; match t, ht with | 0, ht => (simp at ht; subst ht; simp [Addr.add])) | (intro u hu; simp at hu; subst hu; rfl))
            intro w4 ho4 hg4
            rw [HNS.out] at ho4
            have HO4 := Lib.hid ho4; clear ho4
            have HG4 := Lib.hid (show wr.grownBy w4 (some g) from (grown_of_below (row := some g) HBX.out).trans' hg4); clear hg4
            go_wp2_with fail
            refine (HIH.out _ w4 HO4.out (HB0.out _ (HGR.out.trans' HG4.out)) (Nat.le_trans hBW HG4.out.size)).mono ?_
            rintro e w5 ⟨hg5, hm5⟩
            have HG5 := Lib.hid (HGR.out.trans' (HG4.out.trans' (show w4.grownBy w5 (some g) from hg5))); clear hg5
            cases hfk : f k with
            | some o =>
              rw [hfk] at hm5
              obtain ⟨v5, rfl, ho5⟩ := hm5
              have HO5 := Lib.hid ho5; clear ho5
              have HGS := Lib.hid (show G = some o by rw [HG.out, HST.out, hfk])
              clear hfk
              go_wp2_with fail
              go_ret2
              refine ⟨HG5.out, ?_⟩
              rw [HGS.out]
              exact ⟨_, rfl, HO5.out⟩
            | none =>
              rw [hfk] at hm5
              obtain ⟨rfl, ho5⟩ := hm5
              rw [hsl1, ← HNS.out] at ho5
              have HO5 := Lib.hid (own_trunc ho5 (by rw [intC_len, natI_len]; exact HSN.out)); clear ho5
              have HGS := Lib.hid (show G = firstS f (k + 1) (n - (k + 1)) by rw [HG.out, HST.out, hfk])
              clear hfk
              go_wp2_with fail
              go_roundw
              case rel => exact ⟨k + 1, by go_num, by omega, HO5.out, HG5.out, HGS.out⟩
              case measure => simp [intOf]; omega
          · go_wp2_with fail
            refine (HH.out).mono ?_
            rintro e w3 ⟨rfl, hw3⟩
            obtain rfl := hw3.symm
            go_wp2_with (at_builtin; refine wpList_append_grows _ rfl _ _ 24 rfl 3 i0 (.int .i64 0) 1 8 Try.underlying24 HI.out.1 HI.out.2.1 HI.out.2.2.1 HI.out.2.2.2 rfl (by decide) A sn c (intC (natI s)) rfl HNONE.out HOA.out.1 ?_ ⟨wr.heap.size, 0, none⟩ 1 1 [.int .i64 (k : Int)] rfl rfl ?_ ?_ (by omega) (by unfold maxLen; omega) (by omega) ?_)
            · intro b hb j u hj
              subst hb
              have := HSOME.out b rfl
              rw [this] at HOA
              obtain ⟨b', off', e1, _, hcell⟩ := (RowAt.of_own HOA.out) (by intro h0; rw [h0] at hj; simp at hj)
              injection e1 with e1
              injection e1 with e1 e2
              rw [this, Addr.add_lit]
              subst e2
              rw [e1]
              exact hcell j u hj
            any_goals (first | (intro t u ht; match t, ht with | 0, ht => (simp at ht; subst ht; simp [Addr.add])) | (intro u hu; simp at hu; subst hu; rfl))
            intro v4 w4 ho4 hg4
            rw [HNS.out] at ho4
            have HO4 := Lib.hid ho4; clear ho4
            have HG4 := Lib.hid (show wr.grownBy w4 none from (grown_of_below (row := none) HBX.out).trans' hg4); clear hg4
            have HOB := Lib.hid (HO.out.kept HG4.out (by cases A <;> simp [Value.ownBlock]))
            have HG4' := Lib.hid (HGR.out.trans' (show wr.grownBy w4 (blkOf A) from grown_any HG4.out))
            have hB4 : B ≤ wr.heap.size + 1 := by omega
            obtain ⟨A4, c4, hv4, _, _, hnone4, hsome4⟩ := own_sl HO4.out
            subst hv4
            obtain ⟨g4, rfl⟩ : ∃ g, A4 = some ⟨g, 0, none⟩ := by
              cases A4 with
              | none => have := hnone4 rfl; omega
              | some a => exact ⟨a.block, by rw [← hsome4 a rfl]⟩
            clear hnone4 hsome4
            have hg4s := (HO4.out.lt g4 rfl).1
            try simp at hg4s
            go_wp2_with fail
            refine (HIH.out _ w4 (own_mono8 HO4.out hB4) (HB0.out _ HG4'.out) (Nat.le_trans hBW HG4.out.size)).mono ?_
            rintro e w5 ⟨hg5, hm5⟩
            have HG5 := Lib.hid (show wr.grownBy w5 (blkOf A) from grown_new HG4.out (show w4.grownBy w5 (some g4) from hg5) (by omega))
            have HOC := Lib.hid (HOB.out.kept (show w4.grownBy w5 (some g4) from hg5) (by
              rw [blk_slice]
              cases hq : blkOf A with
              | none => exact .inl rfl
              | some q => exact .inr (fun e => by injection e with e; have := (HO.out.lt q (by rw [blk_slice]; exact hq)).2; omega)))
            clear hg5
            cases hfk : f k with
            | some o =>
              rw [hfk] at hm5
              obtain ⟨v5, rfl, ho5⟩ := hm5
              have HO5 := Lib.hid ho5; clear ho5
              have HGS := Lib.hid (show G = some o by rw [HG.out, HST.out, hfk])
              clear hfk
              go_wp2_with fail
              go_ret2
              refine ⟨by rw [blk_slice]; exact HGR.out.trans' HG5.out, ?_⟩
              rw [HGS.out]
              exact ⟨_, rfl, HO5.out⟩
            | none =>
              rw [hfk] at hm5
              obtain ⟨rfl, ho5⟩ := hm5
              clear ho5
              have HGS := Lib.hid (show G = firstS f (k + 1) (n - (k + 1)) by rw [HG.out, HST.out, hfk])
              clear hfk
              go_wp2_with fail
              go_roundw
              case rel => exact ⟨k + 1, by go_num, by omega, HOC.out, HGR.out.trans' HG5.out, HGS.out⟩
              case measure => simp [intOf]; omega
      · obtain rfl : k = n := by omega
        have HGS := Lib.hid (show G = none by rw [HG.out, Nat.sub_self]; rfl)
        go_wp2_with fail
        go_ret2
        refine ⟨by rw [blk_slice]; exact HGR.out, ?_⟩
        rw [HGS.out]
        exact ⟨rfl, by rw [HSN.out]; exact HO.out⟩

set_option maxRecDepth 100000 in
set_option maxHeartbeats 4000000 in
theorem iFst_JobOrder (n B : Nat) (fits : List Nat → Bool) (p1 p2 : Value) (w0 : World) (hn6 : n ≤ 6)
    (hfit : ∀ W A c o, n ≤ c → Below B w0 W → RowAt W W.heap.size A (intC (natI o)) → PreO n 0 o → Calls Try.prog 55 #[.slice A n c, p1, p2] W fun e w' => e = .returned (.bool (fits o)) ∧ Below W.heap.size W w') :
    ∀ (d : Nat) (s : List Nat) (v : Value) (w : World), PreO n d s → w.ownsRow B 3 1 v s.length (intC (natI s)) → Below B w0 w → B ≤ w.heap.size →
    Calls Try.prog 45 #[.int .i64 (n : Int), v, .func (.func 55) #[] #[p1, p2]] w (FstPost B s v (firstO n fits d s) w) := by
  obtain ⟨i0, hi0, hz0, hz1, hz2⟩ := info_parts intInfo
  have HI := Lib.hid (And.intro hi0 (And.intro hz0 (And.intro hz1 hz2))); clear hi0 hz0 hz1 hz2
  have HFIT := Lib.hid hfit; clear hfit
  intro d
  induction d with
  | zero =>
    intro s v w hp hown hbw hB
    obtain ⟨A, c, rfl, hnc, hcm, _, _⟩ := own_sl hown
    have HRO := Lib.hid (RowAt.of_own hown)
    have HOWN := Lib.hid hown; clear hown
    have hsl : s.length = n := by have := hp.1; omega
    have HP := Lib.hid hp; clear hp
    have HF := Lib.hid (HFIT.out w A c s (by omega) hbw HRO.out HP.out)
    have HFO := Lib.hid (show firstO n fits 0 s = if fits s then some s else none from rfl)
    obtain ⟨G, hG⟩ : ∃ G, firstO n fits 0 s = G := ⟨_, rfl⟩
    rw [hG]
    rw [hG] at HFO
    clear hG
    obtain ⟨sn, hsn⟩ : ∃ x, s.length = x := ⟨_, rfl⟩
    rw [hsn] at HOWN hsl
    subst hsl
    rw [hsn]
    have HSN := Lib.hid hsn; clear hsn
    cases hf : fits s with
    | true =>
      rw [hf] at HF HFO
      clear hf
      have HG := Lib.hid (show G = some s by rw [HFO.out]; rfl)
      have HK := Lib.hid (fun W (h : Below w.heap.size w W) => HOWN.out.kept (grown_of_below (row := none) h) (by cases A <;> simp [Value.ownBlock]))
      go_enter Try.func45, Try.ntmps45
      go_wp2_with fail
      refine (HF.out).mono ?_
      rintro e w2 ⟨rfl, hb2⟩
      have HB2 := Lib.hid hb2; clear hb2
      go_wp2_with fail
      go_ret2
      refine ⟨grown_of_below HB2.out, ?_⟩
      rw [HG.out]
      exact ⟨_, rfl, by rw [HSN.out]; exact HK.out _ HB2.out⟩
    | false =>
      rw [hf] at HF HFO
      clear hf
      have HG := Lib.hid (show G = none by rw [HFO.out]; rfl)
      have HK := Lib.hid (fun W (h : Below w.heap.size w W) => HOWN.out.kept (grown_of_below (row := none) h) (by cases A <;> simp [Value.ownBlock]))
      have HHAS := Lib.hid (fun W (h : Below w.heap.size w W) x (hx : x < sn) => (show Calls Try.prog 73 #[.slice A sn c, .int .i64 (x : Int)] W (fun e w' => e = .returned (.bool true) ∧ w' = W) by
        have h1 := hasN_any A sn c (natI s) x W (RowAt.of_own (HK.out W h)) (by rw [natI_len, HSN.out]) (by omega)
        rw [natI_has, decide_eq_true (HP.out.full hx)] at h1
        exact h1))
      go_enter Try.func45, Try.ntmps45
      go_wp2_with fail
      refine (HF.out).mono ?_
      rintro e w2 ⟨rfl, hb2⟩
      have HB2 := Lib.hid hb2; clear hb2
      go_wp2_with fail
      go_loopw [22] (fun i W => ∃ k : Nat, i = .int .i64 (k : Int) ∧ k ≤ sn ∧ W = w2) (fun i _ => sn - (intOf i).toNat)
      case atStart => exact ⟨0, rfl, by omega, rfl⟩
      case round =>
        obtain ⟨k, rfl, hk, hW⟩ := hrel
        obtain rfl := hW.symm
        by_cases hlt : k < sn
        · have HH := Lib.hid (fun W h => HHAS.out W h k hlt)
          go_wp2_with fail
          refine (HH.out _ HB2.out).mono ?_
          rintro e w3 ⟨rfl, hw3⟩
          obtain rfl := hw3.symm
          go_wp2_with fail
          go_roundw
          case rel => exact ⟨k + 1, by go_num, by omega, by first | trivial | rfl⟩
          case measure => simp [intOf]; omega
        · obtain rfl : k = sn := by omega
          go_wp2_with fail
          go_ret2
          refine ⟨grown_of_below HB2.out, ?_⟩
          rw [HG.out]
          exact ⟨rfl, by rw [HSN.out]; exact HK.out _ HB2.out⟩
  | succ d ih =>
    intro s v w hp hown hbw hB
    have IH := Lib.hid ih; clear ih
    obtain ⟨A, c, rfl, hnc, hcm, hnone, hsome⟩ := own_sl hown
    have hsl : s.length < n := by have := hp.1; omega
    have HP := Lib.hid hp; clear hp
    have HOWN := Lib.hid hown; clear hown
    have HBW := Lib.hid hbw; clear hbw
    have HFO := Lib.hid (show firstO n fits (d + 1) s = firstS (fun x => if x ∈ s then none else firstO n fits d (s ++ [x])) 0 n from rfl)
    obtain ⟨G, hG⟩ : ∃ G, firstO n fits (d + 1) s = G := ⟨_, rfl⟩
    rw [hG]
    rw [hG] at HFO
    clear hG
    obtain ⟨f, hf⟩ : ∃ f, (fun x => if x ∈ s then none else firstO n fits d (s ++ [x])) = f := ⟨_, rfl⟩
    rw [hf] at HFO
    have HFX := Lib.hid (fun x => congrFun hf x); clear hf
    obtain ⟨sn, hsn⟩ : ∃ x, s.length = x := ⟨_, rfl⟩
    rw [hsn] at HOWN hsl hnc hnone
    rw [hsn]
    have HNONE := Lib.hid hnone; clear hnone
    have HSOME := Lib.hid hsome; clear hsome
    have HSN := Lib.hid hsn; clear hsn
    have hne : ((sn : Int) == (n : Int)) = false := by simp; omega
    have HHAS := Lib.hid (fun W (h : W.ownsRow B 3 1 (.slice A sn c) sn (intC (natI s))) (hb : B ≤ W.heap.size) (x : Nat) => (show Calls Try.prog 73 #[.slice A sn c, .int .i64 (x : Int)] W (fun e w' => e = .returned (.bool (decide (x ∈ s))) ∧ w' = W) by
      have h1 := hasN_any A sn c (natI s) x W (RowAt.of_own h) (by rw [natI_len, HSN.out]) (by omega)
      rw [natI_has] at h1
      exact h1))
    go_enter Try.func45, Try.ntmps45
    go_wp2_with fail
    go_loopw [22] (fun i W => ∃ k : Nat, i = .int .i64 (k : Int) ∧ k ≤ n ∧ W.ownsRow B 3 1 (.slice A sn c) sn (intC (natI s)) ∧ w.grownBy W (blkOf A) ∧ G = firstS f k (n - k)) (fun i _ => n - (intOf i).toNat)
    case atStart => exact ⟨0, rfl, by omega, HOWN.out, World.grownBy.refl _ _, HFO.out⟩
    case round =>
      obtain ⟨k, rfl, hk, how, hgr, hg⟩ := hrel
      have HO := Lib.hid how; clear how
      have HGR := Lib.hid hgr; clear hgr
      have HG := Lib.hid hg; clear hg
      have hBW : B ≤ wr.heap.size := Nat.le_trans hB HGR.out.size
      by_cases hlt : k < n
      · have HH := Lib.hid (HHAS.out wr HO.out hBW k)
        have HST := Lib.hid (show firstS f k (n - k) = match f k with | some o => some o | none => firstS f (k + 1) (n - (k + 1)) by
          rw [show n - k = (n - (k + 1)) + 1 by omega, firstS]
          cases f k <;> rfl)
        by_cases hmem : k ∈ s
        · rw [decide_eq_true hmem] at HH
          have HN := Lib.hid (show G = firstS f (k + 1) (n - (k + 1)) by rw [HG.out, HST.out, ← HFX.out k, if_pos hmem])
          clear hmem
          go_wp2_with fail
          refine (HH.out).mono ?_
          rintro e w3 ⟨rfl, hw3⟩
          obtain rfl := hw3.symm
          go_wp2_with fail
          go_roundw
          case rel => exact ⟨k + 1, by go_num, by omega, HO.out, HGR.out, HN.out⟩
          case measure => simp [intOf]; omega
        · rw [decide_eq_false hmem] at HH
          have HFK := Lib.hid (show f k = firstO n fits d (s ++ [k]) by rw [← HFX.out k, if_neg hmem])
          have HPS := Lib.hid (HP.out.snoc hlt hmem)
          clear hmem
          have HNS := Lib.hid (show intC (natI s) ++ [.int .i64 (k : Int)] = intC (natI (s ++ [k])) by simp [natI, intC])
          have hsl1 : (s ++ [k]).length = sn + 1 := by have := HSN.out; simp; omega
          have HIH := Lib.hid (fun v W (h1 : W.ownsRow B 3 1 v (sn + 1) (intC (natI (s ++ [k])))) (h2 : Below B w0 W) (h3 : B ≤ W.heap.size) => (show Calls Try.prog 45 #[.int .i64 (n : Int), v, .func (.func 55) #[] #[p1, p2]] W (FstPost B (s ++ [k]) v (f k) W) by
            rw [HFK.out]; exact IH.out _ v W HPS.out (by rw [hsl1]; exact h1) h2 h3))
          have HBX := Lib.hid ((Below.refl wr.heap.size wr).alloc (Nat.le_refl _) (.cells #[.int .i64 (k : Int)] 3))
          have HOA := Lib.hid (HO.out.kept (grown_of_below (row := none) HBX.out) (by cases A <;> simp [Value.ownBlock]))
          have HGA := Lib.hid (HGR.out.trans' (grown_of_below (row := blkOf A) HBX.out))
          have HEND := Lib.hid (fun W2 r (he : f k = r) (hg : wr.grownBy W2 (blkOf A)) => HGR.out.trans' hg)
          have HB0 := Lib.hid (fun W2 (hg : w.grownBy W2 (blkOf A)) => (HBW.out.grown hg hB (fun q hq => (HOWN.out.lt q (by rw [blk_slice]; exact hq)).1) : Below B w0 W2))
          by_cases hcap : sn + 1 ≤ c
          · obtain ⟨g, rfl⟩ : ∃ g, A = some ⟨g, 0, none⟩ := by
              cases A with
              | none => have := HNONE.out rfl; omega
              | some a => exact ⟨a.block, by rw [← HSOME.out a rfl]⟩
            go_wp2_with fail
            refine (HH.out).mono ?_
            rintro e w3 ⟨rfl, hw3⟩
            obtain rfl := hw3.symm
            go_wp2_with (at_builtin; refine wpList_append_own_spare _ rfl _ _ 24 rfl B 3 i0 1 Try.underlying24 HI.out.1 HI.out.2.2.1 g sn c _ rfl HOA.out ⟨wr.heap.size, 0, none⟩ 1 1 [.int .i64 (k : Int)] rfl rfl ?_ ?_ hcap ?_)
            any_goals (first | (intro t u ht; match t, ht with | 0, ht => (simp at ht; subst ht; simp [Addr.add])) | (intro u hu; simp at hu; subst hu; rfl))
            intro w4 ho4 hg4
            rw [HNS.out] at ho4
            have HO4 := Lib.hid ho4; clear ho4
            have HG4 := Lib.hid (show wr.grownBy w4 (some g) from (grown_of_below (row := some g) HBX.out).trans' hg4); clear hg4
            go_wp2_with fail
            refine (HIH.out _ w4 HO4.out (HB0.out _ (HGR.out.trans' HG4.out)) (Nat.le_trans hBW HG4.out.size)).mono ?_
            rintro e w5 ⟨hg5, hm5⟩
            have HG5 := Lib.hid (HGR.out.trans' (HG4.out.trans' (show w4.grownBy w5 (some g) from hg5))); clear hg5
            cases hfk : f k with
            | some o =>
              rw [hfk] at hm5
              obtain ⟨v5, rfl, ho5⟩ := hm5
              have HO5 := Lib.hid ho5; clear ho5
              have HGS := Lib.hid (show G = some o by rw [HG.out, HST.out, hfk])
              clear hfk
              go_wp2_with fail
              go_ret2
              refine ⟨HG5.out, ?_⟩
              rw [HGS.out]
              exact ⟨_, rfl, HO5.out⟩
            | none =>
              rw [hfk] at hm5
              obtain ⟨rfl, ho5⟩ := hm5
              rw [hsl1, ← HNS.out] at ho5
              have HO5 := Lib.hid (own_trunc ho5 (by rw [intC_len, natI_len]; exact HSN.out)); clear ho5
              have HGS := Lib.hid (show G = firstS f (k + 1) (n - (k + 1)) by rw [HG.out, HST.out, hfk])
              clear hfk
              go_wp2_with fail
              go_roundw
              case rel => exact ⟨k + 1, by go_num, by omega, HO5.out, HG5.out, HGS.out⟩
              case measure => simp [intOf]; omega
          · go_wp2_with fail
            refine (HH.out).mono ?_
            rintro e w3 ⟨rfl, hw3⟩
            obtain rfl := hw3.symm
            go_wp2_with (at_builtin; refine wpList_append_grows _ rfl _ _ 24 rfl 3 i0 (.int .i64 0) 1 8 Try.underlying24 HI.out.1 HI.out.2.1 HI.out.2.2.1 HI.out.2.2.2 rfl (by decide) A sn c (intC (natI s)) rfl HNONE.out HOA.out.1 ?_ ⟨wr.heap.size, 0, none⟩ 1 1 [.int .i64 (k : Int)] rfl rfl ?_ ?_ (by omega) (by unfold maxLen; omega) (by omega) ?_)
            · intro b hb j u hj
              subst hb
              have := HSOME.out b rfl
              rw [this] at HOA
              obtain ⟨b', off', e1, _, hcell⟩ := (RowAt.of_own HOA.out) (by intro h0; rw [h0] at hj; simp at hj)
              injection e1 with e1
              injection e1 with e1 e2
              rw [this, Addr.add_lit]
              subst e2
              rw [e1]
              exact hcell j u hj
            any_goals (first | (intro t u ht; match t, ht with | 0, ht => (simp at ht; subst ht; simp [Addr.add])) | (intro u hu; simp at hu; subst hu; rfl))
            intro v4 w4 ho4 hg4
            rw [HNS.out] at ho4
            have HO4 := Lib.hid ho4; clear ho4
            have HG4 := Lib.hid (show wr.grownBy w4 none from (grown_of_below (row := none) HBX.out).trans' hg4); clear hg4
            have HOB := Lib.hid (HO.out.kept HG4.out (by cases A <;> simp [Value.ownBlock]))
            have HG4' := Lib.hid (HGR.out.trans' (show wr.grownBy w4 (blkOf A) from grown_any HG4.out))
            have hB4 : B ≤ wr.heap.size + 1 := by omega
            obtain ⟨A4, c4, hv4, _, _, hnone4, hsome4⟩ := own_sl HO4.out
            subst hv4
            obtain ⟨g4, rfl⟩ : ∃ g, A4 = some ⟨g, 0, none⟩ := by
              cases A4 with
              | none => have := hnone4 rfl; omega
              | some a => exact ⟨a.block, by rw [← hsome4 a rfl]⟩
            clear hnone4 hsome4
            have hg4s := (HO4.out.lt g4 rfl).1
            try simp at hg4s
            go_wp2_with fail
            refine (HIH.out _ w4 (own_mono8 HO4.out hB4) (HB0.out _ HG4'.out) (Nat.le_trans hBW HG4.out.size)).mono ?_
            rintro e w5 ⟨hg5, hm5⟩
            have HG5 := Lib.hid (show wr.grownBy w5 (blkOf A) from grown_new HG4.out (show w4.grownBy w5 (some g4) from hg5) (by omega))
            have HOC := Lib.hid (HOB.out.kept (show w4.grownBy w5 (some g4) from hg5) (by
              rw [blk_slice]
              cases hq : blkOf A with
              | none => exact .inl rfl
              | some q => exact .inr (fun e => by injection e with e; have := (HO.out.lt q (by rw [blk_slice]; exact hq)).2; omega)))
            clear hg5
            cases hfk : f k with
            | some o =>
              rw [hfk] at hm5
              obtain ⟨v5, rfl, ho5⟩ := hm5
              have HO5 := Lib.hid ho5; clear ho5
              have HGS := Lib.hid (show G = some o by rw [HG.out, HST.out, hfk])
              clear hfk
              go_wp2_with fail
              go_ret2
              refine ⟨by rw [blk_slice]; exact HGR.out.trans' HG5.out, ?_⟩
              rw [HGS.out]
              exact ⟨_, rfl, HO5.out⟩
            | none =>
              rw [hfk] at hm5
              obtain ⟨rfl, ho5⟩ := hm5
              clear ho5
              have HGS := Lib.hid (show G = firstS f (k + 1) (n - (k + 1)) by rw [HG.out, HST.out, hfk])
              clear hfk
              go_wp2_with fail
              go_roundw
              case rel => exact ⟨k + 1, by go_num, by omega, HOC.out, HGR.out.trans' HG5.out, HGS.out⟩
              case measure => simp [intOf]; omega
      · obtain rfl : k = n := by omega
        have HGS := Lib.hid (show G = none by rw [HG.out, Nat.sub_self]; rfl)
        go_wp2_with fail
        go_ret2
        refine ⟨by rw [blk_slice]; exact HGR.out, ?_⟩
        rw [HGS.out]
        exact ⟨rfl, by rw [HSN.out]; exact HO.out⟩
end Go.Proofs.Ytdpehojcoohjcab
