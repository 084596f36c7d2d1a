/- The drawn page (the model's generator somePage). Condition: the reader lies in its block. -/
import Derived.Test.YtelhgpmklhdhcaaDrawPa
import Derived.Test.YtelhgpmklhdhcaaDrawMu
import Derived.BigRegion
import Derived.Deep.RegionWith
import Derived.Deep.DeepCutAuto
set_option linter.unusedVariables false
set_option linter.unusedSimpArgs false
namespace Go.Proofs.Ytelhgpmklhdhcaa
open Go.RowKit Go.ChangeShapes Go.WideShapes

theorem Pg.newPage : Pg (ptsOf 48) [] := (valid_iff _ _).1 (by decide +kernel)
theorem PgbPost.tell (r : (ByteArray × List Sl) × Bool) (w : World) : ∃ (S : ByteArray) (L : List Sl) (m : Nat) (ok : Bool), r = ((S, L), ok) ∧ m = L.length ∧ ∀ e w', PgbPost r w e w' →
    ∃ A c, e = .returned (.tuple #[.agg #[.string S, .slice A m c], .bool ok]) ∧ w'.ownsRow w.heap.size 81 2 (.slice A m c) m (slC L) ∧ Below w.heap.size w w' := by
  obtain ⟨⟨S, L⟩, ok⟩ := r
  refine ⟨S, L, L.length, ok, rfl, rfl, fun e w' h => ?_⟩
  obtain ⟨v, rfl, ⟨A, c, rfl, h⟩, hb⟩ := h
  exact ⟨A, c, rfl, h, hb⟩
theorem Pg3Post.tell (r : ((ByteArray × List Sl) × Int) × Bool) (w : World) : ∃ (S : ByteArray) (L : List Sl) (m : Nat) (av : Int) (ok : Bool), r = (((S, L), av), ok) ∧ m = L.length ∧ ∀ e w', Pg3Post r w e w' →
    ∃ A c, e = .returned (.tuple #[.agg #[.string S, .slice A m c], .int .i64 av, .bool ok]) ∧ w'.ownsRow w.heap.size 81 2 (.slice A m c) m (slC L) ∧ Below w.heap.size w w' := by
  obtain ⟨⟨⟨S, L⟩, av⟩, ok⟩ := r
  refine ⟨S, L, L.length, av, ok, rfl, rfl, fun e w' h => ?_⟩
  obtain ⟨v, rfl, ⟨A, c, rfl, h⟩, hb⟩ := h
  exact ⟨A, c, rfl, h, hb⟩
theorem dropR_pg {s S : ByteArray} {l L : List Sl} {p : Int} (h : Pg s l) (hq : dropR s l p = ((S, L), true)) : Pg S L := by
  unfold dropR at hq
  split at hq
  · rename_i hok
    unfold dropOk at hok
    simp only [Bool.and_eq_true, decide_eq_true_eq] at hok
    obtain ⟨_, h0, hl, ha⟩ := hok
    have hi : p.toNat < l.length := by omega
    rw [List.getD_eq_getElem?_getD, List.getElem?_eq_getElem hi, Option.getD_some] at ha hq
    injection hq with hq _
    injection hq with h1 h2
    rw [← h1, ← h2]
    exact h.drop hi ha
  · injection hq with _ hq
    cases hq
theorem putR_pg {s S : ByteArray} {l L : List Sl} {c : ByteArray} {av : Int} (h : Pg s l) (hq : putR s l c = (((S, L), av), true)) : Pg S L := by
  unfold putR at hq
  split at hq
  · rename_i hok
    rw [Bool.and_eq_true] at hok
    split at hq
    · rename_i hf
      obtain ⟨a, ha⟩ := putOk hf
      unfold putOne at hq
      rw [ha.at_, Int.toNat_natCast] at hq
      injection hq with hq _
      injection hq with hq _
      injection hq with h1 h2
      rw [← h1, ← h2]
      exact h.put hok.2 ha
    · split at hq
      · rename_i hf
        obtain ⟨a, ha⟩ := putOk hf
        unfold putOne at hq
        rw [ha.at_, Int.toNat_natCast] at hq
        injection hq with hq _
        injection hq with hq _
        injection hq with h1 h2
        rw [← h1, ← h2]
        exact h.tight.put hok.2 ha
      · injection hq with _ hq
        cases hq
  · injection hq with _ hq
    cases hq
theorem PgS.start {w w1 : World} {r M : Nat} {v : Value} (h : Rdr 120 w r M) (ho : OwnPage (w.heap.size + 1) (ptsOf 48) [] v w1) (hb : Below (w.heap.size + 1) (w.alloc (.cells #[.string ⟨#[]⟩, .slice none 0 0] 25)) w1) :
    ∃ A c, v = .agg #[.string (ptsOf 48), .slice A 0 c] ∧ PgS w r w1.heap.size 0 M (ptsOf 48) [] A c (w1.alloc (.cells #[.string (ptsOf 48), .slice A 0 c] 25)) := by
  obtain ⟨A, c, rfl, ho⟩ := ho
  refine ⟨A, c, rfl, ?_⟩
  have hs1 := hb.size
  simp only [World.size_alloc] at hs1
  have hr1 := h.lt
  have cz : ∀ o, (w1.alloc (.cells #[.string (ptsOf 48), .slice A 0 c] 25)).cell? ⟨w.heap.size, o, none⟩ = (w.alloc (.cells #[.string ⟨#[]⟩, .slice none 0 0] 25)).cell? ⟨w.heap.size, o, none⟩ := fun o =>
    (World.cell?_alloc_lt w1 _ ⟨w.heap.size, o, none⟩ (by show w.heap.size < w1.heap.size; omega)).trans (hb.cell (p := ⟨w.heap.size, o, none⟩) (by show w.heap.size < w.heap.size + 1; omega))
  have fz : ∀ o, (w1.alloc (.cells #[.string (ptsOf 48), .slice A 0 c] 25)).frozen? ⟨w.heap.size, o, none⟩ = (w.alloc (.cells #[.string ⟨#[]⟩, .slice none 0 0] 25)).frozen? ⟨w.heap.size, o, none⟩ := fun o =>
    (((Below.refl w1.heap.size w1).alloc (Nat.le_refl _) _).frozen (p := ⟨w.heap.size, o, none⟩) (by show w.heap.size < w1.heap.size; omega)).trans (hb.frozen (p := ⟨w.heap.size, o, none⟩) (by show w.heap.size < w.heap.size + 1; omega))
  have hg : (w.alloc (.cells #[.string ⟨#[]⟩, .slice none 0 0] 25)).grownBy w1 none := grown_of_below (row := none) (by simpa using hb)
  exact { rd := ((h.alloc _).keep fun i hi => hg.block i (by simp; omega) (by simp)).alloc _, gr := grown_far (World.grownBy_alloc w _ _) (hg.trans' (World.grownBy_alloc _ _ _)) (fun q hq => by cases hq), rl := hr1, wb := by omega, bW := by simp, len := rfl,
          p0 := by simp, p1 := by simp, q0 := by simp [go_sem], q1 := by simp [go_sem],
          z0 := by rw [cz]; simp, z1 := by rw [cz]; simp, y0 := by rw [fz]; simp [go_sem], y1 := by rw [fz]; simp [go_sem],
          own := ho.alloc _, ne := fun e => by have := (ho.lt w1.heap.size (by rw [block_sliceD]; exact e)).2; omega }
theorem PgS.other {w : World} {r b m M : Nat} {s : ByteArray} {l : List Sl} {A : Option Addr} {c : Nat} {W : World} (k : PgS w r b m M s l A c W) {q o : Nat} (v : Value) (hq : b < q) (hA : blockOfP A ≠ some q) : PgS w r b m M s l A c (W.setCell ⟨q, o, none⟩ v) := by
  have rl := k.rl
  have wb := k.wb
  have bW := k.bW
  have hg : W.grownBy (W.setCell ⟨q, o, none⟩ v) (some q) := grown_setCell v
  have cl : ∀ p o', p ≠ q → p < W.heap.size → (W.setCell ⟨q, o, none⟩ v).cell? ⟨p, o', none⟩ = W.cell? ⟨p, o', none⟩ := fun p o' hp hlt => World.cell?_of_block (hg.block p hlt (fun e => hp (by injection e)))
  exact { rd := k.rd.keep fun i hi => hg.block i (by omega) (fun e => by injection e; omega), gr := grown_far k.gr hg (fun q' hq' => .inl (by injection hq' with hq'; omega)), rl := rl, wb := wb, bW := Nat.lt_of_lt_of_le bW hg.size, len := k.len,
          p0 := (cl _ _ (by omega) bW).trans k.p0, p1 := (cl _ _ (by omega) bW).trans k.p1, q0 := by simpa using k.q0, q1 := by simpa using k.q1,
          z0 := (cl _ _ (by omega) (by omega)).trans k.z0, z1 := (cl _ _ (by omega) (by omega)).trans k.z1, y0 := by simpa using k.y0, y1 := by simpa using k.y1,
          own := k.own.kept hg (by rw [block_sliceD]; exact .inr hA), ne := k.ne }
/-- a page's variable that may be written -/
structure QPg (r q : Nat) (W : World) : Prop where
  c0 : ∃ u, W.cell? ⟨q, 0, none⟩ = some u
  c1 : ∃ u, W.cell? ⟨q, 1, none⟩ = some u
  f0 : W.frozen? ⟨q, 0, none⟩ = false
  f1 : W.frozen? ⟨q, 1, none⟩ = false
  lt : q < W.heap.size
  ne : r < q
theorem QPg.grow {r q : Nat} {W W' : World} (k : QPg r q W) (hg : W.grownBy W' (some r)) : QPg r q W' := by
  have lt := k.lt
  have ne := k.ne
  have cl : ∀ o, W'.cell? ⟨q, o, none⟩ = W.cell? ⟨q, o, none⟩ := fun o => World.cell?_of_block (hg.block q lt (fun e => by injection e; omega))
  have cf : ∀ o, W'.frozen? ⟨q, o, none⟩ = W.frozen? ⟨q, o, none⟩ := fun o => World.frozen?_of_block (hg.block q lt (fun e => by injection e; omega))
  exact { c0 := by rw [cl]; exact k.c0, c1 := by rw [cl]; exact k.c1, f0 := by rw [cf]; exact k.f0, f1 := by rw [cf]; exact k.f1, lt := Nat.lt_of_lt_of_le lt hg.size, ne := ne }
theorem QPg.keep {r q : Nat} {W W' : World} (k : QPg r q W) (hb : Below W.heap.size W W') : QPg r q W' := k.grow (grown_of_below hb)
theorem QPg.new {r : Nat} (W : World) (h : r < W.heap.size) : QPg r W.heap.size (W.alloc (.cells #[.string ⟨#[]⟩, .slice none 0 0] 25)) :=
  { c0 := ⟨_, by simp; rfl⟩, c1 := ⟨_, by simp; rfl⟩, f0 := by simp [go_sem], f1 := by simp [go_sem], lt := by simp, ne := h }
theorem PgS.nq {w : World} {r b m M : Nat} {s : ByteArray} {l : List Sl} {A : Option Addr} {c : Nat} {W : World} (k : PgS w r b m M s l A c W) {q : Nat} (hq : W.heap.size ≤ q) : blockOfP A ≠ some q := fun e => by
  have := (k.own.lt _ (by rw [block_sliceD]; exact e)).2
  omega
/-- what stands in the loop -/
structure PgRel (w : World) (r b N : Nat) (i : Value) (wr : World) : Prop where
  out : ∃ (k n m : Nat) (s : ByteArray) (l : List Sl) (A : Option Addr) (c : Nat), i = .int .i64 n ∧ n + k ≤ 10 ∧ Pg s l ∧ PgS w r b m (N + 1 + 8 * k) s l A c wr
theorem cell_len {s1 s2 : ByteArray} {x y : Nat} (h1 : s1.size ≤ x) (h2 : s2.size ≤ y) (hx : x ≤ 1000) (hy : y ≤ 1000) : (s1 ++ ⟨#[61]⟩ ++ s2).size ≤ maxLen := by
  have h3 : (⟨#[61]⟩ : ByteArray).size = 1 := rfl
  unfold maxLen
  simp only [ByteArray.size_append, h3]
  omega
/-- the page in its variable, another page in another variable -/
structure PgCut (w : World) (r b q m M : Nat) (s : ByteArray) (l : List Sl) (A : Option Addr) (c : Nat) (S : ByteArray) (L : List Sl) (mL : Nat) (A6 : Option Addr) (c6 : Nat) (W : World) : Prop where
  pg : PgS w r b m M s l A c W
  own : ∃ B, b < B ∧ W.ownsRow B 81 2 (.slice A6 mL c6) mL (slC L)
  e0 : W.cell? ⟨q, 0, none⟩ = some (.string S)
  e1 : W.cell? ⟨q, 1, none⟩ = some (.slice A6 mL c6)
theorem PgCut.more {w : World} {r b q m M M2 : Nat} {s : ByteArray} {l : List Sl} {A : Option Addr} {c : Nat} {S : ByteArray} {L : List Sl} {mL : Nat} {A6 : Option Addr} {c6 : Nat} {W : World} (k : PgCut w r b q m M s l A c S L mL A6 c6 W) (h : M ≤ M2) : PgCut w r b q m M2 s l A c S L mL A6 c6 W := { k with pg := k.pg.more h }
theorem PgS.cut {w : World} {r b m M : Nat} {s : ByteArray} {l : List Sl} {A : Option Addr} {c : Nat} {W : World} (k : PgS w r b m M s l A c W) {q : Nat} (hq : b < q) (hA : blockOfP A ≠ some q) {S : ByteArray} {L : List Sl} {mL : Nat} {A6 : Option Addr} {c6 B : Nat} (hA6 : blockOfP A6 ≠ some q)
    (ho : W.ownsRow B 81 2 (.slice A6 mL c6) mL (slC L)) (hB : b < B) (hc : QPg r q W) : PgCut w r b q m M s l A c S L mL A6 c6 ((W.setCell ⟨q, 0, none⟩ (.string S)).setCell ⟨q, 1, none⟩ (.slice A6 mL c6)) := by
  obtain ⟨u0, g0⟩ := hc.c0
  obtain ⟨u1, g1⟩ := hc.c1
  have hg : W.grownBy ((W.setCell ⟨q, 0, none⟩ (.string S)).setCell ⟨q, 1, none⟩ (.slice A6 mL c6)) (some q) := (grown_setCell _).trans' (grown_setCell _)
  exact { pg := (k.other (o := 0) _ hq hA).other (o := 1) _ hq hA, own := ⟨B, hB, ho.kept hg (by rw [block_sliceD]; exact .inr hA6)⟩, e0 := by simp [go_sem, g0, g1], e1 := by simp [go_sem, g0, g1] }
theorem PgS.page {w : World} {r b m M : Nat} {s : ByteArray} {l : List Sl} {A : Option Addr} {c : Nat} {W : World} (k : PgS w r b m M s l A c W) (hpg : Pg s l) : PageAt W s A m l :=
  ⟨k.len, RowAt.of_own k.own, hpg.wf, by have := hpg.size; omega, by have := k.len; have := hpg.few; omega⟩

set_option maxRecDepth 100000 in
set_option maxHeartbeats 16000000 in
theorem somePage_any (r N : Nat) (w : World) (h : Rdr 120 w r N) (hN : N ≤ 800000) :
    Calls Try.prog 53 #[.pointer (some ⟨r, 0, none⟩)] w (PageDrawn r (N + 100) w) := by
  have hrl := h.lt
  have HRD := Lib.hid h; clear h
  go_enter Try.func53, Try.ntmps53
  go_wp2_with fail
  refine (sNewPage_any _).mono ?_
  rintro e w1 ⟨v1, rfl, ho1, hb1⟩
  simp only [World.size_alloc] at ho1 hb1
  obtain ⟨A0, c0, rfl, hs0⟩ := PgS.start HRD.out ho1 hb1
  have HS0 := Lib.hid hs0; clear hs0 ho1 hb1
  have ho2 := fun cs m c t hm hm0 hm1 hs => oneNew_any 0 10 r N m c cs t _ HS0.out.rd (by omega) hm hm0 hm1 hs
  simp only [World.size_alloc] at ho2
  have HO2 := Lib.hid ho2; clear ho2
  have HPG0 := Lib.hid Pg.newPage
  generalize ptsOf 48 = s0 at *
  go_wp2_with fail
  refine (HO2.out _ _ _ _ (by rfl) (by omega) (by omega) (by rfl)).mono ?_
  rintro e w3 ⟨nn, rfl, hn1, hn2, hr3, hg3⟩
  have HS3 := Lib.hid (HS0.out.grow hg3 hr3); clear hr3 hg3
  obtain ⟨n0, rfl⟩ := Int.eq_ofNat_of_zero_le hn1
  generalize w1.heap.size = b at *
  go_wp2_with fail
  go_loopw [4] (fun i wr => PgRel w r b N i wr) (fun i _ => (intOf i).toNat)
  case atStart => exact ⟨⟨0, n0, 0, s0, [], A0, c0, rfl, by omega, HPG0.out, HS3.out⟩⟩
  case round =>
    obtain ⟨k, n, m, s, l, A, c, rfl, hnk, hpg, hs⟩ := hrel.out
    clear hrel
    have HPG := Lib.hid hpg; clear hpg
    have HS := Lib.hid hs; clear hs
    cases n with
    | succ n =>
      have HP := Lib.hid (pick_any r (N + 1 + 8 * k) 3 wr HS.out.rd (by omega) (by omega))
      have hpos : (0 : Int) < ((n + 1 : Nat) : Int) := by omega
      have hm24 : m ≤ 24 := by have := HS.out.len; have := HPG.out.few; omega
      go_upto_region 5 with fail
      go_cut [26] (fun s26 wx => ∃ B : Bool, s26 = .bool B ∧ PgS w r b m (N + 1 + 8 * k + 1) s l A c wx)
      case first =>
        go_wp2_with fail
        refine (HP.out).mono ?_
        rintro e w4 ⟨x, rfl, hx0, hx3, hr4, hg4⟩
        have HS4 := Lib.hid (HS.out.grow hg4 hr4); clear hr4 hg4
        have a1 := HS4.out.p1
        by_cases h0 : x = 0
        · subst h0
          by_cases hm : (0 : Int) < (m : Int)
          · go_wp2_with fail
            go_meet
            exact ⟨_, rfl, HS4.out⟩
          · go_wp2_with fail
            go_meet
            exact ⟨_, rfl, HS4.out⟩
        · have h1 : (x == 0) = false := by simpa using h0
          clear h0
          go_wp2_with fail
          go_meet
          exact ⟨_, rfl, HS4.out⟩
      case rest =>
        obtain ⟨B, rfl, hs4⟩ := hcut
        have HS4 := Lib.hid hs4; clear hs4
        cases B
        rotate_left
        · go_wp2_with fail
          go_cut [5, 6] (fun s5 s6 wx => ∃ (q : Nat) (S : ByteArray) (L : List Sl) (mL : Nat) (A6 : Option Addr) (c6 : Nat) (ok : Bool), s5 = .pointer (some ⟨q, 0, none⟩) ∧ s6 = .bool ok ∧ mL = L.length ∧ (ok = true → Pg S L) ∧ PgCut w r b q m (N + 1 + 8 * (k + 1)) s l A c S L mL A6 c6 wx)
          case first =>
            refine wp_region_any (by kernel_rfl) ?_
            try (change wpAny _ _ _ _ _ _ _ (World.drew _))
            have HS0 := Lib.hid HS4.out.drew
            generalize hW0 : wc.drew = W0 at HS0 ⊢
            clear hW0
            refine wpAny_take (i := 1) (v := ?_) rfl (by kernel_rfl) (by kernel_rfl) (by kernel_rfl) (fun _ _ _ h => h) (Or.inl ⟨by kernel_rfl, ?_⟩) ?_
            rotate_left
            · (intro w; go_simp; first | done | with_reducible rfl)
            conv => arg 7; simp [Act.put]
            refine wpAny_take (i := 2) (v := ?_) rfl (by kernel_rfl) (by kernel_rfl) (by kernel_rfl) (fun _ _ _ h => h) (Or.inl ⟨by kernel_rfl, ?_⟩) ?_
            rotate_left
            · (intro w; go_simp; first | done | with_reducible rfl)
            conv => arg 7; simp [Act.put]
            refine wpAny_ready (rs := [0, 3, 10]) (by kernel_rfl) (by simp) ?_
            refine AllReady.cons rfl (fun K hK => ?_) (AllReady.cons rfl (fun K hK => ?_) (AllReady.cons rfl (fun K hK => ?_) (AllReady.nil)))
            focus
              have a0 := HS0.out.p0
              have a1 := HS0.out.p1
              go_simp
              refine hK _ _ ?_; clear hK K
              clear a0 a1
              refine wpAny_ready (rs := [3, 10]) (by kernel_rfl) (by simp) ?_
              refine AllReady.cons rfl (fun K hK => ?_) (AllReady.cons rfl (fun K hK => ?_) (AllReady.nil))
              focus
                have a0 := HS0.out.p0
                have a1 := HS0.out.p1
                go_simp
                refine hK _ _ ?_; clear hK K
                clear a0 a1
                refine wpAny_take (i := 4) (v := ?_) rfl (by kernel_rfl) (by kernel_rfl) (by kernel_rfl) (fun _ _ _ h => h) (Or.inl ⟨by kernel_rfl, ?_⟩) ?_
                rotate_left
                · (intro w; go_simp; first | done | with_reducible rfl)
                conv => arg 7; simp [Act.put]
                refine wpAny_ready (rs := [5, 10]) (by kernel_rfl) (by simp) ?_
                refine AllReady.cons rfl (fun K hK => ?_) (AllReady.cons rfl (fun K hK => ?_) (AllReady.nil))
                focus
                  go_simp
                  go_wp2_with (go_at_call 55; refine (pick_any r (N + 1 + 8 * k + 1) (m : Int) W0 HS0.out.rd (by omega) (by omega)).mono ?_; rintro e W1 ⟨y, rfl, hy0, hy3, hr, hg⟩)
                  have HS1 := Lib.hid (HS0.out.grow hg hr)
                  clear hr hg
                  refine wpAny_ready (rs := [6, 10]) (by kernel_rfl) (by simp) ?_
                  refine AllReady.cons rfl (fun K hK => ?_) (AllReady.cons rfl (fun K hK => ?_) (AllReady.nil))
                  focus
                    go_simp
                    obtain ⟨S, L, mL, ok, ho, hmL, hft⟩ := PgbPost.tell (dropR s l y) W1
                    have HC := Lib.hid ((sDrop_any s A m c l y W1 (HS1.out.page HPG.out) (own_none HS1.out.own)).mono hft); clear hft
                    have HR6 := Lib.hid ho; have HML := Lib.hid hmL; clear ho hmL
                    go_wp2_with (go_at_call 17; refine (HC.out).mono ?_; rintro e W2 ⟨A6, c6, rfl, ho6, hb6⟩)
                    clear HC
                    have hbB : b < W1.heap.size := HS1.out.bW
                    have HO2 := Lib.hid ho6
                    have HS2 := Lib.hid (HS1.out.keep hb6)
                    clear ho6 hb6
                    refine wpAny_take (i := 7) (v := ?_) rfl (by kernel_rfl) (by kernel_rfl) (by kernel_rfl) (fun _ _ _ h => h) (Or.inl ⟨by kernel_rfl, ?_⟩) ?_
                    rotate_left
                    · (intro w; go_simp; first | done | with_reducible rfl)
                    conv => arg 7; simp [Act.put]
                    refine wpAny_take (i := 8) (v := ?_) rfl (by kernel_rfl) (by kernel_rfl) (by kernel_rfl) (fun _ _ _ h => h) (Or.inl ⟨by kernel_rfl, ?_⟩) ?_
                    rotate_left
                    · (intro w; go_simp; first | done | with_reducible rfl)
                    conv => arg 7; simp [Act.put]
                    refine wpAny_take (i := 9) (v := ?_) rfl (by kernel_rfl) (by kernel_rfl) (by kernel_rfl) (fun _ _ _ h => h) (Or.inl ⟨by kernel_rfl, ?_⟩) ?_
                    rotate_left
                    · (intro w; go_simp; first | done | with_reducible rfl)
                    conv => arg 7; simp [Act.put]
                    refine wpAny_ready (rs := [10]) (by kernel_rfl) (by simp) ?_
                    refine AllReady.cons rfl (fun K hK => ?_) (AllReady.nil)
                    go_simp
                    refine hK _ _ ?_; clear hK K
                    have HS3 := Lib.hid (HS2.out.alloc (.cells #[.string ⟨#[]⟩, .slice none 0 0] 25))
                    have HQ3 := Lib.hid (QPg.new W2 (HS2.out.rd.lt))
                    have hqb : b < W2.heap.size := HS2.out.bW
                    have hqA : blockOfP A ≠ some W2.heap.size := HS2.out.nq (Nat.le_refl _)
                    have HO3 := Lib.hid (HO2.out.alloc (.cells #[.string ⟨#[]⟩, .slice none 0 0] 25))
                    have hqA6 : blockOfP A6 ≠ some W2.heap.size := fun e => by have := (HO2.out.lt _ (by rw [block_sliceD]; exact e)).2; omega
                    generalize hqe : W2.heap.size = q at *
                    clear hqe
                    generalize W2.alloc (.cells #[.string ⟨#[]⟩, .slice none 0 0] 25) = W3 at *
                    have HCUT := Lib.hid (HS3.out.cut (S := S) hqb hqA hqA6 HO3.out hbB HQ3.out)
                    have g0 := HQ3.out.c0; have g1 := HQ3.out.c1; have g2 := HQ3.out.f0; have g3 := HQ3.out.f1
                    obtain ⟨u0, g0⟩ := g0
                    obtain ⟨u1, g1⟩ := g1
                    refine wpAny_ready (rs := [11]) (by kernel_rfl) (by simp) ?_
                    refine AllReady.cons rfl (fun K hK => ?_) AllReady.nil
                    go_simp
                    refine hK _ _ ?_; clear hK K
                    refine wpAny_take (i := 12) (v := ?_) rfl (by kernel_rfl) (by kernel_rfl) (by kernel_rfl) (fun _ _ _ h => h) (Or.inl ⟨by kernel_rfl, ?_⟩) ?_
                    rotate_left
                    · (intro w; go_simp; first | done | with_reducible rfl)
                    conv => arg 7; simp [Act.put]
                    refine wpAny_done (by kernel_rfl) ?_ _
                    clear g0 g1 g2 g3
                    go_wp2_with fail
                    go_meet
                    exact ⟨q, S, L, mL, A6, c6, ok, rfl, rfl, HML.out, fun e => dropR_pg HPG.out (by rw [← e]; exact HR6.out), (PgCut.more (M2 := N + 1 + 8 * (k + 1)) HCUT.out (by omega))⟩
                  focus
                    go_simp
                    refine hK _ _ ?_; clear hK K
                    have HS2 := Lib.hid (HS1.out.alloc (.cells #[.string ⟨#[]⟩, .slice none 0 0] 25))
                    have HQ2 := Lib.hid (QPg.new W1 (HS1.out.rd.lt))
                    have hqb : b < W1.heap.size := HS1.out.bW
                    have hqA : blockOfP A ≠ some W1.heap.size := HS1.out.nq (Nat.le_refl _)
                    generalize hqe : W1.heap.size = q at *
                    clear hqe
                    generalize W1.alloc (.cells #[.string ⟨#[]⟩, .slice none 0 0] 25) = W2 at *
                    refine wpAny_ready (rs := [6]) (by kernel_rfl) (by simp) ?_
                    refine AllReady.cons rfl (fun K hK => ?_) (AllReady.nil)
                    go_simp
                    obtain ⟨S, L, mL, ok, ho, hmL, hft⟩ := PgbPost.tell (dropR s l y) W2
                    have HC := Lib.hid ((sDrop_any s A m c l y W2 (HS2.out.page HPG.out) (own_none HS2.out.own)).mono hft); clear hft
                    have HR6 := Lib.hid ho; have HML := Lib.hid hmL; clear ho hmL
                    go_wp2_with (go_at_call 17; refine (HC.out).mono ?_; rintro e W3 ⟨A6, c6, rfl, ho6, hb6⟩)
                    clear HC
                    have hqA6 : blockOfP A6 ≠ some q := fun e => by have := (ho6.lt _ (by rw [block_sliceD]; exact e)).1; have := HQ2.out.lt; omega
                    have hbB : b < W2.heap.size := HS2.out.bW
                    have HO3 := Lib.hid ho6
                    have HS3 := Lib.hid (HS2.out.keep hb6)
                    have HQ3 := Lib.hid (HQ2.out.keep hb6)
                    clear ho6 hb6
                    refine wpAny_take (i := 7) (v := ?_) rfl (by kernel_rfl) (by kernel_rfl) (by kernel_rfl) (fun _ _ _ h => h) (Or.inl ⟨by kernel_rfl, ?_⟩) ?_
                    rotate_left
                    · (intro w; go_simp; first | done | with_reducible rfl)
                    conv => arg 7; simp [Act.put]
                    refine wpAny_take (i := 8) (v := ?_) rfl (by kernel_rfl) (by kernel_rfl) (by kernel_rfl) (fun _ _ _ h => h) (Or.inl ⟨by kernel_rfl, ?_⟩) ?_
                    rotate_left
                    · (intro w; go_simp; first | done | with_reducible rfl)
                    conv => arg 7; simp [Act.put]
                    refine wpAny_take (i := 9) (v := ?_) rfl (by kernel_rfl) (by kernel_rfl) (by kernel_rfl) (fun _ _ _ h => h) (Or.inl ⟨by kernel_rfl, ?_⟩) ?_
                    rotate_left
                    · (intro w; go_simp; first | done | with_reducible rfl)
                    conv => arg 7; simp [Act.put]
                    have HCUT := Lib.hid (HS3.out.cut (S := S) hqb hqA hqA6 HO3.out hbB HQ3.out)
                    have g0 := HQ3.out.c0; have g1 := HQ3.out.c1; have g2 := HQ3.out.f0; have g3 := HQ3.out.f1
                    obtain ⟨u0, g0⟩ := g0
                    obtain ⟨u1, g1⟩ := g1
                    refine wpAny_ready (rs := [11]) (by kernel_rfl) (by simp) ?_
                    refine AllReady.cons rfl (fun K hK => ?_) AllReady.nil
                    go_simp
                    refine hK _ _ ?_; clear hK K
                    refine wpAny_take (i := 12) (v := ?_) rfl (by kernel_rfl) (by kernel_rfl) (by kernel_rfl) (fun _ _ _ h => h) (Or.inl ⟨by kernel_rfl, ?_⟩) ?_
                    rotate_left
                    · (intro w; go_simp; first | done | with_reducible rfl)
                    conv => arg 7; simp [Act.put]
                    refine wpAny_done (by kernel_rfl) ?_ _
                    clear g0 g1 g2 g3
                    go_wp2_with fail
                    go_meet
                    exact ⟨q, S, L, mL, A6, c6, ok, rfl, rfl, HML.out, fun e => dropR_pg HPG.out (by rw [← e]; exact HR6.out), (PgCut.more (M2 := N + 1 + 8 * (k + 1)) HCUT.out (by omega))⟩
                focus
                  go_simp
                  refine hK _ _ ?_; clear hK K
                  have HS1 := Lib.hid (HS0.out.alloc (.cells #[.string ⟨#[]⟩, .slice none 0 0] 25))
                  have HQ1 := Lib.hid (QPg.new W0 (HS0.out.rd.lt))
                  have hqb : b < W0.heap.size := HS0.out.bW
                  have hqA : blockOfP A ≠ some W0.heap.size := HS0.out.nq (Nat.le_refl _)
                  generalize hqe : W0.heap.size = q at *
                  clear hqe
                  generalize W0.alloc (.cells #[.string ⟨#[]⟩, .slice none 0 0] 25) = W1 at *
                  refine wpAny_ready (rs := [5]) (by kernel_rfl) (by simp) ?_
                  refine AllReady.cons rfl (fun K hK => ?_) (AllReady.nil)
                  go_simp
                  go_wp2_with (go_at_call 55; refine (pick_any r (N + 1 + 8 * k + 1) (m : Int) W1 HS1.out.rd (by omega) (by omega)).mono ?_; rintro e W2 ⟨y, rfl, hy0, hy3, hr, hg⟩)
                  have HS2 := Lib.hid (HS1.out.grow hg hr)
                  have HQ2 := Lib.hid (HQ1.out.grow hg)
                  clear hr hg
                  refine wpAny_ready (rs := [6]) (by kernel_rfl) (by simp) ?_
                  refine AllReady.cons rfl (fun K hK => ?_) (AllReady.nil)
                  go_simp
                  obtain ⟨S, L, mL, ok, ho, hmL, hft⟩ := PgbPost.tell (dropR s l y) W2
                  have HC := Lib.hid ((sDrop_any s A m c l y W2 (HS2.out.page HPG.out) (own_none HS2.out.own)).mono hft); clear hft
                  have HR6 := Lib.hid ho; have HML := Lib.hid hmL; clear ho hmL
                  go_wp2_with (go_at_call 17; refine (HC.out).mono ?_; rintro e W3 ⟨A6, c6, rfl, ho6, hb6⟩)
                  clear HC
                  have hqA6 : blockOfP A6 ≠ some q := fun e => by have := (ho6.lt _ (by rw [block_sliceD]; exact e)).1; have := HQ2.out.lt; omega
                  have hbB : b < W2.heap.size := HS2.out.bW
                  have HO3 := Lib.hid ho6
                  have HS3 := Lib.hid (HS2.out.keep hb6)
                  have HQ3 := Lib.hid (HQ2.out.keep hb6)
                  clear ho6 hb6
                  refine wpAny_take (i := 7) (v := ?_) rfl (by kernel_rfl) (by kernel_rfl) (by kernel_rfl) (fun _ _ _ h => h) (Or.inl ⟨by kernel_rfl, ?_⟩) ?_
                  rotate_left
                  · (intro w; go_simp; first | done | with_reducible rfl)
                  conv => arg 7; simp [Act.put]
                  refine wpAny_take (i := 8) (v := ?_) rfl (by kernel_rfl) (by kernel_rfl) (by kernel_rfl) (fun _ _ _ h => h) (Or.inl ⟨by kernel_rfl, ?_⟩) ?_
                  rotate_left
                  · (intro w; go_simp; first | done | with_reducible rfl)
                  conv => arg 7; simp [Act.put]
                  refine wpAny_take (i := 9) (v := ?_) rfl (by kernel_rfl) (by kernel_rfl) (by kernel_rfl) (fun _ _ _ h => h) (Or.inl ⟨by kernel_rfl, ?_⟩) ?_
                  rotate_left
                  · (intro w; go_simp; first | done | with_reducible rfl)
                  conv => arg 7; simp [Act.put]
                  have HCUT := Lib.hid (HS3.out.cut (S := S) hqb hqA hqA6 HO3.out hbB HQ3.out)
                  have g0 := HQ3.out.c0; have g1 := HQ3.out.c1; have g2 := HQ3.out.f0; have g3 := HQ3.out.f1
                  obtain ⟨u0, g0⟩ := g0
                  obtain ⟨u1, g1⟩ := g1
                  refine wpAny_ready (rs := [11]) (by kernel_rfl) (by simp) ?_
                  refine AllReady.cons rfl (fun K hK => ?_) AllReady.nil
                  go_simp
                  refine hK _ _ ?_; clear hK K
                  refine wpAny_take (i := 12) (v := ?_) rfl (by kernel_rfl) (by kernel_rfl) (by kernel_rfl) (fun _ _ _ h => h) (Or.inl ⟨by kernel_rfl, ?_⟩) ?_
                  rotate_left
                  · (intro w; go_simp; first | done | with_reducible rfl)
                  conv => arg 7; simp [Act.put]
                  refine wpAny_done (by kernel_rfl) ?_ _
                  clear g0 g1 g2 g3
                  go_wp2_with fail
                  go_meet
                  exact ⟨q, S, L, mL, A6, c6, ok, rfl, rfl, HML.out, fun e => dropR_pg HPG.out (by rw [← e]; exact HR6.out), (PgCut.more (M2 := N + 1 + 8 * (k + 1)) HCUT.out (by omega))⟩
              focus
                go_simp
                refine hK _ _ ?_; clear hK K
                have HS1 := Lib.hid (HS0.out.alloc (.cells #[.string ⟨#[]⟩, .slice none 0 0] 25))
                have HQ1 := Lib.hid (QPg.new W0 (HS0.out.rd.lt))
                have hqb : b < W0.heap.size := HS0.out.bW
                have hqA : blockOfP A ≠ some W0.heap.size := HS0.out.nq (Nat.le_refl _)
                generalize hqe : W0.heap.size = q at *
                clear hqe
                generalize W0.alloc (.cells #[.string ⟨#[]⟩, .slice none 0 0] 25) = W1 at *
                refine wpAny_ready (rs := [3]) (by kernel_rfl) (by simp) ?_
                refine AllReady.cons rfl (fun K hK => ?_) (AllReady.nil)
                have a0 := HS1.out.p0
                have a1 := HS1.out.p1
                go_simp
                refine hK _ _ ?_; clear hK K
                clear a0 a1
                refine wpAny_take (i := 4) (v := ?_) rfl (by kernel_rfl) (by kernel_rfl) (by kernel_rfl) (fun _ _ _ h => h) (Or.inl ⟨by kernel_rfl, ?_⟩) ?_
                rotate_left
                · (intro w; go_simp; first | done | with_reducible rfl)
                conv => arg 7; simp [Act.put]
                refine wpAny_ready (rs := [5]) (by kernel_rfl) (by simp) ?_
                refine AllReady.cons rfl (fun K hK => ?_) (AllReady.nil)
                go_simp
                go_wp2_with (go_at_call 55; refine (pick_any r (N + 1 + 8 * k + 1) (m : Int) W1 HS1.out.rd (by omega) (by omega)).mono ?_; rintro e W2 ⟨y, rfl, hy0, hy3, hr, hg⟩)
                have HS2 := Lib.hid (HS1.out.grow hg hr)
                have HQ2 := Lib.hid (HQ1.out.grow hg)
                clear hr hg
                refine wpAny_ready (rs := [6]) (by kernel_rfl) (by simp) ?_
                refine AllReady.cons rfl (fun K hK => ?_) (AllReady.nil)
                go_simp
                obtain ⟨S, L, mL, ok, ho, hmL, hft⟩ := PgbPost.tell (dropR s l y) W2
                have HC := Lib.hid ((sDrop_any s A m c l y W2 (HS2.out.page HPG.out) (own_none HS2.out.own)).mono hft); clear hft
                have HR6 := Lib.hid ho; have HML := Lib.hid hmL; clear ho hmL
                go_wp2_with (go_at_call 17; refine (HC.out).mono ?_; rintro e W3 ⟨A6, c6, rfl, ho6, hb6⟩)
                clear HC
                have hqA6 : blockOfP A6 ≠ some q := fun e => by have := (ho6.lt _ (by rw [block_sliceD]; exact e)).1; have := HQ2.out.lt; omega
                have hbB : b < W2.heap.size := HS2.out.bW
                have HO3 := Lib.hid ho6
                have HS3 := Lib.hid (HS2.out.keep hb6)
                have HQ3 := Lib.hid (HQ2.out.keep hb6)
                clear ho6 hb6
                refine wpAny_take (i := 7) (v := ?_) rfl (by kernel_rfl) (by kernel_rfl) (by kernel_rfl) (fun _ _ _ h => h) (Or.inl ⟨by kernel_rfl, ?_⟩) ?_
                rotate_left
                · (intro w; go_simp; first | done | with_reducible rfl)
                conv => arg 7; simp [Act.put]
                refine wpAny_take (i := 8) (v := ?_) rfl (by kernel_rfl) (by kernel_rfl) (by kernel_rfl) (fun _ _ _ h => h) (Or.inl ⟨by kernel_rfl, ?_⟩) ?_
                rotate_left
                · (intro w; go_simp; first | done | with_reducible rfl)
                conv => arg 7; simp [Act.put]
                refine wpAny_take (i := 9) (v := ?_) rfl (by kernel_rfl) (by kernel_rfl) (by kernel_rfl) (fun _ _ _ h => h) (Or.inl ⟨by kernel_rfl, ?_⟩) ?_
                rotate_left
                · (intro w; go_simp; first | done | with_reducible rfl)
                conv => arg 7; simp [Act.put]
                have HCUT := Lib.hid (HS3.out.cut (S := S) hqb hqA hqA6 HO3.out hbB HQ3.out)
                have g0 := HQ3.out.c0; have g1 := HQ3.out.c1; have g2 := HQ3.out.f0; have g3 := HQ3.out.f1
                obtain ⟨u0, g0⟩ := g0
                obtain ⟨u1, g1⟩ := g1
                refine wpAny_ready (rs := [11]) (by kernel_rfl) (by simp) ?_
                refine AllReady.cons rfl (fun K hK => ?_) AllReady.nil
                go_simp
                refine hK _ _ ?_; clear hK K
                refine wpAny_take (i := 12) (v := ?_) rfl (by kernel_rfl) (by kernel_rfl) (by kernel_rfl) (fun _ _ _ h => h) (Or.inl ⟨by kernel_rfl, ?_⟩) ?_
                rotate_left
                · (intro w; go_simp; first | done | with_reducible rfl)
                conv => arg 7; simp [Act.put]
                refine wpAny_done (by kernel_rfl) ?_ _
                clear g0 g1 g2 g3
                go_wp2_with fail
                go_meet
                exact ⟨q, S, L, mL, A6, c6, ok, rfl, rfl, HML.out, fun e => dropR_pg HPG.out (by rw [← e]; exact HR6.out), (PgCut.more (M2 := N + 1 + 8 * (k + 1)) HCUT.out (by omega))⟩
            focus
              have a0 := HS0.out.p0
              have a1 := HS0.out.p1
              go_simp
              refine hK _ _ ?_; clear hK K
              clear a0 a1
              refine wpAny_take (i := 4) (v := ?_) rfl (by kernel_rfl) (by kernel_rfl) (by kernel_rfl) (fun _ _ _ h => h) (Or.inl ⟨by kernel_rfl, ?_⟩) ?_
              rotate_left
              · (intro w; go_simp; first | done | with_reducible rfl)
              conv => arg 7; simp [Act.put]
              refine wpAny_ready (rs := [0, 5, 10]) (by kernel_rfl) (by simp) ?_
              refine AllReady.cons rfl (fun K hK => ?_) (AllReady.cons rfl (fun K hK => ?_) (AllReady.cons rfl (fun K hK => ?_) (AllReady.nil)))
              focus
                have a0 := HS0.out.p0
                have a1 := HS0.out.p1
                go_simp
                refine hK _ _ ?_; clear hK K
                clear a0 a1
                refine wpAny_ready (rs := [5, 10]) (by kernel_rfl) (by simp) ?_
                refine AllReady.cons rfl (fun K hK => ?_) (AllReady.cons rfl (fun K hK => ?_) (AllReady.nil))
                focus
                  go_simp
                  go_wp2_with (go_at_call 55; refine (pick_any r (N + 1 + 8 * k + 1) (m : Int) W0 HS0.out.rd (by omega) (by omega)).mono ?_; rintro e W1 ⟨y, rfl, hy0, hy3, hr, hg⟩)
                  have HS1 := Lib.hid (HS0.out.grow hg hr)
                  clear hr hg
                  refine wpAny_ready (rs := [6, 10]) (by kernel_rfl) (by simp) ?_
                  refine AllReady.cons rfl (fun K hK => ?_) (AllReady.cons rfl (fun K hK => ?_) (AllReady.nil))
                  focus
                    go_simp
                    obtain ⟨S, L, mL, ok, ho, hmL, hft⟩ := PgbPost.tell (dropR s l y) W1
                    have HC := Lib.hid ((sDrop_any s A m c l y W1 (HS1.out.page HPG.out) (own_none HS1.out.own)).mono hft); clear hft
                    have HR6 := Lib.hid ho; have HML := Lib.hid hmL; clear ho hmL
                    go_wp2_with (go_at_call 17; refine (HC.out).mono ?_; rintro e W2 ⟨A6, c6, rfl, ho6, hb6⟩)
                    clear HC
                    have hbB : b < W1.heap.size := HS1.out.bW
                    have HO2 := Lib.hid ho6
                    have HS2 := Lib.hid (HS1.out.keep hb6)
                    clear ho6 hb6
                    refine wpAny_take (i := 7) (v := ?_) rfl (by kernel_rfl) (by kernel_rfl) (by kernel_rfl) (fun _ _ _ h => h) (Or.inl ⟨by kernel_rfl, ?_⟩) ?_
                    rotate_left
                    · (intro w; go_simp; first | done | with_reducible rfl)
                    conv => arg 7; simp [Act.put]
                    refine wpAny_take (i := 8) (v := ?_) rfl (by kernel_rfl) (by kernel_rfl) (by kernel_rfl) (fun _ _ _ h => h) (Or.inl ⟨by kernel_rfl, ?_⟩) ?_
                    rotate_left
                    · (intro w; go_simp; first | done | with_reducible rfl)
                    conv => arg 7; simp [Act.put]
                    refine wpAny_take (i := 9) (v := ?_) rfl (by kernel_rfl) (by kernel_rfl) (by kernel_rfl) (fun _ _ _ h => h) (Or.inl ⟨by kernel_rfl, ?_⟩) ?_
                    rotate_left
                    · (intro w; go_simp; first | done | with_reducible rfl)
                    conv => arg 7; simp [Act.put]
                    refine wpAny_ready (rs := [10]) (by kernel_rfl) (by simp) ?_
                    refine AllReady.cons rfl (fun K hK => ?_) (AllReady.nil)
                    go_simp
                    refine hK _ _ ?_; clear hK K
                    have HS3 := Lib.hid (HS2.out.alloc (.cells #[.string ⟨#[]⟩, .slice none 0 0] 25))
                    have HQ3 := Lib.hid (QPg.new W2 (HS2.out.rd.lt))
                    have hqb : b < W2.heap.size := HS2.out.bW
                    have hqA : blockOfP A ≠ some W2.heap.size := HS2.out.nq (Nat.le_refl _)
                    have HO3 := Lib.hid (HO2.out.alloc (.cells #[.string ⟨#[]⟩, .slice none 0 0] 25))
                    have hqA6 : blockOfP A6 ≠ some W2.heap.size := fun e => by have := (HO2.out.lt _ (by rw [block_sliceD]; exact e)).2; omega
                    generalize hqe : W2.heap.size = q at *
                    clear hqe
                    generalize W2.alloc (.cells #[.string ⟨#[]⟩, .slice none 0 0] 25) = W3 at *
                    have HCUT := Lib.hid (HS3.out.cut (S := S) hqb hqA hqA6 HO3.out hbB HQ3.out)
                    have g0 := HQ3.out.c0; have g1 := HQ3.out.c1; have g2 := HQ3.out.f0; have g3 := HQ3.out.f1
                    obtain ⟨u0, g0⟩ := g0
                    obtain ⟨u1, g1⟩ := g1
                    refine wpAny_ready (rs := [11]) (by kernel_rfl) (by simp) ?_
                    refine AllReady.cons rfl (fun K hK => ?_) AllReady.nil
                    go_simp
                    refine hK _ _ ?_; clear hK K
                    refine wpAny_take (i := 12) (v := ?_) rfl (by kernel_rfl) (by kernel_rfl) (by kernel_rfl) (fun _ _ _ h => h) (Or.inl ⟨by kernel_rfl, ?_⟩) ?_
                    rotate_left
                    · (intro w; go_simp; first | done | with_reducible rfl)
                    conv => arg 7; simp [Act.put]
                    refine wpAny_done (by kernel_rfl) ?_ _
                    clear g0 g1 g2 g3
                    go_wp2_with fail
                    go_meet
                    exact ⟨q, S, L, mL, A6, c6, ok, rfl, rfl, HML.out, fun e => dropR_pg HPG.out (by rw [← e]; exact HR6.out), (PgCut.more (M2 := N + 1 + 8 * (k + 1)) HCUT.out (by omega))⟩
                  focus
                    go_simp
                    refine hK _ _ ?_; clear hK K
                    have HS2 := Lib.hid (HS1.out.alloc (.cells #[.string ⟨#[]⟩, .slice none 0 0] 25))
                    have HQ2 := Lib.hid (QPg.new W1 (HS1.out.rd.lt))
                    have hqb : b < W1.heap.size := HS1.out.bW
                    have hqA : blockOfP A ≠ some W1.heap.size := HS1.out.nq (Nat.le_refl _)
                    generalize hqe : W1.heap.size = q at *
                    clear hqe
                    generalize W1.alloc (.cells #[.string ⟨#[]⟩, .slice none 0 0] 25) = W2 at *
                    refine wpAny_ready (rs := [6]) (by kernel_rfl) (by simp) ?_
                    refine AllReady.cons rfl (fun K hK => ?_) (AllReady.nil)
                    go_simp
                    obtain ⟨S, L, mL, ok, ho, hmL, hft⟩ := PgbPost.tell (dropR s l y) W2
                    have HC := Lib.hid ((sDrop_any s A m c l y W2 (HS2.out.page HPG.out) (own_none HS2.out.own)).mono hft); clear hft
                    have HR6 := Lib.hid ho; have HML := Lib.hid hmL; clear ho hmL
                    go_wp2_with (go_at_call 17; refine (HC.out).mono ?_; rintro e W3 ⟨A6, c6, rfl, ho6, hb6⟩)
                    clear HC
                    have hqA6 : blockOfP A6 ≠ some q := fun e => by have := (ho6.lt _ (by rw [block_sliceD]; exact e)).1; have := HQ2.out.lt; omega
                    have hbB : b < W2.heap.size := HS2.out.bW
                    have HO3 := Lib.hid ho6
                    have HS3 := Lib.hid (HS2.out.keep hb6)
                    have HQ3 := Lib.hid (HQ2.out.keep hb6)
                    clear ho6 hb6
                    refine wpAny_take (i := 7) (v := ?_) rfl (by kernel_rfl) (by kernel_rfl) (by kernel_rfl) (fun _ _ _ h => h) (Or.inl ⟨by kernel_rfl, ?_⟩) ?_
                    rotate_left
                    · (intro w; go_simp; first | done | with_reducible rfl)
                    conv => arg 7; simp [Act.put]
                    refine wpAny_take (i := 8) (v := ?_) rfl (by kernel_rfl) (by kernel_rfl) (by kernel_rfl) (fun _ _ _ h => h) (Or.inl ⟨by kernel_rfl, ?_⟩) ?_
                    rotate_left
                    · (intro w; go_simp; first | done | with_reducible rfl)
                    conv => arg 7; simp [Act.put]
                    refine wpAny_take (i := 9) (v := ?_) rfl (by kernel_rfl) (by kernel_rfl) (by kernel_rfl) (fun _ _ _ h => h) (Or.inl ⟨by kernel_rfl, ?_⟩) ?_
                    rotate_left
                    · (intro w; go_simp; first | done | with_reducible rfl)
                    conv => arg 7; simp [Act.put]
                    have HCUT := Lib.hid (HS3.out.cut (S := S) hqb hqA hqA6 HO3.out hbB HQ3.out)
                    have g0 := HQ3.out.c0; have g1 := HQ3.out.c1; have g2 := HQ3.out.f0; have g3 := HQ3.out.f1
                    obtain ⟨u0, g0⟩ := g0
                    obtain ⟨u1, g1⟩ := g1
                    refine wpAny_ready (rs := [11]) (by kernel_rfl) (by simp) ?_
                    refine AllReady.cons rfl (fun K hK => ?_) AllReady.nil
                    go_simp
                    refine hK _ _ ?_; clear hK K
                    refine wpAny_take (i := 12) (v := ?_) rfl (by kernel_rfl) (by kernel_rfl) (by kernel_rfl) (fun _ _ _ h => h) (Or.inl ⟨by kernel_rfl, ?_⟩) ?_
                    rotate_left
                    · (intro w; go_simp; first | done | with_reducible rfl)
                    conv => arg 7; simp [Act.put]
                    refine wpAny_done (by kernel_rfl) ?_ _
                    clear g0 g1 g2 g3
                    go_wp2_with fail
                    go_meet
                    exact ⟨q, S, L, mL, A6, c6, ok, rfl, rfl, HML.out, fun e => dropR_pg HPG.out (by rw [← e]; exact HR6.out), (PgCut.more (M2 := N + 1 + 8 * (k + 1)) HCUT.out (by omega))⟩
                focus
                  go_simp
                  refine hK _ _ ?_; clear hK K
                  have HS1 := Lib.hid (HS0.out.alloc (.cells #[.string ⟨#[]⟩, .slice none 0 0] 25))
                  have HQ1 := Lib.hid (QPg.new W0 (HS0.out.rd.lt))
                  have hqb : b < W0.heap.size := HS0.out.bW
                  have hqA : blockOfP A ≠ some W0.heap.size := HS0.out.nq (Nat.le_refl _)
                  generalize hqe : W0.heap.size = q at *
                  clear hqe
                  generalize W0.alloc (.cells #[.string ⟨#[]⟩, .slice none 0 0] 25) = W1 at *
                  refine wpAny_ready (rs := [5]) (by kernel_rfl) (by simp) ?_
                  refine AllReady.cons rfl (fun K hK => ?_) (AllReady.nil)
                  go_simp
                  go_wp2_with (go_at_call 55; refine (pick_any r (N + 1 + 8 * k + 1) (m : Int) W1 HS1.out.rd (by omega) (by omega)).mono ?_; rintro e W2 ⟨y, rfl, hy0, hy3, hr, hg⟩)
                  have HS2 := Lib.hid (HS1.out.grow hg hr)
                  have HQ2 := Lib.hid (HQ1.out.grow hg)
                  clear hr hg
                  refine wpAny_ready (rs := [6]) (by kernel_rfl) (by simp) ?_
                  refine AllReady.cons rfl (fun K hK => ?_) (AllReady.nil)
                  go_simp
                  obtain ⟨S, L, mL, ok, ho, hmL, hft⟩ := PgbPost.tell (dropR s l y) W2
                  have HC := Lib.hid ((sDrop_any s A m c l y W2 (HS2.out.page HPG.out) (own_none HS2.out.own)).mono hft); clear hft
                  have HR6 := Lib.hid ho; have HML := Lib.hid hmL; clear ho hmL
                  go_wp2_with (go_at_call 17; refine (HC.out).mono ?_; rintro e W3 ⟨A6, c6, rfl, ho6, hb6⟩)
                  clear HC
                  have hqA6 : blockOfP A6 ≠ some q := fun e => by have := (ho6.lt _ (by rw [block_sliceD]; exact e)).1; have := HQ2.out.lt; omega
                  have hbB : b < W2.heap.size := HS2.out.bW
                  have HO3 := Lib.hid ho6
                  have HS3 := Lib.hid (HS2.out.keep hb6)
                  have HQ3 := Lib.hid (HQ2.out.keep hb6)
                  clear ho6 hb6
                  refine wpAny_take (i := 7) (v := ?_) rfl (by kernel_rfl) (by kernel_rfl) (by kernel_rfl) (fun _ _ _ h => h) (Or.inl ⟨by kernel_rfl, ?_⟩) ?_
                  rotate_left
                  · (intro w; go_simp; first | done | with_reducible rfl)
                  conv => arg 7; simp [Act.put]
                  refine wpAny_take (i := 8) (v := ?_) rfl (by kernel_rfl) (by kernel_rfl) (by kernel_rfl) (fun _ _ _ h => h) (Or.inl ⟨by kernel_rfl, ?_⟩) ?_
                  rotate_left
                  · (intro w; go_simp; first | done | with_reducible rfl)
                  conv => arg 7; simp [Act.put]
                  refine wpAny_take (i := 9) (v := ?_) rfl (by kernel_rfl) (by kernel_rfl) (by kernel_rfl) (fun _ _ _ h => h) (Or.inl ⟨by kernel_rfl, ?_⟩) ?_
                  rotate_left
                  · (intro w; go_simp; first | done | with_reducible rfl)
                  conv => arg 7; simp [Act.put]
                  have HCUT := Lib.hid (HS3.out.cut (S := S) hqb hqA hqA6 HO3.out hbB HQ3.out)
                  have g0 := HQ3.out.c0; have g1 := HQ3.out.c1; have g2 := HQ3.out.f0; have g3 := HQ3.out.f1
                  obtain ⟨u0, g0⟩ := g0
                  obtain ⟨u1, g1⟩ := g1
                  refine wpAny_ready (rs := [11]) (by kernel_rfl) (by simp) ?_
                  refine AllReady.cons rfl (fun K hK => ?_) AllReady.nil
                  go_simp
                  refine hK _ _ ?_; clear hK K
                  refine wpAny_take (i := 12) (v := ?_) rfl (by kernel_rfl) (by kernel_rfl) (by kernel_rfl) (fun _ _ _ h => h) (Or.inl ⟨by kernel_rfl, ?_⟩) ?_
                  rotate_left
                  · (intro w; go_simp; first | done | with_reducible rfl)
                  conv => arg 7; simp [Act.put]
                  refine wpAny_done (by kernel_rfl) ?_ _
                  clear g0 g1 g2 g3
                  go_wp2_with fail
                  go_meet
                  exact ⟨q, S, L, mL, A6, c6, ok, rfl, rfl, HML.out, fun e => dropR_pg HPG.out (by rw [← e]; exact HR6.out), (PgCut.more (M2 := N + 1 + 8 * (k + 1)) HCUT.out (by omega))⟩
              focus
                go_simp
                go_wp2_with (go_at_call 55; refine (pick_any r (N + 1 + 8 * k + 1) (m : Int) W0 HS0.out.rd (by omega) (by omega)).mono ?_; rintro e W1 ⟨y, rfl, hy0, hy3, hr, hg⟩)
                have HS1 := Lib.hid (HS0.out.grow hg hr)
                clear hr hg
                refine wpAny_ready (rs := [0, 10]) (by kernel_rfl) (by simp) ?_
                refine AllReady.cons rfl (fun K hK => ?_) (AllReady.cons rfl (fun K hK => ?_) (AllReady.nil))
                focus
                  have a0 := HS1.out.p0
                  have a1 := HS1.out.p1
                  go_simp
                  refine hK _ _ ?_; clear hK K
                  clear a0 a1
                  refine wpAny_ready (rs := [6, 10]) (by kernel_rfl) (by simp) ?_
                  refine AllReady.cons rfl (fun K hK => ?_) (AllReady.cons rfl (fun K hK => ?_) (AllReady.nil))
                  focus
                    go_simp
                    obtain ⟨S, L, mL, ok, ho, hmL, hft⟩ := PgbPost.tell (dropR s l y) W1
                    have HC := Lib.hid ((sDrop_any s A m c l y W1 (HS1.out.page HPG.out) (own_none HS1.out.own)).mono hft); clear hft
                    have HR6 := Lib.hid ho; have HML := Lib.hid hmL; clear ho hmL
                    go_wp2_with (go_at_call 17; refine (HC.out).mono ?_; rintro e W2 ⟨A6, c6, rfl, ho6, hb6⟩)
                    clear HC
                    have hbB : b < W1.heap.size := HS1.out.bW
                    have HO2 := Lib.hid ho6
                    have HS2 := Lib.hid (HS1.out.keep hb6)
                    clear ho6 hb6
                    refine wpAny_take (i := 7) (v := ?_) rfl (by kernel_rfl) (by kernel_rfl) (by kernel_rfl) (fun _ _ _ h => h) (Or.inl ⟨by kernel_rfl, ?_⟩) ?_
                    rotate_left
                    · (intro w; go_simp; first | done | with_reducible rfl)
                    conv => arg 7; simp [Act.put]
                    refine wpAny_take (i := 8) (v := ?_) rfl (by kernel_rfl) (by kernel_rfl) (by kernel_rfl) (fun _ _ _ h => h) (Or.inl ⟨by kernel_rfl, ?_⟩) ?_
                    rotate_left
                    · (intro w; go_simp; first | done | with_reducible rfl)
                    conv => arg 7; simp [Act.put]
                    refine wpAny_take (i := 9) (v := ?_) rfl (by kernel_rfl) (by kernel_rfl) (by kernel_rfl) (fun _ _ _ h => h) (Or.inl ⟨by kernel_rfl, ?_⟩) ?_
                    rotate_left
                    · (intro w; go_simp; first | done | with_reducible rfl)
                    conv => arg 7; simp [Act.put]
                    refine wpAny_ready (rs := [10]) (by kernel_rfl) (by simp) ?_
                    refine AllReady.cons rfl (fun K hK => ?_) (AllReady.nil)
                    go_simp
                    refine hK _ _ ?_; clear hK K
                    have HS3 := Lib.hid (HS2.out.alloc (.cells #[.string ⟨#[]⟩, .slice none 0 0] 25))
                    have HQ3 := Lib.hid (QPg.new W2 (HS2.out.rd.lt))
                    have hqb : b < W2.heap.size := HS2.out.bW
                    have hqA : blockOfP A ≠ some W2.heap.size := HS2.out.nq (Nat.le_refl _)
                    have HO3 := Lib.hid (HO2.out.alloc (.cells #[.string ⟨#[]⟩, .slice none 0 0] 25))
                    have hqA6 : blockOfP A6 ≠ some W2.heap.size := fun e => by have := (HO2.out.lt _ (by rw [block_sliceD]; exact e)).2; omega
                    generalize hqe : W2.heap.size = q at *
                    clear hqe
                    generalize W2.alloc (.cells #[.string ⟨#[]⟩, .slice none 0 0] 25) = W3 at *
                    have HCUT := Lib.hid (HS3.out.cut (S := S) hqb hqA hqA6 HO3.out hbB HQ3.out)
                    have g0 := HQ3.out.c0; have g1 := HQ3.out.c1; have g2 := HQ3.out.f0; have g3 := HQ3.out.f1
                    obtain ⟨u0, g0⟩ := g0
                    obtain ⟨u1, g1⟩ := g1
                    refine wpAny_ready (rs := [11]) (by kernel_rfl) (by simp) ?_
                    refine AllReady.cons rfl (fun K hK => ?_) AllReady.nil
                    go_simp
                    refine hK _ _ ?_; clear hK K
                    refine wpAny_take (i := 12) (v := ?_) rfl (by kernel_rfl) (by kernel_rfl) (by kernel_rfl) (fun _ _ _ h => h) (Or.inl ⟨by kernel_rfl, ?_⟩) ?_
                    rotate_left
                    · (intro w; go_simp; first | done | with_reducible rfl)
                    conv => arg 7; simp [Act.put]
                    refine wpAny_done (by kernel_rfl) ?_ _
                    clear g0 g1 g2 g3
                    go_wp2_with fail
                    go_meet
                    exact ⟨q, S, L, mL, A6, c6, ok, rfl, rfl, HML.out, fun e => dropR_pg HPG.out (by rw [← e]; exact HR6.out), (PgCut.more (M2 := N + 1 + 8 * (k + 1)) HCUT.out (by omega))⟩
                  focus
                    go_simp
                    refine hK _ _ ?_; clear hK K
                    have HS2 := Lib.hid (HS1.out.alloc (.cells #[.string ⟨#[]⟩, .slice none 0 0] 25))
                    have HQ2 := Lib.hid (QPg.new W1 (HS1.out.rd.lt))
                    have hqb : b < W1.heap.size := HS1.out.bW
                    have hqA : blockOfP A ≠ some W1.heap.size := HS1.out.nq (Nat.le_refl _)
                    generalize hqe : W1.heap.size = q at *
                    clear hqe
                    generalize W1.alloc (.cells #[.string ⟨#[]⟩, .slice none 0 0] 25) = W2 at *
                    refine wpAny_ready (rs := [6]) (by kernel_rfl) (by simp) ?_
                    refine AllReady.cons rfl (fun K hK => ?_) (AllReady.nil)
                    go_simp
                    obtain ⟨S, L, mL, ok, ho, hmL, hft⟩ := PgbPost.tell (dropR s l y) W2
                    have HC := Lib.hid ((sDrop_any s A m c l y W2 (HS2.out.page HPG.out) (own_none HS2.out.own)).mono hft); clear hft
                    have HR6 := Lib.hid ho; have HML := Lib.hid hmL; clear ho hmL
                    go_wp2_with (go_at_call 17; refine (HC.out).mono ?_; rintro e W3 ⟨A6, c6, rfl, ho6, hb6⟩)
                    clear HC
                    have hqA6 : blockOfP A6 ≠ some q := fun e => by have := (ho6.lt _ (by rw [block_sliceD]; exact e)).1; have := HQ2.out.lt; omega
                    have hbB : b < W2.heap.size := HS2.out.bW
                    have HO3 := Lib.hid ho6
                    have HS3 := Lib.hid (HS2.out.keep hb6)
                    have HQ3 := Lib.hid (HQ2.out.keep hb6)
                    clear ho6 hb6
                    refine wpAny_take (i := 7) (v := ?_) rfl (by kernel_rfl) (by kernel_rfl) (by kernel_rfl) (fun _ _ _ h => h) (Or.inl ⟨by kernel_rfl, ?_⟩) ?_
                    rotate_left
                    · (intro w; go_simp; first | done | with_reducible rfl)
                    conv => arg 7; simp [Act.put]
                    refine wpAny_take (i := 8) (v := ?_) rfl (by kernel_rfl) (by kernel_rfl) (by kernel_rfl) (fun _ _ _ h => h) (Or.inl ⟨by kernel_rfl, ?_⟩) ?_
                    rotate_left
                    · (intro w; go_simp; first | done | with_reducible rfl)
                    conv => arg 7; simp [Act.put]
                    refine wpAny_take (i := 9) (v := ?_) rfl (by kernel_rfl) (by kernel_rfl) (by kernel_rfl) (fun _ _ _ h => h) (Or.inl ⟨by kernel_rfl, ?_⟩) ?_
                    rotate_left
                    · (intro w; go_simp; first | done | with_reducible rfl)
                    conv => arg 7; simp [Act.put]
                    have HCUT := Lib.hid (HS3.out.cut (S := S) hqb hqA hqA6 HO3.out hbB HQ3.out)
                    have g0 := HQ3.out.c0; have g1 := HQ3.out.c1; have g2 := HQ3.out.f0; have g3 := HQ3.out.f1
                    obtain ⟨u0, g0⟩ := g0
                    obtain ⟨u1, g1⟩ := g1
                    refine wpAny_ready (rs := [11]) (by kernel_rfl) (by simp) ?_
                    refine AllReady.cons rfl (fun K hK => ?_) AllReady.nil
                    go_simp
                    refine hK _ _ ?_; clear hK K
                    refine wpAny_take (i := 12) (v := ?_) rfl (by kernel_rfl) (by kernel_rfl) (by kernel_rfl) (fun _ _ _ h => h) (Or.inl ⟨by kernel_rfl, ?_⟩) ?_
                    rotate_left
                    · (intro w; go_simp; first | done | with_reducible rfl)
                    conv => arg 7; simp [Act.put]
                    refine wpAny_done (by kernel_rfl) ?_ _
                    clear g0 g1 g2 g3
                    go_wp2_with fail
                    go_meet
                    exact ⟨q, S, L, mL, A6, c6, ok, rfl, rfl, HML.out, fun e => dropR_pg HPG.out (by rw [← e]; exact HR6.out), (PgCut.more (M2 := N + 1 + 8 * (k + 1)) HCUT.out (by omega))⟩
                focus
                  go_simp
                  refine hK _ _ ?_; clear hK K
                  have HS2 := Lib.hid (HS1.out.alloc (.cells #[.string ⟨#[]⟩, .slice none 0 0] 25))
                  have HQ2 := Lib.hid (QPg.new W1 (HS1.out.rd.lt))
                  have hqb : b < W1.heap.size := HS1.out.bW
                  have hqA : blockOfP A ≠ some W1.heap.size := HS1.out.nq (Nat.le_refl _)
                  generalize hqe : W1.heap.size = q at *
                  clear hqe
                  generalize W1.alloc (.cells #[.string ⟨#[]⟩, .slice none 0 0] 25) = W2 at *
                  refine wpAny_ready (rs := [0]) (by kernel_rfl) (by simp) ?_
                  refine AllReady.cons rfl (fun K hK => ?_) (AllReady.nil)
                  have a0 := HS2.out.p0
                  have a1 := HS2.out.p1
                  go_simp
                  refine hK _ _ ?_; clear hK K
                  clear a0 a1
                  refine wpAny_ready (rs := [6]) (by kernel_rfl) (by simp) ?_
                  refine AllReady.cons rfl (fun K hK => ?_) (AllReady.nil)
                  go_simp
                  obtain ⟨S, L, mL, ok, ho, hmL, hft⟩ := PgbPost.tell (dropR s l y) W2
                  have HC := Lib.hid ((sDrop_any s A m c l y W2 (HS2.out.page HPG.out) (own_none HS2.out.own)).mono hft); clear hft
                  have HR6 := Lib.hid ho; have HML := Lib.hid hmL; clear ho hmL
                  go_wp2_with (go_at_call 17; refine (HC.out).mono ?_; rintro e W3 ⟨A6, c6, rfl, ho6, hb6⟩)
                  clear HC
                  have hqA6 : blockOfP A6 ≠ some q := fun e => by have := (ho6.lt _ (by rw [block_sliceD]; exact e)).1; have := HQ2.out.lt; omega
                  have hbB : b < W2.heap.size := HS2.out.bW
                  have HO3 := Lib.hid ho6
                  have HS3 := Lib.hid (HS2.out.keep hb6)
                  have HQ3 := Lib.hid (HQ2.out.keep hb6)
                  clear ho6 hb6
                  refine wpAny_take (i := 7) (v := ?_) rfl (by kernel_rfl) (by kernel_rfl) (by kernel_rfl) (fun _ _ _ h => h) (Or.inl ⟨by kernel_rfl, ?_⟩) ?_
                  rotate_left
                  · (intro w; go_simp; first | done | with_reducible rfl)
                  conv => arg 7; simp [Act.put]
                  refine wpAny_take (i := 8) (v := ?_) rfl (by kernel_rfl) (by kernel_rfl) (by kernel_rfl) (fun _ _ _ h => h) (Or.inl ⟨by kernel_rfl, ?_⟩) ?_
                  rotate_left
                  · (intro w; go_simp; first | done | with_reducible rfl)
                  conv => arg 7; simp [Act.put]
                  refine wpAny_take (i := 9) (v := ?_) rfl (by kernel_rfl) (by kernel_rfl) (by kernel_rfl) (fun _ _ _ h => h) (Or.inl ⟨by kernel_rfl, ?_⟩) ?_
                  rotate_left
                  · (intro w; go_simp; first | done | with_reducible rfl)
                  conv => arg 7; simp [Act.put]
                  have HCUT := Lib.hid (HS3.out.cut (S := S) hqb hqA hqA6 HO3.out hbB HQ3.out)
                  have g0 := HQ3.out.c0; have g1 := HQ3.out.c1; have g2 := HQ3.out.f0; have g3 := HQ3.out.f1
                  obtain ⟨u0, g0⟩ := g0
                  obtain ⟨u1, g1⟩ := g1
                  refine wpAny_ready (rs := [11]) (by kernel_rfl) (by simp) ?_
                  refine AllReady.cons rfl (fun K hK => ?_) AllReady.nil
                  go_simp
                  refine hK _ _ ?_; clear hK K
                  refine wpAny_take (i := 12) (v := ?_) rfl (by kernel_rfl) (by kernel_rfl) (by kernel_rfl) (fun _ _ _ h => h) (Or.inl ⟨by kernel_rfl, ?_⟩) ?_
                  rotate_left
                  · (intro w; go_simp; first | done | with_reducible rfl)
                  conv => arg 7; simp [Act.put]
                  refine wpAny_done (by kernel_rfl) ?_ _
                  clear g0 g1 g2 g3
                  go_wp2_with fail
                  go_meet
                  exact ⟨q, S, L, mL, A6, c6, ok, rfl, rfl, HML.out, fun e => dropR_pg HPG.out (by rw [← e]; exact HR6.out), (PgCut.more (M2 := N + 1 + 8 * (k + 1)) HCUT.out (by omega))⟩
              focus
                go_simp
                refine hK _ _ ?_; clear hK K
                have HS1 := Lib.hid (HS0.out.alloc (.cells #[.string ⟨#[]⟩, .slice none 0 0] 25))
                have HQ1 := Lib.hid (QPg.new W0 (HS0.out.rd.lt))
                have hqb : b < W0.heap.size := HS0.out.bW
                have hqA : blockOfP A ≠ some W0.heap.size := HS0.out.nq (Nat.le_refl _)
                generalize hqe : W0.heap.size = q at *
                clear hqe
                generalize W0.alloc (.cells #[.string ⟨#[]⟩, .slice none 0 0] 25) = W1 at *
                refine wpAny_ready (rs := [0, 5]) (by kernel_rfl) (by simp) ?_
                refine AllReady.cons rfl (fun K hK => ?_) (AllReady.cons rfl (fun K hK => ?_) (AllReady.nil))
                focus
                  have a0 := HS1.out.p0
                  have a1 := HS1.out.p1
                  go_simp
                  refine hK _ _ ?_; clear hK K
                  clear a0 a1
                  refine wpAny_ready (rs := [5]) (by kernel_rfl) (by simp) ?_
                  refine AllReady.cons rfl (fun K hK => ?_) (AllReady.nil)
                  go_simp
                  go_wp2_with (go_at_call 55; refine (pick_any r (N + 1 + 8 * k + 1) (m : Int) W1 HS1.out.rd (by omega) (by omega)).mono ?_; rintro e W2 ⟨y, rfl, hy0, hy3, hr, hg⟩)
                  have HS2 := Lib.hid (HS1.out.grow hg hr)
                  have HQ2 := Lib.hid (HQ1.out.grow hg)
                  clear hr hg
                  refine wpAny_ready (rs := [6]) (by kernel_rfl) (by simp) ?_
                  refine AllReady.cons rfl (fun K hK => ?_) (AllReady.nil)
                  go_simp
                  obtain ⟨S, L, mL, ok, ho, hmL, hft⟩ := PgbPost.tell (dropR s l y) W2
                  have HC := Lib.hid ((sDrop_any s A m c l y W2 (HS2.out.page HPG.out) (own_none HS2.out.own)).mono hft); clear hft
                  have HR6 := Lib.hid ho; have HML := Lib.hid hmL; clear ho hmL
                  go_wp2_with (go_at_call 17; refine (HC.out).mono ?_; rintro e W3 ⟨A6, c6, rfl, ho6, hb6⟩)
                  clear HC
                  have hqA6 : blockOfP A6 ≠ some q := fun e => by have := (ho6.lt _ (by rw [block_sliceD]; exact e)).1; have := HQ2.out.lt; omega
                  have hbB : b < W2.heap.size := HS2.out.bW
                  have HO3 := Lib.hid ho6
                  have HS3 := Lib.hid (HS2.out.keep hb6)
                  have HQ3 := Lib.hid (HQ2.out.keep hb6)
                  clear ho6 hb6
                  refine wpAny_take (i := 7) (v := ?_) rfl (by kernel_rfl) (by kernel_rfl) (by kernel_rfl) (fun _ _ _ h => h) (Or.inl ⟨by kernel_rfl, ?_⟩) ?_
                  rotate_left
                  · (intro w; go_simp; first | done | with_reducible rfl)
                  conv => arg 7; simp [Act.put]
                  refine wpAny_take (i := 8) (v := ?_) rfl (by kernel_rfl) (by kernel_rfl) (by kernel_rfl) (fun _ _ _ h => h) (Or.inl ⟨by kernel_rfl, ?_⟩) ?_
                  rotate_left
                  · (intro w; go_simp; first | done | with_reducible rfl)
                  conv => arg 7; simp [Act.put]
                  refine wpAny_take (i := 9) (v := ?_) rfl (by kernel_rfl) (by kernel_rfl) (by kernel_rfl) (fun _ _ _ h => h) (Or.inl ⟨by kernel_rfl, ?_⟩) ?_
                  rotate_left
                  · (intro w; go_simp; first | done | with_reducible rfl)
                  conv => arg 7; simp [Act.put]
                  have HCUT := Lib.hid (HS3.out.cut (S := S) hqb hqA hqA6 HO3.out hbB HQ3.out)
                  have g0 := HQ3.out.c0; have g1 := HQ3.out.c1; have g2 := HQ3.out.f0; have g3 := HQ3.out.f1
                  obtain ⟨u0, g0⟩ := g0
                  obtain ⟨u1, g1⟩ := g1
                  refine wpAny_ready (rs := [11]) (by kernel_rfl) (by simp) ?_
                  refine AllReady.cons rfl (fun K hK => ?_) AllReady.nil
                  go_simp
                  refine hK _ _ ?_; clear hK K
                  refine wpAny_take (i := 12) (v := ?_) rfl (by kernel_rfl) (by kernel_rfl) (by kernel_rfl) (fun _ _ _ h => h) (Or.inl ⟨by kernel_rfl, ?_⟩) ?_
                  rotate_left
                  · (intro w; go_simp; first | done | with_reducible rfl)
                  conv => arg 7; simp [Act.put]
                  refine wpAny_done (by kernel_rfl) ?_ _
                  clear g0 g1 g2 g3
                  go_wp2_with fail
                  go_meet
                  exact ⟨q, S, L, mL, A6, c6, ok, rfl, rfl, HML.out, fun e => dropR_pg HPG.out (by rw [← e]; exact HR6.out), (PgCut.more (M2 := N + 1 + 8 * (k + 1)) HCUT.out (by omega))⟩
                focus
                  go_simp
                  go_wp2_with (go_at_call 55; refine (pick_any r (N + 1 + 8 * k + 1) (m : Int) W1 HS1.out.rd (by omega) (by omega)).mono ?_; rintro e W2 ⟨y, rfl, hy0, hy3, hr, hg⟩)
                  have HS2 := Lib.hid (HS1.out.grow hg hr)
                  have HQ2 := Lib.hid (HQ1.out.grow hg)
                  clear hr hg
                  refine wpAny_ready (rs := [0]) (by kernel_rfl) (by simp) ?_
                  refine AllReady.cons rfl (fun K hK => ?_) (AllReady.nil)
                  have a0 := HS2.out.p0
                  have a1 := HS2.out.p1
                  go_simp
                  refine hK _ _ ?_; clear hK K
                  clear a0 a1
                  refine wpAny_ready (rs := [6]) (by kernel_rfl) (by simp) ?_
                  refine AllReady.cons rfl (fun K hK => ?_) (AllReady.nil)
                  go_simp
                  obtain ⟨S, L, mL, ok, ho, hmL, hft⟩ := PgbPost.tell (dropR s l y) W2
                  have HC := Lib.hid ((sDrop_any s A m c l y W2 (HS2.out.page HPG.out) (own_none HS2.out.own)).mono hft); clear hft
                  have HR6 := Lib.hid ho; have HML := Lib.hid hmL; clear ho hmL
                  go_wp2_with (go_at_call 17; refine (HC.out).mono ?_; rintro e W3 ⟨A6, c6, rfl, ho6, hb6⟩)
                  clear HC
                  have hqA6 : blockOfP A6 ≠ some q := fun e => by have := (ho6.lt _ (by rw [block_sliceD]; exact e)).1; have := HQ2.out.lt; omega
                  have hbB : b < W2.heap.size := HS2.out.bW
                  have HO3 := Lib.hid ho6
                  have HS3 := Lib.hid (HS2.out.keep hb6)
                  have HQ3 := Lib.hid (HQ2.out.keep hb6)
                  clear ho6 hb6
                  refine wpAny_take (i := 7) (v := ?_) rfl (by kernel_rfl) (by kernel_rfl) (by kernel_rfl) (fun _ _ _ h => h) (Or.inl ⟨by kernel_rfl, ?_⟩) ?_
                  rotate_left
                  · (intro w; go_simp; first | done | with_reducible rfl)
                  conv => arg 7; simp [Act.put]
                  refine wpAny_take (i := 8) (v := ?_) rfl (by kernel_rfl) (by kernel_rfl) (by kernel_rfl) (fun _ _ _ h => h) (Or.inl ⟨by kernel_rfl, ?_⟩) ?_
                  rotate_left
                  · (intro w; go_simp; first | done | with_reducible rfl)
                  conv => arg 7; simp [Act.put]
                  refine wpAny_take (i := 9) (v := ?_) rfl (by kernel_rfl) (by kernel_rfl) (by kernel_rfl) (fun _ _ _ h => h) (Or.inl ⟨by kernel_rfl, ?_⟩) ?_
                  rotate_left
                  · (intro w; go_simp; first | done | with_reducible rfl)
                  conv => arg 7; simp [Act.put]
                  have HCUT := Lib.hid (HS3.out.cut (S := S) hqb hqA hqA6 HO3.out hbB HQ3.out)
                  have g0 := HQ3.out.c0; have g1 := HQ3.out.c1; have g2 := HQ3.out.f0; have g3 := HQ3.out.f1
                  obtain ⟨u0, g0⟩ := g0
                  obtain ⟨u1, g1⟩ := g1
                  refine wpAny_ready (rs := [11]) (by kernel_rfl) (by simp) ?_
                  refine AllReady.cons rfl (fun K hK => ?_) AllReady.nil
                  go_simp
                  refine hK _ _ ?_; clear hK K
                  refine wpAny_take (i := 12) (v := ?_) rfl (by kernel_rfl) (by kernel_rfl) (by kernel_rfl) (fun _ _ _ h => h) (Or.inl ⟨by kernel_rfl, ?_⟩) ?_
                  rotate_left
                  · (intro w; go_simp; first | done | with_reducible rfl)
                  conv => arg 7; simp [Act.put]
                  refine wpAny_done (by kernel_rfl) ?_ _
                  clear g0 g1 g2 g3
                  go_wp2_with fail
                  go_meet
                  exact ⟨q, S, L, mL, A6, c6, ok, rfl, rfl, HML.out, fun e => dropR_pg HPG.out (by rw [← e]; exact HR6.out), (PgCut.more (M2 := N + 1 + 8 * (k + 1)) HCUT.out (by omega))⟩
            focus
              go_simp
              refine hK _ _ ?_; clear hK K
              have HS1 := Lib.hid (HS0.out.alloc (.cells #[.string ⟨#[]⟩, .slice none 0 0] 25))
              have HQ1 := Lib.hid (QPg.new W0 (HS0.out.rd.lt))
              have hqb : b < W0.heap.size := HS0.out.bW
              have hqA : blockOfP A ≠ some W0.heap.size := HS0.out.nq (Nat.le_refl _)
              generalize hqe : W0.heap.size = q at *
              clear hqe
              generalize W0.alloc (.cells #[.string ⟨#[]⟩, .slice none 0 0] 25) = W1 at *
              refine wpAny_ready (rs := [0, 3]) (by kernel_rfl) (by simp) ?_
              refine AllReady.cons rfl (fun K hK => ?_) (AllReady.cons rfl (fun K hK => ?_) (AllReady.nil))
              focus
                have a0 := HS1.out.p0
                have a1 := HS1.out.p1
                go_simp
                refine hK _ _ ?_; clear hK K
                clear a0 a1
                refine wpAny_ready (rs := [3]) (by kernel_rfl) (by simp) ?_
                refine AllReady.cons rfl (fun K hK => ?_) (AllReady.nil)
                have a0 := HS1.out.p0
                have a1 := HS1.out.p1
                go_simp
                refine hK _ _ ?_; clear hK K
                clear a0 a1
                refine wpAny_take (i := 4) (v := ?_) rfl (by kernel_rfl) (by kernel_rfl) (by kernel_rfl) (fun _ _ _ h => h) (Or.inl ⟨by kernel_rfl, ?_⟩) ?_
                rotate_left
                · (intro w; go_simp; first | done | with_reducible rfl)
                conv => arg 7; simp [Act.put]
                refine wpAny_ready (rs := [5]) (by kernel_rfl) (by simp) ?_
                refine AllReady.cons rfl (fun K hK => ?_) (AllReady.nil)
                go_simp
                go_wp2_with (go_at_call 55; refine (pick_any r (N + 1 + 8 * k + 1) (m : Int) W1 HS1.out.rd (by omega) (by omega)).mono ?_; rintro e W2 ⟨y, rfl, hy0, hy3, hr, hg⟩)
                have HS2 := Lib.hid (HS1.out.grow hg hr)
                have HQ2 := Lib.hid (HQ1.out.grow hg)
                clear hr hg
                refine wpAny_ready (rs := [6]) (by kernel_rfl) (by simp) ?_
                refine AllReady.cons rfl (fun K hK => ?_) (AllReady.nil)
                go_simp
                obtain ⟨S, L, mL, ok, ho, hmL, hft⟩ := PgbPost.tell (dropR s l y) W2
                have HC := Lib.hid ((sDrop_any s A m c l y W2 (HS2.out.page HPG.out) (own_none HS2.out.own)).mono hft); clear hft
                have HR6 := Lib.hid ho; have HML := Lib.hid hmL; clear ho hmL
                go_wp2_with (go_at_call 17; refine (HC.out).mono ?_; rintro e W3 ⟨A6, c6, rfl, ho6, hb6⟩)
                clear HC
                have hqA6 : blockOfP A6 ≠ some q := fun e => by have := (ho6.lt _ (by rw [block_sliceD]; exact e)).1; have := HQ2.out.lt; omega
                have hbB : b < W2.heap.size := HS2.out.bW
                have HO3 := Lib.hid ho6
                have HS3 := Lib.hid (HS2.out.keep hb6)
                have HQ3 := Lib.hid (HQ2.out.keep hb6)
                clear ho6 hb6
                refine wpAny_take (i := 7) (v := ?_) rfl (by kernel_rfl) (by kernel_rfl) (by kernel_rfl) (fun _ _ _ h => h) (Or.inl ⟨by kernel_rfl, ?_⟩) ?_
                rotate_left
                · (intro w; go_simp; first | done | with_reducible rfl)
                conv => arg 7; simp [Act.put]
                refine wpAny_take (i := 8) (v := ?_) rfl (by kernel_rfl) (by kernel_rfl) (by kernel_rfl) (fun _ _ _ h => h) (Or.inl ⟨by kernel_rfl, ?_⟩) ?_
                rotate_left
                · (intro w; go_simp; first | done | with_reducible rfl)
                conv => arg 7; simp [Act.put]
                refine wpAny_take (i := 9) (v := ?_) rfl (by kernel_rfl) (by kernel_rfl) (by kernel_rfl) (fun _ _ _ h => h) (Or.inl ⟨by kernel_rfl, ?_⟩) ?_
                rotate_left
                · (intro w; go_simp; first | done | with_reducible rfl)
                conv => arg 7; simp [Act.put]
                have HCUT := Lib.hid (HS3.out.cut (S := S) hqb hqA hqA6 HO3.out hbB HQ3.out)
                have g0 := HQ3.out.c0; have g1 := HQ3.out.c1; have g2 := HQ3.out.f0; have g3 := HQ3.out.f1
                obtain ⟨u0, g0⟩ := g0
                obtain ⟨u1, g1⟩ := g1
                refine wpAny_ready (rs := [11]) (by kernel_rfl) (by simp) ?_
                refine AllReady.cons rfl (fun K hK => ?_) AllReady.nil
                go_simp
                refine hK _ _ ?_; clear hK K
                refine wpAny_take (i := 12) (v := ?_) rfl (by kernel_rfl) (by kernel_rfl) (by kernel_rfl) (fun _ _ _ h => h) (Or.inl ⟨by kernel_rfl, ?_⟩) ?_
                rotate_left
                · (intro w; go_simp; first | done | with_reducible rfl)
                conv => arg 7; simp [Act.put]
                refine wpAny_done (by kernel_rfl) ?_ _
                clear g0 g1 g2 g3
                go_wp2_with fail
                go_meet
                exact ⟨q, S, L, mL, A6, c6, ok, rfl, rfl, HML.out, fun e => dropR_pg HPG.out (by rw [← e]; exact HR6.out), (PgCut.more (M2 := N + 1 + 8 * (k + 1)) HCUT.out (by omega))⟩
              focus
                have a0 := HS1.out.p0
                have a1 := HS1.out.p1
                go_simp
                refine hK _ _ ?_; clear hK K
                clear a0 a1
                refine wpAny_take (i := 4) (v := ?_) rfl (by kernel_rfl) (by kernel_rfl) (by kernel_rfl) (fun _ _ _ h => h) (Or.inl ⟨by kernel_rfl, ?_⟩) ?_
                rotate_left
                · (intro w; go_simp; first | done | with_reducible rfl)
                conv => arg 7; simp [Act.put]
                refine wpAny_ready (rs := [0, 5]) (by kernel_rfl) (by simp) ?_
                refine AllReady.cons rfl (fun K hK => ?_) (AllReady.cons rfl (fun K hK => ?_) (AllReady.nil))
                focus
                  have a0 := HS1.out.p0
                  have a1 := HS1.out.p1
                  go_simp
                  refine hK _ _ ?_; clear hK K
                  clear a0 a1
                  refine wpAny_ready (rs := [5]) (by kernel_rfl) (by simp) ?_
                  refine AllReady.cons rfl (fun K hK => ?_) (AllReady.nil)
                  go_simp
                  go_wp2_with (go_at_call 55; refine (pick_any r (N + 1 + 8 * k + 1) (m : Int) W1 HS1.out.rd (by omega) (by omega)).mono ?_; rintro e W2 ⟨y, rfl, hy0, hy3, hr, hg⟩)
                  have HS2 := Lib.hid (HS1.out.grow hg hr)
                  have HQ2 := Lib.hid (HQ1.out.grow hg)
                  clear hr hg
                  refine wpAny_ready (rs := [6]) (by kernel_rfl) (by simp) ?_
                  refine AllReady.cons rfl (fun K hK => ?_) (AllReady.nil)
                  go_simp
                  obtain ⟨S, L, mL, ok, ho, hmL, hft⟩ := PgbPost.tell (dropR s l y) W2
                  have HC := Lib.hid ((sDrop_any s A m c l y W2 (HS2.out.page HPG.out) (own_none HS2.out.own)).mono hft); clear hft
                  have HR6 := Lib.hid ho; have HML := Lib.hid hmL; clear ho hmL
                  go_wp2_with (go_at_call 17; refine (HC.out).mono ?_; rintro e W3 ⟨A6, c6, rfl, ho6, hb6⟩)
                  clear HC
                  have hqA6 : blockOfP A6 ≠ some q := fun e => by have := (ho6.lt _ (by rw [block_sliceD]; exact e)).1; have := HQ2.out.lt; omega
                  have hbB : b < W2.heap.size := HS2.out.bW
                  have HO3 := Lib.hid ho6
                  have HS3 := Lib.hid (HS2.out.keep hb6)
                  have HQ3 := Lib.hid (HQ2.out.keep hb6)
                  clear ho6 hb6
                  refine wpAny_take (i := 7) (v := ?_) rfl (by kernel_rfl) (by kernel_rfl) (by kernel_rfl) (fun _ _ _ h => h) (Or.inl ⟨by kernel_rfl, ?_⟩) ?_
                  rotate_left
                  · (intro w; go_simp; first | done | with_reducible rfl)
                  conv => arg 7; simp [Act.put]
                  refine wpAny_take (i := 8) (v := ?_) rfl (by kernel_rfl) (by kernel_rfl) (by kernel_rfl) (fun _ _ _ h => h) (Or.inl ⟨by kernel_rfl, ?_⟩) ?_
                  rotate_left
                  · (intro w; go_simp; first | done | with_reducible rfl)
                  conv => arg 7; simp [Act.put]
                  refine wpAny_take (i := 9) (v := ?_) rfl (by kernel_rfl) (by kernel_rfl) (by kernel_rfl) (fun _ _ _ h => h) (Or.inl ⟨by kernel_rfl, ?_⟩) ?_
                  rotate_left
                  · (intro w; go_simp; first | done | with_reducible rfl)
                  conv => arg 7; simp [Act.put]
                  have HCUT := Lib.hid (HS3.out.cut (S := S) hqb hqA hqA6 HO3.out hbB HQ3.out)
                  have g0 := HQ3.out.c0; have g1 := HQ3.out.c1; have g2 := HQ3.out.f0; have g3 := HQ3.out.f1
                  obtain ⟨u0, g0⟩ := g0
                  obtain ⟨u1, g1⟩ := g1
                  refine wpAny_ready (rs := [11]) (by kernel_rfl) (by simp) ?_
                  refine AllReady.cons rfl (fun K hK => ?_) AllReady.nil
                  go_simp
                  refine hK _ _ ?_; clear hK K
                  refine wpAny_take (i := 12) (v := ?_) rfl (by kernel_rfl) (by kernel_rfl) (by kernel_rfl) (fun _ _ _ h => h) (Or.inl ⟨by kernel_rfl, ?_⟩) ?_
                  rotate_left
                  · (intro w; go_simp; first | done | with_reducible rfl)
                  conv => arg 7; simp [Act.put]
                  refine wpAny_done (by kernel_rfl) ?_ _
                  clear g0 g1 g2 g3
                  go_wp2_with fail
                  go_meet
                  exact ⟨q, S, L, mL, A6, c6, ok, rfl, rfl, HML.out, fun e => dropR_pg HPG.out (by rw [← e]; exact HR6.out), (PgCut.more (M2 := N + 1 + 8 * (k + 1)) HCUT.out (by omega))⟩
                focus
                  go_simp
                  go_wp2_with (go_at_call 55; refine (pick_any r (N + 1 + 8 * k + 1) (m : Int) W1 HS1.out.rd (by omega) (by omega)).mono ?_; rintro e W2 ⟨y, rfl, hy0, hy3, hr, hg⟩)
                  have HS2 := Lib.hid (HS1.out.grow hg hr)
                  have HQ2 := Lib.hid (HQ1.out.grow hg)
                  clear hr hg
                  refine wpAny_ready (rs := [0]) (by kernel_rfl) (by simp) ?_
                  refine AllReady.cons rfl (fun K hK => ?_) (AllReady.nil)
                  have a0 := HS2.out.p0
                  have a1 := HS2.out.p1
                  go_simp
                  refine hK _ _ ?_; clear hK K
                  clear a0 a1
                  refine wpAny_ready (rs := [6]) (by kernel_rfl) (by simp) ?_
                  refine AllReady.cons rfl (fun K hK => ?_) (AllReady.nil)
                  go_simp
                  obtain ⟨S, L, mL, ok, ho, hmL, hft⟩ := PgbPost.tell (dropR s l y) W2
                  have HC := Lib.hid ((sDrop_any s A m c l y W2 (HS2.out.page HPG.out) (own_none HS2.out.own)).mono hft); clear hft
                  have HR6 := Lib.hid ho; have HML := Lib.hid hmL; clear ho hmL
                  go_wp2_with (go_at_call 17; refine (HC.out).mono ?_; rintro e W3 ⟨A6, c6, rfl, ho6, hb6⟩)
                  clear HC
                  have hqA6 : blockOfP A6 ≠ some q := fun e => by have := (ho6.lt _ (by rw [block_sliceD]; exact e)).1; have := HQ2.out.lt; omega
                  have hbB : b < W2.heap.size := HS2.out.bW
                  have HO3 := Lib.hid ho6
                  have HS3 := Lib.hid (HS2.out.keep hb6)
                  have HQ3 := Lib.hid (HQ2.out.keep hb6)
                  clear ho6 hb6
                  refine wpAny_take (i := 7) (v := ?_) rfl (by kernel_rfl) (by kernel_rfl) (by kernel_rfl) (fun _ _ _ h => h) (Or.inl ⟨by kernel_rfl, ?_⟩) ?_
                  rotate_left
                  · (intro w; go_simp; first | done | with_reducible rfl)
                  conv => arg 7; simp [Act.put]
                  refine wpAny_take (i := 8) (v := ?_) rfl (by kernel_rfl) (by kernel_rfl) (by kernel_rfl) (fun _ _ _ h => h) (Or.inl ⟨by kernel_rfl, ?_⟩) ?_
                  rotate_left
                  · (intro w; go_simp; first | done | with_reducible rfl)
                  conv => arg 7; simp [Act.put]
                  refine wpAny_take (i := 9) (v := ?_) rfl (by kernel_rfl) (by kernel_rfl) (by kernel_rfl) (fun _ _ _ h => h) (Or.inl ⟨by kernel_rfl, ?_⟩) ?_
                  rotate_left
                  · (intro w; go_simp; first | done | with_reducible rfl)
                  conv => arg 7; simp [Act.put]
                  have HCUT := Lib.hid (HS3.out.cut (S := S) hqb hqA hqA6 HO3.out hbB HQ3.out)
                  have g0 := HQ3.out.c0; have g1 := HQ3.out.c1; have g2 := HQ3.out.f0; have g3 := HQ3.out.f1
                  obtain ⟨u0, g0⟩ := g0
                  obtain ⟨u1, g1⟩ := g1
                  refine wpAny_ready (rs := [11]) (by kernel_rfl) (by simp) ?_
                  refine AllReady.cons rfl (fun K hK => ?_) AllReady.nil
                  go_simp
                  refine hK _ _ ?_; clear hK K
                  refine wpAny_take (i := 12) (v := ?_) rfl (by kernel_rfl) (by kernel_rfl) (by kernel_rfl) (fun _ _ _ h => h) (Or.inl ⟨by kernel_rfl, ?_⟩) ?_
                  rotate_left
                  · (intro w; go_simp; first | done | with_reducible rfl)
                  conv => arg 7; simp [Act.put]
                  refine wpAny_done (by kernel_rfl) ?_ _
                  clear g0 g1 g2 g3
                  go_wp2_with fail
                  go_meet
                  exact ⟨q, S, L, mL, A6, c6, ok, rfl, rfl, HML.out, fun e => dropR_pg HPG.out (by rw [← e]; exact HR6.out), (PgCut.more (M2 := N + 1 + 8 * (k + 1)) HCUT.out (by omega))⟩
          case rest =>
            obtain ⟨q, S, L, mL, A6, c6, ok, rfl, rfl, hmL, hok, hcut⟩ := hcut
            have HCUT := Lib.hid hcut; have HML := Lib.hid hmL; have HOK := Lib.hid hok; clear hcut hmL hok
            have e0 := HCUT.out.e0
            have e1 := HCUT.out.e1
            have q0 := HCUT.out.pg.q0
            have q1 := HCUT.out.pg.q1
            have p0 := HCUT.out.pg.p0
            have p1 := HCUT.out.pg.p1
            cases ok
            · go_wp2_with fail
              go_roundw
              case rel => exact ⟨⟨k + 1, n, m, s, l, A, c, by go_num, by omega, HPG.out, HCUT.out.pg⟩⟩
              case measure => simp [intOf]
            · obtain ⟨B, hB, hoB⟩ := HCUT.out.own
              have HOB := Lib.hid hoB; clear hoB
              go_wp2_with fail
              go_roundw
              case rel => exact ⟨⟨k + 1, n, mL, S, L, A6, c6, by go_num, by omega, HOK.out rfl, HCUT.out.pg.put HOB.out HML.out hB⟩⟩
              case measure => simp [intOf]
        · go_wp2_with fail
          go_cut [7, 8, 9] (fun s7 s8 s9 wx => ∃ (q : Nat) (S : ByteArray) (L : List Sl) (mL : Nat) (A6 : Option Addr) (c6 : Nat) (av : Int) (ok : Bool), s7 = .pointer (some ⟨q, 0, none⟩) ∧ s8 = .int .i64 av ∧ s9 = .bool ok ∧ mL = L.length ∧ (ok = true → Pg S L) ∧ PgCut w r b q m (N + 1 + 8 * (k + 1)) s l A c S L mL A6 c6 wx)
          case first =>
            refine wp_region_any (by kernel_rfl) ?_
            try (change wpAny _ _ _ _ _ _ _ (World.drew _))
            have HS0 := Lib.hid HS4.out.drew
            generalize hW0 : wc.drew = W0 at HS0 ⊢
            clear hW0
            refine wpAny_take (i := 1) (v := ?_) rfl (by kernel_rfl) (by kernel_rfl) (by kernel_rfl) (fun _ _ _ h => h) (Or.inl ⟨by kernel_rfl, ?_⟩) ?_
            rotate_left
            · (intro w; go_simp; first | done | with_reducible rfl)
            conv => arg 7; simp [Act.put]
            refine wpAny_take (i := 4) (v := ?_) rfl (by kernel_rfl) (by kernel_rfl) (by kernel_rfl) (fun _ _ _ h => h) (Or.inl ⟨by kernel_rfl, ?_⟩) ?_
            rotate_left
            · (intro w; go_simp; first | done | with_reducible rfl)
            conv => arg 7; simp [Act.put]
            refine wpAny_ready (rs := [0, 2, 12]) (by kernel_rfl) (by simp) ?_
            refine AllReady.cons rfl (fun K hK => ?_) (AllReady.cons rfl (fun K hK => ?_) (AllReady.cons rfl (fun K hK => ?_) (AllReady.nil)))
            focus
              have a0 := HS0.out.p0
              have a1 := HS0.out.p1
              go_simp
              refine hK _ _ ?_; clear hK K
              clear a0 a1
              refine wpAny_ready (rs := [2, 12]) (by kernel_rfl) (by simp) ?_
              refine AllReady.cons rfl (fun K hK => ?_) (AllReady.cons rfl (fun K hK => ?_) (AllReady.nil))
              focus
                go_simp
                go_wp2_with (go_at_call 83; refine (goodKey_any r (N + 1 + 8 * k + 1) W0 HS0.out.rd (by omega)).mono ?_; rintro e W1 ⟨s1, rfl, hs1, hr, hg⟩)
                have j1 : ¬ (9223372036854775807 < s1.size + 1) := by omega
                have HS1 := Lib.hid (HS0.out.grow hg hr)
                clear hr hg
                refine wpAny_take (i := 3) (v := ?_) rfl (by kernel_rfl) (by kernel_rfl) (by kernel_rfl) (fun _ _ _ h => h) (Or.inl ⟨by kernel_rfl, ?_⟩) ?_
                rotate_left
                · (intro w; go_simp; first | done | with_reducible rfl)
                conv => arg 7; simp [Act.put]
                refine wpAny_ready (rs := [5, 12]) (by kernel_rfl) (by simp) ?_
                refine AllReady.cons rfl (fun K hK => ?_) (AllReady.cons rfl (fun K hK => ?_) (AllReady.nil))
                focus
                  go_simp
                  go_wp2_with (go_at_call 101; refine (goodValue_any r ((N + 1 + 8 * k + 1) + 3) W1 HS1.out.rd (by omega)).mono ?_; rintro e W2 ⟨s2, rfl, hs2, hr, hg⟩)
                  have j2 : ¬ (9223372036854775807 < s1.size + 1 + s2.size) := by omega
                  have HS2 := Lib.hid (HS1.out.grow hg hr)
                  clear hr hg
                  refine wpAny_take (i := 6) (v := ?_) rfl (by kernel_rfl) (by kernel_rfl) (by kernel_rfl) (fun _ _ _ h => h) (Or.inl ⟨by kernel_rfl, ?_⟩) ?_
                  rotate_left
                  · (intro w; go_simp; first | done | with_reducible rfl)
                  conv => arg 7; simp [Act.put]
                  obtain ⟨cell, hcell⟩ : ∃ cell : ByteArray, cell = s1 ++ ⟨#[61]⟩ ++ s2 := ⟨_, rfl⟩
                  have hcl : cell.size ≤ maxLen := by rw [hcell]; exact cell_len hs1 hs2 (by decide) (by decide)
                  rw [← hcell]
                  clear hcell
                  refine wpAny_ready (rs := [7, 12]) (by kernel_rfl) (by simp) ?_
                  refine AllReady.cons rfl (fun K hK => ?_) (AllReady.cons rfl (fun K hK => ?_) (AllReady.nil))
                  focus
                    go_simp
                    obtain ⟨S, L, mL, av, ok, ho, hmL, hft⟩ := Pg3Post.tell (putR s l cell) W2
                    have HC := Lib.hid ((sPut_any s A m c l cell W2 (HS2.out.page HPG.out) (own_none HS2.out.own) hcl).mono hft); clear hft
                    have HR6 := Lib.hid ho; have HML := Lib.hid hmL; clear ho hmL
                    go_wp2_with (go_at_call 100; refine (HC.out).mono ?_; rintro e W3 ⟨A6, c6, rfl, ho6, hb6⟩)
                    clear HC
                    have hbB : b < W2.heap.size := HS2.out.bW
                    have HO3 := Lib.hid ho6
                    have HS3 := Lib.hid (HS2.out.keep hb6)
                    clear ho6 hb6
                    refine wpAny_take (i := 8) (v := ?_) rfl (by kernel_rfl) (by kernel_rfl) (by kernel_rfl) (fun _ _ _ h => h) (Or.inl ⟨by kernel_rfl, ?_⟩) ?_
                    rotate_left
                    · (intro w; go_simp; first | done | with_reducible rfl)
                    conv => arg 7; simp [Act.put]
                    refine wpAny_take (i := 9) (v := ?_) rfl (by kernel_rfl) (by kernel_rfl) (by kernel_rfl) (fun _ _ _ h => h) (Or.inl ⟨by kernel_rfl, ?_⟩) ?_
                    rotate_left
                    · (intro w; go_simp; first | done | with_reducible rfl)
                    conv => arg 7; simp [Act.put]
                    refine wpAny_take (i := 10) (v := ?_) rfl (by kernel_rfl) (by kernel_rfl) (by kernel_rfl) (fun _ _ _ h => h) (Or.inl ⟨by kernel_rfl, ?_⟩) ?_
                    rotate_left
                    · (intro w; go_simp; first | done | with_reducible rfl)
                    conv => arg 7; simp [Act.put]
                    refine wpAny_take (i := 11) (v := ?_) rfl (by kernel_rfl) (by kernel_rfl) (by kernel_rfl) (fun _ _ _ h => h) (Or.inl ⟨by kernel_rfl, ?_⟩) ?_
                    rotate_left
                    · (intro w; go_simp; first | done | with_reducible rfl)
                    conv => arg 7; simp [Act.put]
                    refine wpAny_ready (rs := [12]) (by kernel_rfl) (by simp) ?_
                    refine AllReady.cons rfl (fun K hK => ?_) (AllReady.nil)
                    go_simp
                    refine hK _ _ ?_; clear hK K
                    have HS4 := Lib.hid (HS3.out.alloc (.cells #[.string ⟨#[]⟩, .slice none 0 0] 25))
                    have HQ4 := Lib.hid (QPg.new W3 (HS3.out.rd.lt))
                    have hqb : b < W3.heap.size := HS3.out.bW
                    have hqA : blockOfP A ≠ some W3.heap.size := HS3.out.nq (Nat.le_refl _)
                    have HO4 := Lib.hid (HO3.out.alloc (.cells #[.string ⟨#[]⟩, .slice none 0 0] 25))
                    have hqA6 : blockOfP A6 ≠ some W3.heap.size := fun e => by have := (HO3.out.lt _ (by rw [block_sliceD]; exact e)).2; omega
                    generalize hqe : W3.heap.size = q at *
                    clear hqe
                    generalize W3.alloc (.cells #[.string ⟨#[]⟩, .slice none 0 0] 25) = W4 at *
                    have HCUT := Lib.hid (HS4.out.cut (S := S) hqb hqA hqA6 HO4.out hbB HQ4.out)
                    have g0 := HQ4.out.c0; have g1 := HQ4.out.c1; have g2 := HQ4.out.f0; have g3 := HQ4.out.f1
                    obtain ⟨u0, g0⟩ := g0
                    obtain ⟨u1, g1⟩ := g1
                    refine wpAny_ready (rs := [13]) (by kernel_rfl) (by simp) ?_
                    refine AllReady.cons rfl (fun K hK => ?_) AllReady.nil
                    go_simp
                    refine hK _ _ ?_; clear hK K
                    refine wpAny_take (i := 14) (v := ?_) rfl (by kernel_rfl) (by kernel_rfl) (by kernel_rfl) (fun _ _ _ h => h) (Or.inl ⟨by kernel_rfl, ?_⟩) ?_
                    rotate_left
                    · (intro w; go_simp; first | done | with_reducible rfl)
                    conv => arg 7; simp [Act.put]
                    refine wpAny_take (i := 15) (v := ?_) rfl (by kernel_rfl) (by kernel_rfl) (by kernel_rfl) (fun _ _ _ h => h) (Or.inl ⟨by kernel_rfl, ?_⟩) ?_
                    rotate_left
                    · (intro w; go_simp; first | done | with_reducible rfl)
                    conv => arg 7; simp [Act.put]
                    refine wpAny_done (by kernel_rfl) ?_ _
                    clear g0 g1 g2 g3
                    go_wp2_with fail
                    go_meet
                    exact ⟨q, S, L, mL, A6, c6, av, ok, rfl, rfl, rfl, HML.out, fun e => putR_pg HPG.out (by rw [← e]; exact HR6.out), (PgCut.more (M2 := N + 1 + 8 * (k + 1)) HCUT.out (by omega))⟩
                  focus
                    go_simp
                    refine hK _ _ ?_; clear hK K
                    have HS3 := Lib.hid (HS2.out.alloc (.cells #[.string ⟨#[]⟩, .slice none 0 0] 25))
                    have HQ3 := Lib.hid (QPg.new W2 (HS2.out.rd.lt))
                    have hqb : b < W2.heap.size := HS2.out.bW
                    have hqA : blockOfP A ≠ some W2.heap.size := HS2.out.nq (Nat.le_refl _)
                    generalize hqe : W2.heap.size = q at *
                    clear hqe
                    generalize W2.alloc (.cells #[.string ⟨#[]⟩, .slice none 0 0] 25) = W3 at *
                    refine wpAny_ready (rs := [7]) (by kernel_rfl) (by simp) ?_
                    refine AllReady.cons rfl (fun K hK => ?_) (AllReady.nil)
                    go_simp
                    obtain ⟨S, L, mL, av, ok, ho, hmL, hft⟩ := Pg3Post.tell (putR s l cell) W3
                    have HC := Lib.hid ((sPut_any s A m c l cell W3 (HS3.out.page HPG.out) (own_none HS3.out.own) hcl).mono hft); clear hft
                    have HR6 := Lib.hid ho; have HML := Lib.hid hmL; clear ho hmL
                    go_wp2_with (go_at_call 100; refine (HC.out).mono ?_; rintro e W4 ⟨A6, c6, rfl, ho6, hb6⟩)
                    clear HC
                    have hqA6 : blockOfP A6 ≠ some q := fun e => by have := (ho6.lt _ (by rw [block_sliceD]; exact e)).1; have := HQ3.out.lt; omega
                    have hbB : b < W3.heap.size := HS3.out.bW
                    have HO4 := Lib.hid ho6
                    have HS4 := Lib.hid (HS3.out.keep hb6)
                    have HQ4 := Lib.hid (HQ3.out.keep hb6)
                    clear ho6 hb6
                    refine wpAny_take (i := 8) (v := ?_) rfl (by kernel_rfl) (by kernel_rfl) (by kernel_rfl) (fun _ _ _ h => h) (Or.inl ⟨by kernel_rfl, ?_⟩) ?_
                    rotate_left
                    · (intro w; go_simp; first | done | with_reducible rfl)
                    conv => arg 7; simp [Act.put]
                    refine wpAny_take (i := 9) (v := ?_) rfl (by kernel_rfl) (by kernel_rfl) (by kernel_rfl) (fun _ _ _ h => h) (Or.inl ⟨by kernel_rfl, ?_⟩) ?_
                    rotate_left
                    · (intro w; go_simp; first | done | with_reducible rfl)
                    conv => arg 7; simp [Act.put]
                    refine wpAny_take (i := 10) (v := ?_) rfl (by kernel_rfl) (by kernel_rfl) (by kernel_rfl) (fun _ _ _ h => h) (Or.inl ⟨by kernel_rfl, ?_⟩) ?_
                    rotate_left
                    · (intro w; go_simp; first | done | with_reducible rfl)
                    conv => arg 7; simp [Act.put]
                    refine wpAny_take (i := 11) (v := ?_) rfl (by kernel_rfl) (by kernel_rfl) (by kernel_rfl) (fun _ _ _ h => h) (Or.inl ⟨by kernel_rfl, ?_⟩) ?_
                    rotate_left
                    · (intro w; go_simp; first | done | with_reducible rfl)
                    conv => arg 7; simp [Act.put]
                    have HCUT := Lib.hid (HS4.out.cut (S := S) hqb hqA hqA6 HO4.out hbB HQ4.out)
                    have g0 := HQ4.out.c0; have g1 := HQ4.out.c1; have g2 := HQ4.out.f0; have g3 := HQ4.out.f1
                    obtain ⟨u0, g0⟩ := g0
                    obtain ⟨u1, g1⟩ := g1
                    refine wpAny_ready (rs := [13]) (by kernel_rfl) (by simp) ?_
                    refine AllReady.cons rfl (fun K hK => ?_) AllReady.nil
                    go_simp
                    refine hK _ _ ?_; clear hK K
                    refine wpAny_take (i := 14) (v := ?_) rfl (by kernel_rfl) (by kernel_rfl) (by kernel_rfl) (fun _ _ _ h => h) (Or.inl ⟨by kernel_rfl, ?_⟩) ?_
                    rotate_left
                    · (intro w; go_simp; first | done | with_reducible rfl)
                    conv => arg 7; simp [Act.put]
                    refine wpAny_take (i := 15) (v := ?_) rfl (by kernel_rfl) (by kernel_rfl) (by kernel_rfl) (fun _ _ _ h => h) (Or.inl ⟨by kernel_rfl, ?_⟩) ?_
                    rotate_left
                    · (intro w; go_simp; first | done | with_reducible rfl)
                    conv => arg 7; simp [Act.put]
                    refine wpAny_done (by kernel_rfl) ?_ _
                    clear g0 g1 g2 g3
                    go_wp2_with fail
                    go_meet
                    exact ⟨q, S, L, mL, A6, c6, av, ok, rfl, rfl, rfl, HML.out, fun e => putR_pg HPG.out (by rw [← e]; exact HR6.out), (PgCut.more (M2 := N + 1 + 8 * (k + 1)) HCUT.out (by omega))⟩
                focus
                  go_simp
                  refine hK _ _ ?_; clear hK K
                  have HS2 := Lib.hid (HS1.out.alloc (.cells #[.string ⟨#[]⟩, .slice none 0 0] 25))
                  have HQ2 := Lib.hid (QPg.new W1 (HS1.out.rd.lt))
                  have hqb : b < W1.heap.size := HS1.out.bW
                  have hqA : blockOfP A ≠ some W1.heap.size := HS1.out.nq (Nat.le_refl _)
                  generalize hqe : W1.heap.size = q at *
                  clear hqe
                  generalize W1.alloc (.cells #[.string ⟨#[]⟩, .slice none 0 0] 25) = W2 at *
                  refine wpAny_ready (rs := [5]) (by kernel_rfl) (by simp) ?_
                  refine AllReady.cons rfl (fun K hK => ?_) (AllReady.nil)
                  go_simp
                  go_wp2_with (go_at_call 101; refine (goodValue_any r ((N + 1 + 8 * k + 1) + 3) W2 HS2.out.rd (by omega)).mono ?_; rintro e W3 ⟨s2, rfl, hs2, hr, hg⟩)
                  have j2 : ¬ (9223372036854775807 < s1.size + 1 + s2.size) := by omega
                  have HS3 := Lib.hid (HS2.out.grow hg hr)
                  have HQ3 := Lib.hid (HQ2.out.grow hg)
                  clear hr hg
                  refine wpAny_take (i := 6) (v := ?_) rfl (by kernel_rfl) (by kernel_rfl) (by kernel_rfl) (fun _ _ _ h => h) (Or.inl ⟨by kernel_rfl, ?_⟩) ?_
                  rotate_left
                  · (intro w; go_simp; first | done | with_reducible rfl)
                  conv => arg 7; simp [Act.put]
                  obtain ⟨cell, hcell⟩ : ∃ cell : ByteArray, cell = s1 ++ ⟨#[61]⟩ ++ s2 := ⟨_, rfl⟩
                  have hcl : cell.size ≤ maxLen := by rw [hcell]; exact cell_len hs1 hs2 (by decide) (by decide)
                  rw [← hcell]
                  clear hcell
                  refine wpAny_ready (rs := [7]) (by kernel_rfl) (by simp) ?_
                  refine AllReady.cons rfl (fun K hK => ?_) (AllReady.nil)
                  go_simp
                  obtain ⟨S, L, mL, av, ok, ho, hmL, hft⟩ := Pg3Post.tell (putR s l cell) W3
                  have HC := Lib.hid ((sPut_any s A m c l cell W3 (HS3.out.page HPG.out) (own_none HS3.out.own) hcl).mono hft); clear hft
                  have HR6 := Lib.hid ho; have HML := Lib.hid hmL; clear ho hmL
                  go_wp2_with (go_at_call 100; refine (HC.out).mono ?_; rintro e W4 ⟨A6, c6, rfl, ho6, hb6⟩)
                  clear HC
                  have hqA6 : blockOfP A6 ≠ some q := fun e => by have := (ho6.lt _ (by rw [block_sliceD]; exact e)).1; have := HQ3.out.lt; omega
                  have hbB : b < W3.heap.size := HS3.out.bW
                  have HO4 := Lib.hid ho6
                  have HS4 := Lib.hid (HS3.out.keep hb6)
                  have HQ4 := Lib.hid (HQ3.out.keep hb6)
                  clear ho6 hb6
                  refine wpAny_take (i := 8) (v := ?_) rfl (by kernel_rfl) (by kernel_rfl) (by kernel_rfl) (fun _ _ _ h => h) (Or.inl ⟨by kernel_rfl, ?_⟩) ?_
                  rotate_left
                  · (intro w; go_simp; first | done | with_reducible rfl)
                  conv => arg 7; simp [Act.put]
                  refine wpAny_take (i := 9) (v := ?_) rfl (by kernel_rfl) (by kernel_rfl) (by kernel_rfl) (fun _ _ _ h => h) (Or.inl ⟨by kernel_rfl, ?_⟩) ?_
                  rotate_left
                  · (intro w; go_simp; first | done | with_reducible rfl)
                  conv => arg 7; simp [Act.put]
                  refine wpAny_take (i := 10) (v := ?_) rfl (by kernel_rfl) (by kernel_rfl) (by kernel_rfl) (fun _ _ _ h => h) (Or.inl ⟨by kernel_rfl, ?_⟩) ?_
                  rotate_left
                  · (intro w; go_simp; first | done | with_reducible rfl)
                  conv => arg 7; simp [Act.put]
                  refine wpAny_take (i := 11) (v := ?_) rfl (by kernel_rfl) (by kernel_rfl) (by kernel_rfl) (fun _ _ _ h => h) (Or.inl ⟨by kernel_rfl, ?_⟩) ?_
                  rotate_left
                  · (intro w; go_simp; first | done | with_reducible rfl)
                  conv => arg 7; simp [Act.put]
                  have HCUT := Lib.hid (HS4.out.cut (S := S) hqb hqA hqA6 HO4.out hbB HQ4.out)
                  have g0 := HQ4.out.c0; have g1 := HQ4.out.c1; have g2 := HQ4.out.f0; have g3 := HQ4.out.f1
                  obtain ⟨u0, g0⟩ := g0
                  obtain ⟨u1, g1⟩ := g1
                  refine wpAny_ready (rs := [13]) (by kernel_rfl) (by simp) ?_
                  refine AllReady.cons rfl (fun K hK => ?_) AllReady.nil
                  go_simp
                  refine hK _ _ ?_; clear hK K
                  refine wpAny_take (i := 14) (v := ?_) rfl (by kernel_rfl) (by kernel_rfl) (by kernel_rfl) (fun _ _ _ h => h) (Or.inl ⟨by kernel_rfl, ?_⟩) ?_
                  rotate_left
                  · (intro w; go_simp; first | done | with_reducible rfl)
                  conv => arg 7; simp [Act.put]
                  refine wpAny_take (i := 15) (v := ?_) rfl (by kernel_rfl) (by kernel_rfl) (by kernel_rfl) (fun _ _ _ h => h) (Or.inl ⟨by kernel_rfl, ?_⟩) ?_
                  rotate_left
                  · (intro w; go_simp; first | done | with_reducible rfl)
                  conv => arg 7; simp [Act.put]
                  refine wpAny_done (by kernel_rfl) ?_ _
                  clear g0 g1 g2 g3
                  go_wp2_with fail
                  go_meet
                  exact ⟨q, S, L, mL, A6, c6, av, ok, rfl, rfl, rfl, HML.out, fun e => putR_pg HPG.out (by rw [← e]; exact HR6.out), (PgCut.more (M2 := N + 1 + 8 * (k + 1)) HCUT.out (by omega))⟩
              focus
                go_simp
                refine hK _ _ ?_; clear hK K
                have HS1 := Lib.hid (HS0.out.alloc (.cells #[.string ⟨#[]⟩, .slice none 0 0] 25))
                have HQ1 := Lib.hid (QPg.new W0 (HS0.out.rd.lt))
                have hqb : b < W0.heap.size := HS0.out.bW
                have hqA : blockOfP A ≠ some W0.heap.size := HS0.out.nq (Nat.le_refl _)
                generalize hqe : W0.heap.size = q at *
                clear hqe
                generalize W0.alloc (.cells #[.string ⟨#[]⟩, .slice none 0 0] 25) = W1 at *
                refine wpAny_ready (rs := [2]) (by kernel_rfl) (by simp) ?_
                refine AllReady.cons rfl (fun K hK => ?_) (AllReady.nil)
                go_simp
                go_wp2_with (go_at_call 83; refine (goodKey_any r (N + 1 + 8 * k + 1) W1 HS1.out.rd (by omega)).mono ?_; rintro e W2 ⟨s1, rfl, hs1, hr, hg⟩)
                have j1 : ¬ (9223372036854775807 < s1.size + 1) := by omega
                have HS2 := Lib.hid (HS1.out.grow hg hr)
                have HQ2 := Lib.hid (HQ1.out.grow hg)
                clear hr hg
                refine wpAny_take (i := 3) (v := ?_) rfl (by kernel_rfl) (by kernel_rfl) (by kernel_rfl) (fun _ _ _ h => h) (Or.inl ⟨by kernel_rfl, ?_⟩) ?_
                rotate_left
                · (intro w; go_simp; first | done | with_reducible rfl)
                conv => arg 7; simp [Act.put]
                refine wpAny_ready (rs := [5]) (by kernel_rfl) (by simp) ?_
                refine AllReady.cons rfl (fun K hK => ?_) (AllReady.nil)
                go_simp
                go_wp2_with (go_at_call 101; refine (goodValue_any r ((N + 1 + 8 * k + 1) + 3) W2 HS2.out.rd (by omega)).mono ?_; rintro e W3 ⟨s2, rfl, hs2, hr, hg⟩)
                have j2 : ¬ (9223372036854775807 < s1.size + 1 + s2.size) := by omega
                have HS3 := Lib.hid (HS2.out.grow hg hr)
                have HQ3 := Lib.hid (HQ2.out.grow hg)
                clear hr hg
                refine wpAny_take (i := 6) (v := ?_) rfl (by kernel_rfl) (by kernel_rfl) (by kernel_rfl) (fun _ _ _ h => h) (Or.inl ⟨by kernel_rfl, ?_⟩) ?_
                rotate_left
                · (intro w; go_simp; first | done | with_reducible rfl)
                conv => arg 7; simp [Act.put]
                obtain ⟨cell, hcell⟩ : ∃ cell : ByteArray, cell = s1 ++ ⟨#[61]⟩ ++ s2 := ⟨_, rfl⟩
                have hcl : cell.size ≤ maxLen := by rw [hcell]; exact cell_len hs1 hs2 (by decide) (by decide)
                rw [← hcell]
                clear hcell
                refine wpAny_ready (rs := [7]) (by kernel_rfl) (by simp) ?_
                refine AllReady.cons rfl (fun K hK => ?_) (AllReady.nil)
                go_simp
                obtain ⟨S, L, mL, av, ok, ho, hmL, hft⟩ := Pg3Post.tell (putR s l cell) W3
                have HC := Lib.hid ((sPut_any s A m c l cell W3 (HS3.out.page HPG.out) (own_none HS3.out.own) hcl).mono hft); clear hft
                have HR6 := Lib.hid ho; have HML := Lib.hid hmL; clear ho hmL
                go_wp2_with (go_at_call 100; refine (HC.out).mono ?_; rintro e W4 ⟨A6, c6, rfl, ho6, hb6⟩)
                clear HC
                have hqA6 : blockOfP A6 ≠ some q := fun e => by have := (ho6.lt _ (by rw [block_sliceD]; exact e)).1; have := HQ3.out.lt; omega
                have hbB : b < W3.heap.size := HS3.out.bW
                have HO4 := Lib.hid ho6
                have HS4 := Lib.hid (HS3.out.keep hb6)
                have HQ4 := Lib.hid (HQ3.out.keep hb6)
                clear ho6 hb6
                refine wpAny_take (i := 8) (v := ?_) rfl (by kernel_rfl) (by kernel_rfl) (by kernel_rfl) (fun _ _ _ h => h) (Or.inl ⟨by kernel_rfl, ?_⟩) ?_
                rotate_left
                · (intro w; go_simp; first | done | with_reducible rfl)
                conv => arg 7; simp [Act.put]
                refine wpAny_take (i := 9) (v := ?_) rfl (by kernel_rfl) (by kernel_rfl) (by kernel_rfl) (fun _ _ _ h => h) (Or.inl ⟨by kernel_rfl, ?_⟩) ?_
                rotate_left
                · (intro w; go_simp; first | done | with_reducible rfl)
                conv => arg 7; simp [Act.put]
                refine wpAny_take (i := 10) (v := ?_) rfl (by kernel_rfl) (by kernel_rfl) (by kernel_rfl) (fun _ _ _ h => h) (Or.inl ⟨by kernel_rfl, ?_⟩) ?_
                rotate_left
                · (intro w; go_simp; first | done | with_reducible rfl)
                conv => arg 7; simp [Act.put]
                refine wpAny_take (i := 11) (v := ?_) rfl (by kernel_rfl) (by kernel_rfl) (by kernel_rfl) (fun _ _ _ h => h) (Or.inl ⟨by kernel_rfl, ?_⟩) ?_
                rotate_left
                · (intro w; go_simp; first | done | with_reducible rfl)
                conv => arg 7; simp [Act.put]
                have HCUT := Lib.hid (HS4.out.cut (S := S) hqb hqA hqA6 HO4.out hbB HQ4.out)
                have g0 := HQ4.out.c0; have g1 := HQ4.out.c1; have g2 := HQ4.out.f0; have g3 := HQ4.out.f1
                obtain ⟨u0, g0⟩ := g0
                obtain ⟨u1, g1⟩ := g1
                refine wpAny_ready (rs := [13]) (by kernel_rfl) (by simp) ?_
                refine AllReady.cons rfl (fun K hK => ?_) AllReady.nil
                go_simp
                refine hK _ _ ?_; clear hK K
                refine wpAny_take (i := 14) (v := ?_) rfl (by kernel_rfl) (by kernel_rfl) (by kernel_rfl) (fun _ _ _ h => h) (Or.inl ⟨by kernel_rfl, ?_⟩) ?_
                rotate_left
                · (intro w; go_simp; first | done | with_reducible rfl)
                conv => arg 7; simp [Act.put]
                refine wpAny_take (i := 15) (v := ?_) rfl (by kernel_rfl) (by kernel_rfl) (by kernel_rfl) (fun _ _ _ h => h) (Or.inl ⟨by kernel_rfl, ?_⟩) ?_
                rotate_left
                · (intro w; go_simp; first | done | with_reducible rfl)
                conv => arg 7; simp [Act.put]
                refine wpAny_done (by kernel_rfl) ?_ _
                clear g0 g1 g2 g3
                go_wp2_with fail
                go_meet
                exact ⟨q, S, L, mL, A6, c6, av, ok, rfl, rfl, rfl, HML.out, fun e => putR_pg HPG.out (by rw [← e]; exact HR6.out), (PgCut.more (M2 := N + 1 + 8 * (k + 1)) HCUT.out (by omega))⟩
            focus
              go_simp
              go_wp2_with (go_at_call 83; refine (goodKey_any r (N + 1 + 8 * k + 1) W0 HS0.out.rd (by omega)).mono ?_; rintro e W1 ⟨s1, rfl, hs1, hr, hg⟩)
              have j1 : ¬ (9223372036854775807 < s1.size + 1) := by omega
              have HS1 := Lib.hid (HS0.out.grow hg hr)
              clear hr hg
              refine wpAny_take (i := 3) (v := ?_) rfl (by kernel_rfl) (by kernel_rfl) (by kernel_rfl) (fun _ _ _ h => h) (Or.inl ⟨by kernel_rfl, ?_⟩) ?_
              rotate_left
              · (intro w; go_simp; first | done | with_reducible rfl)
              conv => arg 7; simp [Act.put]
              refine wpAny_ready (rs := [0, 5, 12]) (by kernel_rfl) (by simp) ?_
              refine AllReady.cons rfl (fun K hK => ?_) (AllReady.cons rfl (fun K hK => ?_) (AllReady.cons rfl (fun K hK => ?_) (AllReady.nil)))
              focus
                have a0 := HS1.out.p0
                have a1 := HS1.out.p1
                go_simp
                refine hK _ _ ?_; clear hK K
                clear a0 a1
                refine wpAny_ready (rs := [5, 12]) (by kernel_rfl) (by simp) ?_
                refine AllReady.cons rfl (fun K hK => ?_) (AllReady.cons rfl (fun K hK => ?_) (AllReady.nil))
                focus
                  go_simp
                  go_wp2_with (go_at_call 101; refine (goodValue_any r ((N + 1 + 8 * k + 1) + 3) W1 HS1.out.rd (by omega)).mono ?_; rintro e W2 ⟨s2, rfl, hs2, hr, hg⟩)
                  have j2 : ¬ (9223372036854775807 < s1.size + 1 + s2.size) := by omega
                  have HS2 := Lib.hid (HS1.out.grow hg hr)
                  clear hr hg
                  refine wpAny_take (i := 6) (v := ?_) rfl (by kernel_rfl) (by kernel_rfl) (by kernel_rfl) (fun _ _ _ h => h) (Or.inl ⟨by kernel_rfl, ?_⟩) ?_
                  rotate_left
                  · (intro w; go_simp; first | done | with_reducible rfl)
                  conv => arg 7; simp [Act.put]
                  obtain ⟨cell, hcell⟩ : ∃ cell : ByteArray, cell = s1 ++ ⟨#[61]⟩ ++ s2 := ⟨_, rfl⟩
                  have hcl : cell.size ≤ maxLen := by rw [hcell]; exact cell_len hs1 hs2 (by decide) (by decide)
                  rw [← hcell]
                  clear hcell
                  refine wpAny_ready (rs := [7, 12]) (by kernel_rfl) (by simp) ?_
                  refine AllReady.cons rfl (fun K hK => ?_) (AllReady.cons rfl (fun K hK => ?_) (AllReady.nil))
                  focus
                    go_simp
                    obtain ⟨S, L, mL, av, ok, ho, hmL, hft⟩ := Pg3Post.tell (putR s l cell) W2
                    have HC := Lib.hid ((sPut_any s A m c l cell W2 (HS2.out.page HPG.out) (own_none HS2.out.own) hcl).mono hft); clear hft
                    have HR6 := Lib.hid ho; have HML := Lib.hid hmL; clear ho hmL
                    go_wp2_with (go_at_call 100; refine (HC.out).mono ?_; rintro e W3 ⟨A6, c6, rfl, ho6, hb6⟩)
                    clear HC
                    have hbB : b < W2.heap.size := HS2.out.bW
                    have HO3 := Lib.hid ho6
                    have HS3 := Lib.hid (HS2.out.keep hb6)
                    clear ho6 hb6
                    refine wpAny_take (i := 8) (v := ?_) rfl (by kernel_rfl) (by kernel_rfl) (by kernel_rfl) (fun _ _ _ h => h) (Or.inl ⟨by kernel_rfl, ?_⟩) ?_
                    rotate_left
                    · (intro w; go_simp; first | done | with_reducible rfl)
                    conv => arg 7; simp [Act.put]
                    refine wpAny_take (i := 9) (v := ?_) rfl (by kernel_rfl) (by kernel_rfl) (by kernel_rfl) (fun _ _ _ h => h) (Or.inl ⟨by kernel_rfl, ?_⟩) ?_
                    rotate_left
                    · (intro w; go_simp; first | done | with_reducible rfl)
                    conv => arg 7; simp [Act.put]
                    refine wpAny_take (i := 10) (v := ?_) rfl (by kernel_rfl) (by kernel_rfl) (by kernel_rfl) (fun _ _ _ h => h) (Or.inl ⟨by kernel_rfl, ?_⟩) ?_
                    rotate_left
                    · (intro w; go_simp; first | done | with_reducible rfl)
                    conv => arg 7; simp [Act.put]
                    refine wpAny_take (i := 11) (v := ?_) rfl (by kernel_rfl) (by kernel_rfl) (by kernel_rfl) (fun _ _ _ h => h) (Or.inl ⟨by kernel_rfl, ?_⟩) ?_
                    rotate_left
                    · (intro w; go_simp; first | done | with_reducible rfl)
                    conv => arg 7; simp [Act.put]
                    refine wpAny_ready (rs := [12]) (by kernel_rfl) (by simp) ?_
                    refine AllReady.cons rfl (fun K hK => ?_) (AllReady.nil)
                    go_simp
                    refine hK _ _ ?_; clear hK K
                    have HS4 := Lib.hid (HS3.out.alloc (.cells #[.string ⟨#[]⟩, .slice none 0 0] 25))
                    have HQ4 := Lib.hid (QPg.new W3 (HS3.out.rd.lt))
                    have hqb : b < W3.heap.size := HS3.out.bW
                    have hqA : blockOfP A ≠ some W3.heap.size := HS3.out.nq (Nat.le_refl _)
                    have HO4 := Lib.hid (HO3.out.alloc (.cells #[.string ⟨#[]⟩, .slice none 0 0] 25))
                    have hqA6 : blockOfP A6 ≠ some W3.heap.size := fun e => by have := (HO3.out.lt _ (by rw [block_sliceD]; exact e)).2; omega
                    generalize hqe : W3.heap.size = q at *
                    clear hqe
                    generalize W3.alloc (.cells #[.string ⟨#[]⟩, .slice none 0 0] 25) = W4 at *
                    have HCUT := Lib.hid (HS4.out.cut (S := S) hqb hqA hqA6 HO4.out hbB HQ4.out)
                    have g0 := HQ4.out.c0; have g1 := HQ4.out.c1; have g2 := HQ4.out.f0; have g3 := HQ4.out.f1
                    obtain ⟨u0, g0⟩ := g0
                    obtain ⟨u1, g1⟩ := g1
                    refine wpAny_ready (rs := [13]) (by kernel_rfl) (by simp) ?_
                    refine AllReady.cons rfl (fun K hK => ?_) AllReady.nil
                    go_simp
                    refine hK _ _ ?_; clear hK K
                    refine wpAny_take (i := 14) (v := ?_) rfl (by kernel_rfl) (by kernel_rfl) (by kernel_rfl) (fun _ _ _ h => h) (Or.inl ⟨by kernel_rfl, ?_⟩) ?_
                    rotate_left
                    · (intro w; go_simp; first | done | with_reducible rfl)
                    conv => arg 7; simp [Act.put]
                    refine wpAny_take (i := 15) (v := ?_) rfl (by kernel_rfl) (by kernel_rfl) (by kernel_rfl) (fun _ _ _ h => h) (Or.inl ⟨by kernel_rfl, ?_⟩) ?_
                    rotate_left
                    · (intro w; go_simp; first | done | with_reducible rfl)
                    conv => arg 7; simp [Act.put]
                    refine wpAny_done (by kernel_rfl) ?_ _
                    clear g0 g1 g2 g3
                    go_wp2_with fail
                    go_meet
                    exact ⟨q, S, L, mL, A6, c6, av, ok, rfl, rfl, rfl, HML.out, fun e => putR_pg HPG.out (by rw [← e]; exact HR6.out), (PgCut.more (M2 := N + 1 + 8 * (k + 1)) HCUT.out (by omega))⟩
                  focus
                    go_simp
                    refine hK _ _ ?_; clear hK K
                    have HS3 := Lib.hid (HS2.out.alloc (.cells #[.string ⟨#[]⟩, .slice none 0 0] 25))
                    have HQ3 := Lib.hid (QPg.new W2 (HS2.out.rd.lt))
                    have hqb : b < W2.heap.size := HS2.out.bW
                    have hqA : blockOfP A ≠ some W2.heap.size := HS2.out.nq (Nat.le_refl _)
                    generalize hqe : W2.heap.size = q at *
                    clear hqe
                    generalize W2.alloc (.cells #[.string ⟨#[]⟩, .slice none 0 0] 25) = W3 at *
                    refine wpAny_ready (rs := [7]) (by kernel_rfl) (by simp) ?_
                    refine AllReady.cons rfl (fun K hK => ?_) (AllReady.nil)
                    go_simp
                    obtain ⟨S, L, mL, av, ok, ho, hmL, hft⟩ := Pg3Post.tell (putR s l cell) W3
                    have HC := Lib.hid ((sPut_any s A m c l cell W3 (HS3.out.page HPG.out) (own_none HS3.out.own) hcl).mono hft); clear hft
                    have HR6 := Lib.hid ho; have HML := Lib.hid hmL; clear ho hmL
                    go_wp2_with (go_at_call 100; refine (HC.out).mono ?_; rintro e W4 ⟨A6, c6, rfl, ho6, hb6⟩)
                    clear HC
                    have hqA6 : blockOfP A6 ≠ some q := fun e => by have := (ho6.lt _ (by rw [block_sliceD]; exact e)).1; have := HQ3.out.lt; omega
                    have hbB : b < W3.heap.size := HS3.out.bW
                    have HO4 := Lib.hid ho6
                    have HS4 := Lib.hid (HS3.out.keep hb6)
                    have HQ4 := Lib.hid (HQ3.out.keep hb6)
                    clear ho6 hb6
                    refine wpAny_take (i := 8) (v := ?_) rfl (by kernel_rfl) (by kernel_rfl) (by kernel_rfl) (fun _ _ _ h => h) (Or.inl ⟨by kernel_rfl, ?_⟩) ?_
                    rotate_left
                    · (intro w; go_simp; first | done | with_reducible rfl)
                    conv => arg 7; simp [Act.put]
                    refine wpAny_take (i := 9) (v := ?_) rfl (by kernel_rfl) (by kernel_rfl) (by kernel_rfl) (fun _ _ _ h => h) (Or.inl ⟨by kernel_rfl, ?_⟩) ?_
                    rotate_left
                    · (intro w; go_simp; first | done | with_reducible rfl)
                    conv => arg 7; simp [Act.put]
                    refine wpAny_take (i := 10) (v := ?_) rfl (by kernel_rfl) (by kernel_rfl) (by kernel_rfl) (fun _ _ _ h => h) (Or.inl ⟨by kernel_rfl, ?_⟩) ?_
                    rotate_left
                    · (intro w; go_simp; first | done | with_reducible rfl)
                    conv => arg 7; simp [Act.put]
                    refine wpAny_take (i := 11) (v := ?_) rfl (by kernel_rfl) (by kernel_rfl) (by kernel_rfl) (fun _ _ _ h => h) (Or.inl ⟨by kernel_rfl, ?_⟩) ?_
                    rotate_left
                    · (intro w; go_simp; first | done | with_reducible rfl)
                    conv => arg 7; simp [Act.put]
                    have HCUT := Lib.hid (HS4.out.cut (S := S) hqb hqA hqA6 HO4.out hbB HQ4.out)
                    have g0 := HQ4.out.c0; have g1 := HQ4.out.c1; have g2 := HQ4.out.f0; have g3 := HQ4.out.f1
                    obtain ⟨u0, g0⟩ := g0
                    obtain ⟨u1, g1⟩ := g1
                    refine wpAny_ready (rs := [13]) (by kernel_rfl) (by simp) ?_
                    refine AllReady.cons rfl (fun K hK => ?_) AllReady.nil
                    go_simp
                    refine hK _ _ ?_; clear hK K
                    refine wpAny_take (i := 14) (v := ?_) rfl (by kernel_rfl) (by kernel_rfl) (by kernel_rfl) (fun _ _ _ h => h) (Or.inl ⟨by kernel_rfl, ?_⟩) ?_
                    rotate_left
                    · (intro w; go_simp; first | done | with_reducible rfl)
                    conv => arg 7; simp [Act.put]
                    refine wpAny_take (i := 15) (v := ?_) rfl (by kernel_rfl) (by kernel_rfl) (by kernel_rfl) (fun _ _ _ h => h) (Or.inl ⟨by kernel_rfl, ?_⟩) ?_
                    rotate_left
                    · (intro w; go_simp; first | done | with_reducible rfl)
                    conv => arg 7; simp [Act.put]
                    refine wpAny_done (by kernel_rfl) ?_ _
                    clear g0 g1 g2 g3
                    go_wp2_with fail
                    go_meet
                    exact ⟨q, S, L, mL, A6, c6, av, ok, rfl, rfl, rfl, HML.out, fun e => putR_pg HPG.out (by rw [← e]; exact HR6.out), (PgCut.more (M2 := N + 1 + 8 * (k + 1)) HCUT.out (by omega))⟩
                focus
                  go_simp
                  refine hK _ _ ?_; clear hK K
                  have HS2 := Lib.hid (HS1.out.alloc (.cells #[.string ⟨#[]⟩, .slice none 0 0] 25))
                  have HQ2 := Lib.hid (QPg.new W1 (HS1.out.rd.lt))
                  have hqb : b < W1.heap.size := HS1.out.bW
                  have hqA : blockOfP A ≠ some W1.heap.size := HS1.out.nq (Nat.le_refl _)
                  generalize hqe : W1.heap.size = q at *
                  clear hqe
                  generalize W1.alloc (.cells #[.string ⟨#[]⟩, .slice none 0 0] 25) = W2 at *
                  refine wpAny_ready (rs := [5]) (by kernel_rfl) (by simp) ?_
                  refine AllReady.cons rfl (fun K hK => ?_) (AllReady.nil)
                  go_simp
                  go_wp2_with (go_at_call 101; refine (goodValue_any r ((N + 1 + 8 * k + 1) + 3) W2 HS2.out.rd (by omega)).mono ?_; rintro e W3 ⟨s2, rfl, hs2, hr, hg⟩)
                  have j2 : ¬ (9223372036854775807 < s1.size + 1 + s2.size) := by omega
                  have HS3 := Lib.hid (HS2.out.grow hg hr)
                  have HQ3 := Lib.hid (HQ2.out.grow hg)
                  clear hr hg
                  refine wpAny_take (i := 6) (v := ?_) rfl (by kernel_rfl) (by kernel_rfl) (by kernel_rfl) (fun _ _ _ h => h) (Or.inl ⟨by kernel_rfl, ?_⟩) ?_
                  rotate_left
                  · (intro w; go_simp; first | done | with_reducible rfl)
                  conv => arg 7; simp [Act.put]
                  obtain ⟨cell, hcell⟩ : ∃ cell : ByteArray, cell = s1 ++ ⟨#[61]⟩ ++ s2 := ⟨_, rfl⟩
                  have hcl : cell.size ≤ maxLen := by rw [hcell]; exact cell_len hs1 hs2 (by decide) (by decide)
                  rw [← hcell]
                  clear hcell
                  refine wpAny_ready (rs := [7]) (by kernel_rfl) (by simp) ?_
                  refine AllReady.cons rfl (fun K hK => ?_) (AllReady.nil)
                  go_simp
                  obtain ⟨S, L, mL, av, ok, ho, hmL, hft⟩ := Pg3Post.tell (putR s l cell) W3
                  have HC := Lib.hid ((sPut_any s A m c l cell W3 (HS3.out.page HPG.out) (own_none HS3.out.own) hcl).mono hft); clear hft
                  have HR6 := Lib.hid ho; have HML := Lib.hid hmL; clear ho hmL
                  go_wp2_with (go_at_call 100; refine (HC.out).mono ?_; rintro e W4 ⟨A6, c6, rfl, ho6, hb6⟩)
                  clear HC
                  have hqA6 : blockOfP A6 ≠ some q := fun e => by have := (ho6.lt _ (by rw [block_sliceD]; exact e)).1; have := HQ3.out.lt; omega
                  have hbB : b < W3.heap.size := HS3.out.bW
                  have HO4 := Lib.hid ho6
                  have HS4 := Lib.hid (HS3.out.keep hb6)
                  have HQ4 := Lib.hid (HQ3.out.keep hb6)
                  clear ho6 hb6
                  refine wpAny_take (i := 8) (v := ?_) rfl (by kernel_rfl) (by kernel_rfl) (by kernel_rfl) (fun _ _ _ h => h) (Or.inl ⟨by kernel_rfl, ?_⟩) ?_
                  rotate_left
                  · (intro w; go_simp; first | done | with_reducible rfl)
                  conv => arg 7; simp [Act.put]
                  refine wpAny_take (i := 9) (v := ?_) rfl (by kernel_rfl) (by kernel_rfl) (by kernel_rfl) (fun _ _ _ h => h) (Or.inl ⟨by kernel_rfl, ?_⟩) ?_
                  rotate_left
                  · (intro w; go_simp; first | done | with_reducible rfl)
                  conv => arg 7; simp [Act.put]
                  refine wpAny_take (i := 10) (v := ?_) rfl (by kernel_rfl) (by kernel_rfl) (by kernel_rfl) (fun _ _ _ h => h) (Or.inl ⟨by kernel_rfl, ?_⟩) ?_
                  rotate_left
                  · (intro w; go_simp; first | done | with_reducible rfl)
                  conv => arg 7; simp [Act.put]
                  refine wpAny_take (i := 11) (v := ?_) rfl (by kernel_rfl) (by kernel_rfl) (by kernel_rfl) (fun _ _ _ h => h) (Or.inl ⟨by kernel_rfl, ?_⟩) ?_
                  rotate_left
                  · (intro w; go_simp; first | done | with_reducible rfl)
                  conv => arg 7; simp [Act.put]
                  have HCUT := Lib.hid (HS4.out.cut (S := S) hqb hqA hqA6 HO4.out hbB HQ4.out)
                  have g0 := HQ4.out.c0; have g1 := HQ4.out.c1; have g2 := HQ4.out.f0; have g3 := HQ4.out.f1
                  obtain ⟨u0, g0⟩ := g0
                  obtain ⟨u1, g1⟩ := g1
                  refine wpAny_ready (rs := [13]) (by kernel_rfl) (by simp) ?_
                  refine AllReady.cons rfl (fun K hK => ?_) AllReady.nil
                  go_simp
                  refine hK _ _ ?_; clear hK K
                  refine wpAny_take (i := 14) (v := ?_) rfl (by kernel_rfl) (by kernel_rfl) (by kernel_rfl) (fun _ _ _ h => h) (Or.inl ⟨by kernel_rfl, ?_⟩) ?_
                  rotate_left
                  · (intro w; go_simp; first | done | with_reducible rfl)
                  conv => arg 7; simp [Act.put]
                  refine wpAny_take (i := 15) (v := ?_) rfl (by kernel_rfl) (by kernel_rfl) (by kernel_rfl) (fun _ _ _ h => h) (Or.inl ⟨by kernel_rfl, ?_⟩) ?_
                  rotate_left
                  · (intro w; go_simp; first | done | with_reducible rfl)
                  conv => arg 7; simp [Act.put]
                  refine wpAny_done (by kernel_rfl) ?_ _
                  clear g0 g1 g2 g3
                  go_wp2_with fail
                  go_meet
                  exact ⟨q, S, L, mL, A6, c6, av, ok, rfl, rfl, rfl, HML.out, fun e => putR_pg HPG.out (by rw [← e]; exact HR6.out), (PgCut.more (M2 := N + 1 + 8 * (k + 1)) HCUT.out (by omega))⟩
              focus
                go_simp
                go_wp2_with (go_at_call 101; refine (goodValue_any r ((N + 1 + 8 * k + 1) + 3) W1 HS1.out.rd (by omega)).mono ?_; rintro e W2 ⟨s2, rfl, hs2, hr, hg⟩)
                have j2 : ¬ (9223372036854775807 < s1.size + 1 + s2.size) := by omega
                have HS2 := Lib.hid (HS1.out.grow hg hr)
                clear hr hg
                refine wpAny_take (i := 6) (v := ?_) rfl (by kernel_rfl) (by kernel_rfl) (by kernel_rfl) (fun _ _ _ h => h) (Or.inl ⟨by kernel_rfl, ?_⟩) ?_
                rotate_left
                · (intro w; go_simp; first | done | with_reducible rfl)
                conv => arg 7; simp [Act.put]
                obtain ⟨cell, hcell⟩ : ∃ cell : ByteArray, cell = s1 ++ ⟨#[61]⟩ ++ s2 := ⟨_, rfl⟩
                have hcl : cell.size ≤ maxLen := by rw [hcell]; exact cell_len hs1 hs2 (by decide) (by decide)
                rw [← hcell]
                clear hcell
                refine wpAny_ready (rs := [0, 12]) (by kernel_rfl) (by simp) ?_
                refine AllReady.cons rfl (fun K hK => ?_) (AllReady.cons rfl (fun K hK => ?_) (AllReady.nil))
                focus
                  have a0 := HS2.out.p0
                  have a1 := HS2.out.p1
                  go_simp
                  refine hK _ _ ?_; clear hK K
                  clear a0 a1
                  refine wpAny_ready (rs := [7, 12]) (by kernel_rfl) (by simp) ?_
                  refine AllReady.cons rfl (fun K hK => ?_) (AllReady.cons rfl (fun K hK => ?_) (AllReady.nil))
                  focus
                    go_simp
                    obtain ⟨S, L, mL, av, ok, ho, hmL, hft⟩ := Pg3Post.tell (putR s l cell) W2
                    have HC := Lib.hid ((sPut_any s A m c l cell W2 (HS2.out.page HPG.out) (own_none HS2.out.own) hcl).mono hft); clear hft
                    have HR6 := Lib.hid ho; have HML := Lib.hid hmL; clear ho hmL
                    go_wp2_with (go_at_call 100; refine (HC.out).mono ?_; rintro e W3 ⟨A6, c6, rfl, ho6, hb6⟩)
                    clear HC
                    have hbB : b < W2.heap.size := HS2.out.bW
                    have HO3 := Lib.hid ho6
                    have HS3 := Lib.hid (HS2.out.keep hb6)
                    clear ho6 hb6
                    refine wpAny_take (i := 8) (v := ?_) rfl (by kernel_rfl) (by kernel_rfl) (by kernel_rfl) (fun _ _ _ h => h) (Or.inl ⟨by kernel_rfl, ?_⟩) ?_
                    rotate_left
                    · (intro w; go_simp; first | done | with_reducible rfl)
                    conv => arg 7; simp [Act.put]
                    refine wpAny_take (i := 9) (v := ?_) rfl (by kernel_rfl) (by kernel_rfl) (by kernel_rfl) (fun _ _ _ h => h) (Or.inl ⟨by kernel_rfl, ?_⟩) ?_
                    rotate_left
                    · (intro w; go_simp; first | done | with_reducible rfl)
                    conv => arg 7; simp [Act.put]
                    refine wpAny_take (i := 10) (v := ?_) rfl (by kernel_rfl) (by kernel_rfl) (by kernel_rfl) (fun _ _ _ h => h) (Or.inl ⟨by kernel_rfl, ?_⟩) ?_
                    rotate_left
                    · (intro w; go_simp; first | done | with_reducible rfl)
                    conv => arg 7; simp [Act.put]
                    refine wpAny_take (i := 11) (v := ?_) rfl (by kernel_rfl) (by kernel_rfl) (by kernel_rfl) (fun _ _ _ h => h) (Or.inl ⟨by kernel_rfl, ?_⟩) ?_
                    rotate_left
                    · (intro w; go_simp; first | done | with_reducible rfl)
                    conv => arg 7; simp [Act.put]
                    refine wpAny_ready (rs := [12]) (by kernel_rfl) (by simp) ?_
                    refine AllReady.cons rfl (fun K hK => ?_) (AllReady.nil)
                    go_simp
                    refine hK _ _ ?_; clear hK K
                    have HS4 := Lib.hid (HS3.out.alloc (.cells #[.string ⟨#[]⟩, .slice none 0 0] 25))
                    have HQ4 := Lib.hid (QPg.new W3 (HS3.out.rd.lt))
                    have hqb : b < W3.heap.size := HS3.out.bW
                    have hqA : blockOfP A ≠ some W3.heap.size := HS3.out.nq (Nat.le_refl _)
                    have HO4 := Lib.hid (HO3.out.alloc (.cells #[.string ⟨#[]⟩, .slice none 0 0] 25))
                    have hqA6 : blockOfP A6 ≠ some W3.heap.size := fun e => by have := (HO3.out.lt _ (by rw [block_sliceD]; exact e)).2; omega
                    generalize hqe : W3.heap.size = q at *
                    clear hqe
                    generalize W3.alloc (.cells #[.string ⟨#[]⟩, .slice none 0 0] 25) = W4 at *
                    have HCUT := Lib.hid (HS4.out.cut (S := S) hqb hqA hqA6 HO4.out hbB HQ4.out)
                    have g0 := HQ4.out.c0; have g1 := HQ4.out.c1; have g2 := HQ4.out.f0; have g3 := HQ4.out.f1
                    obtain ⟨u0, g0⟩ := g0
                    obtain ⟨u1, g1⟩ := g1
                    refine wpAny_ready (rs := [13]) (by kernel_rfl) (by simp) ?_
                    refine AllReady.cons rfl (fun K hK => ?_) AllReady.nil
                    go_simp
                    refine hK _ _ ?_; clear hK K
                    refine wpAny_take (i := 14) (v := ?_) rfl (by kernel_rfl) (by kernel_rfl) (by kernel_rfl) (fun _ _ _ h => h) (Or.inl ⟨by kernel_rfl, ?_⟩) ?_
                    rotate_left
                    · (intro w; go_simp; first | done | with_reducible rfl)
                    conv => arg 7; simp [Act.put]
                    refine wpAny_take (i := 15) (v := ?_) rfl (by kernel_rfl) (by kernel_rfl) (by kernel_rfl) (fun _ _ _ h => h) (Or.inl ⟨by kernel_rfl, ?_⟩) ?_
                    rotate_left
                    · (intro w; go_simp; first | done | with_reducible rfl)
                    conv => arg 7; simp [Act.put]
                    refine wpAny_done (by kernel_rfl) ?_ _
                    clear g0 g1 g2 g3
                    go_wp2_with fail
                    go_meet
                    exact ⟨q, S, L, mL, A6, c6, av, ok, rfl, rfl, rfl, HML.out, fun e => putR_pg HPG.out (by rw [← e]; exact HR6.out), (PgCut.more (M2 := N + 1 + 8 * (k + 1)) HCUT.out (by omega))⟩
                  focus
                    go_simp
                    refine hK _ _ ?_; clear hK K
                    have HS3 := Lib.hid (HS2.out.alloc (.cells #[.string ⟨#[]⟩, .slice none 0 0] 25))
                    have HQ3 := Lib.hid (QPg.new W2 (HS2.out.rd.lt))
                    have hqb : b < W2.heap.size := HS2.out.bW
                    have hqA : blockOfP A ≠ some W2.heap.size := HS2.out.nq (Nat.le_refl _)
                    generalize hqe : W2.heap.size = q at *
                    clear hqe
                    generalize W2.alloc (.cells #[.string ⟨#[]⟩, .slice none 0 0] 25) = W3 at *
                    refine wpAny_ready (rs := [7]) (by kernel_rfl) (by simp) ?_
                    refine AllReady.cons rfl (fun K hK => ?_) (AllReady.nil)
                    go_simp
                    obtain ⟨S, L, mL, av, ok, ho, hmL, hft⟩ := Pg3Post.tell (putR s l cell) W3
                    have HC := Lib.hid ((sPut_any s A m c l cell W3 (HS3.out.page HPG.out) (own_none HS3.out.own) hcl).mono hft); clear hft
                    have HR6 := Lib.hid ho; have HML := Lib.hid hmL; clear ho hmL
                    go_wp2_with (go_at_call 100; refine (HC.out).mono ?_; rintro e W4 ⟨A6, c6, rfl, ho6, hb6⟩)
                    clear HC
                    have hqA6 : blockOfP A6 ≠ some q := fun e => by have := (ho6.lt _ (by rw [block_sliceD]; exact e)).1; have := HQ3.out.lt; omega
                    have hbB : b < W3.heap.size := HS3.out.bW
                    have HO4 := Lib.hid ho6
                    have HS4 := Lib.hid (HS3.out.keep hb6)
                    have HQ4 := Lib.hid (HQ3.out.keep hb6)
                    clear ho6 hb6
                    refine wpAny_take (i := 8) (v := ?_) rfl (by kernel_rfl) (by kernel_rfl) (by kernel_rfl) (fun _ _ _ h => h) (Or.inl ⟨by kernel_rfl, ?_⟩) ?_
                    rotate_left
                    · (intro w; go_simp; first | done | with_reducible rfl)
                    conv => arg 7; simp [Act.put]
                    refine wpAny_take (i := 9) (v := ?_) rfl (by kernel_rfl) (by kernel_rfl) (by kernel_rfl) (fun _ _ _ h => h) (Or.inl ⟨by kernel_rfl, ?_⟩) ?_
                    rotate_left
                    · (intro w; go_simp; first | done | with_reducible rfl)
                    conv => arg 7; simp [Act.put]
                    refine wpAny_take (i := 10) (v := ?_) rfl (by kernel_rfl) (by kernel_rfl) (by kernel_rfl) (fun _ _ _ h => h) (Or.inl ⟨by kernel_rfl, ?_⟩) ?_
                    rotate_left
                    · (intro w; go_simp; first | done | with_reducible rfl)
                    conv => arg 7; simp [Act.put]
                    refine wpAny_take (i := 11) (v := ?_) rfl (by kernel_rfl) (by kernel_rfl) (by kernel_rfl) (fun _ _ _ h => h) (Or.inl ⟨by kernel_rfl, ?_⟩) ?_
                    rotate_left
                    · (intro w; go_simp; first | done | with_reducible rfl)
                    conv => arg 7; simp [Act.put]
                    have HCUT := Lib.hid (HS4.out.cut (S := S) hqb hqA hqA6 HO4.out hbB HQ4.out)
                    have g0 := HQ4.out.c0; have g1 := HQ4.out.c1; have g2 := HQ4.out.f0; have g3 := HQ4.out.f1
                    obtain ⟨u0, g0⟩ := g0
                    obtain ⟨u1, g1⟩ := g1
                    refine wpAny_ready (rs := [13]) (by kernel_rfl) (by simp) ?_
                    refine AllReady.cons rfl (fun K hK => ?_) AllReady.nil
                    go_simp
                    refine hK _ _ ?_; clear hK K
                    refine wpAny_take (i := 14) (v := ?_) rfl (by kernel_rfl) (by kernel_rfl) (by kernel_rfl) (fun _ _ _ h => h) (Or.inl ⟨by kernel_rfl, ?_⟩) ?_
                    rotate_left
                    · (intro w; go_simp; first | done | with_reducible rfl)
                    conv => arg 7; simp [Act.put]
                    refine wpAny_take (i := 15) (v := ?_) rfl (by kernel_rfl) (by kernel_rfl) (by kernel_rfl) (fun _ _ _ h => h) (Or.inl ⟨by kernel_rfl, ?_⟩) ?_
                    rotate_left
                    · (intro w; go_simp; first | done | with_reducible rfl)
                    conv => arg 7; simp [Act.put]
                    refine wpAny_done (by kernel_rfl) ?_ _
                    clear g0 g1 g2 g3
                    go_wp2_with fail
                    go_meet
                    exact ⟨q, S, L, mL, A6, c6, av, ok, rfl, rfl, rfl, HML.out, fun e => putR_pg HPG.out (by rw [← e]; exact HR6.out), (PgCut.more (M2 := N + 1 + 8 * (k + 1)) HCUT.out (by omega))⟩
                focus
                  go_simp
                  refine hK _ _ ?_; clear hK K
                  have HS3 := Lib.hid (HS2.out.alloc (.cells #[.string ⟨#[]⟩, .slice none 0 0] 25))
                  have HQ3 := Lib.hid (QPg.new W2 (HS2.out.rd.lt))
                  have hqb : b < W2.heap.size := HS2.out.bW
                  have hqA : blockOfP A ≠ some W2.heap.size := HS2.out.nq (Nat.le_refl _)
                  generalize hqe : W2.heap.size = q at *
                  clear hqe
                  generalize W2.alloc (.cells #[.string ⟨#[]⟩, .slice none 0 0] 25) = W3 at *
                  refine wpAny_ready (rs := [0]) (by kernel_rfl) (by simp) ?_
                  refine AllReady.cons rfl (fun K hK => ?_) (AllReady.nil)
                  have a0 := HS3.out.p0
                  have a1 := HS3.out.p1
                  go_simp
                  refine hK _ _ ?_; clear hK K
                  clear a0 a1
                  refine wpAny_ready (rs := [7]) (by kernel_rfl) (by simp) ?_
                  refine AllReady.cons rfl (fun K hK => ?_) (AllReady.nil)
                  go_simp
                  obtain ⟨S, L, mL, av, ok, ho, hmL, hft⟩ := Pg3Post.tell (putR s l cell) W3
                  have HC := Lib.hid ((sPut_any s A m c l cell W3 (HS3.out.page HPG.out) (own_none HS3.out.own) hcl).mono hft); clear hft
                  have HR6 := Lib.hid ho; have HML := Lib.hid hmL; clear ho hmL
                  go_wp2_with (go_at_call 100; refine (HC.out).mono ?_; rintro e W4 ⟨A6, c6, rfl, ho6, hb6⟩)
                  clear HC
                  have hqA6 : blockOfP A6 ≠ some q := fun e => by have := (ho6.lt _ (by rw [block_sliceD]; exact e)).1; have := HQ3.out.lt; omega
                  have hbB : b < W3.heap.size := HS3.out.bW
                  have HO4 := Lib.hid ho6
                  have HS4 := Lib.hid (HS3.out.keep hb6)
                  have HQ4 := Lib.hid (HQ3.out.keep hb6)
                  clear ho6 hb6
                  refine wpAny_take (i := 8) (v := ?_) rfl (by kernel_rfl) (by kernel_rfl) (by kernel_rfl) (fun _ _ _ h => h) (Or.inl ⟨by kernel_rfl, ?_⟩) ?_
                  rotate_left
                  · (intro w; go_simp; first | done | with_reducible rfl)
                  conv => arg 7; simp [Act.put]
                  refine wpAny_take (i := 9) (v := ?_) rfl (by kernel_rfl) (by kernel_rfl) (by kernel_rfl) (fun _ _ _ h => h) (Or.inl ⟨by kernel_rfl, ?_⟩) ?_
                  rotate_left
                  · (intro w; go_simp; first | done | with_reducible rfl)
                  conv => arg 7; simp [Act.put]
                  refine wpAny_take (i := 10) (v := ?_) rfl (by kernel_rfl) (by kernel_rfl) (by kernel_rfl) (fun _ _ _ h => h) (Or.inl ⟨by kernel_rfl, ?_⟩) ?_
                  rotate_left
                  · (intro w; go_simp; first | done | with_reducible rfl)
                  conv => arg 7; simp [Act.put]
                  refine wpAny_take (i := 11) (v := ?_) rfl (by kernel_rfl) (by kernel_rfl) (by kernel_rfl) (fun _ _ _ h => h) (Or.inl ⟨by kernel_rfl, ?_⟩) ?_
                  rotate_left
                  · (intro w; go_simp; first | done | with_reducible rfl)
                  conv => arg 7; simp [Act.put]
                  have HCUT := Lib.hid (HS4.out.cut (S := S) hqb hqA hqA6 HO4.out hbB HQ4.out)
                  have g0 := HQ4.out.c0; have g1 := HQ4.out.c1; have g2 := HQ4.out.f0; have g3 := HQ4.out.f1
                  obtain ⟨u0, g0⟩ := g0
                  obtain ⟨u1, g1⟩ := g1
                  refine wpAny_ready (rs := [13]) (by kernel_rfl) (by simp) ?_
                  refine AllReady.cons rfl (fun K hK => ?_) AllReady.nil
                  go_simp
                  refine hK _ _ ?_; clear hK K
                  refine wpAny_take (i := 14) (v := ?_) rfl (by kernel_rfl) (by kernel_rfl) (by kernel_rfl) (fun _ _ _ h => h) (Or.inl ⟨by kernel_rfl, ?_⟩) ?_
                  rotate_left
                  · (intro w; go_simp; first | done | with_reducible rfl)
                  conv => arg 7; simp [Act.put]
                  refine wpAny_take (i := 15) (v := ?_) rfl (by kernel_rfl) (by kernel_rfl) (by kernel_rfl) (fun _ _ _ h => h) (Or.inl ⟨by kernel_rfl, ?_⟩) ?_
                  rotate_left
                  · (intro w; go_simp; first | done | with_reducible rfl)
                  conv => arg 7; simp [Act.put]
                  refine wpAny_done (by kernel_rfl) ?_ _
                  clear g0 g1 g2 g3
                  go_wp2_with fail
                  go_meet
                  exact ⟨q, S, L, mL, A6, c6, av, ok, rfl, rfl, rfl, HML.out, fun e => putR_pg HPG.out (by rw [← e]; exact HR6.out), (PgCut.more (M2 := N + 1 + 8 * (k + 1)) HCUT.out (by omega))⟩
              focus
                go_simp
                refine hK _ _ ?_; clear hK K
                have HS2 := Lib.hid (HS1.out.alloc (.cells #[.string ⟨#[]⟩, .slice none 0 0] 25))
                have HQ2 := Lib.hid (QPg.new W1 (HS1.out.rd.lt))
                have hqb : b < W1.heap.size := HS1.out.bW
                have hqA : blockOfP A ≠ some W1.heap.size := HS1.out.nq (Nat.le_refl _)
                generalize hqe : W1.heap.size = q at *
                clear hqe
                generalize W1.alloc (.cells #[.string ⟨#[]⟩, .slice none 0 0] 25) = W2 at *
                refine wpAny_ready (rs := [0, 5]) (by kernel_rfl) (by simp) ?_
                refine AllReady.cons rfl (fun K hK => ?_) (AllReady.cons rfl (fun K hK => ?_) (AllReady.nil))
                focus
                  have a0 := HS2.out.p0
                  have a1 := HS2.out.p1
                  go_simp
                  refine hK _ _ ?_; clear hK K
                  clear a0 a1
                  refine wpAny_ready (rs := [5]) (by kernel_rfl) (by simp) ?_
                  refine AllReady.cons rfl (fun K hK => ?_) (AllReady.nil)
                  go_simp
                  go_wp2_with (go_at_call 101; refine (goodValue_any r ((N + 1 + 8 * k + 1) + 3) W2 HS2.out.rd (by omega)).mono ?_; rintro e W3 ⟨s2, rfl, hs2, hr, hg⟩)
                  have j2 : ¬ (9223372036854775807 < s1.size + 1 + s2.size) := by omega
                  have HS3 := Lib.hid (HS2.out.grow hg hr)
                  have HQ3 := Lib.hid (HQ2.out.grow hg)
                  clear hr hg
                  refine wpAny_take (i := 6) (v := ?_) rfl (by kernel_rfl) (by kernel_rfl) (by kernel_rfl) (fun _ _ _ h => h) (Or.inl ⟨by kernel_rfl, ?_⟩) ?_
                  rotate_left
                  · (intro w; go_simp; first | done | with_reducible rfl)
                  conv => arg 7; simp [Act.put]
                  obtain ⟨cell, hcell⟩ : ∃ cell : ByteArray, cell = s1 ++ ⟨#[61]⟩ ++ s2 := ⟨_, rfl⟩
                  have hcl : cell.size ≤ maxLen := by rw [hcell]; exact cell_len hs1 hs2 (by decide) (by decide)
                  rw [← hcell]
                  clear hcell
                  refine wpAny_ready (rs := [7]) (by kernel_rfl) (by simp) ?_
                  refine AllReady.cons rfl (fun K hK => ?_) (AllReady.nil)
                  go_simp
                  obtain ⟨S, L, mL, av, ok, ho, hmL, hft⟩ := Pg3Post.tell (putR s l cell) W3
                  have HC := Lib.hid ((sPut_any s A m c l cell W3 (HS3.out.page HPG.out) (own_none HS3.out.own) hcl).mono hft); clear hft
                  have HR6 := Lib.hid ho; have HML := Lib.hid hmL; clear ho hmL
                  go_wp2_with (go_at_call 100; refine (HC.out).mono ?_; rintro e W4 ⟨A6, c6, rfl, ho6, hb6⟩)
                  clear HC
                  have hqA6 : blockOfP A6 ≠ some q := fun e => by have := (ho6.lt _ (by rw [block_sliceD]; exact e)).1; have := HQ3.out.lt; omega
                  have hbB : b < W3.heap.size := HS3.out.bW
                  have HO4 := Lib.hid ho6
                  have HS4 := Lib.hid (HS3.out.keep hb6)
                  have HQ4 := Lib.hid (HQ3.out.keep hb6)
                  clear ho6 hb6
                  refine wpAny_take (i := 8) (v := ?_) rfl (by kernel_rfl) (by kernel_rfl) (by kernel_rfl) (fun _ _ _ h => h) (Or.inl ⟨by kernel_rfl, ?_⟩) ?_
                  rotate_left
                  · (intro w; go_simp; first | done | with_reducible rfl)
                  conv => arg 7; simp [Act.put]
                  refine wpAny_take (i := 9) (v := ?_) rfl (by kernel_rfl) (by kernel_rfl) (by kernel_rfl) (fun _ _ _ h => h) (Or.inl ⟨by kernel_rfl, ?_⟩) ?_
                  rotate_left
                  · (intro w; go_simp; first | done | with_reducible rfl)
                  conv => arg 7; simp [Act.put]
                  refine wpAny_take (i := 10) (v := ?_) rfl (by kernel_rfl) (by kernel_rfl) (by kernel_rfl) (fun _ _ _ h => h) (Or.inl ⟨by kernel_rfl, ?_⟩) ?_
                  rotate_left
                  · (intro w; go_simp; first | done | with_reducible rfl)
                  conv => arg 7; simp [Act.put]
                  refine wpAny_take (i := 11) (v := ?_) rfl (by kernel_rfl) (by kernel_rfl) (by kernel_rfl) (fun _ _ _ h => h) (Or.inl ⟨by kernel_rfl, ?_⟩) ?_
                  rotate_left
                  · (intro w; go_simp; first | done | with_reducible rfl)
                  conv => arg 7; simp [Act.put]
                  have HCUT := Lib.hid (HS4.out.cut (S := S) hqb hqA hqA6 HO4.out hbB HQ4.out)
                  have g0 := HQ4.out.c0; have g1 := HQ4.out.c1; have g2 := HQ4.out.f0; have g3 := HQ4.out.f1
                  obtain ⟨u0, g0⟩ := g0
                  obtain ⟨u1, g1⟩ := g1
                  refine wpAny_ready (rs := [13]) (by kernel_rfl) (by simp) ?_
                  refine AllReady.cons rfl (fun K hK => ?_) AllReady.nil
                  go_simp
                  refine hK _ _ ?_; clear hK K
                  refine wpAny_take (i := 14) (v := ?_) rfl (by kernel_rfl) (by kernel_rfl) (by kernel_rfl) (fun _ _ _ h => h) (Or.inl ⟨by kernel_rfl, ?_⟩) ?_
                  rotate_left
                  · (intro w; go_simp; first | done | with_reducible rfl)
                  conv => arg 7; simp [Act.put]
                  refine wpAny_take (i := 15) (v := ?_) rfl (by kernel_rfl) (by kernel_rfl) (by kernel_rfl) (fun _ _ _ h => h) (Or.inl ⟨by kernel_rfl, ?_⟩) ?_
                  rotate_left
                  · (intro w; go_simp; first | done | with_reducible rfl)
                  conv => arg 7; simp [Act.put]
                  refine wpAny_done (by kernel_rfl) ?_ _
                  clear g0 g1 g2 g3
                  go_wp2_with fail
                  go_meet
                  exact ⟨q, S, L, mL, A6, c6, av, ok, rfl, rfl, rfl, HML.out, fun e => putR_pg HPG.out (by rw [← e]; exact HR6.out), (PgCut.more (M2 := N + 1 + 8 * (k + 1)) HCUT.out (by omega))⟩
                focus
                  go_simp
                  go_wp2_with (go_at_call 101; refine (goodValue_any r ((N + 1 + 8 * k + 1) + 3) W2 HS2.out.rd (by omega)).mono ?_; rintro e W3 ⟨s2, rfl, hs2, hr, hg⟩)
                  have j2 : ¬ (9223372036854775807 < s1.size + 1 + s2.size) := by omega
                  have HS3 := Lib.hid (HS2.out.grow hg hr)
                  have HQ3 := Lib.hid (HQ2.out.grow hg)
                  clear hr hg
                  refine wpAny_take (i := 6) (v := ?_) rfl (by kernel_rfl) (by kernel_rfl) (by kernel_rfl) (fun _ _ _ h => h) (Or.inl ⟨by kernel_rfl, ?_⟩) ?_
                  rotate_left
                  · (intro w; go_simp; first | done | with_reducible rfl)
                  conv => arg 7; simp [Act.put]
                  obtain ⟨cell, hcell⟩ : ∃ cell : ByteArray, cell = s1 ++ ⟨#[61]⟩ ++ s2 := ⟨_, rfl⟩
                  have hcl : cell.size ≤ maxLen := by rw [hcell]; exact cell_len hs1 hs2 (by decide) (by decide)
                  rw [← hcell]
                  clear hcell
                  refine wpAny_ready (rs := [0]) (by kernel_rfl) (by simp) ?_
                  refine AllReady.cons rfl (fun K hK => ?_) (AllReady.nil)
                  have a0 := HS3.out.p0
                  have a1 := HS3.out.p1
                  go_simp
                  refine hK _ _ ?_; clear hK K
                  clear a0 a1
                  refine wpAny_ready (rs := [7]) (by kernel_rfl) (by simp) ?_
                  refine AllReady.cons rfl (fun K hK => ?_) (AllReady.nil)
                  go_simp
                  obtain ⟨S, L, mL, av, ok, ho, hmL, hft⟩ := Pg3Post.tell (putR s l cell) W3
                  have HC := Lib.hid ((sPut_any s A m c l cell W3 (HS3.out.page HPG.out) (own_none HS3.out.own) hcl).mono hft); clear hft
                  have HR6 := Lib.hid ho; have HML := Lib.hid hmL; clear ho hmL
                  go_wp2_with (go_at_call 100; refine (HC.out).mono ?_; rintro e W4 ⟨A6, c6, rfl, ho6, hb6⟩)
                  clear HC
                  have hqA6 : blockOfP A6 ≠ some q := fun e => by have := (ho6.lt _ (by rw [block_sliceD]; exact e)).1; have := HQ3.out.lt; omega
                  have hbB : b < W3.heap.size := HS3.out.bW
                  have HO4 := Lib.hid ho6
                  have HS4 := Lib.hid (HS3.out.keep hb6)
                  have HQ4 := Lib.hid (HQ3.out.keep hb6)
                  clear ho6 hb6
                  refine wpAny_take (i := 8) (v := ?_) rfl (by kernel_rfl) (by kernel_rfl) (by kernel_rfl) (fun _ _ _ h => h) (Or.inl ⟨by kernel_rfl, ?_⟩) ?_
                  rotate_left
                  · (intro w; go_simp; first | done | with_reducible rfl)
                  conv => arg 7; simp [Act.put]
                  refine wpAny_take (i := 9) (v := ?_) rfl (by kernel_rfl) (by kernel_rfl) (by kernel_rfl) (fun _ _ _ h => h) (Or.inl ⟨by kernel_rfl, ?_⟩) ?_
                  rotate_left
                  · (intro w; go_simp; first | done | with_reducible rfl)
                  conv => arg 7; simp [Act.put]
                  refine wpAny_take (i := 10) (v := ?_) rfl (by kernel_rfl) (by kernel_rfl) (by kernel_rfl) (fun _ _ _ h => h) (Or.inl ⟨by kernel_rfl, ?_⟩) ?_
                  rotate_left
                  · (intro w; go_simp; first | done | with_reducible rfl)
                  conv => arg 7; simp [Act.put]
                  refine wpAny_take (i := 11) (v := ?_) rfl (by kernel_rfl) (by kernel_rfl) (by kernel_rfl) (fun _ _ _ h => h) (Or.inl ⟨by kernel_rfl, ?_⟩) ?_
                  rotate_left
                  · (intro w; go_simp; first | done | with_reducible rfl)
                  conv => arg 7; simp [Act.put]
                  have HCUT := Lib.hid (HS4.out.cut (S := S) hqb hqA hqA6 HO4.out hbB HQ4.out)
                  have g0 := HQ4.out.c0; have g1 := HQ4.out.c1; have g2 := HQ4.out.f0; have g3 := HQ4.out.f1
                  obtain ⟨u0, g0⟩ := g0
                  obtain ⟨u1, g1⟩ := g1
                  refine wpAny_ready (rs := [13]) (by kernel_rfl) (by simp) ?_
                  refine AllReady.cons rfl (fun K hK => ?_) AllReady.nil
                  go_simp
                  refine hK _ _ ?_; clear hK K
                  refine wpAny_take (i := 14) (v := ?_) rfl (by kernel_rfl) (by kernel_rfl) (by kernel_rfl) (fun _ _ _ h => h) (Or.inl ⟨by kernel_rfl, ?_⟩) ?_
                  rotate_left
                  · (intro w; go_simp; first | done | with_reducible rfl)
                  conv => arg 7; simp [Act.put]
                  refine wpAny_take (i := 15) (v := ?_) rfl (by kernel_rfl) (by kernel_rfl) (by kernel_rfl) (fun _ _ _ h => h) (Or.inl ⟨by kernel_rfl, ?_⟩) ?_
                  rotate_left
                  · (intro w; go_simp; first | done | with_reducible rfl)
                  conv => arg 7; simp [Act.put]
                  refine wpAny_done (by kernel_rfl) ?_ _
                  clear g0 g1 g2 g3
                  go_wp2_with fail
                  go_meet
                  exact ⟨q, S, L, mL, A6, c6, av, ok, rfl, rfl, rfl, HML.out, fun e => putR_pg HPG.out (by rw [← e]; exact HR6.out), (PgCut.more (M2 := N + 1 + 8 * (k + 1)) HCUT.out (by omega))⟩
            focus
              go_simp
              refine hK _ _ ?_; clear hK K
              have HS1 := Lib.hid (HS0.out.alloc (.cells #[.string ⟨#[]⟩, .slice none 0 0] 25))
              have HQ1 := Lib.hid (QPg.new W0 (HS0.out.rd.lt))
              have hqb : b < W0.heap.size := HS0.out.bW
              have hqA : blockOfP A ≠ some W0.heap.size := HS0.out.nq (Nat.le_refl _)
              generalize hqe : W0.heap.size = q at *
              clear hqe
              generalize W0.alloc (.cells #[.string ⟨#[]⟩, .slice none 0 0] 25) = W1 at *
              refine wpAny_ready (rs := [0, 2]) (by kernel_rfl) (by simp) ?_
              refine AllReady.cons rfl (fun K hK => ?_) (AllReady.cons rfl (fun K hK => ?_) (AllReady.nil))
              focus
                have a0 := HS1.out.p0
                have a1 := HS1.out.p1
                go_simp
                refine hK _ _ ?_; clear hK K
                clear a0 a1
                refine wpAny_ready (rs := [2]) (by kernel_rfl) (by simp) ?_
                refine AllReady.cons rfl (fun K hK => ?_) (AllReady.nil)
                go_simp
                go_wp2_with (go_at_call 83; refine (goodKey_any r (N + 1 + 8 * k + 1) W1 HS1.out.rd (by omega)).mono ?_; rintro e W2 ⟨s1, rfl, hs1, hr, hg⟩)
                have j1 : ¬ (9223372036854775807 < s1.size + 1) := by omega
                have HS2 := Lib.hid (HS1.out.grow hg hr)
                have HQ2 := Lib.hid (HQ1.out.grow hg)
                clear hr hg
                refine wpAny_take (i := 3) (v := ?_) rfl (by kernel_rfl) (by kernel_rfl) (by kernel_rfl) (fun _ _ _ h => h) (Or.inl ⟨by kernel_rfl, ?_⟩) ?_
                rotate_left
                · (intro w; go_simp; first | done | with_reducible rfl)
                conv => arg 7; simp [Act.put]
                refine wpAny_ready (rs := [5]) (by kernel_rfl) (by simp) ?_
                refine AllReady.cons rfl (fun K hK => ?_) (AllReady.nil)
                go_simp
                go_wp2_with (go_at_call 101; refine (goodValue_any r ((N + 1 + 8 * k + 1) + 3) W2 HS2.out.rd (by omega)).mono ?_; rintro e W3 ⟨s2, rfl, hs2, hr, hg⟩)
                have j2 : ¬ (9223372036854775807 < s1.size + 1 + s2.size) := by omega
                have HS3 := Lib.hid (HS2.out.grow hg hr)
                have HQ3 := Lib.hid (HQ2.out.grow hg)
                clear hr hg
                refine wpAny_take (i := 6) (v := ?_) rfl (by kernel_rfl) (by kernel_rfl) (by kernel_rfl) (fun _ _ _ h => h) (Or.inl ⟨by kernel_rfl, ?_⟩) ?_
                rotate_left
                · (intro w; go_simp; first | done | with_reducible rfl)
                conv => arg 7; simp [Act.put]
                obtain ⟨cell, hcell⟩ : ∃ cell : ByteArray, cell = s1 ++ ⟨#[61]⟩ ++ s2 := ⟨_, rfl⟩
                have hcl : cell.size ≤ maxLen := by rw [hcell]; exact cell_len hs1 hs2 (by decide) (by decide)
                rw [← hcell]
                clear hcell
                refine wpAny_ready (rs := [7]) (by kernel_rfl) (by simp) ?_
                refine AllReady.cons rfl (fun K hK => ?_) (AllReady.nil)
                go_simp
                obtain ⟨S, L, mL, av, ok, ho, hmL, hft⟩ := Pg3Post.tell (putR s l cell) W3
                have HC := Lib.hid ((sPut_any s A m c l cell W3 (HS3.out.page HPG.out) (own_none HS3.out.own) hcl).mono hft); clear hft
                have HR6 := Lib.hid ho; have HML := Lib.hid hmL; clear ho hmL
                go_wp2_with (go_at_call 100; refine (HC.out).mono ?_; rintro e W4 ⟨A6, c6, rfl, ho6, hb6⟩)
                clear HC
                have hqA6 : blockOfP A6 ≠ some q := fun e => by have := (ho6.lt _ (by rw [block_sliceD]; exact e)).1; have := HQ3.out.lt; omega
                have hbB : b < W3.heap.size := HS3.out.bW
                have HO4 := Lib.hid ho6
                have HS4 := Lib.hid (HS3.out.keep hb6)
                have HQ4 := Lib.hid (HQ3.out.keep hb6)
                clear ho6 hb6
                refine wpAny_take (i := 8) (v := ?_) rfl (by kernel_rfl) (by kernel_rfl) (by kernel_rfl) (fun _ _ _ h => h) (Or.inl ⟨by kernel_rfl, ?_⟩) ?_
                rotate_left
                · (intro w; go_simp; first | done | with_reducible rfl)
                conv => arg 7; simp [Act.put]
                refine wpAny_take (i := 9) (v := ?_) rfl (by kernel_rfl) (by kernel_rfl) (by kernel_rfl) (fun _ _ _ h => h) (Or.inl ⟨by kernel_rfl, ?_⟩) ?_
                rotate_left
                · (intro w; go_simp; first | done | with_reducible rfl)
                conv => arg 7; simp [Act.put]
                refine wpAny_take (i := 10) (v := ?_) rfl (by kernel_rfl) (by kernel_rfl) (by kernel_rfl) (fun _ _ _ h => h) (Or.inl ⟨by kernel_rfl, ?_⟩) ?_
                rotate_left
                · (intro w; go_simp; first | done | with_reducible rfl)
                conv => arg 7; simp [Act.put]
                refine wpAny_take (i := 11) (v := ?_) rfl (by kernel_rfl) (by kernel_rfl) (by kernel_rfl) (fun _ _ _ h => h) (Or.inl ⟨by kernel_rfl, ?_⟩) ?_
                rotate_left
                · (intro w; go_simp; first | done | with_reducible rfl)
                conv => arg 7; simp [Act.put]
                have HCUT := Lib.hid (HS4.out.cut (S := S) hqb hqA hqA6 HO4.out hbB HQ4.out)
                have g0 := HQ4.out.c0; have g1 := HQ4.out.c1; have g2 := HQ4.out.f0; have g3 := HQ4.out.f1
                obtain ⟨u0, g0⟩ := g0
                obtain ⟨u1, g1⟩ := g1
                refine wpAny_ready (rs := [13]) (by kernel_rfl) (by simp) ?_
                refine AllReady.cons rfl (fun K hK => ?_) AllReady.nil
                go_simp
                refine hK _ _ ?_; clear hK K
                refine wpAny_take (i := 14) (v := ?_) rfl (by kernel_rfl) (by kernel_rfl) (by kernel_rfl) (fun _ _ _ h => h) (Or.inl ⟨by kernel_rfl, ?_⟩) ?_
                rotate_left
                · (intro w; go_simp; first | done | with_reducible rfl)
                conv => arg 7; simp [Act.put]
                refine wpAny_take (i := 15) (v := ?_) rfl (by kernel_rfl) (by kernel_rfl) (by kernel_rfl) (fun _ _ _ h => h) (Or.inl ⟨by kernel_rfl, ?_⟩) ?_
                rotate_left
                · (intro w; go_simp; first | done | with_reducible rfl)
                conv => arg 7; simp [Act.put]
                refine wpAny_done (by kernel_rfl) ?_ _
                clear g0 g1 g2 g3
                go_wp2_with fail
                go_meet
                exact ⟨q, S, L, mL, A6, c6, av, ok, rfl, rfl, rfl, HML.out, fun e => putR_pg HPG.out (by rw [← e]; exact HR6.out), (PgCut.more (M2 := N + 1 + 8 * (k + 1)) HCUT.out (by omega))⟩
              focus
                go_simp
                go_wp2_with (go_at_call 83; refine (goodKey_any r (N + 1 + 8 * k + 1) W1 HS1.out.rd (by omega)).mono ?_; rintro e W2 ⟨s1, rfl, hs1, hr, hg⟩)
                have j1 : ¬ (9223372036854775807 < s1.size + 1) := by omega
                have HS2 := Lib.hid (HS1.out.grow hg hr)
                have HQ2 := Lib.hid (HQ1.out.grow hg)
                clear hr hg
                refine wpAny_take (i := 3) (v := ?_) rfl (by kernel_rfl) (by kernel_rfl) (by kernel_rfl) (fun _ _ _ h => h) (Or.inl ⟨by kernel_rfl, ?_⟩) ?_
                rotate_left
                · (intro w; go_simp; first | done | with_reducible rfl)
                conv => arg 7; simp [Act.put]
                refine wpAny_ready (rs := [0, 5]) (by kernel_rfl) (by simp) ?_
                refine AllReady.cons rfl (fun K hK => ?_) (AllReady.cons rfl (fun K hK => ?_) (AllReady.nil))
                focus
                  have a0 := HS2.out.p0
                  have a1 := HS2.out.p1
                  go_simp
                  refine hK _ _ ?_; clear hK K
                  clear a0 a1
                  refine wpAny_ready (rs := [5]) (by kernel_rfl) (by simp) ?_
                  refine AllReady.cons rfl (fun K hK => ?_) (AllReady.nil)
                  go_simp
                  go_wp2_with (go_at_call 101; refine (goodValue_any r ((N + 1 + 8 * k + 1) + 3) W2 HS2.out.rd (by omega)).mono ?_; rintro e W3 ⟨s2, rfl, hs2, hr, hg⟩)
                  have j2 : ¬ (9223372036854775807 < s1.size + 1 + s2.size) := by omega
                  have HS3 := Lib.hid (HS2.out.grow hg hr)
                  have HQ3 := Lib.hid (HQ2.out.grow hg)
                  clear hr hg
                  refine wpAny_take (i := 6) (v := ?_) rfl (by kernel_rfl) (by kernel_rfl) (by kernel_rfl) (fun _ _ _ h => h) (Or.inl ⟨by kernel_rfl, ?_⟩) ?_
                  rotate_left
                  · (intro w; go_simp; first | done | with_reducible rfl)
                  conv => arg 7; simp [Act.put]
                  obtain ⟨cell, hcell⟩ : ∃ cell : ByteArray, cell = s1 ++ ⟨#[61]⟩ ++ s2 := ⟨_, rfl⟩
                  have hcl : cell.size ≤ maxLen := by rw [hcell]; exact cell_len hs1 hs2 (by decide) (by decide)
                  rw [← hcell]
                  clear hcell
                  refine wpAny_ready (rs := [7]) (by kernel_rfl) (by simp) ?_
                  refine AllReady.cons rfl (fun K hK => ?_) (AllReady.nil)
                  go_simp
                  obtain ⟨S, L, mL, av, ok, ho, hmL, hft⟩ := Pg3Post.tell (putR s l cell) W3
                  have HC := Lib.hid ((sPut_any s A m c l cell W3 (HS3.out.page HPG.out) (own_none HS3.out.own) hcl).mono hft); clear hft
                  have HR6 := Lib.hid ho; have HML := Lib.hid hmL; clear ho hmL
                  go_wp2_with (go_at_call 100; refine (HC.out).mono ?_; rintro e W4 ⟨A6, c6, rfl, ho6, hb6⟩)
                  clear HC
                  have hqA6 : blockOfP A6 ≠ some q := fun e => by have := (ho6.lt _ (by rw [block_sliceD]; exact e)).1; have := HQ3.out.lt; omega
                  have hbB : b < W3.heap.size := HS3.out.bW
                  have HO4 := Lib.hid ho6
                  have HS4 := Lib.hid (HS3.out.keep hb6)
                  have HQ4 := Lib.hid (HQ3.out.keep hb6)
                  clear ho6 hb6
                  refine wpAny_take (i := 8) (v := ?_) rfl (by kernel_rfl) (by kernel_rfl) (by kernel_rfl) (fun _ _ _ h => h) (Or.inl ⟨by kernel_rfl, ?_⟩) ?_
                  rotate_left
                  · (intro w; go_simp; first | done | with_reducible rfl)
                  conv => arg 7; simp [Act.put]
                  refine wpAny_take (i := 9) (v := ?_) rfl (by kernel_rfl) (by kernel_rfl) (by kernel_rfl) (fun _ _ _ h => h) (Or.inl ⟨by kernel_rfl, ?_⟩) ?_
                  rotate_left
                  · (intro w; go_simp; first | done | with_reducible rfl)
                  conv => arg 7; simp [Act.put]
                  refine wpAny_take (i := 10) (v := ?_) rfl (by kernel_rfl) (by kernel_rfl) (by kernel_rfl) (fun _ _ _ h => h) (Or.inl ⟨by kernel_rfl, ?_⟩) ?_
                  rotate_left
                  · (intro w; go_simp; first | done | with_reducible rfl)
                  conv => arg 7; simp [Act.put]
                  refine wpAny_take (i := 11) (v := ?_) rfl (by kernel_rfl) (by kernel_rfl) (by kernel_rfl) (fun _ _ _ h => h) (Or.inl ⟨by kernel_rfl, ?_⟩) ?_
                  rotate_left
                  · (intro w; go_simp; first | done | with_reducible rfl)
                  conv => arg 7; simp [Act.put]
                  have HCUT := Lib.hid (HS4.out.cut (S := S) hqb hqA hqA6 HO4.out hbB HQ4.out)
                  have g0 := HQ4.out.c0; have g1 := HQ4.out.c1; have g2 := HQ4.out.f0; have g3 := HQ4.out.f1
                  obtain ⟨u0, g0⟩ := g0
                  obtain ⟨u1, g1⟩ := g1
                  refine wpAny_ready (rs := [13]) (by kernel_rfl) (by simp) ?_
                  refine AllReady.cons rfl (fun K hK => ?_) AllReady.nil
                  go_simp
                  refine hK _ _ ?_; clear hK K
                  refine wpAny_take (i := 14) (v := ?_) rfl (by kernel_rfl) (by kernel_rfl) (by kernel_rfl) (fun _ _ _ h => h) (Or.inl ⟨by kernel_rfl, ?_⟩) ?_
                  rotate_left
                  · (intro w; go_simp; first | done | with_reducible rfl)
                  conv => arg 7; simp [Act.put]
                  refine wpAny_take (i := 15) (v := ?_) rfl (by kernel_rfl) (by kernel_rfl) (by kernel_rfl) (fun _ _ _ h => h) (Or.inl ⟨by kernel_rfl, ?_⟩) ?_
                  rotate_left
                  · (intro w; go_simp; first | done | with_reducible rfl)
                  conv => arg 7; simp [Act.put]
                  refine wpAny_done (by kernel_rfl) ?_ _
                  clear g0 g1 g2 g3
                  go_wp2_with fail
                  go_meet
                  exact ⟨q, S, L, mL, A6, c6, av, ok, rfl, rfl, rfl, HML.out, fun e => putR_pg HPG.out (by rw [← e]; exact HR6.out), (PgCut.more (M2 := N + 1 + 8 * (k + 1)) HCUT.out (by omega))⟩
                focus
                  go_simp
                  go_wp2_with (go_at_call 101; refine (goodValue_any r ((N + 1 + 8 * k + 1) + 3) W2 HS2.out.rd (by omega)).mono ?_; rintro e W3 ⟨s2, rfl, hs2, hr, hg⟩)
                  have j2 : ¬ (9223372036854775807 < s1.size + 1 + s2.size) := by omega
                  have HS3 := Lib.hid (HS2.out.grow hg hr)
                  have HQ3 := Lib.hid (HQ2.out.grow hg)
                  clear hr hg
                  refine wpAny_take (i := 6) (v := ?_) rfl (by kernel_rfl) (by kernel_rfl) (by kernel_rfl) (fun _ _ _ h => h) (Or.inl ⟨by kernel_rfl, ?_⟩) ?_
                  rotate_left
                  · (intro w; go_simp; first | done | with_reducible rfl)
                  conv => arg 7; simp [Act.put]
                  obtain ⟨cell, hcell⟩ : ∃ cell : ByteArray, cell = s1 ++ ⟨#[61]⟩ ++ s2 := ⟨_, rfl⟩
                  have hcl : cell.size ≤ maxLen := by rw [hcell]; exact cell_len hs1 hs2 (by decide) (by decide)
                  rw [← hcell]
                  clear hcell
                  refine wpAny_ready (rs := [0]) (by kernel_rfl) (by simp) ?_
                  refine AllReady.cons rfl (fun K hK => ?_) (AllReady.nil)
                  have a0 := HS3.out.p0
                  have a1 := HS3.out.p1
                  go_simp
                  refine hK _ _ ?_; clear hK K
                  clear a0 a1
                  refine wpAny_ready (rs := [7]) (by kernel_rfl) (by simp) ?_
                  refine AllReady.cons rfl (fun K hK => ?_) (AllReady.nil)
                  go_simp
                  obtain ⟨S, L, mL, av, ok, ho, hmL, hft⟩ := Pg3Post.tell (putR s l cell) W3
                  have HC := Lib.hid ((sPut_any s A m c l cell W3 (HS3.out.page HPG.out) (own_none HS3.out.own) hcl).mono hft); clear hft
                  have HR6 := Lib.hid ho; have HML := Lib.hid hmL; clear ho hmL
                  go_wp2_with (go_at_call 100; refine (HC.out).mono ?_; rintro e W4 ⟨A6, c6, rfl, ho6, hb6⟩)
                  clear HC
                  have hqA6 : blockOfP A6 ≠ some q := fun e => by have := (ho6.lt _ (by rw [block_sliceD]; exact e)).1; have := HQ3.out.lt; omega
                  have hbB : b < W3.heap.size := HS3.out.bW
                  have HO4 := Lib.hid ho6
                  have HS4 := Lib.hid (HS3.out.keep hb6)
                  have HQ4 := Lib.hid (HQ3.out.keep hb6)
                  clear ho6 hb6
                  refine wpAny_take (i := 8) (v := ?_) rfl (by kernel_rfl) (by kernel_rfl) (by kernel_rfl) (fun _ _ _ h => h) (Or.inl ⟨by kernel_rfl, ?_⟩) ?_
                  rotate_left
                  · (intro w; go_simp; first | done | with_reducible rfl)
                  conv => arg 7; simp [Act.put]
                  refine wpAny_take (i := 9) (v := ?_) rfl (by kernel_rfl) (by kernel_rfl) (by kernel_rfl) (fun _ _ _ h => h) (Or.inl ⟨by kernel_rfl, ?_⟩) ?_
                  rotate_left
                  · (intro w; go_simp; first | done | with_reducible rfl)
                  conv => arg 7; simp [Act.put]
                  refine wpAny_take (i := 10) (v := ?_) rfl (by kernel_rfl) (by kernel_rfl) (by kernel_rfl) (fun _ _ _ h => h) (Or.inl ⟨by kernel_rfl, ?_⟩) ?_
                  rotate_left
                  · (intro w; go_simp; first | done | with_reducible rfl)
                  conv => arg 7; simp [Act.put]
                  refine wpAny_take (i := 11) (v := ?_) rfl (by kernel_rfl) (by kernel_rfl) (by kernel_rfl) (fun _ _ _ h => h) (Or.inl ⟨by kernel_rfl, ?_⟩) ?_
                  rotate_left
                  · (intro w; go_simp; first | done | with_reducible rfl)
                  conv => arg 7; simp [Act.put]
                  have HCUT := Lib.hid (HS4.out.cut (S := S) hqb hqA hqA6 HO4.out hbB HQ4.out)
                  have g0 := HQ4.out.c0; have g1 := HQ4.out.c1; have g2 := HQ4.out.f0; have g3 := HQ4.out.f1
                  obtain ⟨u0, g0⟩ := g0
                  obtain ⟨u1, g1⟩ := g1
                  refine wpAny_ready (rs := [13]) (by kernel_rfl) (by simp) ?_
                  refine AllReady.cons rfl (fun K hK => ?_) AllReady.nil
                  go_simp
                  refine hK _ _ ?_; clear hK K
                  refine wpAny_take (i := 14) (v := ?_) rfl (by kernel_rfl) (by kernel_rfl) (by kernel_rfl) (fun _ _ _ h => h) (Or.inl ⟨by kernel_rfl, ?_⟩) ?_
                  rotate_left
                  · (intro w; go_simp; first | done | with_reducible rfl)
                  conv => arg 7; simp [Act.put]
                  refine wpAny_take (i := 15) (v := ?_) rfl (by kernel_rfl) (by kernel_rfl) (by kernel_rfl) (fun _ _ _ h => h) (Or.inl ⟨by kernel_rfl, ?_⟩) ?_
                  rotate_left
                  · (intro w; go_simp; first | done | with_reducible rfl)
                  conv => arg 7; simp [Act.put]
                  refine wpAny_done (by kernel_rfl) ?_ _
                  clear g0 g1 g2 g3
                  go_wp2_with fail
                  go_meet
                  exact ⟨q, S, L, mL, A6, c6, av, ok, rfl, rfl, rfl, HML.out, fun e => putR_pg HPG.out (by rw [← e]; exact HR6.out), (PgCut.more (M2 := N + 1 + 8 * (k + 1)) HCUT.out (by omega))⟩
          case rest =>
            obtain ⟨q, S, L, mL, A6, c6, av, ok, rfl, rfl, rfl, hmL, hok, hcut⟩ := hcut
            have HCUT := Lib.hid hcut; have HML := Lib.hid hmL; have HOK := Lib.hid hok; clear hcut hmL hok
            have e0 := HCUT.out.e0
            have e1 := HCUT.out.e1
            have q0 := HCUT.out.pg.q0
            have q1 := HCUT.out.pg.q1
            have p0 := HCUT.out.pg.p0
            have p1 := HCUT.out.pg.p1
            cases ok
            · go_wp2_with fail
              go_roundw
              case rel => exact ⟨⟨k + 1, n, m, s, l, A, c, by go_num, by omega, HPG.out, HCUT.out.pg⟩⟩
              case measure => simp [intOf]
            · obtain ⟨B, hB, hoB⟩ := HCUT.out.own
              have HOB := Lib.hid hoB; clear hoB
              go_wp2_with fail
              go_roundw
              case rel => exact ⟨⟨k + 1, n, mL, S, L, A6, c6, by go_num, by omega, HOK.out rfl, HCUT.out.pg.put HOB.out HML.out hB⟩⟩
              case measure => simp [intOf]
    | zero =>
        have HP := Lib.hid (pick_any r (N + 1 + 8 * k) 40 wr HS.out.rd (by omega) (by omega))
        have hm24 : m ≤ 24 := by have := HS.out.len; have := HPG.out.few; omega
        have h48 := HPG.out.size
        go_wp2_with fail
        refine (HP.out).mono ?_
        rintro e w4 ⟨x, rfl, hx0, hx3, hr4, hg4⟩
        have HS4 := Lib.hid (HS.out.grow hg4 hr4); clear hr4 hg4
        have hwb := HS4.out.wb
        have hbW := HS4.out.bW
        by_cases h0 : x = 0
        · subst h0
          have p0 := HS4.out.p0
          have p1 := HS4.out.p1
          go_wp2_with fail
          refine (mutate_any s r (N + 1 + 8 * k + 1) w4 HS4.out.rd (by omega) (by omega)).mono ?_
          rintro e w5 ⟨S, rfl, hS, hr5, hg5⟩
          have HS5 := Lib.hid (HS4.out.grow hg5 hr5); clear hr5 hg5 p0 p1
          have p0 := HS5.out.p0
          have p1 := HS5.out.p1
          have q0 := HS5.out.q0
          have q1 := HS5.out.q1
          have z0 := HS5.out.z0
          have z1 := HS5.out.z1
          have y0 := HS5.out.y0
          have y1 := HS5.out.y1
          go_wp2_with fail
          refine bodyPost_ret (v := .agg #[.string S, .slice A m c]) (by simp [results, Try.results53, go_sem, z0, z1]) rfl ?_
          exact ((HS5.out.bytes S).more (M' := N + 100) (by omega)).fin hm24 (by omega) HPG.out.wf
        · have q0' : (x == 0) = false := by simpa using h0
          by_cases h1 : x = 1
          · subst h1
            by_cases hm : 0 < m
            · obtain ⟨g, rfl, hg1, hg2⟩ := HS4.out.ptr hm
              have HO5 := Lib.hid (fun W (hr : Rdr 120 W r (N + 1 + 8 * k + 1)) => oneNewD_any (-1) 60 r (N + 1 + 8 * k + 1) 4 4 #[.int .i64 (-1), .int .i64 0, .int .i64 47, .int .i64 60] 3 W hr (by omega) rfl (by omega) (by omega) (by decide))
              have p1 := HS4.out.p1
              have i0 : (0 : Int) < (m : Int) := by omega
              have hL : 0 < l.length := by have := HS4.out.len; omega
              go_wp2_with fail
              have p2 := (HS4.out.alloc (.cells #[.int .i64 (-1), .int .i64 0, .int .i64 47, .int .i64 60] 3)).p1
              go_region_with (go_at_call 54; refine (HO5.out w4 HS4.out.rd).mono ?_; rintro e w5 ⟨y, rfl, hy1, hy2, hr5, hg5⟩; have HS5 := Lib.hid (HS4.out.grow hg5 hr5); clear hr5 hg5; have p3 := HS5.out.p1; have e0 := (HS5.out.slot hm).1; have e1 := (HS5.out.slot hm).2; obtain ⟨u0, e0⟩ := e0)
              all_goals
                have HS6 := Lib.hid (HS5.out.at0 hL y)
                have HW6 := Lib.hid (show Wf (l.set 0 (y, l[0].2)) from fun p hp => by
                  rcases List.mem_or_eq_of_mem_set hp with h | rfl
                  · exact HPG.out.wf p h
                  · have := HPG.out.wf l[0] (List.getElem_mem hL)
                    exact ⟨⟨by show -9223372036854775808 ≤ y; omega, by show y ≤ 9223372036854775807; omega⟩, this.2⟩)
                clear e0 e1 p3
                try clear p1
                try clear p2
                obtain ⟨W6, hW6⟩ : ∃ W6, w5.setCell ⟨g, 0, none⟩ (.int .i64 y) = W6 := ⟨_, rfl⟩
                rw [hW6] at HS6 ⊢
                clear hW6
                have p0 := HS6.out.p0
                have p1 := HS6.out.p1
                have q0 := HS6.out.q0
                have q1 := HS6.out.q1
                have z0 := HS6.out.z0
                have z1 := HS6.out.z1
                have y0 := HS6.out.y0
                have y1 := HS6.out.y1
                go_wp2_with fail
                refine bodyPost_ret (v := .agg #[.string s, .slice (some ⟨g, 0, none⟩) m c]) (by simp [results, Try.results53, go_sem, z0, z1]) rfl ?_
                exact (HS6.out.more (M' := N + 100) (by omega)).fin hm24 (by omega) HW6.out
            · obtain rfl : m = 0 := by omega
              have i0 : ¬ (0 : Int) < ((0 : Nat) : Int) := by omega
              have p0 := HS4.out.p0
              have p1 := HS4.out.p1
              have q0 := HS4.out.q0
              have q1 := HS4.out.q1
              have z0 := HS4.out.z0
              have z1 := HS4.out.z1
              have y0 := HS4.out.y0
              have y1 := HS4.out.y1
              go_wp2_with fail
              refine bodyPost_ret (v := .agg #[.string s, .slice A 0 c]) (by simp [results, Try.results53, go_sem, z0, z1]) rfl ?_
              exact (HS4.out.more (M' := N + 100) (by omega)).fin hm24 (by omega) HPG.out.wf
          · have q1' : (x == 1) = false := by simpa using h1
            clear h0 h1
            have p0 := HS4.out.p0
            have p1 := HS4.out.p1
            have q0 := HS4.out.q0
            have q1 := HS4.out.q1
            have z0 := HS4.out.z0
            have z1 := HS4.out.z1
            have y0 := HS4.out.y0
            have y1 := HS4.out.y1
            go_wp2_with fail
            refine bodyPost_ret (v := .agg #[.string s, .slice A m c]) (by simp [results, Try.results53, go_sem, z0, z1]) rfl ?_
            exact (HS4.out.more (M' := N + 100) (by omega)).fin hm24 (by omega) HPG.out.wf
end Go.Proofs.Ytelhgpmklhdhcaa
