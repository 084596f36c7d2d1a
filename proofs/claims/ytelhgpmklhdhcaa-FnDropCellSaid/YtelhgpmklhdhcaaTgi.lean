/- The contract of the program's TightPage (chapter 1), and 'copy' of a text at a step of a drawn region. Conditions: the slots lie in a row. -/
import Derived.Test.YtelhgpmklhdhcaaTgt
import Derived.Deep.RegionLaw
set_option linter.unusedVariables false
set_option linter.unusedSimpArgs false
namespace Go.Proofs.Ytelhgpmklhdhcaa
open Go.RowKit Go.ChangeShapes Go.WideShapes

theorem step_copy_text {P : Program} {ops : Array Oper} {o : Oper} {a : Act} {w : World} {K : Act → World → Prop} {Q : Exit → Act → World → Prop} {E : Prop} (hgd : o.guard = none) (d s : Operand) (dT sT : TypeId)
    (ho : o.op = .call { callee := .builtin .copy, args := #[d, s], argTypes := #[dT, sT] }) (elem : TypeId) (hu : P.underlying dT = some (.slice elem)) (hs : (P.info? elem).map (·.size) = some 1)
    (g off dLen dCap : Nat) (txt : ByteArray) (bs : List UInt8) (t : TypeId) (hd : a.eval d = .slice (some ⟨g, off, none⟩) dLen dCap) (hx : a.eval s = .string txt)
    (hg : BytesBlk w g t bs) (hfit : off + min txt.size dLen ≤ bs.length)
    (h : ∀ w', BytesBlk w' g t (lay bs off (txt.data.toList.take (min txt.size dLen))) → w.grownBy w' (some g) → w'.heap.size = w.heap.size → K (a.put o.dst (goInt (min txt.size dLen))) w') :
    if Region.wanted o (yielded ops a.tmps) = true then Oper.wp P o a w K Q else E := by
  have hw : Region.wanted o (yielded ops a.tmps) = true := by simp [Region.wanted, hgd]
  rw [if_pos hw]
  have hrun := run_copy_text (P := P) w dT sT o.type elem g off dLen dCap txt bs t hu hs hg hfit
  unfold Oper.wp
  simp [execOp, ho, resolve, invoke, builtin, hd, hx, hrun, Result.andThen]
  have h2 := h _ (setRow_heap w g _ _ t _ hg) (setRow_grown w g _) (by simp [World.setRow])
  exact h2

/-- the bytes while the page is made tight: k slots are done -/
def bytK (s : ByteArray) (sl : List Sl) (k : Nat) : List UInt8 := List.replicate (48 - sumZ (sl.take k)) 46 ++ tlB s (sl.take k)
theorem lay_back {m z : Nat} {C T : List UInt8} (hz : C.length = z) (h : z ≤ m) : lay (List.replicate m 46 ++ T) (m - z) C = List.replicate (m - z) 46 ++ (C ++ T) := by
  subst hz
  unfold lay
  rw [List.take_append_of_le_length (by simp), List.take_replicate, Nat.min_eq_left (by omega), show m - C.length + C.length = m by omega, List.drop_left' (by simp), List.append_assoc]
section
variable {s : ByteArray} {sl : List Sl}
theorem Pg.bytK_len (h : Pg s sl) (k : Nat) : (bytK s sl k).length = 48 := by
  have h1 := h.tail_size k
  have h2 := h.sumLe
  have h3 := sumZ_take sl k
  rw [ofL_size] at h1
  unfold bytK
  rw [List.length_append, List.length_replicate, h1]; omega
theorem Pg.bytK_step (h : Pg s sl) {k : Nat} (hk : k < sl.length) {a z : Nat} (ha : sl[k].1 = a) (hz : sl[k].2 = z) (haz : a + z ≤ 48) :
    lay (bytK s sl k) (48 - sumZ (sl.take (k + 1))) ((s.data.toList.drop a).take z) = bytK s sl (k + 1) := by
  have h2 := h.sumLe
  have h3 := sumZ_take sl (k + 1)
  have h0 : 0 ≤ sl[k].1 := by omega
  have hs := sumZ_step hk
  rw [if_pos h0, hz, Int.toNat_natCast] at hs
  have h48 : s.data.toList.length = 48 := by simpa using h.size
  unfold bytK
  rw [tlB_step s hk]
  rw [show 48 - sumZ (sl.take (k + 1)) = 48 - sumZ (sl.take k) - z by omega, lay_back (z := z) (by rw [List.length_take, List.length_drop]; omega) (by omega)]
  unfold celO celL segL
  rw [if_pos h0, ha, hz, Int.toNat_natCast, Int.toNat_natCast]
theorem Pg.bytK_skip (h : Pg s sl) {k : Nat} (hk : k < sl.length) (h0 : ¬ 0 ≤ sl[k].1) : bytK s sl (k + 1) = bytK s sl k := by
  have hs := sumZ_step hk
  rw [if_neg h0, Nat.add_zero] at hs
  unfold bytK
  rw [tlB_step s hk, hs]
  unfold celO
  rw [if_neg h0]; rfl
theorem Pg.bytK_all (h : Pg s sl) : (⟨(bytK s sl sl.length).toArray⟩ : ByteArray) = tightB s sl := by
  unfold bytK tightB ofL
  rw [List.take_length, h.tlLen]
theorem bytK_zero (s : ByteArray) (sl : List Sl) : bytK s sl 0 = ptsK 48 := by
  unfold bytK ptsK
  simp [sumZ, tlB]
end

/-- while the program makes a page tight -/
structure IRel (s : ByteArray) (sl : List Sl) (A : Option Addr) (c g : Nat) (w2 : World) (k : Nat) (wr : World) : Prop where
  hk : k ≤ sl.length
  own : wr.ownsRow (g + 1) 81 2 (.slice A sl.length c) sl.length (slC (tightK sl k))
  bytes : BytesBlk wr g 93 (bytK s sl k)
  below : Below g w2 wr
  size : g + 1 ≤ wr.heap.size
section
variable {s : ByteArray} {sl : List Sl} {A : Option Addr} {c g k : Nat} {w2 wr W : World}
theorem IRel.keep (h : IRel s sl A c g w2 k wr) (hb : Below wr.heap.size wr W) : IRel s sl A c g w2 k W :=
  ⟨h.hk, h.own.kept (grown_of_below (row := none) hb) (by cases A <;> simp [Value.ownBlock]), h.bytes.below hb h.size, h.below.trans (hb.mono (by have := h.size; omega)), Nat.le_trans h.size hb.size⟩
theorem IRel.skip (h : IRel s sl A c g w2 k wr) (hv : Pg s sl) (hk : k < sl.length) (h0 : ¬ 0 ≤ sl[k].1) : IRel s sl A c g w2 (k + 1) wr :=
  ⟨hk, by rw [tightK_skip hk hv.pos h0]; exact h.own, by rw [hv.bytK_skip hk h0]; exact h.bytes, h.below, h.size⟩
theorem IRel.put {gs : Nat} (h : IRel s sl (some ⟨gs, 0, none⟩) c g w2 k W) (hv : Pg s sl) (hB : g + 1 ≤ gs) (hk : k < sl.length) (h0 : 0 ≤ sl[k].1) {W1 W2 : World}
    (hb : Below W.heap.size (W.setCell ⟨gs, k * 2, none⟩ (.int .i64 (48 - (sumZ (sl.take (k + 1)) : Int)))) W1) (hby : BytesBlk W2 g 93 (bytK s sl (k + 1))) (hg : W1.grownBy W2 (some g)) :
    IRel s sl (some ⟨gs, 0, none⟩) c g w2 (k + 1) W2 := by
  have hs1 : W.heap.size ≤ W1.heap.size := by have := hb.size; simpa using this
  have hs := h.size
  refine ⟨hk, ?_, hby, ?_, ?_⟩
  · rw [tightK_put hk hv.pos h0]
    have := (h.own.stored (k * 2) (.int .i64 (48 - (sumZ (sl.take (k + 1)) : Int)))).1
    rw [slC_set0 _ _ (by rw [tightK_len]; exact hk), tightK_at sl hk] at this
    have h2 := this.kept (grown_of_below (row := none) (hb.mono (by simp))) (.inr (by simp [Value.ownBlock]))
    exact h2.kept hg (.inr (by simp [Value.ownBlock]; omega))
  · exact ((h.below.setCell (show g ≤ gs by omega) _).trans (hb.mono (by omega))).grown hg (by omega) (fun q hq => by cases hq; exact Nat.le_refl _)
  · have := hg.size
    omega
theorem IRel.bytes_in {gs : Nat} (h : IRel s sl (some ⟨gs, 0, none⟩) c g w2 k W) (hB : g + 1 ≤ gs) {v : Value} {j : Nat} {W1 : World} (hb : Below W.heap.size (W.setCell ⟨gs, j, none⟩ v) W1) : BytesBlk W1 g 93 (bytK s sl k) := by
  have hs := h.size
  unfold BytesBlk
  rw [hb.block g (by omega), heap_setCell_other _ _ _ _ (by simp; omega)]
  exact h.bytes
end

def noPage : Value := .agg #[.string ⟨#[]⟩, .slice none 0 0]
theorem noPage_own (B : Nat) (w : World) : OwnPage B ⟨#[]⟩ [] noPage w := ⟨none, 0, rfl, World.ownsRow_nil _ _ _ _⟩
/-- a page and whether it is there -/
def PgbPost (r : (ByteArray × List Sl) × Bool) (w : World) (e : Ending) (w' : World) : Prop := ∃ v, e = .returned (.tuple #[v, .bool r.2]) ∧ OwnPage w.heap.size r.1.1 r.1.2 v w' ∧ Below w.heap.size w w'
def tightR (s : ByteArray) (sl : List Sl) : (ByteArray × List Sl) × Bool := if iValid s sl = true then ((tightB s sl, tightL 48 sl), true) else ((⟨#[]⟩, []), false)

set_option maxRecDepth 100000 in
set_option maxHeartbeats 2000000 in
theorem iTight_any (s : ByteArray) (A : Option Addr) (n c : Nat) (sl : List Sl) (w : World) (h : PageAt w s A n sl) (hA : A = none → c = 0) :
    Calls Try.prog 68 #[.agg #[.string s, .slice A n c]] w (PgbPost (tightR s sl) w) := by
  have HVA := Lib.hid (fun W (hb : Below w.heap.size w W) => iValid_any s A n c sl W (h.below hb))
  have HB0 := Lib.hid ((((Below.refl w.heap.size w).alloc (Nat.le_refl _) (.cells #[.string s, .slice A n c] 25)).alloc (by simp) (.cells #[.string ⟨#[]⟩, .slice none 0 0] 25)))
  cases hv : iValid s sl
  · rw [hv] at HVA
    have H1 := Lib.hid (show tightR s sl = ((⟨#[]⟩, []), false) by unfold tightR; rw [hv]; simp)
    clear h hv
    go_enter Try.func68, Try.ntmps68
    go_wp2_with fail
    refine (HVA.out _ HB0.out).mono ?_
    rintro e w2 ⟨rfl, hb2⟩
    have r0 : w2.cell? ⟨w.heap.size + 1, 0, none⟩ = some (.string ⟨#[]⟩) := (hb2.cell (p := ⟨w.heap.size + 1, 0, none⟩) (by simp)).trans (by simp [go_sem])
    have r1 : w2.cell? ⟨w.heap.size + 1, 1, none⟩ = some (.slice none 0 0) := (hb2.cell (p := ⟨w.heap.size + 1, 1, none⟩) (by simp)).trans (by simp [go_sem])
    have z0 : w2.frozen? ⟨w.heap.size + 1, 0, none⟩ = false := (hb2.frozen (p := ⟨w.heap.size + 1, 0, none⟩) (by simp)).trans (by simp [go_sem])
    have z1 : w2.frozen? ⟨w.heap.size + 1, 1, none⟩ = false := (hb2.frozen (p := ⟨w.heap.size + 1, 1, none⟩) (by simp)).trans (by simp [go_sem])
    have HB2 := Lib.hid (HB0.out.trans (hb2.mono HB0.out.size)); clear hb2
    go_wp2_with fail
    refine bodyPost_ret (v := .tuple #[.agg #[.string ⟨#[]⟩, .slice none 0 0], .bool false]) ?_ rfl ?_
    · simp [results, Try.results68, go_sem, r0, r1]
    · rw [H1.out]
      refine ⟨_, rfl, noPage_own _ _, ?_⟩
      refine (HB2.out.setCell ?_ _).setCell ?_ _ <;> simp
  · have hpg := (valid_iff s sl).1 hv
    rw [hv] at HVA
    have H1 := Lib.hid (show tightR s sl = ((tightB s sl, tightL 48 sl), true) by unfold tightR; rw [hv]; simp)
    obtain ⟨hn, hrow, hwf, hs, hsm⟩ := h
    have HC := Lib.hid (fun W (hb : Below w.heap.size w W) => iCopy_any A n c n sl W ((hrow.below hb).mono hb.size) hn (Nat.le_refl _) (by omega) hA)
    rw [Nat.sub_self, List.replicate_zero, List.append_nil] at HC
    have HP := Lib.hid (fun w => pointBytes_any w)
    have h48 : s.size = 48 := hpg.size
    have hsum := hpg.sumLe
    have HN := Lib.hid hn; clear hn
    have HV := Lib.hid hpg; clear hpg hv hrow hA hwf
    go_enter Try.func68, Try.ntmps68
    go_wp2_with fail
    refine (HVA.out _ HB0.out).mono ?_
    rintro e w1 ⟨rfl, hb1⟩
    have HB1 := Lib.hid hb1; clear hb1
    go_wp2_with fail
    refine (HP.out _).mono ?_
    rintro e w3 ⟨rfl, hb3⟩
    have hb13 := HB1.out.trans (hb3.mono HB1.out.size)
    have hs3 : w.heap.size + 2 ≤ w3.heap.size := by have := hb13.size; simpa using this
    have f0 : w3.cell? ⟨w.heap.size, 0, none⟩ = some (.string s) := (hb13.cell (p := ⟨w.heap.size, 0, none⟩) (by simp <;> omega)).trans (by simp [go_sem])
    have f1 : w3.cell? ⟨w.heap.size, 1, none⟩ = some (.slice A n c) := (hb13.cell (p := ⟨w.heap.size, 1, none⟩) (by simp <;> omega)).trans (by simp [go_sem])
    have r0 : w3.cell? ⟨w.heap.size + 1, 0, none⟩ = some (.string ⟨#[]⟩) := (hb13.cell (p := ⟨w.heap.size + 1, 0, none⟩) (by simp)).trans (by simp [go_sem])
    have r1 : w3.cell? ⟨w.heap.size + 1, 1, none⟩ = some (.slice none 0 0) := (hb13.cell (p := ⟨w.heap.size + 1, 1, none⟩) (by simp)).trans (by simp [go_sem])
    have z0 : w3.frozen? ⟨w.heap.size + 1, 0, none⟩ = false := (hb13.frozen (p := ⟨w.heap.size + 1, 0, none⟩) (by simp)).trans (by simp [go_sem])
    have z1 : w3.frozen? ⟨w.heap.size + 1, 1, none⟩ = false := (hb13.frozen (p := ⟨w.heap.size + 1, 1, none⟩) (by simp)).trans (by simp [go_sem])
    have HB3 := Lib.hid (HB0.out.trans (hb13.mono HB0.out.size))
    have HF := Lib.hid (And.intro f0 (And.intro f1 (And.intro r0 (And.intro r1 (And.intro z0 z1)))))
    clear hb3 hb13 f0 f1 r0 r1 z0 z1
    go_wp2_with ((refine wpList_store_row_k rfl 93 _ _ rfl w3.heap.size (u8s (ptsK 48)).toArray rfl rfl 93 _ (heap_alloc_new w3 _) pts_size (by simp [u8s_len, ptsK_len]) (u8s_all _) ?_
                  intro w4 hw4 hg4 hs4
                  have hB34 : Below w3.heap.size w3 w4 := ⟨hg4.os, hg4.tape, hg4.output, by have := hg4.size; simp at this; omega, fun k hk => by rw [hg4.block k (by simp; omega) (by simp; omega), heap_alloc_old _ _ hk]⟩
                  have hs4' : w4.heap.size = w3.heap.size + 1 := by simpa using hs4
                  have f1 : w4.cell? ⟨w.heap.size, 1, none⟩ = some (.slice A n c) := (hB34.cell (p := ⟨w.heap.size, 1, none⟩) (by show w.heap.size < w3.heap.size; omega)).trans HF.out.2.1
                  have HB4 := Lib.hid hB34
                  have HW4 := Lib.hid (show BytesBlk w4 w3.heap.size 93 (ptsK 48) from hw4)
                  clear hw4 hg4 hs4 hB34))
    refine (HC.out _ (HB3.out.trans (HB4.out.mono HB3.out.size))).mono ?_
    rintro e w5 ⟨v, rfl, ⟨A2, c2, rfl, ho⟩, hb5⟩
    rw [hs4'] at ho
    have HI := Lib.hid (show IRel s sl A2 c2 w3.heap.size w3 0 w5 from ⟨Nat.zero_le _, by rw [tightK_zero]; exact ho, by rw [bytK_zero]; exact HW4.out.below hb5 (by omega), HB4.out.trans (hb5.mono (by omega)), by have := hb5.size; omega⟩)
    clear ho hb5 f1
    obtain ⟨g, hG⟩ : ∃ g, w3.heap.size = g := ⟨_, rfl⟩
    rw [hG] at HI hs3 ⊢
    have HG := Lib.hid hG
    clear hG HW4 HB4 hs4'
    go_wp2_with fail
    go_loopw [6, 22] (fun q i wr => ∃ k : Nat, i = .int .i64 k ∧ q = .int .i64 ((48 - sumZ (sl.take k) : Nat) : Int) ∧ IRel s sl A2 c2 g w3 k wr) (fun _ i _ => sl.length - (intOf i).toNat)
    case atStart => exact ⟨0, rfl, by simp [sumZ], HI.out⟩
    case round =>
      clear HI
      obtain ⟨k, rfl, rfl, hi⟩ := hrel
      have HI := Lib.hid hi; clear hi
      have hk := HI.out.hk
      have hgs := HI.out.size
      have hm0 := sumZ_take sl k
      have g0 : wr.cell? ⟨w.heap.size, 0, none⟩ = some (.string s) := (HI.out.below.cell (p := ⟨w.heap.size, 0, none⟩) (by show w.heap.size < g; omega)).trans HF.out.1
      by_cases hlt : k < sl.length
      · obtain ⟨gs, rfl, hBg, hgl⟩ := own_some HI.out.own (by omega)
        obtain ⟨e0, e1, f0, f1⟩ := own_slot HI.out.own (by rw [tightK_len]) (k := k) (by rw [tightK_len]; exact hlt)
        rw [tightK_at sl hlt] at e0 e1
        have hgd := HV.out.good _ (List.getElem_mem hlt)
        have hfr := good_free hgd
        have HFR := Lib.hid (fun w => isFree_any sl[k].1 sl[k].2 w)
        rw [hfr] at HFR
        clear hfr
        by_cases hx : 0 ≤ sl[k].1
        · obtain ⟨a, z, ha, hz, _, hz1, haz, _⟩ := good_cell hgd hx
          have hss := sumZ_step hlt
          rw [if_pos hx, hz, Int.toNat_natCast] at hss
          have hm1 := sumZ_take sl (k + 1)
          have hst := HV.out.bytK_step hlt ha hz haz
          have hbl := HV.out.bytK_len k
          rw [show (!decide (0 ≤ sl[k].1)) = false by simp [hx]] at HFR
          have HPUT := Lib.hid (fun W (hb : Below wr.heap.size wr W) => fun W1 W2 => (HI.out.keep hb).put (W1 := W1) (W2 := W2) HV.out hBg hlt hx)
          have HBY := Lib.hid (fun W (hb : Below wr.heap.size wr W) => fun v j W1 => (HI.out.keep hb).bytes_in (v := v) (j := j) (W1 := W1) hBg)
          rw [ha, hz] at HFR
          rw [ha] at e0
          rw [hz] at e1
          have HST := Lib.hid (And.intro hst hbl); clear hst hbl
          obtain ⟨m, hm⟩ : ∃ m, sumZ (sl.take k) = m := ⟨_, rfl⟩
          obtain ⟨en, hen⟩ : ∃ en, 48 - sumZ (sl.take (k + 1)) = en := ⟨_, rfl⟩
          have he : (48 : Int) - (sumZ (sl.take (k + 1)) : Int) = ((48 - m : Nat) : Int) - (z : Int) := by omega
          rw [he] at HPUT
          have HM := Lib.hid (fun w => room_any g en z w (by omega) hz1)
          have hen2 : (en : Int) = ((48 - m : Nat) : Int) - (z : Int) := by omega
          rw [hen2] at HM
          rw [hen] at HST
          have HEN := Lib.hid (And.intro hen (And.intro (show en + z ≤ 48 by omega) hen2))
          rw [hm] at hm0 ⊢
          clear hx hgd he hen hen2 hss hm1
          go_wp2_with fail
          refine (HFR.out _).mono ?_
          rintro e w6 ⟨rfl, hb6'⟩
          have m0 : w6.cell? ⟨wr.heap.size, 0, none⟩ = some (.int .i64 (a : Int)) := (hb6'.cell (p := ⟨wr.heap.size, 0, none⟩) (by simp)).trans (by simp)
          have m1 : w6.cell? ⟨wr.heap.size, 1, none⟩ = some (.int .i64 (z : Int)) := (hb6'.cell (p := ⟨wr.heap.size, 1, none⟩) (by simp)).trans (by simp)
          have hb6 : Below wr.heap.size wr w6 := ((Below.refl _ _).alloc (Nat.le_refl _) _).trans (hb6'.mono (by simp))
          have hs6 : wr.heap.size + 1 ≤ w6.heap.size := by have := hb6'.size; simpa using this
          have g60 : w6.cell? ⟨w.heap.size, 0, none⟩ = some (.string s) := (hb6.cell (p := ⟨w.heap.size, 0, none⟩) (by show w.heap.size < wr.heap.size; omega)).trans g0
          have e60 : w6.cell? ⟨gs, k * 2, none⟩ = some (.int .i64 (a : Int)) := (hb6.cell (p := ⟨gs, k * 2, none⟩) hgl).trans e0
          have e61 : w6.cell? ⟨gs, k * 2 + 1, none⟩ = some (.int .i64 (z : Int)) := (hb6.cell (p := ⟨gs, k * 2 + 1, none⟩) hgl).trans e1
          have k60 : w6.frozen? ⟨gs, k * 2, none⟩ = false := (hb6.frozen (p := ⟨gs, k * 2, none⟩) hgl).trans f0
          have HB6 := Lib.hid hb6
          have hsz6 : (w6.setCell ⟨gs, k * 2, none⟩ (.int .i64 (((48 - m : Nat) : Int) - (z : Int)))).heap.size = w6.heap.size := by simp
          have hne : ∀ b, b ≠ gs → (w6.setCell ⟨gs, k * 2, none⟩ (.int .i64 (((48 - m : Nat) : Int) - (z : Int)))).heap[b]? = w6.heap[b]? := fun b hb => heap_setCell_other _ _ _ _ (by simpa using hb)
          have x0 := World.cell?_of_block (a := ⟨w.heap.size, 0, none⟩) (hne w.heap.size (by omega))
          have x1 := World.cell?_of_block (a := ⟨wr.heap.size, 0, none⟩) (hne wr.heap.size (by omega))
          rw [g60] at x0
          rw [m0] at x1
          have y0 : (w6.setCell ⟨gs, k * 2, none⟩ (.int .i64 (((48 - m : Nat) : Int) - (z : Int)))).cell? ⟨gs, k * 2, none⟩ = some (.int .i64 (((48 - m : Nat) : Int) - (z : Int))) := by go_simp
          have y1 : (w6.setCell ⟨gs, k * 2, none⟩ (.int .i64 (((48 - m : Nat) : Int) - (z : Int)))).cell? ⟨gs, k * 2 + 1, none⟩ = some (.int .i64 (z : Int)) := by go_simp
          have HP6 := Lib.hid (HPUT.out w6 HB6.out)
          have HY6 := Lib.hid (HBY.out w6 HB6.out (.int .i64 (((48 - m : Nat) : Int) - (z : Int))) (k * 2))
          clear hb6' hb6 g0 e0 e1 f0 f1 hne
          have HX := Lib.hid (And.intro hsz6 (And.intro x0 (And.intro x1 (And.intro y0 y1))))
          clear hsz6 x0 x1 y0 y1
          go_wp2_with fail
          obtain ⟨W6, hW6⟩ : ∃ W, w6.setCell ⟨gs, k * 2, none⟩ (.int .i64 (((48 - m : Nat) : Int) - (z : Int))) = W := ⟨_, rfl⟩
          rw [hW6] at HP6 HY6 HX ⊢
          clear hW6 e60 e61 k60 m0 m1 g60
          obtain ⟨hsz6, x0, x1, y0, y1⟩ := HX.out
          have HS6 := Lib.hid hsz6; clear hsz6
          have ha48 : a ≤ s.size := by omega
          have HFT := Lib.hid (show en + min (s.extract a 48).size z ≤ (bytK s sl k).length by rw [HST.out.2]; have := HEN.out.2.1; omega)
          have hlt2 := lay_text h48 haz
          rw [h48] at hlt2
          have HLT := Lib.hid hlt2; clear hlt2
          have ha48i : (a : Int) ≤ 48 := by omega
          have HY7 := Lib.hid (fun W1 (hb : Below w6.heap.size W6 W1) => HY6.out W1 hb)
          have hlk : (k : Int) < (sl.length : Int) := by omega
          go_region_law (first
            | (refine step_copy_text rfl (.tmp 42) (.tmp 47) 22 9 rfl 5 Try.underlying22 (by kernel_rfl) g en z z (s.extract a 48) (bytK s sl k) 93 (by simp [Act.eval, Act.put]) (by simp [Act.eval, Act.put]) (by exact HY7b.out) HFT.out ?_
               intro w8 hb8 hg8 hs8)
            | (go_simp
               go_at_call 71
               refine (HM.out _).mono ?_
               rintro e w7 ⟨rfl, hb7⟩
               have hb67 : Below w6.heap.size W6 w7 := Below.trans (Below.drew (Below.refl _ _)) (hb7.mono (by show w6.heap.size ≤ W6.heap.size; exact Nat.le_of_eq HS6.out.symm))
               have x70 : w7.cell? ⟨w.heap.size, 0, none⟩ = some (.string s) := (hb67.cell (p := ⟨w.heap.size, 0, none⟩) (by show w.heap.size < w6.heap.size; omega)).trans x0
               have x71 : w7.cell? ⟨wr.heap.size, 0, none⟩ = some (.int .i64 (a : Int)) := (hb67.cell (p := ⟨wr.heap.size, 0, none⟩) (by show wr.heap.size < w6.heap.size; omega)).trans x1
               have HB67 := Lib.hid hb67
               have HY7b := Lib.hid (HY7.out _ hb67)
               clear hb7 hb67))
          all_goals
            rw [HLT.out, HST.out.1] at hb8
            have HK := Lib.hid (HP6.out _ _ HB67.out hb8 hg8)
            clear hb8 hg8 hs8
            go_simp
            go_wp2_with fail
            go_roundw
            case rel => exact ⟨k + 1, by go_num, by rw [HEN.out.1, HEN.out.2.2], HK.out⟩
            case measure => simp [intOf]; omega
        · have HK := Lib.hid (HI.out.skip HV.out hlt hx)
          have hss := sumZ_step hlt
          rw [if_neg hx, Nat.add_zero] at hss
          have HSS := Lib.hid hss
          rw [show (!decide (0 ≤ sl[k].1)) = true by simp [hx]] at HFR
          generalize sl[k].1 = x1 at *
          generalize sl[k].2 = x2 at *
          clear hss hgd
          go_wp2_with fail
          refine (HFR.out _).mono ?_
          rintro e w6 ⟨rfl, hb6'⟩
          have HB6 := Lib.hid (((Below.refl wr.heap.size wr).alloc (Nat.le_refl _) _).trans (hb6'.mono (by simp))); clear hb6'
          go_wp2_with fail
          go_roundw
          case rel => exact ⟨k + 1, by go_num, by rw [HSS.out, Nat.add_zero], HK.out.keep HB6.out⟩
          case measure => simp [intOf]; omega
      · obtain rfl : k = sl.length := by omega
        have hby := HI.out.bytes
        have hbl := HV.out.bytK_len sl.length
        have hcv := run_text_of (P := Try.prog) wr 22 9 5 g 0 48 48 93 (bytK s sl sl.length) Try.underlying22 Try.underlying5 Try.underlying9 hby (by rw [hbl]; omega)
        rw [List.drop_zero, List.take_of_length_le (by rw [hbl]; omega), HV.out.bytK_all] at hcv
        have HO := Lib.hid (And.intro HI.out.own HI.out.below)
        rw [tightK_all] at HO
        have r0 : wr.cell? ⟨w.heap.size + 1, 0, none⟩ = some (.string ⟨#[]⟩) := (HO.out.2.cell (p := ⟨w.heap.size + 1, 0, none⟩) (by show w.heap.size + 1 < g; omega)).trans HF.out.2.2.1
        have r1 : wr.cell? ⟨w.heap.size + 1, 1, none⟩ = some (.slice none 0 0) := (HO.out.2.cell (p := ⟨w.heap.size + 1, 1, none⟩) (by show w.heap.size + 1 < g; omega)).trans HF.out.2.2.2.1
        have z0 : wr.frozen? ⟨w.heap.size + 1, 0, none⟩ = false := (HO.out.2.frozen (p := ⟨w.heap.size + 1, 0, none⟩) (by show w.heap.size + 1 < g; omega)).trans HF.out.2.2.2.2.1
        have z1 : wr.frozen? ⟨w.heap.size + 1, 1, none⟩ = false := (HO.out.2.frozen (p := ⟨w.heap.size + 1, 1, none⟩) (by show w.heap.size + 1 < g; omega)).trans HF.out.2.2.2.2.2
        generalize tightB s sl = P at *
        clear hby hbl g0
        go_wp2_with fail
        refine bodyPost_ret (v := .tuple #[.agg #[.string P, .slice A2 sl.length c2], .bool true]) ?_ rfl ?_
        · simp [results, Try.results68, go_sem, r0, r1]
        · rw [H1.out]
          refine ⟨_, rfl, ⟨A2, c2, by rw [tightL_len], ?_⟩, ?_⟩
          · show World.ownsRow _ _ _ _ (.slice A2 (tightL 48 sl).length c2) (tightL 48 sl).length (slC (tightL 48 sl))
            rw [tightL_len]
            refine own_mono (ownsRow_setCell_below (ownsRow_setCell_below HO.out.1 ?_ _) ?_ _) ?_ <;> first | omega | (simp; done) | (simp <;> omega)
          · refine ((HB3.out.trans (HO.out.2.mono (by omega))).setCell ?_ _).setCell ?_ _ <;> simp
end Go.Proofs.Ytelhgpmklhdhcaa
