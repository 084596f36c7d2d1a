/- Contract of KeptBy of the program (chapter 8). Conditions: the jobs lie in a row; they are few. -/
import Derived.Test.YtdpehojcoohjcabKepI
set_option linter.unusedVariables false
set_option linter.unusedSimpArgs false
namespace Go.Proofs.Ytdpehojcoohjcab
open Go.RowKit Go.ChangeShapes Go.WideShapes

theorem idxI_cases (p : JbT → Bool) (l : List JbT) : (idxI p l = -1 ∧ ∀ k (h : k < l.length), p l[k] = false) ∨ ∃ i, ∃ h : i < l.length, idxI p l = (i : Int) ∧ p l[i] = true := by
  unfold idxI
  cases hf : (List.range l.length).find? (fun i => p (jAt l i)) with
  | none =>
    refine .inl ⟨rfl, fun k hk => ?_⟩
    have := List.find?_eq_none.1 hf k (by simpa using hk)
    rw [jAt_get hk] at this
    simpa using this
  | some i =>
    have h1 := List.find?_some hf
    have h2 : i < l.length := by simpa using List.mem_of_find?_eq_some hf
    rw [jAt_get h2] at h1
    exact .inr ⟨i, h2, rfl, h1⟩
theorem kept_none {l : List Jb} {rd : Bool} {t : Nat} (h : ∀ k (hk : k < l.length), ¬ l[k].2.1 = (t : Int)) : keptL l rd (t + 1) = keptL l rd t := by
  unfold keptL
  apply List.map_congr_left
  intro k hk
  have hkl : k < l.length := by simpa using hk
  rw [keptT, if_neg (by rw [jAt_get hkl]; exact h k hkl)]
theorem kept_one {l : List Jb} {rd : Bool} {t i : Nat} (hi : i < l.length) (he : l[i].2.1 = (t : Int)) (hu : ∀ k (hk : k < l.length), k ≠ i → ¬ l[k].2.1 = (t : Int)) :
    keptL l rd (t + 1) = (keptL l rd t).set i (okK l rd (keptT l rd t) i) := by
  refine List.ext_getElem (by simp [keptL]) (fun k h1 h2 => ?_)
  have hkl : k < l.length := by simpa [keptL] using h1
  rw [List.getElem_set]
  simp only [keptL, List.getElem_map, List.getElem_range]
  by_cases e : i = k
  · subst e
    rw [if_pos rfl, keptT, if_pos (by rw [jAt_get hi]; exact he)]
  · rw [if_neg e, keptT, if_neg (by rw [jAt_get hkl]; exact hu k hkl (fun e2 => e e2.symm))]
theorem kept_same {l : List Jb} {rd : Bool} {t i : Nat} (hi : i < l.length) (he : l[i].2.1 = (t : Int)) : (keptL l rd t).set i false = keptL l rd t := by
  refine List.ext_getElem (by simp) (fun k h1 h2 => ?_)
  rw [List.getElem_set]
  split
  · rename_i e
    subst e
    simp only [keptL, List.getElem_map, List.getElem_range]
    cases hq : keptT l rd t i with
    | false => rfl
    | true =>
      have := keptT_lt hq
      rw [jAt_get hi] at this
      omega
  · rfl
/-- E: those that are kept and have ended ahead of t -/
def EndsI (l : List Jb) (rd : Bool) (t : Nat) (E : List Jb) : Prop := (∀ x ∈ E, x ∈ l) ∧ E.length ≤ t ∧ ∀ f : JbT → Bool, E.any f = (List.range l.length).any (fun k => keptT l rd t k && f (jAt l k))
theorem EndsI.zero (l : List Jb) (rd : Bool) : EndsI l rd 0 [] := ⟨fun x hx => (by cases hx), (by simp), fun f => (by simp [keptT])⟩
theorem EndsI.none {l : List Jb} {rd : Bool} {t : Nat} {E : List Jb} (h : EndsI l rd t E) (hk : keptL l rd (t + 1) = keptL l rd t) : EndsI l rd (t + 1) E := by
  refine ⟨h.1, by have := h.2.1; omega, fun f => ?_⟩
  rw [h.2.2 f]
  have key : ∀ k, k < l.length → keptT l rd (t + 1) k = keptT l rd t k := fun k hkl => by
    have h1 := congrArg (fun L => L.getD k false) hk
    simpa [keptL, List.getD_eq_getElem?_getD, hkl] using h1
  rw [Bool.eq_iff_iff]
  simp only [List.any_eq_true, List.mem_range, Bool.and_eq_true]
  constructor
  · rintro ⟨k, hkl, a, b⟩; exact ⟨k, hkl, by rw [key k hkl]; exact a, b⟩
  · rintro ⟨k, hkl, a, b⟩; exact ⟨k, hkl, by rw [← key k hkl]; exact a, b⟩
theorem EndsI.one {l : List Jb} {rd : Bool} {t i : Nat} {E : List Jb} (h : EndsI l rd t E) (hi : i < l.length) (hk : keptL l rd (t + 1) = (keptL l rd t).set i true) : EndsI l rd (t + 1) (E ++ [l[i]]) := by
  refine ⟨fun x hx => ?_, by have := h.2.1; simp; omega, fun f => ?_⟩
  · rcases List.mem_append.1 hx with h1 | h1
    · exact h.1 x h1
    · simp at h1; subst h1; exact List.getElem_mem hi
  have key : ∀ k, k < l.length → keptT l rd (t + 1) k = (keptT l rd t k || decide (i = k)) := fun k hkl => by
    have h1 := congrArg (fun L => L[k]?) hk
    simp only [keptL] at h1
    rw [List.getElem?_set] at h1
    by_cases e : i = k
    · subst e
      simp [hkl] at h1
      simp [h1]
    · simp [e, hkl] at h1
      simp [e, h1]
  rw [List.any_append, h.2.2 f, Bool.eq_iff_iff]
  simp only [List.any_cons, List.any_nil, Bool.or_false, Bool.or_eq_true, List.any_eq_true, List.mem_range, Bool.and_eq_true]
  constructor
  · rintro (⟨k, hkl, a, b⟩ | a)
    · exact ⟨k, hkl, by rw [key k hkl, a]; rfl, b⟩
    · exact ⟨i, hi, by rw [key i hi]; simp, by rw [jAt_get hi]; exact a⟩
  · rintro ⟨k, hkl, a, b⟩
    rw [key k hkl] at a
    by_cases e : i = k
    · subst e
      rw [jAt_get hi] at b
      exact .inr b
    · simp [e] at a
      exact .inl ⟨k, hkl, a, b⟩
theorem okK_ends {l : List Jb} {rd : Bool} {t i : Nat} {E : List Jb} (h : EndsI l rd t E) (hi : i < l.length) {mi : Nat} (hm : mineJ rd l[i] = (mi : Int)) : okK l rd (keptT l rd t) i = !E.any (wayB l[i].1 mi) := by
  unfold okK
  rw [h.2.2]
  congr 2
  funext k
  rw [jAt_get hi, hm]
  unfold wayB
  rw [Bool.and_assoc]
theorem keyEnd_any (x : Jb) (g : Nat) (t : Int) (w : World) (hg : g < w.heap.size) (hc : w.cell? ⟨g, 0, none⟩ = some (.int .i64 t)) :
    Calls Try.prog 77 #[.agg #[.int .i64 x.1, .int .i64 x.2.1, .int .i64 x.2.2.1, .int .i64 x.2.2.2], .pointer (some ⟨g, 0, none⟩)] w fun e w' => e = .returned (.bool (decide (x.2.1 = t))) ∧ Below w.heap.size w w' := by
  obtain ⟨x0, x1, x2, x3⟩ := x
  simp only
  have HB := Lib.hid ((Below.refl w.heap.size w).alloc (Nat.le_refl _) (.cells #[.int .i64 x0, .int .i64 x1, .int .i64 x2, .int .i64 x3] 69))
  have hc2 : (w.alloc (.cells #[.int .i64 x0, .int .i64 x1, .int .i64 x2, .int .i64 x3] 69)).cell? ⟨g, 0, none⟩ = some (.int .i64 t) := (HB.out.cell (p := ⟨g, 0, none⟩) hg).trans hc
  have hne : ¬ (w.heap.size = g) := by omega
  by_cases h : x1 = t
  · subst h
    go_enter Try.func77, Try.ntmps77
    go_wp2
    go_ret
    exact ⟨retb (by simp), HB.out⟩
  · have hb : (x1 == t) = false := by simpa using h
    go_enter Try.func77, Try.ntmps77
    go_wp2
    go_ret
    exact ⟨retb (by simp [h]), HB.out⟩
/-- jobs that the call has appended -/
def ApJ (w : World) (L : List Jb) (v : Value) (wr : World) : Prop := wr.ownsRow w.heap.size 69 4 v L.length (jbsC L) ∧ Below w.heap.size w wr
theorem ApJ.step {w wr W w' : World} {L : List Jb} {v v' : Value} {x : Jb} (h : ApJ w L v wr) (hb : Below wr.heap.size wr W)
    (ho : w'.ownsRow w.heap.size 69 4 v' (L.length + 1) (jbsC L ++ jbC x)) (hg : W.grownBy w' v.ownBlock) : ApJ w (L ++ [x]) v' w' := by
  have hlt := h.1.lt
  refine ⟨?_, ?_⟩
  · rw [jbsC_snoc, List.length_append]; exact ho
  · exact (h.2.trans (hb.mono h.2.size)).grown hg (Nat.le_trans h.2.size hb.size) (fun q hq => (hlt q hq).1)
theorem ApJ.keep {w wr W : World} {L : List Jb} {v : Value} (h : ApJ w L v wr) (hb : Below wr.heap.size wr W) : ApJ w L v W :=
  ⟨h.1.kept (grown_of_below (row := none) hb) (Classical.em _), h.2.trans (hb.mono h.2.size)⟩
theorem ApJ.sl {w wr : World} {L : List Jb} {v : Value} (h : ApJ w L v wr) : ∃ A c, v = .slice A L.length c := by
  rcases h.1.2 with ⟨a1, a2⟩ | ⟨g, N, cur, a1, _⟩
  · exact ⟨none, 0, a1.trans (by rw [a2])⟩
  · exact ⟨_, _, a1⟩
theorem cells_at9 (w : World) (xs : List Value) (t : TypeId) (j : Nat) (u : Value) (h : xs[j]? = some u) : (w.alloc (.cells xs.toArray t)).cell? ((⟨w.heap.size, 0, none⟩ : Addr).add j) = some u := by
  rw [add_zero_off, Nat.zero_add]
  simpa using h
def kepR (l : List Jb) (kind : ByteArray) : List Bool := if jobsB l && kindB kind then keptL l (rdB kind) 21 else []
set_option maxRecDepth 100000 in
set_option maxHeartbeats 8000000 in
theorem iKept_any (A : Option Addr) (n c : Nat) (kind : ByteArray) (l : List Jb) (w : World) (hr : RowAt w w.heap.size A (jbsC l)) (hn : n = l.length) (hs : n ≤ 1048576) (hw : WfJb l) (hnc : n ≤ c) (hcm : c ≤ maxLen) :
    Calls Try.prog 54 #[.slice A n c, .string kind] w (BlsPost (kepR l kind) w) := by
  have HV := Lib.hid (iJobs_any A n c l w hr hn hs hnc hcm)
  have HK := Lib.hid (fun W => iKind_any kind W)
  cases hv : jobsB l
  · rw [hv] at HV
    have HD := Lib.hid (show kepR l kind = [] by simp [kepR, hv])
    rw [HD.out]
    clear hv hr hn hw hcm
    go_enter Try.func54, Try.ntmps54
    go_wp2_with fail
    refine HV.out.mono ?_
    rintro e w2 ⟨rfl, hb2⟩
    go_wp2_with fail
    go_ret
    exact ⟨_, rfl, ⟨none, 0, rfl, World.ownsRow_nil _ _ _ _⟩, hb2⟩
  rw [hv] at HV
  cases hk : kindB kind
  · rw [hk] at HK
    have HD := Lib.hid (show kepR l kind = [] by simp [kepR, hk])
    rw [HD.out]
    clear hv hr hn hw hcm
    go_enter Try.func54, Try.ntmps54
    go_wp2_with fail
    refine HV.out.mono ?_
    rintro e w2 ⟨rfl, hb2⟩
    have HB2 := Lib.hid hb2; clear hb2
    go_wp2_with fail
    refine (HK.out _).mono ?_
    rintro e w3 ⟨rfl, hw3⟩
    obtain rfl := hw3.symm
    go_wp2_with fail
    go_ret
    exact ⟨_, rfl, ⟨none, 0, rfl, World.ownsRow_nil _ _ _ _⟩, HB2.out⟩
  rw [hk] at HK
  rw [show kepR l kind = keptL l (rdB kind) 21 by simp [kepR, hv, hk]]
  obtain ⟨i0, hi0, hz0, hz1, hz2⟩ := info_parts blInfo
  have hb2 : i0.bytes * n ≤ 281474976710656 := by rw [hz2]; have := (jobsB_iff.1 hv).1; omega
  have HI := Lib.hid (And.intro hi0 (And.intro hz0 (And.intro hz1 hz2))); clear hi0 hz0 hz1 hz2
  obtain ⟨j0, hj0, hy0, hy1, hy2⟩ := info_parts jbInfo
  have HJ := Lib.hid (And.intro hj0 (And.intro hy0 (And.intro hy1 hy2))); clear hj0 hy0 hy1 hy2
  obtain ⟨hl6, hokA, hdist⟩ := jobsB_iff.1 hv
  have hn6 : n ≤ 6 := by omega
  have HOK := Lib.hid hokA; clear hokA
  have HDI := Lib.hid (fun i k (hi : i < l.length) (hk : k < l.length) (hne : k ≠ i) (t : Int) (h1 : l[i].2.1 = t) => (show ¬ l[k].2.1 = t by
    rcases Nat.lt_or_gt_of_ne hne with h | h
    · exact fun e => hdist i k hi h (by rw [e, h1])
    · exact fun e => hdist k i hk h (by rw [h1, e])))
  have HIX := Lib.hid (fun W g (t : Int) (hb : Below w.heap.size w W) (hg : g < W.heap.size) (hc : W.cell? ⟨g, 0, none⟩ = some (.int .i64 t)) =>
    iIdx_K A n c l (fun o => decide (o.2.1 = t)) (.pointer (some ⟨g, 0, none⟩)) W ((hr.below hb).mono hb.size) hn hs (fun W' x hb' => keyEnd_any x g t W' (Nat.lt_of_lt_of_le hg hb'.size) ((hb'.cell (p := ⟨g, 0, none⟩) hg).trans hc)))
  have HR := Lib.hid hr; clear hr
  have HN := Lib.hid hn; clear hn
  clear hv hk hdist hw hcm
  have HKL := Lib.hid (fun t => (show (keptL l (rdB kind) t).length = n by simp [keptL]; exact HN.out.symm))
  go_enter Try.func54, Try.ntmps54
  go_wp2_with fail
  refine HV.out.mono ?_
  rintro e w2 ⟨rfl, hb2'⟩
  have HB2 := Lib.hid hb2'; clear hb2'
  go_wp2_with fail
  refine (HK.out _).mono ?_
  rintro e w3 ⟨rfl, hw3⟩
  obtain rfl := hw3.symm
  have h2s : w.heap.size ≤ w2.heap.size := HB2.out.size
  go_wp2_with ((refine wpList_make_full _ rfl _ _ 66 rfl w.heap.size 4 i0 (.bool false) 1 Try.underlying66 HI.out.1 HI.out.2.1 HI.out.2.2.1 .i64 .i64 _ _ n rfl rfl rfl rfl hb2 (by unfold maxLen; omega) h2s ?_
                intro w1 hown hg1))
  have HF := Lib.hid (show RB w.heap.size w2.heap.size (keptL l (rdB kind) 0) w1 from by
    rw [keptL_zero, ← HN.out]; exact RB.made hown)
  have HB1 := Lib.hid (show Below w.heap.size w w1 from HB2.out.grown hg1 h2s (by simp))
  have hsw1 : w2.heap.size < w1.heap.size := HF.out.ge.2
  clear hown hg1 hb2
  go_loopw [6, 20] (fun v t wr => ∃ (t' : Nat) (E : List Jb), t = .int .i64 (t' : Int) ∧ t' ≤ 21 ∧ EndsI l (rdB kind) t' E ∧ RB w.heap.size w2.heap.size (keptL l (rdB kind) t') wr ∧
    wr.ownsRow w1.heap.size 69 4 v E.length (jbsC E) ∧ w1.heap.size ≤ wr.heap.size ∧ Below w.heap.size w wr) (fun _ t _ => 21 - (intOf t).toNat)
  case atStart => exact ⟨0, [], rfl, by omega, EndsI.zero _ _, HF.out, World.ownsRow_nil _ _ _ _, Nat.le_refl _, HB1.out⟩
  case round =>
    clear HF HB1
    obtain ⟨t, E, rfl, ht, hE, hrb, hown, hsz, hb⟩ := hrel
    have HE := Lib.hid hE; clear hE
    have HRB := Lib.hid hrb; clear hrb
    have HOW := Lib.hid hown; clear hown
    have HB := Lib.hid hb; clear hb
    by_cases ht20 : t ≤ 20
    rotate_left
    · obtain rfl : t = 21 := by omega
      have HL := Lib.hid (HKL.out 21)
      go_wp2_with fail
      go_ret
      refine ⟨_, rfl, ⟨some ⟨w2.heap.size, 0, none⟩, n, ?_, ?_⟩, HB.out⟩
      · rw [HL.out]; rfl
      · have := HRB.out
        unfold RB at this
        rw [HL.out] at this ⊢
        exact this
    have ht20i : (t : Int) < 21 := by omega
    obtain ⟨AE, cE, hvE⟩ : ∃ A c, _ = Value.slice A E.length c := by
      rcases HOW.out.2 with ⟨a1, a2⟩ | ⟨g, N, cur, a1, _⟩
      · exact ⟨none, 0, a1.trans (by rw [a2])⟩
      · exact ⟨_, _, a1⟩
    subst hvE
    have HBA := Lib.hid ((Below.refl wr.heap.size wr).alloc (Nat.le_refl _) (.cells #[.int .i64 (t : Int)] 3))
    have HX := Lib.hid (HIX.out _ wr.heap.size (t : Int) (HB.out.trans (HBA.out.mono HB.out.size)) (by simp) (by simp))
    rcases idxI_cases (fun o => decide (o.2.1 = (t : Int))) l with ⟨hx, hno⟩ | ⟨i, hil, hx, hyes⟩
    · rw [hx] at HX
      have HKN := Lib.hid (kept_none (rd := rdB kind) (fun k hk => by simpa using hno k hk))
      have HEN := Lib.hid (HE.out.none HKN.out)
      clear hx hno
      go_wp2_with fail
      refine (HX.out).mono ?_
      rintro e w3 ⟨rfl, hb3⟩
      have HB3 := Lib.hid (HBA.out.trans (hb3.mono HBA.out.size)); clear hb3
      have HRB3 := Lib.hid (HRB.out.keep HB3.out)
      have HOW3 := Lib.hid (HOW.out.kept (grown_of_below (row := none) HB3.out) (Classical.em _))
      have HS3 := Lib.hid (Nat.le_trans hsz HB3.out.size)
      have HBW3 := Lib.hid (HB.out.trans (HB3.out.mono HB.out.size))
      go_wp2_with fail
      go_roundw
      case rel => exact ⟨t + 1, E, by go_num, by omega, HEN.out, by rw [HKN.out]; exact HRB3.out, HOW3.out, HS3.out, HBW3.out⟩
      case measure => simp [intOf]; omega
    · rw [hx] at HX
      have hend : l[i].2.1 = (t : Int) := by simpa using hyes
      clear hx hyes
      have hin : i < n := by have := HN.out; omega
      have HOKI := Lib.hid ((okJb_iff l[i].1 l[i].2.1 l[i].2.2.1 l[i].2.2.2).1 (HOK.out i hil))
      obtain ⟨r2, hr2⟩ := Int.eq_ofNat_of_zero_le HOKI.out.2.2.1.1
      obtain ⟨r3, hr3⟩ := Int.eq_ofNat_of_zero_le HOKI.out.2.2.2.1
      have hr2' : r2 ≤ 7 := by have := HOKI.out.2.2.1.2; omega
      have hr3' : r3 ≤ 7 := by have := HOKI.out.2.2.2.2; omega
      have HK1 := Lib.hid (kept_one (rd := rdB kind) hil hend (fun k hk hne => HDI.out i k hil hk hne (t : Int) hend))
      have HKF := Lib.hid (kept_same (rd := rdB kind) hil hend)
      have HOE := Lib.hid (okK_ends (mi := if rdB kind then r2 else r3) HE.out hil (by unfold mineJ; cases rdB kind <;> simp [hr2, hr3]))
      have HEO := Lib.hid (fun h => HE.out.one hil h)
      have HEN := Lib.hid (fun h => HE.out.none h)
      have HSTY := Lib.hid (fun W (hb : Below wr.heap.size wr W) => iStay_any l[i].1 l[i].2.1 r2 r3 kind AE E.length cE E W hr2' hr3' ((RowAt.of_own (HOW.out.kept (grown_of_below (row := none) hb) (Classical.em _)))) rfl (by have := HE.out.2.1; omega) (fun x hx => by
        obtain ⟨k, hk, rfl⟩ := List.mem_iff_getElem.1 (HE.out.1 x hx)
        exact HOK.out k hk))
      have HROW := Lib.hid (fun W (hb : Below wr.heap.size wr W) => jbs_at (HR.out.below (HB.out.trans (hb.mono HB.out.size))) hil)
      have HELT := Lib.hid HE.out.2.1
      have HJE := Lib.hid (show jbC l[i] = [.int .i64 l[i].1, .int .i64 l[i].2.1, .int .i64 (r2 : Int), .int .i64 (r3 : Int)] by simp [jbC, hr2, hr3])
      simp only [hr2, hr3] at HROW
      generalize E.any (wayB l[i].1 (if rdB kind then r2 else r3)) = q at *
      clear hr2 hr3 hend HOKI
      have hii : (i : Int) < (n : Int) := by omega
      have hi0 : (0 : Int) ≤ (i : Int) := by omega
      generalize l[i].1 = x0 at *
      generalize l[i].2.1 = x1 at *
      go_wp2_with fail
      refine (HX.out).mono ?_
      rintro e w3 ⟨rfl, hb3⟩
      have HB3 := Lib.hid (HBA.out.trans (hb3.mono HBA.out.size)); clear hb3
      obtain ⟨b, off, hA, hbw, e0, e1, e2, e3⟩ := HROW.out w3 HB3.out
      subst hA
      have hbs : b < w3.heap.size := Nat.lt_of_lt_of_le hbw (HB.out.trans (HB3.out.mono HB.out.size)).size
      have HST3 := Lib.hid (HSTY.out w3 HB3.out)
      go_wp2_with fail
      refine (HST3.out).mono ?_
      rintro e w4 ⟨rfl, hb4⟩
      have HB4 := Lib.hid (HB3.out.trans (hb4.mono HB3.out.size))
      have f0 := (hb4.cell (p := ⟨b, off + i * 4, none⟩) hbs).trans e0
      have f1 := (hb4.cell (p := ⟨b, off + i * 4 + 1, none⟩) hbs).trans e1
      have f2 := (hb4.cell (p := ⟨b, off + i * 4 + 2, none⟩) hbs).trans e2
      have f3 := (hb4.cell (p := ⟨b, off + i * 4 + 3, none⟩) hbs).trans e3
      have hbs4 : b < w4.heap.size := Nat.lt_of_lt_of_le hbs hb4.size
      clear hb4 e0 e1 e2 e3
      have HRB4 := Lib.hid (HRB.out.keep HB4.out)
      have HOW4 := Lib.hid (HOW.out.kept (grown_of_below (row := none) HB4.out) (Classical.em _))
      have HS4 := Lib.hid (Nat.le_trans hsz HB4.out.size)
      have HBW4 := Lib.hid (HB.out.trans (HB4.out.mono HB.out.size))
      cases q
      · have HK2 := Lib.hid (show keptL l (rdB kind) (t + 1) = (keptL l (rdB kind) t).set i true by rw [HK1.out, HOE.out]; rfl)
        have HE2 := Lib.hid (HEO.out HK2.out)
        obtain ⟨kc, kz⟩ := HRB4.out.cell (k := i) (by rw [HKL.out]; exact hin)
        have HPUT := Lib.hid (HRB4.out.put i true)
        rw [← HK2.out] at HPUT
        have hb2w : b < w2.heap.size := Nat.lt_of_lt_of_le hbw h2s
        have g0 := (World.cell?_setCell_far w4 ⟨w2.heap.size, i, none⟩ ⟨b, off + i * 4, none⟩ (.bool true) (by show w2.heap.size ≠ b; omega)).trans f0
        have g1 := (World.cell?_setCell_far w4 ⟨w2.heap.size, i, none⟩ ⟨b, off + i * 4 + 1, none⟩ (.bool true) (by show w2.heap.size ≠ b; omega)).trans f1
        have g2 := (World.cell?_setCell_far w4 ⟨w2.heap.size, i, none⟩ ⟨b, off + i * 4 + 2, none⟩ (.bool true) (by show w2.heap.size ≠ b; omega)).trans f2
        have g3 := (World.cell?_setCell_far w4 ⟨w2.heap.size, i, none⟩ ⟨b, off + i * 4 + 3, none⟩ (.bool true) (by show w2.heap.size ≠ b; omega)).trans f3
        have HOW5 := Lib.hid (HOW4.out.kept (grown_setCell (w := w4) (r := w2.heap.size) (o := i) (.bool true)) (by
          rw [blk_slice]
          cases hq : blkOf AE with
          | none => exact .inl rfl
          | some g => exact .inr (fun e => by injection e with e; have := (HOW4.out.lt g (by rw [blk_slice]; exact hq)).1; omega)))
        have HBW5 := Lib.hid (HBW4.out.setCell (show w.heap.size ≤ (⟨w2.heap.size, i, none⟩ : Addr).block from h2s) (.bool true))
        have hs5 : (w4.setCell ⟨w2.heap.size, i, none⟩ (.bool true)).heap.size = w4.heap.size := by simp
        have hw4 : w2.heap.size < w4.heap.size := HRB4.out.ge.2
        have hs4' := HS4.out
        clear f0 f1 f2 f3 HRB4 HOW4
        have hbs5 : b < w4.heap.size := by omega
        have HBX := Lib.hid ((Below.refl (w4.setCell ⟨w2.heap.size, i, none⟩ (.bool true)).heap.size (w4.setCell ⟨w2.heap.size, i, none⟩ (.bool true))).alloc (Nat.le_refl _) (.cells #[.int .i64 x0, .int .i64 x1, .int .i64 (r2 : Int), .int .i64 (r3 : Int)] 69))
        have HOWX := Lib.hid (HOW5.out.kept (grown_of_below (row := none) HBX.out) (Classical.em _))
        have HCX := Lib.hid ((by have h := cells_at9 (w4.setCell ⟨w2.heap.size, i, none⟩ (.bool true)) [.int .i64 x0, .int .i64 x1, .int .i64 (r2 : Int), .int .i64 (r3 : Int)] 69; rw [hs5] at h; exact h : ∀ (j : Nat) (u : Value), [.int .i64 x0, .int .i64 x1, .int .i64 (r2 : Int), .int .i64 (r3 : Int)][j]? = some u → ((w4.setCell ⟨w2.heap.size, i, none⟩ (.bool true)).alloc (.cells #[.int .i64 x0, .int .i64 x1, .int .i64 (r2 : Int), .int .i64 (r3 : Int)] 69)).cell? ((⟨w4.heap.size, 0, none⟩ : Addr).add j) = some u))
        have hbase : w1.heap.size ≤ ((w4.setCell ⟨w2.heap.size, i, none⟩ (.bool true)).alloc (.cells #[.int .i64 x0, .int .i64 x1, .int .i64 (r2 : Int), .int .i64 (r3 : Int)] 69)).heap.size := by simp; omega
        have hEl := HELT.out
        go_wp2_with (at_builtin; refine wpList_append_own _ rfl _ _ 38 rfl w1.heap.size 69 j0 (.agg #[.int .i64 0, .int .i64 0, .int .i64 0, .int .i64 0]) 4 32 Try.underlying38 HJ.out.1 HJ.out.2.1 HJ.out.2.2.1 HJ.out.2.2.2 rfl (by decide) _ E.length _ rfl HOWX.out ⟨w4.heap.size, 0, none⟩ 1 1 [.int .i64 x0, .int .i64 x1, .int .i64 (r2 : Int), .int .i64 (r3 : Int)] rfl rfl (fun j u hj => HCX.out j u hj) (by intro u hu; simp at hu; rcases hu with rfl | rfl | rfl | rfl <;> rfl) (by unfold maxLen; omega) (by omega) hbase ?_)
        intro v' w6 hown' hgrow _
        have HG6 := Lib.hid (show (w4.setCell ⟨w2.heap.size, i, none⟩ (.bool true)).grownBy w6 (blkOf AE) from (grown_of_below (row := blkOf AE) HBX.out).trans' (by simpa [blk_slice] using hgrow))
        rw [← HJE.out] at hown'
        have HOW6 := Lib.hid (show w6.ownsRow w1.heap.size 69 4 v' (E ++ [l[i]]).length (jbsC (E ++ [l[i]])) by rw [jbsC_snoc, List.length_append]; exact hown')
        clear hown' hgrow
        have HRB6 := Lib.hid (HPUT.out.kept HG6.out (by
          show some w2.heap.size = none ∨ some w2.heap.size ≠ blkOf AE
          exact .inr (fun e => by have := (HOW5.out.lt w2.heap.size (by rw [blk_slice]; exact e.symm)).1; omega)))
        have HBW6 := Lib.hid (HBW5.out.grown HG6.out (by omega) (fun q hq => by have := (HOW5.out.lt q (by rw [blk_slice]; exact hq)).1; omega))
        have HS6 := Lib.hid (show w1.heap.size ≤ w6.heap.size by have := HG6.out.size; omega)
        go_wp2_with fail
        go_roundw
        case rel => exact ⟨t + 1, E ++ [l[i]], by go_num, by omega, HE2.out, HRB6.out, HOW6.out, HS6.out, HBW6.out⟩
        case measure => simp [intOf]; omega
      · have HK2 := Lib.hid (show keptL l (rdB kind) (t + 1) = keptL l (rdB kind) t by rw [HK1.out, HOE.out]; exact HKF.out)
        have HE2 := Lib.hid (HEN.out HK2.out)
        go_wp2_with fail
        go_roundw
        case rel => exact ⟨t + 1, E, by go_num, by omega, HE2.out, by rw [HK2.out]; exact HRB4.out, HOW4.out, HS4.out, HBW4.out⟩
        case measure => simp [intOf]; omega
end Go.Proofs.Ytdpehojcoohjcab
