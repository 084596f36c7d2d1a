/- Maps from keys to versions that a call makes: what such a map reads as, and the laws of its operations. Conditions: the key's type is string, the element's a struct of two texts, a bool and a number. -/
import Derived.Test.YtcaekjbalkbliaaVerL
import Derived.Maps.OwnSet
import Derived.Maps.RangeWalk
import Derived.Maps.Ext
import Derived.StringKeys
import Derived.Deep.Draws
set_option linter.unusedVariables false
set_option linter.unusedSimpArgs false
namespace Go.Proofs.Ytcaekjbalkbliaa
open Go.RowKit Go.ChangeShapes Go.WideShapes

open Go.Maps
def vVal (p : Vr) : Value := .agg #[.string p.1, .string p.2.1, .bool p.2.2.1, .int .i64 p.2.2.2]
def vElem : Value → Option (DataW Vr × List MemPlace)
  | .agg ⟨[.string a, .string b, .bool g, .int .i64 t]⟩ => some (.held (a, b, g, t), [])
  | _ => none
theorem vElem_mk (p : Vr) : vElem (vVal p) = some (.held p, []) := rfl
theorem vElem_inv {v : Value} {z : DataW Vr × List MemPlace} (h : vElem v = some z) : ∃ p, v = vVal p ∧ z = (.held p, []) := by
  unfold vElem at h
  split at h
  · injection h with h; exact ⟨_, rfl, h.symm⟩
  · cases h
def zeroVr : Vr := (⟨#[]⟩, ⟨#[]⟩, false, 0)
/-- the map reads as f -/
def Reads (D : DataW Vr) (f : List UInt8 → Option Vr) : Prop := ∀ s : List UInt8, has D (.string s) = (f s).isSome ∧ ∀ p, f s = some p → ∀ z, D.atKey (.string s) z = .held p
def VMap (P : Program) (k : TypeId) (w : World) (b n : Nat) (f : List UInt8 → Option Vr) : Prop := ∃ D : DataW Vr, w.ownsMap P k vElem b n D ∧ Reads D f
section
variable {P : Program} {k t e : TypeId} {w w' : World} {b n : Nat} {f : List UInt8 → Option Vr}
theorem reads_empty : Reads (.map []) (fun _ => none) := fun s => ⟨rfl, fun p h => by cases h⟩
theorem VMap.made (w : World) : VMap P k (w.alloc (.map #[] 0)) w.heap.size 0 (fun _ => none) := ⟨_, World.ownsMap_made w P k vElem, reads_empty⟩
theorem VMap.lt (h : VMap P k w b n f) : b < w.heap.size := by obtain ⟨D, h1, _⟩ := h; exact h1.lt
theorem VMap.mono (h : VMap P k w b n f) {n' : Nat} (hn : n ≤ n') : VMap P k w b n' f := by obtain ⟨D, h1, h2⟩ := h; exact ⟨D, h1.mono hn, h2⟩
theorem VMap.kept (h : VMap P k w b n f) {row : Option Nat} (hg : w.grownBy w' row) (hne : some b ≠ row) : VMap P k w' b n f := by obtain ⟨D, h1, h2⟩ := h; exact ⟨D, h1.kept hg hne, h2⟩
theorem VMap.alloc (h : VMap P k w b n f) (o : Obj) : VMap P k (w.alloc o) b n f := by obtain ⟨D, h1, h2⟩ := h; exact ⟨D, h1.alloc o, h2⟩
theorem VMap.setCell (h : VMap P k w b n f) {a : Addr} (ha : b ≠ a.block) (u : Value) : VMap P k (w.setCell a u) b n f := by obtain ⟨D, h1, h2⟩ := h; exact ⟨D, h1.setCell ha u, h2⟩
theorem VMap.drewN (h : VMap P k w b n f) (m : Nat) : VMap P k (w.drewN m) b n f := by obtain ⟨D, h1, h2⟩ := h; exact ⟨D, h1, h2⟩
theorem VMap.same (h : VMap P k w b n f) {g : List UInt8 → Option Vr} (hg : ∀ s, g s = f s) : VMap P k w b n g := by
  obtain ⟨D, h1, h2⟩ := h; exact ⟨D, h1, fun s => by rw [hg]; exact h2 s⟩
theorem VMap.below (h : VMap P k w b n f) {B : Nat} (hb : Below B w w') (hB : b < B) : VMap P k w' b n f := by
  obtain ⟨D, ⟨es, clock, h1, h2⟩, h3⟩ := h
  exact ⟨D, ⟨es, clock, by rw [hb.block b hB]; exact h1, h2⟩, h3⟩
theorem isKey_string (s : List UInt8) : WideAt.IsKeyLit (.string s) := by first | exact trivial | simp [WideAt.IsKeyLit]
theorem string_ne {s s' : List UInt8} (h : s' ≠ s) : (Lit.string s') ≠ Lit.string s := fun he => by injection he with he; exact h he
theorem reads_put {D : DataW Vr} (hm : IsMap D) (h : Reads D f) (s : List UInt8) (p : Vr) : Reads (D.put (.string s) (.held p)) (fun x => if x = s then some p else f x) := fun x => by
  by_cases hx : x = s
  · subst hx
    simp only [if_pos]
    refine ⟨?_, fun q hq z => ?_⟩
    · rw [has_put_same hm (isKey_string x)]; rfl
    · injection hq with hq; subst hq
      exact atKey_put_same hm (isKey_string x) _ z
  · simp only [if_neg hx]
    rw [has_put_other (string_ne hx)]
    exact ⟨(h x).1, fun q hq z => by rw [atKey_put_other (string_ne hx)]; exact (h x).2 q hq z⟩
theorem reads_del {D : DataW Vr} (h : Reads D f) (s : List UInt8) : Reads (D.del (.string s)) (fun x => if x = s then none else f x) := fun x => by
  by_cases hx : x = s
  · subst hx
    simp only [if_pos]
    exact ⟨by rw [has_del_same]; rfl, fun q hq => by cases hq⟩
  · simp only [if_neg hx]
    rw [has_del_other (string_ne hx)]
    exact ⟨(h x).1, fun q hq z => by rw [atKey_del_other (string_ne hx)]; exact (h x).2 q hq z⟩
/-- what a look-up gives -/
def gotV (f : List UInt8 → Option Vr) (key : ByteArray) : Vr := (f key.toList).getD zeroVr
theorem got_some {key : ByteArray} {p : Vr} (h : f key.toList = some p) : gotV f key = p := by unfold gotV; rw [h]; rfl
theorem got_none {key : ByteArray} (h : f key.toList = none) : gotV f key = zeroVr := by unfold gotV; rw [h]; rfl
variable {ops : Array Oper} {rest : List Oper} {o : Oper} {a : Act} {Q : Exit → Act → World → Prop}
theorem VMap.look (h : VMap P k w b n f) (hk : P.underlying k = some .string) (ht : P.underlying t = some (.map k e)) (hz : (zeroValue e).run P w = .ok (vVal zeroVr) w) (c : Bool) {key : ByteArray} (hs : key.size ≤ maxLen) :
    (Instr.lookup t (.map (some b)) (.string key) c).run P w = .ok (if c then .tuple #[vVal (gotV f key), .bool (f key.toList).isSome] else vVal (gotV f key)) w := by
  obtain ⟨D, ⟨es, clock, hb, F, _, rfl⟩, hR⟩ := h
  have hkey := WideMaps.keyOf_string_mk hk hs
  rw [← ByteArray.toList_eq] at hkey
  obtain ⟨hr1, hr2⟩ := hR key.toList
  rcases fit_look c (string_keyed hk) ht hz hb F hkey with ⟨hrun, _, hat⟩ | ⟨e0, y, _, _, hrun, hRv, hat, _⟩
  · rw [has_false_of_atKey hat] at hr1
    have hf : f key.toList = none := by
      cases hc : f key.toList
      · rfl
      · rw [hc] at hr1; cases hr1
    rw [got_none hf, hf]; exact hrun
  · rw [has_true_of_atKey hat] at hr1
    cases hc : f key.toList with
    | none => rw [hc] at hr1; cases hr1
    | some p =>
      have h1 := hr2 p hc (.nil)
      rw [hat] at h1
      obtain ⟨q, hq1, hq2⟩ := vElem_inv hRv
      rw [hq2] at h1
      injection h1 with h1
      subst h1
      rw [hq1] at hrun
      rw [got_some hc]; exact hrun
theorem wpList_lookup_vm (h : VMap P k w b n f) (hk : P.underlying k = some .string) (ht : P.underlying t = some (.map k e)) (hz : (zeroValue e).run P w = .ok (vVal zeroVr) w) (hg : o.guard = none) (m x : Operand) (hop : o.op = Op.lookup t m x false)
    (hm : a.eval m = .map (some b)) (key : ByteArray) (hx : a.eval x = .string key) (hs : key.size ≤ maxLen) (hK : wpList P ops Q rest (a.put o.dst (vVal (gotV f key))) w) : wpList P ops Q (o :: rest) a w := by
  refine wpList_plain hg fun K' hK' => ?_
  have hrun := h.look hk ht hz false hs
  unfold Oper.wp
  simp [execOp, hop, hm, hx, hrun, Result.andThen]
  exact hK' _ _ hK
theorem wpList_lookup_ok_vm (h : VMap P k w b n f) (hk : P.underlying k = some .string) (ht : P.underlying t = some (.map k e)) (hz : (zeroValue e).run P w = .ok (vVal zeroVr) w) (hg : o.guard = none) (m x : Operand) (hop : o.op = Op.lookup t m x true)
    (hm : a.eval m = .map (some b)) (key : ByteArray) (hx : a.eval x = .string key) (hs : key.size ≤ maxLen) (hK : wpList P ops Q rest (a.put o.dst (.tuple #[vVal (gotV f key), .bool (f key.toList).isSome])) w) : wpList P ops Q (o :: rest) a w := by
  refine wpList_plain hg fun K' hK' => ?_
  have hrun := h.look hk ht hz true hs
  unfold Oper.wp
  simp [execOp, hop, hm, hx, hrun, Result.andThen]
  exact hK' _ _ hK
theorem wpList_put_vm (h : VMap P k w b n f) (hk : P.underlying k = some .string) (ht : P.underlying t = some (.map k e)) (hn : n < maxLen) (hg : o.guard = none) (m x v : Operand) (hop : o.op = Op.mapUpdate t m x v)
    (hm : a.eval m = .map (some b)) (key : ByteArray) (hx : a.eval x = .string key) (hs : key.size ≤ maxLen) (p : Vr) (hv : a.eval v = vVal p)
    (hK : ∀ w', VMap P k w' b (n + 1) (fun s => if s = key.toList then some p else f s) → w.grownBy w' (some b) → wpList P ops Q rest (a.put o.dst undef) w') : wpList P ops Q (o :: rest) a w := by
  obtain ⟨D, hown, hR⟩ := h
  have hkey := WideMaps.keyOf_string_mk hk hs
  rw [← ByteArray.toList_eq] at hkey
  exact wpList_mapUpdate_own w hg m x v t hop k e (string_keyed hk) ht vElem b n D hm hown hn _ _ _ hx hv hkey _ _ (vElem_mk p) (fun w' h1 h2 => hK w' ⟨_, h1, reads_put hown.isMap hR _ p⟩ h2)
theorem wpList_del_vm (h : VMap P k w b n f) (hk : P.underlying k = some .string) (ht : P.underlying t = some (.map k e)) (hg : o.guard = none) (m x : Operand) (hop : o.op = Op.call { callee := Callee.builtin Builtin.delete, args := #[m, x], argTypes := #[t, k] })
    (hm : a.eval m = .map (some b)) (key : ByteArray) (hx : a.eval x = .string key) (hs : key.size ≤ maxLen)
    (hK : ∀ w', VMap P k w' b n (fun s => if s = key.toList then none else f s) → w.grownBy w' (some b) → wpList P ops Q rest (a.put o.dst (.tuple #[])) w') : wpList P ops Q (o :: rest) a w := by
  obtain ⟨D, hown, hR⟩ := h
  have hkey := WideMaps.keyOf_string_mk hk hs
  rw [← ByteArray.toList_eq] at hkey
  exact wpList_delete_own w hg m x t k hop e (string_keyed hk) ht vElem b n D hm hown _ _ hx hkey (fun w' h1 h2 => hK w' ⟨_, h1, reads_del hR _⟩ h2.grown)
/-- a range over such a map: lf says which keys are still to come -/
def VRng (P : Program) (k : TypeId) (w : World) (b r n : Nat) (f : List UInt8 → Option Vr) (lf : List UInt8 → Bool) (cnt : Nat) : Prop := ∃ (D : DataW Vr) (left : Lit → Bool), w.ranges P k vElem b r n D left cnt ∧ Reads D f ∧ ∀ s, left (.string s) = lf s
variable {r cnt : Nat} {lf : List UInt8 → Bool}
theorem VRng.kept (h : VRng P k w b r n f lf cnt) {row : Option Nat} (hg : w.grownBy w' row) (hb : some b ≠ row) (hr : some r ≠ row) : VRng P k w' b r n f lf cnt := by
  obtain ⟨D, left, h1, h2⟩ := h; exact ⟨D, left, h1.kept hg hb hr, h2⟩
theorem VRng.alloc (h : VRng P k w b r n f lf cnt) (o : Obj) : VRng P k (w.alloc o) b r n f lf cnt := by
  obtain ⟨D, left, h1, h2⟩ := h; exact ⟨D, left, h1.alloc o, h2⟩
theorem VRng.left_eq (h : VRng P k w b r n f lf cnt) : w.rangeLeft b r = cnt := by obtain ⟨D, left, h1, h2⟩ := h; exact h1.left_eq
theorem VRng.lt (h : VRng P k w b r n f lf cnt) : r < w.heap.size := by obtain ⟨D, left, h1, h2⟩ := h; exact h1.lt
theorem VRng.ne (h : VRng P k w b r n f lf cnt) : r ≠ b := by obtain ⟨D, left, h1, h2⟩ := h; exact h1.ne
theorem wpList_range_vm (h : VMap P k w b n f) (hk : P.underlying k = some .string) (ht : P.underlying t = some (.map k e)) (hg : o.guard = none) (m : Operand) (hop : o.op = Op.range t m) (hm : a.eval m = .map (some b))
    (hK : ∀ w' cnt', VRng P k w' b w.heap.size n f (fun s => (f s).isSome) cnt' → w.grownBy w' none → w'.heap.size = w.heap.size + 1 → wpList P ops Q rest (a.put o.dst (.pointer (some ⟨w.heap.size, 0, none⟩))) w') : wpList P ops Q (o :: rest) a w := by
  obtain ⟨D, hown, hR⟩ := h
  exact wpList_range_own w hg m t hop k e (string_keyed hk) ht vElem b n D hm hown (fun w' h1 h2 h3 => hK w' _ ⟨D, _, h1, hR, fun s => (hR s).1⟩ h2 h3)
theorem sameKey_string (s x : List UInt8) : (Lit.string s).sameKey (.string x) = (s == x) := by
  by_cases h : s = x
  · subst h; simp [Lit.sameKey]
  · rw [sameKey_ne (string_ne h)]; simp [h]
theorem keyOf_string_inv (hk : P.underlying k = some .string) {key : Value} {kl : Lit} (h : keyOf P k key = some kl) : ∃ x : ByteArray, key = .string x ∧ kl = .string x.toList := by
  rw [keyOf_string hk] at h
  unfold mapKey at h
  rw [hk] at h
  cases key <;> simp at h
  obtain ⟨h1, h2⟩ := h
  rename_i x
  exact ⟨x, rfl, by rw [ByteArray.toList_eq]; exact h2.symm⟩
theorem wpList_next_vm (h : VRng P k w b r n f lf cnt) (hk : P.underlying k = some .string) (hg : o.guard = none) (it : Operand) (hop : o.op = Op.next it false) (hit : a.eval it = .pointer (some ⟨r, 0, none⟩))
    (hDone : cnt = 0 → (∀ s, lf s = false) → wpList P ops Q rest (a.put o.dst (.tuple #[.bool false])) w)
    (hMore : ∀ (x : ByteArray) (p : Vr) (w' : World) (cnt' : Nat), lf x.toList = true → f x.toList = some p → VRng P k w' b r n f (fun s => lf s && !(s == x.toList)) cnt' → cnt' < cnt → w.grownBy w' (some r) → w'.heap.size = w.heap.size → (Instr.entry (.pointer (some ⟨r, 0, none⟩))).run P w' = .ok (.tuple #[.string x, vVal p]) w' → wpList P ops Q rest (a.put o.dst (.tuple #[.bool true, .string x, vVal p])) w') :
    wpList P ops Q (o :: rest) a w := by
  obtain ⟨D, left, h1, hR, hl⟩ := h
  refine wpList_next_ranges w hg it hop k (string_keyed hk) vElem Value.string vVal (fun key kl hkk => by obtain ⟨x, hx, _⟩ := keyOf_string_inv hk hkk; exact ⟨x, hx⟩) (fun v y hv => by obtain ⟨p, hp, _⟩ := vElem_inv hv; exact ⟨p, hp⟩) b r n D left cnt hit h1 (fun h0 hd => hDone h0 (fun s => by rw [← hl]; exact hd _)) ?_
  intro x p kl y w' cnt' hkx hlx hy hat hrg hlt hgr hsz hen
  obtain ⟨x', hx1, rfl⟩ := keyOf_string_inv hk hkx
  injection hx1 with hx1
  subst hx1
  rw [vElem_mk] at hy
  injection hy with hy
  subst hy
  have hsome : f x.toList = some p := by
    have hh := has_true_of_atKey hat
    obtain ⟨q1, q2⟩ := hR x.toList
    rw [hh] at q1
    cases hc : f x.toList with
    | none => rw [hc] at q1; cases q1
    | some p' =>
      have := q2 p' hc .nil
      rw [hat] at this
      injection this with this
      rw [this]
  exact hMore x p w' cnt' (by rw [← hl]; exact hlx) hsome ⟨D, _, hrg, hR, fun s => by show (left (.string s) && !(Lit.string s).sameKey (.string x.toList)) = _; rw [hl, sameKey_string]⟩ hlt hgr hsz hen
end
end Go.Proofs.Ytcaekjbalkbliaa
