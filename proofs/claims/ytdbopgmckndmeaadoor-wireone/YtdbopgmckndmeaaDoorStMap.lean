/- Maps keyed by strings that the call itself makes: block b holds at each string s the value f s (none: nothing). Elements are read as themselves. -/
import Derived.Test.YtdbopgmckndmeaaDoorRows
import Derived.Maps.OwnSet
namespace Go.Proofs.YtdbopgmckndmeaaDoor
open Go.RowKit

def selfE (v : Value) : Option (DataW Value × List MemPlace) := some (.held v, [])
def keyL (s : ByteArray) : Lit := .string s.data.toList
theorem keyL_inj {a b : ByteArray} (h : keyL a = keyL b) : a = b := by
  unfold keyL at h
  simp only [Lit.string.injEq] at h
  cases a; cases b; simp only [ByteArray.mk.injEq]; exact Array.toList_inj.1 h
theorem strKeyed : Maps.Keyed Tryd.prog 9 := Maps.string_keyed Tryd.underlying9
theorem strKey {s : ByteArray} (h : s.size ≤ maxLen) : keyOf Tryd.prog 9 (.string s) = some (keyL s) := WideMaps.keyOf_string_mk Tryd.underlying9 h
def MapAt (w : World) (b n : Nat) (f : ByteArray → Option Value) : Prop :=
  ∃ D : DataW Value, w.ownsMap Tryd.prog 9 selfE b n D ∧ ∀ s : ByteArray, Maps.has D (keyL s) = (f s).isSome ∧ ∀ z, D.atKey (keyL s) (.held z) = .held ((f s).getD z)
theorem mapAt_made (w : World) : MapAt (w.alloc (.map #[] 0)) w.heap.size 0 (fun _ => none) :=
  ⟨.map [], World.ownsMap_made w _ _ _, fun _ => ⟨rfl, fun _ => rfl⟩⟩
theorem mapAt_lt {w : World} {b n : Nat} {f : ByteArray → Option Value} (h : MapAt w b n f) : b < w.heap.size := h.elim fun _ h => h.1.lt
theorem mapAt_mono {w : World} {b n n' : Nat} {f : ByteArray → Option Value} (h : MapAt w b n f) (hn : n ≤ n') : MapAt w b n' f := h.elim fun D h => ⟨D, h.1.mono hn, h.2⟩
theorem mapAt_kept {w w' : World} {b n : Nat} {f : ByteArray → Option Value} {row : Option Nat} (h : MapAt w b n f) (hg : w.grownBy w' row) (hne : some b ≠ row) : MapAt w' b n f := h.elim fun D h => ⟨D, h.1.kept hg hne, h.2⟩
theorem mapAt_alloc {w : World} {b n : Nat} {f : ByteArray → Option Value} (h : MapAt w b n f) (o : Obj) : MapAt (w.alloc o) b n f := h.elim fun D h => ⟨D, h.1.alloc o, h.2⟩
theorem mapAt_below {w w' : World} {b n : Nat} {f : ByteArray → Option Value} (h : MapAt w b n f) (hb : Below w.heap.size w w') : MapAt w' b n f := by
  obtain ⟨D, ⟨es, clock, h1, h2⟩, h3⟩ := h
  exact ⟨D, ⟨es, clock, (hb.block b (Array.getElem?_eq_some_iff.1 h1).1).trans h1, h2⟩, h3⟩
theorem mapAt_ext {w : World} {b n : Nat} {f g : ByteArray → Option Value} (h : MapAt w b n f) (e : ∀ s, f s = g s) : MapAt w b n g := by
  obtain ⟨D, h1, h2⟩ := h
  exact ⟨D, h1, fun s => by rw [← e s]; exact h2 s⟩
theorem keyL_key (s : ByteArray) : WideAt.IsKeyLit (keyL s) := trivial
/-- f with v at the key k. -/
def putF (f : ByteArray → Option Value) (k : ByteArray) (v : Value) : ByteArray → Option Value := fun s => if k = s then some v else f s
theorem putF_at {D : DataW Value} {f : ByteArray → Option Value} (hm : Maps.IsMap D) (h : ∀ s : ByteArray, Maps.has D (keyL s) = (f s).isSome ∧ ∀ z, D.atKey (keyL s) (.held z) = .held ((f s).getD z)) (k : ByteArray) (v : Value) :
    ∀ s : ByteArray, Maps.has (D.put (keyL k) (.held v)) (keyL s) = (putF f k v s).isSome ∧ ∀ z, (D.put (keyL k) (.held v)).atKey (keyL s) (.held z) = .held ((putF f k v s).getD z) := by
  intro s
  unfold putF
  by_cases e : k = s
  · subst e
    rw [if_pos rfl]
    exact ⟨Maps.has_put_same hm (keyL_key _) _, fun z => Maps.atKey_put_same hm (keyL_key _) _ _⟩
  · rw [if_neg e]
    have e' : keyL s ≠ keyL k := fun h => e (keyL_inj h).symm
    exact ⟨(Maps.has_put_other e' _).trans (h s).1, fun z => (Maps.atKey_put_other e' _ _).trans ((h s).2 z)⟩

section
variable (w : World) {ops : Array Oper} {rest : List Oper} {o : Oper} {a : Act} {Q : Exit → Act → World → Prop}
theorem wpList_look (hg : o.guard = none) (m x : Operand) (t : TypeId) (hop : o.op = Op.lookup t m x false) (e : TypeId) (ht : Tryd.prog.underlying t = some (.map 9 e)) {z : Value} (hz : (zeroValue e).run Tryd.prog w = .ok z w)
    (b n : Nat) (f : ByteArray → Option Value) (hm : a.eval m = .map (some b)) (hown : MapAt w b n f) (s : ByteArray) (hx : a.eval x = .string s) (hs : s.size ≤ maxLen) (u : Value) (hu : (f s).getD z = u)
    (hK : wpList Tryd.prog ops Q rest (a.put o.dst u) w) : wpList Tryd.prog ops Q (o :: rest) a w := by
  refine wpList_plain hg fun K' hK' => ?_
  obtain ⟨D, h1, h2⟩ := hown
  obtain ⟨v, ps, hrun, hv⟩ := h1.lookup strKeyed ht hz (zd := .held z) (zp := []) rfl (strKey hs)
  rw [(h2 s).2 z, hu] at hv
  simp only [selfE, Option.some.injEq, Prod.mk.injEq, DataW.held.injEq] at hv
  obtain ⟨rfl, _⟩ := hv
  unfold Oper.wp
  simp [execOp, hop, hm, hx, hrun, Result.andThen]
  exact hK' _ _ hK
theorem wpList_look_ok (hg : o.guard = none) (m x : Operand) (t : TypeId) (hop : o.op = Op.lookup t m x true) (e : TypeId) (ht : Tryd.prog.underlying t = some (.map 9 e)) {z : Value} (hz : (zeroValue e).run Tryd.prog w = .ok z w)
    (b n : Nat) (f : ByteArray → Option Value) (hm : a.eval m = .map (some b)) (hown : MapAt w b n f) (s : ByteArray) (hx : a.eval x = .string s) (hs : s.size ≤ maxLen) (u : Value) (c : Bool) (hu : (f s).getD z = u) (hc : (f s).isSome = c)
    (hK : wpList Tryd.prog ops Q rest (a.put o.dst (.tuple #[u, .bool c])) w) : wpList Tryd.prog ops Q (o :: rest) a w := by
  refine wpList_plain hg fun K' hK' => ?_
  obtain ⟨D, h1, h2⟩ := hown
  obtain ⟨v, ps, hrun, hv⟩ := h1.look_ok strKeyed ht hz (zd := .held z) (zp := []) rfl (strKey hs)
  rw [(h2 s).2 z, hu] at hv
  rw [(h2 s).1, hc] at hrun
  simp only [selfE, Option.some.injEq, Prod.mk.injEq, DataW.held.injEq] at hv
  obtain ⟨rfl, _⟩ := hv
  unfold Oper.wp
  simp [execOp, hop, hm, hx, hrun, Result.andThen]
  exact hK' _ _ hK
theorem wpList_put (hg : o.guard = none) (m x v : Operand) (t : TypeId) (hop : o.op = Op.mapUpdate t m x v) (e : TypeId) (ht : Tryd.prog.underlying t = some (.map 9 e))
    (b n : Nat) (f : ByteArray → Option Value) (hm : a.eval m = .map (some b)) (hown : MapAt w b n f) (hn : n < maxLen) (s : ByteArray) (hx : a.eval x = .string s) (hs : s.size ≤ maxLen) (u : Value) (hv : a.eval v = u)
    (hK : ∀ w', MapAt w' b (n + 1) (putF f s u) → w.grownBy w' (some b) → wpList Tryd.prog ops Q rest (a.put o.dst undef) w') : wpList Tryd.prog ops Q (o :: rest) a w := by
  obtain ⟨D, h1, h2⟩ := hown
  exact wpList_mapUpdate_own w hg m x v t hop 9 e strKeyed ht selfE b n D hm h1 hn (.string s) u (keyL s) hx hv (strKey hs) (.held u) [] rfl
    (fun w' h3 h4 => hK w' ⟨_, h3, putF_at h1.isMap h2 s u⟩ h4)
end
end Go.Proofs.YtdbopgmckndmeaaDoor
