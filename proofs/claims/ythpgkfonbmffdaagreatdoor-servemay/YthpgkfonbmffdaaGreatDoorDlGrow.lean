/- A block that is written while rows grow beside it: all else is as it was. -/
import Derived.Test.YthpgkfonbmffdaaGreatDoorPkUp4
import Derived.Test.YthpgkfonbmffdaaGreatDoorDlComp
namespace Go.Proofs.YthpgkfonbmffdaaGreatDoor
open Go.RowKit

theorem gN_refl (N : Nat) (w : World) : w.grownBy w (some N) := ⟨rfl, rfl, rfl, Nat.le_refl _, fun _ _ _ => rfl⟩
theorem gN_next {N : Nat} {w w1 w2 : World} (h : w.grownBy w1 (some N)) (b : Below w1.heap.size w1 w2) : w.grownBy w2 (some N) :=
  ⟨b.os.trans h.os, b.tape.trans h.tape, b.output.trans h.output, Nat.le_trans h.size b.size, fun k hk hne => (b.block k (Nat.lt_of_lt_of_le hk h.size)).trans (h.block k hk hne)⟩
theorem gN_app {N : Nat} {w w1 w2 : World} {row : Option Nat} (h : w.grownBy w1 (some N)) (g : w1.grownBy w2 row) (hr : ∀ k, row = some k → w.heap.size ≤ k) : w.grownBy w2 (some N) :=
  ⟨g.os.trans h.os, g.tape.trans h.tape, g.output.trans h.output, Nat.le_trans h.size g.size, fun k hk hne => (g.block k (Nat.lt_of_lt_of_le hk h.size) (fun e => by have := hr k e.symm; omega)).trans (h.block k hk hne)⟩
theorem gN_set {N : Nat} {w w1 : World} (h : w.grownBy w1 (some N)) (j : Nat) (u : Value) : w.grownBy (w1.setCell ⟨N, j, none⟩ u) (some N) :=
  ⟨h.os, h.tape, h.output, by simp only [World.setCell, Array.size_modify]; exact h.size, fun k hk hne => (Below.heap_setCell _ _ _ _ (fun e => hne (by rw [e]))).trans (h.block k hk hne)⟩
theorem gN_below {B N : Nat} {w0 w w' : World} (h : Below B w0 w) (hB : B ≤ w.heap.size) (hN : B ≤ N) (g : w.grownBy w' (some N)) : Below B w0 w' := h.grown g hB (fun k e => by cases e; exact hN)
theorem own_gN {B e sz n N : Nat} {w w' : World} {v : Value} {xs : List Value} {vs : Array Value} {t : TypeId} (h : w.ownsRow B e sz v n xs) (ho : ObjAt N vs t w) (ht : t ≠ e) (g : w.grownBy w' (some N)) : w'.ownsRow B e sz v n xs := by
  refine ⟨h.1, ?_⟩
  rcases h.2 with h0 | ⟨b, cap, cur, hv, hbg, hgc, r⟩
  · exact .inl h0
  · refine .inr ⟨b, cap, cur, hv, hbg, ?_, r⟩
    rw [g.block b (Array.getElem?_eq_some_iff.1 hgc).1 (fun e1 => by
      simp only [Option.some.injEq] at e1
      subst e1
      unfold ObjAt at ho
      rw [ho] at hgc
      simp only [Option.some.injEq, Obj.cells.injEq] at hgc
      exact ht hgc.2.1)]
    exact hgc
theorem objAt_gN {b N : Nat} {w w' : World} {vs : Array Value} {t : TypeId} (h : ObjAt b vs t w) (hn : b ≠ N) (g : w.grownBy w' (some N)) : ObjAt b vs t w' := objAt_grown h g (by simpa using hn)
/-- A store into the block beside a row of another base. -/
theorem own_high {B e sz n N : Nat} {w : World} {v : Value} {xs : List Value} (h : w.ownsRow B e sz v n xs) (hN : N < B) (j : Nat) (u : Value) : (w.setCell ⟨N, j, none⟩ u).ownsRow B e sz v n xs := own_set h hN j u
/-- A block beside a row that grows from a later base on. -/
theorem objAt_app {b B e sz n : Nat} {w w' : World} {y : Value} {vs : Array Value} {t : TypeId} {ys : List Value} (h1 : ObjAt b vs t w) (h2 : w.ownsRow B e sz y n ys) (hb : b < B) (hg : w.grownBy w' y.ownBlock) : ObjAt b vs t w' := objAt_grown h1 hg (own_nlow h2 hb)
section
variable {α : Type} {key : α → ByteArray}
open Classical in
theorem gone_take (a b : List α) {i : Nat} (hi : i < a.length) : goneL key (a.take (i + 1)) b = goneL key (a.take i) b ++ (if ∀ y ∈ b, key y ≠ key a[i] then [key a[i]] else []) := by
  unfold goneL
  rw [List.take_succ_eq_append_getElem hi, List.filter_append, List.map_append]
  by_cases h : ∀ y ∈ b, key y ≠ key a[i]
  · congr 1
    rw [List.filter_cons, if_pos (decide_eq_true h), if_pos h]; rfl
  · congr 1
    rw [List.filter_cons, if_neg (fun e => h (of_decide_eq_true e)), if_neg h]; rfl
theorem gone_in {a b : List α} {i : Nat} (hi : i < a.length) (h : ∃ y ∈ b, key y = key a[i]) : goneL key (a.take (i + 1)) b = goneL key (a.take i) b := by
  rw [gone_take a b hi, if_neg (fun h2 => by obtain ⟨y, hy, e⟩ := h; exact h2 y hy e), List.append_nil]
theorem gone_out {a b : List α} {i : Nat} (hi : i < a.length) (h : ∀ y ∈ b, key y ≠ key a[i]) : goneL key (a.take (i + 1)) b = goneL key (a.take i) b ++ [key a[i]] := by rw [gone_take a b hi, if_pos h]
theorem gone_count (a b : List α) (i : Nat) : (goneL key (a.take i) b).length ≤ a.length := Nat.le_trans (gone_length key _ b) (by rw [List.length_take]; omega)
theorem at_or {l : List α} {x : ByteArray} {r : Int} (h : At key l x r) : (r < 0 ∧ ∀ y ∈ l, key y ≠ x) ∨ (0 ≤ r ∧ ∃ y ∈ l, key y = x) := by
  rcases h with ⟨rfl, h⟩ | ⟨k, hk, rfl, e, _⟩
  · refine .inl ⟨by omega, fun y hy => ?_⟩
    obtain ⟨j, hj, rfl⟩ := List.getElem_of_mem hy
    exact h j hj
  · exact .inr ⟨by omega, _, List.getElem_mem hk, e⟩
end
/-- Two states and a result as they came, beside the block of a delta that is built. -/
def RefD (H L : Nat) (ca cb cr : Array Value) (W w : World) : Prop := ObjAt H ca 26 w ∧ ObjAt (H + 1) cb 26 w ∧ ObjAt (H + 2) cr 49 w ∧ Below H W w ∧ H + 3 ≤ L
theorem refD_gN {H L : Nat} {ca cb cr : Array Value} {W w w' : World} (h : RefD H L ca cb cr W w) (g : w.grownBy w' (some L)) : RefD H L ca cb cr W w' :=
  ⟨objAt_gN h.1 (by have := h.2.2.2.2; omega) g, objAt_gN h.2.1 (by have := h.2.2.2.2; omega) g, objAt_gN h.2.2.1 (by have := h.2.2.2.2; omega) g, gN_below h.2.2.2.1 (Nat.le_of_lt (objAt_lt h.1)) (by have := h.2.2.2.2; omega) g, h.2.2.2.2⟩
end Go.Proofs.YthpgkfonbmffdaaGreatDoor
