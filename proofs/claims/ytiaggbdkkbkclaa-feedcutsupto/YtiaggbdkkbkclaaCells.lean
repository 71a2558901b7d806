import Derived.Test.YtiaggbdkkbkclaaRows
import Derived.WalkKit
import Derived.WalkSpells
import Derived.ProofKit
import Derived.Below
import Derived.Lib.Hide
namespace Go.Proofs.Ytiaggbdkkbkclaa
open Go.RowKit

theorem cell_one_new0 (w : World) (x y z : Value) (t : TypeId) : (w.alloc (.cells #[x, y, z] t)).cell? ⟨w.heap.size, 0, none⟩ = some x := by go_simp
theorem cell_one_new1 (w : World) (x y z : Value) (t : TypeId) : (w.alloc (.cells #[x, y, z] t)).cell? ⟨w.heap.size, 1, none⟩ = some y := by go_simp
theorem cell_one_new2 (w : World) (x y z : Value) (t : TypeId) : (w.alloc (.cells #[x, y, z] t)).cell? ⟨w.heap.size, 2, none⟩ = some z := by go_simp
/-- Three cells of one block, as they lie: kept behind a call that makes memory. -/
def Three (b : Nat) (x y z : Value) (w w' : World) : Prop := (w'.cell? ⟨b, 0, none⟩ = some x ∧ w'.cell? ⟨b, 1, none⟩ = some y ∧ w'.cell? ⟨b, 2, none⟩ = some z) ∧ Below b w w' ∧ b < w'.heap.size
theorem three_next {b : Nat} {x y z : Value} {w w' w2 : World} (h : Three b x y z w w') (b2 : Below w'.heap.size w' w2) : Three b x y z w w2 := by
  have hs := b2.size
  obtain ⟨⟨h0, h1, h2⟩, hb, hl⟩ := h
  exact ⟨⟨by rw [b2.cell (p := ⟨b, 0, none⟩) hl]; exact h0, by rw [b2.cell (p := ⟨b, 1, none⟩) hl]; exact h1, by rw [b2.cell (p := ⟨b, 2, none⟩) hl]; exact h2⟩, hb.trans (b2.mono (Nat.le_of_lt hl)), Nat.lt_of_lt_of_le hl hs⟩
theorem Three.drew {b : Nat} {x y z : Value} {w w' : World} (h : Three b x y z w w') : Three b x y z w w'.drew := ⟨h.1, h.2.1.drew, h.2.2⟩
theorem three_new (w : World) (x y z : Value) (t : TypeId) : Three w.heap.size x y z w (w.alloc (.cells #[x, y, z] t)) :=
  ⟨⟨cell_one_new0 _ _ _ _ _, cell_one_new1 _ _ _ _ _, cell_one_new2 _ _ _ _ _⟩, (Below.refl _ _).alloc (Nat.le_refl _) _, by simp⟩
/-- The same block, and that it may be written. -/
def Own3 (b : Nat) (x y z : Value) (w w' : World) : Prop := Three b x y z w w' ∧ w'.frozen? ⟨b, 0, none⟩ = false ∧ w'.frozen? ⟨b, 1, none⟩ = false ∧ w'.frozen? ⟨b, 2, none⟩ = false
theorem Own3.drew {b : Nat} {x y z : Value} {w w' : World} (h : Own3 b x y z w w') : Own3 b x y z w w'.drew := ⟨h.1.drew, h.2⟩
theorem own3_new (w : World) (x y z : Value) (t : TypeId) : Own3 w.heap.size x y z w (w.alloc (.cells #[x, y, z] t)) :=
  ⟨three_new _ _ _ _ _, by go_simp, by go_simp, by go_simp⟩
theorem own3_next {b : Nat} {x y z : Value} {w w' w2 : World} (h : Own3 b x y z w w') (b2 : Below w'.heap.size w' w2) : Own3 b x y z w w2 := by
  have hl := h.1.2.2
  obtain ⟨h3, f0, f1, f2⟩ := h
  exact ⟨three_next h3 b2, by rw [b2.frozen (p := ⟨b, 0, none⟩) hl]; exact f0, by rw [b2.frozen (p := ⟨b, 1, none⟩) hl]; exact f1, by rw [b2.frozen (p := ⟨b, 2, none⟩) hl]; exact f2⟩
/-- The block written anew, cell by cell. -/
def set3 (w : World) (b : Nat) (x y z : Value) : World := ((w.setCell ⟨b, 0, none⟩ x).setCell ⟨b, 1, none⟩ y).setCell ⟨b, 2, none⟩ z
theorem own3_set {b : Nat} {x y z : Value} {w w2 : World} (o : Own3 b x y z w w2) (x' y' z' : Value) : Own3 b x' y' z' w (set3 w2 b x' y' z') := by
  obtain ⟨⟨⟨k0, k1, k2⟩, hb, hlt⟩, f0, f1, f2⟩ := o
  refine ⟨⟨⟨?_, ?_, ?_⟩, ((hb.setCell (Nat.le_refl _) _).setCell (Nat.le_refl _) _).setCell (Nat.le_refl _) _, ?_⟩, ?_, ?_, ?_⟩
  · unfold set3; go_simp
  · unfold set3; go_simp
  · unfold set3; go_simp
  · unfold set3; go_simp
  · unfold set3; go_simp
  · unfold set3; go_simp
  · unfold set3; go_simp
end Go.Proofs.Ytiaggbdkkbkclaa
