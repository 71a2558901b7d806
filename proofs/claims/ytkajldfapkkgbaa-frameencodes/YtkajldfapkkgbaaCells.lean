import Derived.Test.YtkajldfapkkgbaaRows
import Derived.WalkKit
import Derived.WalkSpells
import Derived.ProofKit
import Derived.Below
import Derived.Lib.Hide
namespace Go.Proofs.Ytkajldfapkkgbaa
open Go.RowKit

theorem cell_one_new0 (w : World) (x y z : Value) (t : TypeId) : (w.alloc (.cells #[x, y, z] t)).cell? ⟨w.heap.size, 0, none⟩ = some x := by go_simp
theorem cell_one_new1 (w : World) (x y z : Value) (t : TypeId) : (w.alloc (.cells #[x, y, z] t)).cell? ⟨w.heap.size, 1, none⟩ = some y := by go_simp
theorem cell_one_new2 (w : World) (x y z : Value) (t : TypeId) : (w.alloc (.cells #[x, y, z] t)).cell? ⟨w.heap.size, 2, none⟩ = some z := by go_simp
/-- Three cells of one block, as they lie: kept behind a call that makes memory. -/
def Three (b : Nat) (x y z : Value) (w w' : World) : Prop := (w'.cell? ⟨b, 0, none⟩ = some x ∧ w'.cell? ⟨b, 1, none⟩ = some y ∧ w'.cell? ⟨b, 2, none⟩ = some z) ∧ Below b w w' ∧ b < w'.heap.size
theorem three_next {b : Nat} {x y z : Value} {w w' w2 : World} (h : Three b x y z w w') (b2 : Below w'.heap.size w' w2) : Three b x y z w w2 := by
  have hs := b2.size
  obtain ⟨⟨h0, h1, h2⟩, hb, hl⟩ := h
  exact ⟨⟨by rw [b2.cell (p := ⟨b, 0, none⟩) hl]; exact h0, by rw [b2.cell (p := ⟨b, 1, none⟩) hl]; exact h1, by rw [b2.cell (p := ⟨b, 2, none⟩) hl]; exact h2⟩, hb.trans (b2.mono (Nat.le_of_lt hl)), Nat.lt_of_lt_of_le hl hs⟩
theorem Three.drew {b : Nat} {x y z : Value} {w w' : World} (h : Three b x y z w w') : Three b x y z w w'.drew := ⟨h.1, h.2.1.drew, h.2.2⟩
theorem three_new (w : World) (x y z : Value) (t : TypeId) : Three w.heap.size x y z w (w.alloc (.cells #[x, y, z] t)) :=
  ⟨⟨cell_one_new0 _ _ _ _ _, cell_one_new1 _ _ _ _ _, cell_one_new2 _ _ _ _ _⟩, (Below.refl _ _).alloc (Nat.le_refl _) _, by simp⟩
end Go.Proofs.Ytkajldfapkkgbaa
