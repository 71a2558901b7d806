/- What the laws ask of the bad state; what a region that reads the state's block keeps. -/
import Derived.Test.YtkdjpciegcofbaaDoorStSample
namespace Go.Proofs.YtkdjpciegcofbaaDoor
open Go.RowKit

theorem badAt_j (w : World) : JobsAt w none [] := fun i h => by simp at h
theorem badAt_n (w : World) : NodesAt w none [] := fun i h => by simp at h
theorem badAt_l (w : World) : LeasesAt w none [] := fun i h => by simp at h
theorem bad_w : wState ⟨-1, [], [], []⟩ := ⟨show (Lit.int .i64 (-1)).wf = true by decide, fun x h => (by cases h), fun x h => (by cases h), fun x h => (by cases h)⟩
theorem bad_check (w : World) (hT : Tabs w) : Calls Tryd.prog 11 #[.agg #[.int .i64 (-1), .slice none 0 0, .slice none 0 0, .slice none 0 0]] w fun e w' => e = .returned (.int .i64 1) ∧ Below w.heap.size w w' := by
  have := check_any (-1) none none none 0 0 0 [] [] [] bad_w w hT (badAt_j w) (badAt_n w) (badAt_l w)
  rw [show checkE V8 ⟨-1, [], [], []⟩ = 1 from rfl] at this
  exact this
theorem stS_next {b : Nat} {v0 v1 v2 v3 : Value} {w w1 w2 : World} (b2 : Below w1.heap.size w1 w2)
    (h : (w1.cell? ⟨b, 0, none⟩ = some v0 ∧ w1.cell? ⟨b, 1, none⟩ = some v1 ∧ w1.cell? ⟨b, 2, none⟩ = some v2 ∧ w1.cell? ⟨b, 3, none⟩ = some v3) ∧ b < w1.heap.size ∧ Below w.heap.size w w1) :
    (w2.cell? ⟨b, 0, none⟩ = some v0 ∧ w2.cell? ⟨b, 1, none⟩ = some v1 ∧ w2.cell? ⟨b, 2, none⟩ = some v2 ∧ w2.cell? ⟨b, 3, none⟩ = some v3) ∧ b < w2.heap.size ∧ Below w.heap.size w w2 := by
  obtain ⟨⟨c0, c1, c2, c3⟩, h1, h3⟩ := h
  have hs := b2.size
  exact ⟨⟨by rw [b2.cell (p := ⟨b, 0, none⟩) h1]; exact c0, by rw [b2.cell (p := ⟨b, 1, none⟩) h1]; exact c1, by rw [b2.cell (p := ⟨b, 2, none⟩) h1]; exact c2, by rw [b2.cell (p := ⟨b, 3, none⟩) h1]; exact c3⟩, by omega, below_trans h3 b2 h3.size⟩
end Go.Proofs.YtkdjpciegcofbaaDoor
