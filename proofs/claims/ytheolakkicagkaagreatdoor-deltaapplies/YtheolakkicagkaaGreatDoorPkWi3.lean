import Derived.Test.YtheolakkicagkaaGreatDoorPkWi2
import Derived.Test.YtheolakkicagkaaGreatDoorPkSt2
/- The coder of package wire: a job, a node, a lease. -/
namespace Go.Proofs.YtheolakkicagkaaGreatDoor
open Go.RowKit Go.Lib

/-- The tables for UTF-8 lie below the coder. -/
def Env (b : Nat) (w : World) : Prop := ∃ w0 : World, w0.heap.size = b ∧ Tabs w0 ∧ Below b w0 w
theorem env_tabs {b : Nat} {w : World} (h : Env b w) : Tabs w := by
  obtain ⟨w0, rfl, hT, hb⟩ := h
  exact hT.below hb
theorem env_keep {b : Nat} {w w' : World} (h : Env b w) (hk : Keep b w w') : Env b w' := by
  obtain ⟨w0, hs, hT, hb⟩ := h
  have := hb.size
  exact ⟨w0, hs, hT, hb.trans (keep_low hk (by omega))⟩
theorem env_new {b c : Nat} {w w0 : World} (h : Env b w) (hb : b < w0.heap.size) (hc : w0.heap.size ≤ c) (j : Nat) (u : Value) : Env b (w.setCell ⟨c, j, none⟩ u) := by
  obtain ⟨x, hs, hT, hl⟩ := h
  exact ⟨x, hs, hT, hl.setCell (p := ⟨c, j, none⟩) (by show b ≤ c; omega) u⟩
end Go.Proofs.YtheolakkicagkaaGreatDoor

/- The coder of package wire: the rows of a table. -/
namespace Go.Proofs.YtheolakkicagkaaGreatDoor
open Go.RowKit

theorem go_at {α : Type} {f : α → St α} {pad : List α} {m1 mi : M} {ys : List α} {i : Nat} (h : i < pad.length) (H : goS f pad m1 = (ys ++ (goS f (pad.drop i) mi).1, (goS f (pad.drop i) mi).2)) :
    goS f pad m1 = ((ys ++ [(f pad[i] mi).1]) ++ (goS f (pad.drop (i + 1)) (f pad[i] mi).2).1, (goS f (pad.drop (i + 1)) (f pad[i] mi).2).2) := by
  rw [List.drop_eq_getElem_cons h] at H
  rw [H]
  simp [goS, bindS, pureS]
theorem go_end {α : Type} {f : α → St α} {pad : List α} {m1 mi : M} {ys : List α} (H : goS f pad m1 = (ys ++ (goS f (pad.drop pad.length) mi).1, (goS f (pad.drop pad.length) mi).2)) : goS f pad m1 = (ys, mi) := by
  rw [List.drop_length] at H
  rw [H]
  simp [goS, pureS]
theorem padL_length {α : Type} (z : α) (l : List α) (n : Nat) : (padL z l n).length = n := by simp [padL]
theorem padL_in {α : Type} (z : α) (l : List α) (n i : Nat) (h : i < (padL z l n).length) (hi : i < l.length) : (padL z l n)[i] = l[i] := by simp [padL, hi]
theorem padL_out {α : Type} (z : α) (l : List α) (n i : Nat) (h : i < (padL z l n).length) (hi : ¬ i < l.length) : (padL z l n)[i] = z := by simp [padL, hi]
end Go.Proofs.YtheolakkicagkaaGreatDoor
