import Derived.Test.YtiekgafopalfmaaGreatDoorPkWi2
import Derived.Test.YtiekgafopalfmaaGreatDoorPkSt2
/- The coder of package wire: a job, a node, a lease. -/
namespace Go.Proofs.YtiekgafopalfmaaGreatDoor
open Go.RowKit Go.Lib

/-- The tables for UTF-8 lie below the coder. -/
def Env (b : Nat) (w : World) : Prop := ∃ w0 : World, w0.heap.size = b ∧ Tabs w0 ∧ Below b w0 w
theorem env_tabs {b : Nat} {w : World} (h : Env b w) : Tabs w := by
  obtain ⟨w0, rfl, hT, hb⟩ := h
  exact hT.below hb
theorem env_keep {b : Nat} {w w' : World} (h : Env b w) (hk : Keep b w w') : Env b w' := by
  obtain ⟨w0, hs, hT, hb⟩ := h
  have := hb.size
  exact ⟨w0, hs, hT, hb.trans (keep_low hk (by omega))⟩
/-- A row that is passed: the coder, the row, the row that is handed back. -/
def RowSt (b : Nat) (v : Int) (t : TypeId) (m : M) (vs rs : Array Value) (w0 w : World) : Prop :=
  CodeAt b v m w ∧ ObjAt w0.heap.size vs t w ∧ ObjAt (w0.heap.size + 1) rs t w ∧ Keep b w0 w ∧ Env b w ∧ b < w0.heap.size ∧ t ≠ 5
theorem rowSt_new {b : Nat} {v : Int} {t : TypeId} {m : M} {w : World} (vs rs : Array Value) (h : CodeAt b v m w) (hE : Env b w) (ht : t ≠ 5) : RowSt b v t m vs rs w ((w.alloc (.cells vs t)).alloc (.cells rs t)) := by
  have o1 := objAt_new w vs t
  have o2 := objAt_new (w.alloc (.cells vs t)) rs t
  rw [World.size_alloc] at o2
  exact ⟨code_alloc (code_alloc h _) _, objAt_next o1 (below_one _ _), o2, keep_trans (keep_alloc b w _) (keep_alloc b _ _), env_keep (env_keep hE (keep_alloc b w _)) (keep_alloc b _ _), code_lt h, ht⟩
theorem rowSt_call {b : Nat} {v : Int} {t : TypeId} {m m' : M} {vs rs : Array Value} {w0 w w1 : World} (h : RowSt b v t m vs rs w0 w) (hc : CodeAt b v m' w1) (hk : Keep b w w1) : RowSt b v t m' vs rs w0 w1 := by
  obtain ⟨_, h2, h3, h4, h5, h6, h7⟩ := h
  exact ⟨hc, keep_obj h2 hk (by omega) h7, keep_obj h3 hk (by omega) h7, keep_trans h4 hk, env_keep h5 hk, h6, h7⟩
theorem env_new {b c : Nat} {w w0 : World} (h : Env b w) (hb : b < w0.heap.size) (hc : w0.heap.size ≤ c) (j : Nat) (u : Value) : Env b (w.setCell ⟨c, j, none⟩ u) := by
  obtain ⟨x, hs, hT, hl⟩ := h
  exact ⟨x, hs, hT, hl.setCell (p := ⟨c, j, none⟩) (by show b ≤ c; omega) u⟩
theorem rowSt_store {b : Nat} {v : Int} {t : TypeId} {m : M} {vs rs : Array Value} {w0 w : World} (h : RowSt b v t m vs rs w0 w) (j : Nat) (u : Value) : RowSt b v t m (vs.setIfInBounds j u) rs w0 (w.setCell ⟨w0.heap.size, j, none⟩ u) := by
  obtain ⟨h1, h2, h3, h4, h5, h6, h7⟩ := h
  exact ⟨code_set h1 h2 (by omega) h7 j u, objAt_set h2 j u, objAt_other h3 (by omega) j u, keep_new h4 (Nat.le_refl _) j u, env_new h5 h6 (Nat.le_refl _) j u, h6, h7⟩
theorem rowSt_back {b : Nat} {v : Int} {t : TypeId} {m : M} {vs rs : Array Value} {w0 w : World} (h : RowSt b v t m vs rs w0 w) (j : Nat) (u : Value) : RowSt b v t m vs (rs.setIfInBounds j u) w0 (w.setCell ⟨w0.heap.size + 1, j, none⟩ u) := by
  obtain ⟨h1, h2, h3, h4, h5, h6, h7⟩ := h
  exact ⟨code_set h1 h3 (by omega) h7 j u, objAt_other h2 (by omega) j u, objAt_set h3 j u, keep_new h4 (by omega) j u, env_new h5 h6 (by omega) j u, h6, h7⟩
end Go.Proofs.YtiekgafopalfmaaGreatDoor

/- The coder of package wire: the rows of a table. -/
namespace Go.Proofs.YtiekgafopalfmaaGreatDoor
open Go.RowKit

theorem go_at {α : Type} {f : α → St α} {pad : List α} {m1 mi : M} {ys : List α} {i : Nat} (h : i < pad.length) (H : goS f pad m1 = (ys ++ (goS f (pad.drop i) mi).1, (goS f (pad.drop i) mi).2)) :
    goS f pad m1 = ((ys ++ [(f pad[i] mi).1]) ++ (goS f (pad.drop (i + 1)) (f pad[i] mi).2).1, (goS f (pad.drop (i + 1)) (f pad[i] mi).2).2) := by
  rw [List.drop_eq_getElem_cons h] at H
  rw [H]
  simp [goS, bindS, pureS]
theorem go_end {α : Type} {f : α → St α} {pad : List α} {m1 mi : M} {ys : List α} (H : goS f pad m1 = (ys ++ (goS f (pad.drop pad.length) mi).1, (goS f (pad.drop pad.length) mi).2)) : goS f pad m1 = (ys, mi) := by
  rw [List.drop_length] at H
  rw [H]
  simp [goS, pureS]
theorem padL_length {α : Type} (z : α) (l : List α) (n : Nat) : (padL z l n).length = n := by simp [padL]
theorem padL_in {α : Type} (z : α) (l : List α) (n i : Nat) (h : i < (padL z l n).length) (hi : i < l.length) : (padL z l n)[i] = l[i] := by simp [padL, hi]
theorem padL_out {α : Type} (z : α) (l : List α) (n i : Nat) (h : i < (padL z l n).length) (hi : ¬ i < l.length) : (padL z l n)[i] = z := by simp [padL, hi]
/-- The coder beside a block that was made. -/
def BoxSt (b : Nat) (v : Int) (t : TypeId) (m : M) (c : Nat) (vs : Array Value) (w0 w : World) : Prop :=
  CodeAt b v m w ∧ ObjAt c vs t w ∧ Keep b w0 w ∧ Env b w ∧ b < w0.heap.size ∧ w0.heap.size ≤ c ∧ t ≠ 5
theorem boxSt_new {b : Nat} {v : Int} {t : TypeId} {m : M} {w : World} (vs : Array Value) (h : CodeAt b v m w) (hE : Env b w) (ht : t ≠ 5) : BoxSt b v t m w.heap.size vs w (w.alloc (.cells vs t)) :=
  ⟨code_alloc h _, objAt_new w vs t, keep_alloc b w _, env_keep hE (keep_alloc b w _), code_lt h, Nat.le_refl _, ht⟩
theorem boxSt_store {b c : Nat} {v : Int} {t : TypeId} {m : M} {vs : Array Value} {w0 w : World} (h : BoxSt b v t m c vs w0 w) (j : Nat) (u : Value) : BoxSt b v t m c (vs.setIfInBounds j u) w0 (w.setCell ⟨c, j, none⟩ u) := by
  obtain ⟨h1, h2, h4, h5, h6, h7, h8⟩ := h
  exact ⟨code_set h1 h2 (by omega) h8 j u, objAt_set h2 j u, keep_new h4 h7 j u, env_new h5 h6 h7 j u, h6, h7, h8⟩
end Go.Proofs.YtiekgafopalfmaaGreatDoor
