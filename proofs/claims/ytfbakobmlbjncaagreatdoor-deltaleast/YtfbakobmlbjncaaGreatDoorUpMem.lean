/- A state in a block; rows kept beside it. -/
import Derived.Test.YtfbakobmlbjncaaGreatDoorUpTries
import Derived.Test.YtfbakobmlbjncaaGreatDoorUpEq
import Derived.Test.YtfbakobmlbjncaaGreatDoorPkWi4
namespace Go.Proofs.YtfbakobmlbjncaaGreatDoor
open Go.RowKit

/-- A row is no block of another type. -/
theorem own_box {w : World} {B e sz n L : Nat} {v : Value} {xs : List Value} {vs : Array Value} {t : TypeId} (h : w.ownsRow B e sz v n xs) (ho : ObjAt L vs t w) (ht : t ≠ e) (j : Nat) (u : Value) : (w.setCell ⟨L, j, none⟩ u).ownsRow B e sz v n xs := by
  refine ⟨h.1, ?_⟩
  rcases h.2 with h0 | ⟨g, cap, cur, hv, hbg, hg, r⟩
  · exact .inl h0
  · refine .inr ⟨g, cap, cur, hv, hbg, ?_, r⟩
    have ne : g ≠ L := by
      rintro rfl
      unfold ObjAt at ho
      rw [ho] at hg
      simp only [Option.some.injEq, Obj.cells.injEq] at hg
      exact ht hg.2.1
    rw [Below.heap_setCell _ ⟨L, j, none⟩ u g ne]
    exact hg
theorem obj_put4 {w : World} {b : Nat} {a0 a1 a2 a3 : Value} {t : TypeId} (h : ObjAt b #[a0, a1, a2, a3] t w) (x0 x1 x2 x3 : Value) : ObjAt b #[x0, x1, x2, x3] t ((((w.setCell ⟨b, 0, none⟩ x0).setCell ⟨b, 1, none⟩ x1).setCell ⟨b, 2, none⟩ x2).setCell ⟨b, 3, none⟩ x3) := by
  have h1 : ObjAt b #[x0, a1, a2, a3] t _ := objAt_set h 0 x0
  have h2 : ObjAt b #[x0, x1, a2, a3] t _ := objAt_set h1 1 x1
  have h3 : ObjAt b #[x0, x1, x2, a3] t _ := objAt_set h2 2 x2
  exact objAt_set h3 3 x3
theorem own_put4 {w : World} {B e sz n b : Nat} {v : Value} {xs : List Value} {vs : Array Value} {t : TypeId} (h : w.ownsRow B e sz v n xs) (ho : ObjAt b vs t w) (ht : t ≠ e) (x0 x1 x2 x3 : Value) :
    ((((w.setCell ⟨b, 0, none⟩ x0).setCell ⟨b, 1, none⟩ x1).setCell ⟨b, 2, none⟩ x2).setCell ⟨b, 3, none⟩ x3).ownsRow B e sz v n xs :=
  own_box (own_box (own_box (own_box h ho ht 0 x0) (objAt_set ho 0 x0) ht 1 x1) (objAt_set (objAt_set ho 0 x0) 1 x1) ht 2 x2) (objAt_set (objAt_set (objAt_set ho 0 x0) 1 x1) 2 x2) ht 3 x3
theorem other_put4 {w : World} {b c : Nat} {vs : Array Value} {t : TypeId} (h : ObjAt c vs t w) (hne : c ≠ b) (x0 x1 x2 x3 : Value) : ObjAt c vs t ((((w.setCell ⟨b, 0, none⟩ x0).setCell ⟨b, 1, none⟩ x1).setCell ⟨b, 2, none⟩ x2).setCell ⟨b, 3, none⟩ x3) :=
  objAt_other (objAt_other (objAt_other (objAt_other h hne 0 x0) hne 1 x1) hne 2 x2) hne 3 x3
theorem below_put4 {B b : Nat} {w0 w : World} (h : Below B w0 w) (hb : B ≤ b) (x0 x1 x2 x3 : Value) : Below B w0 ((((w.setCell ⟨b, 0, none⟩ x0).setCell ⟨b, 1, none⟩ x1).setCell ⟨b, 2, none⟩ x2).setCell ⟨b, 3, none⟩ x3) :=
  (((h.setCell (p := ⟨b, 0, none⟩) hb x0).setCell (p := ⟨b, 1, none⟩) hb x1).setCell (p := ⟨b, 2, none⟩) hb x2).setCell (p := ⟨b, 3, none⟩) hb x3
theorem size_put4 (w : World) (b : Nat) (x0 x1 x2 x3 : Value) : ((((w.setCell ⟨b, 0, none⟩ x0).setCell ⟨b, 1, none⟩ x1).setCell ⟨b, 2, none⟩ x2).setCell ⟨b, 3, none⟩ x3).heap.size = w.heap.size := by simp [World.setCell]
/-- Two blocks, the first as it came. -/
theorem two_new (w : World) (a0 a1 a2 a3 : Value) (t : TypeId) (W0 : World) (hW : (w.alloc (.cells #[a0, a1, a2, a3] t)).alloc (.cells #[.int .i64 0, .slice none 0 0, .slice none 0 0, .slice none 0 0] t) = W0) :
    ObjAt w.heap.size #[a0, a1, a2, a3] t W0 ∧ ObjAt (w.heap.size + 1) #[.int .i64 0, .slice none 0 0, .slice none 0 0, .slice none 0 0] t W0 ∧ Below w.heap.size w W0 ∧ W0.heap.size = w.heap.size + 2 := by
  rw [← hW]
  refine ⟨objAt_next (objAt_new w _ _) (below_one _ _), ?_, below_trans (below_one _ _) (below_one _ _) (by simp), by simp⟩
  have := objAt_new (w.alloc (.cells #[a0, a1, a2, a3] t)) #[.int .i64 0, .slice none 0 0, .slice none 0 0, .slice none 0 0] t
  rwa [World.size_alloc] at this
end Go.Proofs.YtfbakobmlbjncaaGreatDoor
