/- A delta's rows, owned; stores into a delta's block. -/
import Derived.Test.YtfbakobmlbjncaaGreatDoorDlArg
import Derived.Test.YtfbakobmlbjncaaGreatDoorUpMem
import Derived.Test.YtfbakobmlbjncaaGreatDoorUpState
namespace Go.Proofs.YtfbakobmlbjncaaGreatDoor
open Go.RowKit

def OwnD (B : Nat) (M : DlM) (d : DelD) (w : World) : Prop := w.ownsRow B 41 5 (.slice M.aj d.jobs.length M.cj) d.jobs.length (cJobs d.jobs) ∧ w.ownsRow B 44 3 (.slice M.an d.nodes.length M.cn) d.nodes.length (cNodes d.nodes) ∧ w.ownsRow B 47 3 (.slice M.al d.leases.length M.cl) d.leases.length (cLeases d.leases) ∧ w.ownsRow B 9 1 (.slice M.gj d.gj.length M.hj) d.gj.length (cNms d.gj) ∧ w.ownsRow B 9 1 (.slice M.gn d.gn.length M.hn) d.gn.length (cNms d.gn) ∧ w.ownsRow B 9 1 (.slice M.gl d.gl.length M.hl) d.gl.length (cNms d.gl)
theorem ownD_next {B : Nat} {M : DlM} {d : DelD} {w w' : World} (h : OwnD B M d w) (hb : Below w.heap.size w w') : OwnD B M d w' := ⟨own_next h.1 hb, own_next h.2.1 hb, own_next h.2.2.1 hb, own_next h.2.2.2.1 hb, own_next h.2.2.2.2.1 hb, own_next h.2.2.2.2.2 hb⟩
theorem ownD_low {B B' : Nat} {M : DlM} {d : DelD} {w : World} (h : OwnD B M d w) (hb : B' ≤ B) : OwnD B' M d w := ⟨ownsRow_low h.1 hb, ownsRow_low h.2.1 hb, ownsRow_low h.2.2.1 hb, ownsRow_low h.2.2.2.1 hb, ownsRow_low h.2.2.2.2.1 hb, ownsRow_low h.2.2.2.2.2 hb⟩
theorem ownD_at {B : Nat} {M : DlM} {d : DelD} {w : World} (h : OwnD B M d w) : DeltaAt w M d := ⟨⟨ownJobs h.1 rfl, ownNodes h.2.1 rfl, ownLeases h.2.2.1 rfl⟩, ownNms h.2.2.2.1 rfl, ownNms h.2.2.2.2.1 rfl, ownNms h.2.2.2.2.2 rfl⟩
theorem ownD_zero (B : Nat) (w : World) : OwnD B ⟨none, 0, none, 0, none, 0, none, 0, none, 0, none, 0⟩ zeroDel w := ⟨World.ownsRow_nil _ _ _ _, World.ownsRow_nil _ _ _ _, World.ownsRow_nil _ _ _ _, World.ownsRow_nil _ _ _ _, World.ownsRow_nil _ _ _ _, World.ownsRow_nil _ _ _ _⟩
theorem obj_put8 {w : World} {b : Nat} {a0 a1 a2 a3 a4 a5 a6 a7 : Value} {t : TypeId} (h : ObjAt b #[a0, a1, a2, a3, a4, a5, a6, a7] t w) (x0 x1 x2 x3 x4 x5 x6 x7 : Value) : ObjAt b #[x0, x1, x2, x3, x4, x5, x6, x7] t ((((((((w.setCell ⟨b, 0, none⟩ x0).setCell ⟨b, 1, none⟩ x1).setCell ⟨b, 2, none⟩ x2).setCell ⟨b, 3, none⟩ x3).setCell ⟨b, 4, none⟩ x4).setCell ⟨b, 5, none⟩ x5).setCell ⟨b, 6, none⟩ x6).setCell ⟨b, 7, none⟩ x7) := by
  have h0 : ObjAt b #[x0, a1, a2, a3, a4, a5, a6, a7] t _ := objAt_set h 0 x0
  have h1 : ObjAt b #[x0, x1, a2, a3, a4, a5, a6, a7] t _ := objAt_set h0 1 x1
  have h2 : ObjAt b #[x0, x1, x2, a3, a4, a5, a6, a7] t _ := objAt_set h1 2 x2
  have h3 : ObjAt b #[x0, x1, x2, x3, a4, a5, a6, a7] t _ := objAt_set h2 3 x3
  have h4 : ObjAt b #[x0, x1, x2, x3, x4, a5, a6, a7] t _ := objAt_set h3 4 x4
  have h5 : ObjAt b #[x0, x1, x2, x3, x4, x5, a6, a7] t _ := objAt_set h4 5 x5
  have h6 : ObjAt b #[x0, x1, x2, x3, x4, x5, x6, a7] t _ := objAt_set h5 6 x6
  exact objAt_set h6 7 x7
theorem own_put8 {w : World} {B e sz n b : Nat} {v : Value} {xs : List Value} {a0 a1 a2 a3 a4 a5 a6 a7 : Value} {t : TypeId} (h : w.ownsRow B e sz v n xs) (ho : ObjAt b #[a0, a1, a2, a3, a4, a5, a6, a7] t w) (ht : t ≠ e) (x0 x1 x2 x3 x4 x5 x6 x7 : Value) : ((((((((w.setCell ⟨b, 0, none⟩ x0).setCell ⟨b, 1, none⟩ x1).setCell ⟨b, 2, none⟩ x2).setCell ⟨b, 3, none⟩ x3).setCell ⟨b, 4, none⟩ x4).setCell ⟨b, 5, none⟩ x5).setCell ⟨b, 6, none⟩ x6).setCell ⟨b, 7, none⟩ x7).ownsRow B e sz v n xs := by
  have k0 := own_box h ho ht 0 x0
  have h0 := objAt_set ho 0 x0
  have k1 := own_box k0 h0 ht 1 x1
  have h1 := objAt_set h0 1 x1
  have k2 := own_box k1 h1 ht 2 x2
  have h2 := objAt_set h1 2 x2
  have k3 := own_box k2 h2 ht 3 x3
  have h3 := objAt_set h2 3 x3
  have k4 := own_box k3 h3 ht 4 x4
  have h4 := objAt_set h3 4 x4
  have k5 := own_box k4 h4 ht 5 x5
  have h5 := objAt_set h4 5 x5
  have k6 := own_box k5 h5 ht 6 x6
  have h6 := objAt_set h5 6 x6
  exact own_box k6 h6 ht 7 x7
theorem ownD_put8 {w : World} {B b : Nat} {M : DlM} {d : DelD} {a0 a1 a2 a3 a4 a5 a6 a7 : Value} (h : OwnD B M d w) (ho : ObjAt b #[a0, a1, a2, a3, a4, a5, a6, a7] 29 w) (x0 x1 x2 x3 x4 x5 x6 x7 : Value) : OwnD B M d ((((((((w.setCell ⟨b, 0, none⟩ x0).setCell ⟨b, 1, none⟩ x1).setCell ⟨b, 2, none⟩ x2).setCell ⟨b, 3, none⟩ x3).setCell ⟨b, 4, none⟩ x4).setCell ⟨b, 5, none⟩ x5).setCell ⟨b, 6, none⟩ x6).setCell ⟨b, 7, none⟩ x7) :=
  ⟨own_put8 h.1 ho (by decide) x0 x1 x2 x3 x4 x5 x6 x7, own_put8 h.2.1 ho (by decide) x0 x1 x2 x3 x4 x5 x6 x7, own_put8 h.2.2.1 ho (by decide) x0 x1 x2 x3 x4 x5 x6 x7, own_put8 h.2.2.2.1 ho (by decide) x0 x1 x2 x3 x4 x5 x6 x7, own_put8 h.2.2.2.2.1 ho (by decide) x0 x1 x2 x3 x4 x5 x6 x7, own_put8 h.2.2.2.2.2 ho (by decide) x0 x1 x2 x3 x4 x5 x6 x7⟩
theorem below_put8 {B b : Nat} {w0 w : World} (h : Below B w0 w) (hb : B ≤ b) (x0 x1 x2 x3 x4 x5 x6 x7 : Value) : Below B w0 ((((((((w.setCell ⟨b, 0, none⟩ x0).setCell ⟨b, 1, none⟩ x1).setCell ⟨b, 2, none⟩ x2).setCell ⟨b, 3, none⟩ x3).setCell ⟨b, 4, none⟩ x4).setCell ⟨b, 5, none⟩ x5).setCell ⟨b, 6, none⟩ x6).setCell ⟨b, 7, none⟩ x7) :=
  ((((((((h.setCell (p := ⟨b, 0, none⟩) hb x0).setCell (p := ⟨b, 1, none⟩) hb x1).setCell (p := ⟨b, 2, none⟩) hb x2).setCell (p := ⟨b, 3, none⟩) hb x3).setCell (p := ⟨b, 4, none⟩) hb x4).setCell (p := ⟨b, 5, none⟩) hb x5).setCell (p := ⟨b, 6, none⟩) hb x6).setCell (p := ⟨b, 7, none⟩) hb x7)
/-- Two stores into a delta's block. -/
theorem dl_two {w U : World} {N : Nat} {cs : Array Value} (oD : ObjAt N cs 29 w) (j k : Nat) (u v : Value) (hU : (w.setCell ⟨N, j, none⟩ u).setCell ⟨N, k, none⟩ v = U) :
    ObjAt N ((cs.setIfInBounds j u).setIfInBounds k v) 29 U ∧ (∀ (b : Nat) (vs : Array Value) (t : TypeId), b ≠ N → ObjAt b vs t w → ObjAt b vs t U) ∧ (∀ (B e sz : Nat) (x : Value) (n : Nat) (xs : List Value), e ≠ 29 → w.ownsRow B e sz x n xs → U.ownsRow B e sz x n xs) ∧ (∀ (B : Nat) (w0 : World), B ≤ N → Below B w0 w → Below B w0 U) ∧ U.heap.size = w.heap.size := by
  subst hU
  have h1 := objAt_set oD j u
  exact ⟨objAt_set h1 k v, fun b vs t hb h => objAt_other (objAt_other h hb j u) hb k v, fun B e sz x n xs he h => own_box (own_box h oD (Ne.symm he) j u) h1 (Ne.symm he) k v, fun B w0 hB h => (h.setCell (p := ⟨N, j, none⟩) hB u).setCell (p := ⟨N, k, none⟩) hB v, by simp [World.setCell]⟩
/-- Three blocks: two states as they came, and a delta's. -/
theorem three_blocks (w : World) (a0 a1 a2 a3 b0 b1 b2 b3 : Value) (W0 : World) (hW : ((w.alloc (.cells #[a0, a1, a2, a3] 26)).alloc (.cells #[b0, b1, b2, b3] 26)).alloc (.cells #[.int .i64 0, .int .i64 0, .slice none 0 0, .slice none 0 0, .slice none 0 0, .slice none 0 0, .slice none 0 0, .slice none 0 0] 29) = W0) :
    ObjAt w.heap.size #[a0, a1, a2, a3] 26 W0 ∧ ObjAt (w.heap.size + 1) #[b0, b1, b2, b3] 26 W0 ∧ ObjAt (w.heap.size + 2) #[.int .i64 0, .int .i64 0, .slice none 0 0, .slice none 0 0, .slice none 0 0, .slice none 0 0, .slice none 0 0, .slice none 0 0] 29 W0 ∧ Below w.heap.size w W0 ∧ W0.heap.size = w.heap.size + 3 := by
  rw [← hW]
  have p1 := objAt_new (w.alloc (.cells #[a0, a1, a2, a3] 26)) #[b0, b1, b2, b3] 26
  have p2 := objAt_new ((w.alloc (.cells #[a0, a1, a2, a3] 26)).alloc (.cells #[b0, b1, b2, b3] 26)) #[.int .i64 0, .int .i64 0, .slice none 0 0, .slice none 0 0, .slice none 0 0, .slice none 0 0, .slice none 0 0, .slice none 0 0] 29
  rw [World.size_alloc] at p1
  rw [World.size_alloc, World.size_alloc] at p2
  exact ⟨objAt_next (objAt_next (objAt_new w _ _) (below_one _ _)) (below_one _ _), objAt_next p1 (below_one _ _), p2, below_trans (below_trans (below_one _ _) (below_one _ _) (by simp)) (below_one _ _) (by simp; omega), by simp⟩
end Go.Proofs.YtfbakobmlbjncaaGreatDoor
