/- The coder of package wire in memory: its cells, what it wrote, and what of the memory a call of it leaves as it was. -/
import Derived.Test.YtdbopgmckndmeaaDoorWiM
import Derived.Test.YtdbopgmckndmeaaDoorOwn
import Derived.Test.YtdbopgmckndmeaaDoorStUse
namespace Go.Proofs.YtdbopgmckndmeaaDoor
open Go.RowKit Go.Lib

/-- A block that is known whole. -/
def ObjAt (b : Nat) (vs : Array Value) (t : TypeId) (w : World) : Prop := w.heap[b]? = some (.cells vs t (0, 0))
theorem objAt_new (w : World) (vs : Array Value) (t : TypeId) : ObjAt w.heap.size vs t (w.alloc (.cells vs t)) := heap_alloc_new w _
theorem objAt_lt {b : Nat} {vs : Array Value} {t : TypeId} {w : World} (h : ObjAt b vs t w) : b < w.heap.size := (Array.getElem?_eq_some_iff.1 h).1
theorem objAt_cell {b : Nat} {vs : Array Value} {t : TypeId} {w : World} (h : ObjAt b vs t w) (j : Nat) {v : Value} (hj : vs[j]? = some v) : w.cell? ⟨b, j, none⟩ = some v := by
  unfold World.cell?
  rw [show w.heap[(⟨b, j, none⟩ : Addr).block]? = some (.cells vs t (0, 0)) from h]
  exact hj
theorem objAt_free {b : Nat} {vs : Array Value} {t : TypeId} {w : World} (h : ObjAt b vs t w) (j : Nat) : w.frozen? ⟨b, j, none⟩ = false := by
  unfold World.frozen?
  rw [show w.heap[(⟨b, j, none⟩ : Addr).block]? = some (.cells vs t (0, 0)) from h]
  simp
theorem objAt_set {b : Nat} {vs : Array Value} {t : TypeId} {w : World} (h : ObjAt b vs t w) (j : Nat) (u : Value) : ObjAt b (vs.setIfInBounds j u) t (w.setCell ⟨b, j, none⟩ u) := by
  unfold ObjAt World.setCell
  simp only [Array.getElem?_modify, if_true]
  rw [show w.heap[b]? = some (.cells vs t (0, 0)) from h]
  rfl
theorem objAt_other {b c : Nat} {vs : Array Value} {t : TypeId} {w : World} (h : ObjAt b vs t w) (hne : b ≠ c) (j : Nat) (u : Value) : ObjAt b vs t (w.setCell ⟨c, j, none⟩ u) := by
  unfold ObjAt at h ⊢
  rw [Below.heap_setCell w ⟨c, j, none⟩ u b (by exact hne)]
  exact h
theorem objAt_next {b : Nat} {vs : Array Value} {t : TypeId} {w w' : World} (h : ObjAt b vs t w) (hb : Below w.heap.size w w') : ObjAt b vs t w' := by
  unfold ObjAt at h ⊢
  rw [hb.block b (objAt_lt h)]
  exact h
theorem objAt_drew {b : Nat} {vs : Array Value} {t : TypeId} {w : World} (h : ObjAt b vs t w) : ObjAt b vs t w.drew := h
/-- The coder. -/
def CodeAt (b : Nat) (v : Int) (m : M) (w : World) : Prop :=
  ∃ x, ObjAt b #[.int .i64 v, .bool m.reading, x, .string m.rest, .int .i64 (m.e : Int)] 49 w ∧ w.ownsRow (b + 1) 5 1 x m.gs.length (byteCells m.gs)
/-- All but the coder and what it wrote is as it was. -/
structure Keep (b : Nat) (w w' : World) : Prop where
  os : w'.os = w.os
  tape : w'.tape = w.tape
  output : w'.output = w.output
  size : w.heap.size ≤ w'.heap.size
  block : ∀ i, i < w.heap.size → i ≠ b → (i < b ∨ ∀ c f, w.heap[i]? ≠ some (.cells c 5 f)) → w'.heap[i]? = w.heap[i]?
theorem keep_refl (b : Nat) (w : World) : Keep b w w := ⟨rfl, rfl, rfl, Nat.le_refl _, fun _ _ _ _ => rfl⟩
theorem keep_trans {b : Nat} {w w1 w2 : World} (h : Keep b w w1) (k : Keep b w1 w2) : Keep b w w2 :=
  ⟨k.os.trans h.os, k.tape.trans h.tape, k.output.trans h.output, Nat.le_trans h.size k.size, fun i hi hb hc => by
    have e := h.block i hi hb hc
    rw [k.block i (Nat.lt_of_lt_of_le hi h.size) hb (by rw [e]; exact hc), e]⟩
theorem keep_below {b : Nat} {w w' : World} (h : Below w.heap.size w w') : Keep b w w' := ⟨h.os, h.tape, h.output, h.size, fun i hi _ _ => h.block i hi⟩
theorem keep_drew (b : Nat) (w : World) : Keep b w w.drew := ⟨rfl, rfl, rfl, Nat.le_refl _, fun _ _ _ _ => rfl⟩
theorem keep_alloc (b : Nat) (w : World) (o : Obj) : Keep b w (w.alloc o) := keep_below (below_one w o)
theorem keep_own {b n : Nat} {w w' : World} {x : Value} {xs : List Value} (h : w.ownsRow (b + 1) 5 1 x n xs) (hg : w.grownBy w' x.ownBlock) : Keep b w w' :=
  ⟨hg.os, hg.tape, hg.output, hg.size, fun i hi hb hc => hg.block i hi (fun e => by
    rcases h.2 with ⟨rfl, _⟩ | ⟨g, cap, cur, rfl, hbg, hgc, _⟩
    · simp [Value.ownBlock] at e
    · simp only [Value.ownBlock, Option.some.injEq] at e
      subst e
      rcases hc with hc | hc
      · omega
      · exact hc _ _ hgc)⟩
theorem keep_set (b : Nat) (w : World) (j : Nat) (u : Value) : Keep b w (w.setCell ⟨b, j, none⟩ u) :=
  ⟨rfl, rfl, rfl, by simp [World.setCell], fun i _ hb _ => Below.heap_setCell w ⟨b, j, none⟩ u i (by exact hb)⟩
/-- A store into a block that was not there. -/
theorem keep_new {b c : Nat} {w w' : World} (h : Keep b w w') (hc : w.heap.size ≤ c) (j : Nat) (u : Value) : Keep b w (w'.setCell ⟨c, j, none⟩ u) :=
  ⟨h.os, h.tape, h.output, by simpa [World.setCell] using h.size, fun i hi hb hx => by
    rw [Below.heap_setCell w' ⟨c, j, none⟩ u i (by show i ≠ c; omega)]
    exact h.block i hi hb hx⟩
/-- An append onto a row that was not there. -/
theorem keep_grown {b : Nat} {w w1 w2 : World} {row : Option Nat} (h : Keep b w w1) (hg : w1.grownBy w2 row) (hr : ∀ k, row = some k → w.heap.size ≤ k) : Keep b w w2 :=
  ⟨hg.os.trans h.os, hg.tape.trans h.tape, hg.output.trans h.output, Nat.le_trans h.size hg.size, fun i hi hb hx => by
    rw [hg.block i (Nat.lt_of_lt_of_le hi h.size) (fun e => by have := hr i e.symm; omega)]
    exact h.block i hi hb hx⟩
theorem keep_low {b : Nat} {w w' : World} (h : Keep b w w') (hb : b ≤ w.heap.size) : Below b w w' :=
  ⟨h.os, h.tape, h.output, h.size, fun i hi => h.block i (by omega) (by omega) (.inl hi)⟩
theorem keep_obj {b c : Nat} {vs : Array Value} {t : TypeId} {w w' : World} (h : ObjAt c vs t w) (hk : Keep b w w') (hne : c ≠ b) (ht : t ≠ 5) : ObjAt c vs t w' := by
  have h0 := h
  unfold ObjAt at h ⊢
  rw [hk.block c (objAt_lt h0) hne (.inr fun c' f e => by rw [h] at e; simp only [Option.some.injEq, Obj.cells.injEq] at e; exact ht e.2.1)]
  exact h
/-- A row of another type is kept. -/
theorem keep_row {b B e sz n : Nat} {w w' : World} {x : Value} {xs : List Value} (h : w.ownsRow B e sz x n xs) (hk : Keep b w w') (hB : b < B) (ht : e ≠ 5) : w'.ownsRow B e sz x n xs := by
  refine ⟨h.1, ?_⟩
  rcases h.2 with h0 | ⟨g, cap, cur, hv, hbg, hg, r⟩
  · exact .inl h0
  · refine .inr ⟨g, cap, cur, hv, hbg, ?_, r⟩
    exact keep_obj (b := b) (c := g) hg hk (by omega) ht
theorem code_lt {b : Nat} {v : Int} {m : M} {w : World} (h : CodeAt b v m w) : b < w.heap.size := by
  obtain ⟨x, h, _⟩ := h
  exact objAt_lt h
theorem code_cells {b : Nat} {v : Int} {m : M} {w : World} (h : CodeAt b v m w) : w.cell? ⟨b, 0, none⟩ = some (.int .i64 v) ∧ w.cell? ⟨b, 1, none⟩ = some (.bool m.reading) ∧ w.cell? ⟨b, 3, none⟩ = some (.string m.rest) ∧ w.cell? ⟨b, 4, none⟩ = some (.int .i64 (m.e : Int)) := by
  obtain ⟨x, h, _⟩ := h
  exact ⟨objAt_cell h 0 rfl, objAt_cell h 1 rfl, objAt_cell h 3 rfl, objAt_cell h 4 rfl⟩
theorem code_free {b : Nat} {v : Int} {m : M} {w : World} (h : CodeAt b v m w) (j : Nat) : w.frozen? ⟨b, j, none⟩ = false := by
  obtain ⟨x, h, _⟩ := h
  exact objAt_free h j
theorem own_set_b {w : World} {b e sz n : Nat} {x : Value} {xs : List Value} (h : w.ownsRow (b + 1) e sz x n xs) (j : Nat) (u : Value) : (w.setCell ⟨b, j, none⟩ u).ownsRow (b + 1) e sz x n xs := by
  refine ⟨h.1, ?_⟩
  rcases h.2 with h0 | ⟨g, cap, cur, hv, hbg, hg, r⟩
  · exact .inl h0
  · refine .inr ⟨g, cap, cur, hv, hbg, ?_, r⟩
    rw [Below.heap_setCell w ⟨b, j, none⟩ u g (by show g ≠ b; omega)]
    exact hg
theorem code_rest {b : Nat} {v : Int} {m : M} {w : World} (h : CodeAt b v m w) (r : ByteArray) : CodeAt b v { m with rest := r } (w.setCell ⟨b, 3, none⟩ (.string r)) := by
  obtain ⟨x, h1, h2⟩ := h
  exact ⟨x, objAt_set h1 3 _, own_set_b h2 3 _⟩
theorem code_e {b : Nat} {v : Int} {m : M} {w : World} (h : CodeAt b v m w) (e : Nat) : CodeAt b v { m with e := e } (w.setCell ⟨b, 4, none⟩ (.int .i64 (e : Int))) := by
  obtain ⟨x, h1, h2⟩ := h
  exact ⟨x, objAt_set h1 4 _, own_set_b h2 4 _⟩
theorem code_next {b : Nat} {v : Int} {m : M} {w w' : World} (h : CodeAt b v m w) (hb : Below w.heap.size w w') : CodeAt b v m w' := by
  obtain ⟨x, h1, h2⟩ := h
  exact ⟨x, objAt_next h1 hb, own_below h2 hb⟩
theorem code_alloc {b : Nat} {v : Int} {m : M} {w : World} (h : CodeAt b v m w) (o : Obj) : CodeAt b v m (w.alloc o) := code_next h (below_one w o)
theorem code_drew {b : Nat} {v : Int} {m : M} {w : World} (h : CodeAt b v m w) : CodeAt b v m w.drew := h
/-- A store into another block, of another type. -/
theorem code_set {b c : Nat} {v : Int} {m : M} {w : World} {vs : Array Value} {t : TypeId} (h : CodeAt b v m w) (hc : ObjAt c vs t w) (hne : c ≠ b) (ht : t ≠ 5) (j : Nat) (u : Value) : CodeAt b v m (w.setCell ⟨c, j, none⟩ u) := by
  obtain ⟨x, h1, h2⟩ := h
  refine ⟨x, objAt_other h1 (fun e => hne e.symm) j u, h2.1, ?_⟩
  rcases h2.2 with h0 | ⟨g, cap, cur, hv, hbg, hg, r⟩
  · exact .inl h0
  · refine .inr ⟨g, cap, cur, hv, hbg, ?_, r⟩
    rw [Below.heap_setCell w ⟨c, j, none⟩ u g (by
      show g ≠ c
      intro e
      subst e
      unfold ObjAt at hc
      rw [hc] at hg
      simp only [Option.some.injEq, Obj.cells.injEq] at hg
      exact ht hg.2.1)]
    exact hg
/-- An append onto a row of another type. -/
theorem code_grown {b B e sz n : Nat} {v : Int} {m : M} {w w' : World} {y : Value} {ys : List Value} (h : CodeAt b v m w) (ho : w.ownsRow B e sz y n ys) (hg : w.grownBy w' y.ownBlock) (hB : b < B) (ht : e ≠ 5) : CodeAt b v m w' := by
  obtain ⟨x, h1, h2⟩ := h
  have hb := objAt_lt h1
  refine ⟨x, ?_, h2.1, ?_⟩
  · unfold ObjAt at h1 ⊢
    rw [hg.block b hb (fun e => by
      rcases ho.2 with ⟨rfl, _⟩ | ⟨g, cap, cur, rfl, hbg, _⟩
      · simp [Value.ownBlock] at e
      · simp only [Value.ownBlock, Option.some.injEq] at e; omega)]
    exact h1
  · rcases h2.2 with h0 | ⟨g, cap, cur, hv, hbg, hgc, r⟩
    · exact .inl h0
    · refine .inr ⟨g, cap, cur, hv, hbg, ?_, r⟩
      rw [hg.block g (Array.getElem?_eq_some_iff.1 hgc).1 (fun e => by
        rcases ho.2 with ⟨rfl, _⟩ | ⟨g', cap', cur', rfl, hbg', hgc', _⟩
        · simp [Value.ownBlock] at e
        · simp only [Value.ownBlock, Option.some.injEq] at e
          subst e
          rw [hgc'] at hgc
          simp only [Option.some.injEq, Obj.cells.injEq] at hgc
          exact ht hgc.2.1)]
      exact hgc
end Go.Proofs.YtdbopgmckndmeaaDoor
