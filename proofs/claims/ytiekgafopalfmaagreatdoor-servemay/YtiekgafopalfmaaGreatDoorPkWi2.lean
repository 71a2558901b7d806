import Derived.Test.YtiekgafopalfmaaGreatDoorPkWi1
import Derived.Test.YtiekgafopalfmaaGreatDoorPkNum
import Derived.Test.YtiekgafopalfmaaGreatDoorPkSt1
import Derived.Lib.AppendStr
import Derived.Deep.RegionLaw
import Derived.Test.YtiekgafopalfmaaGreatDoorPkTxt
import Derived.Test.YtiekgafopalfmaaGreatDoorPkSt2
/- The coder of package wire in memory: its cells, what it wrote, and what of the memory a call of it leaves as it was. -/
namespace Go.Proofs.YtiekgafopalfmaaGreatDoor
open Go.RowKit Go.Lib

/-- A block that is known whole. -/
def ObjAt (b : Nat) (vs : Array Value) (t : TypeId) (w : World) : Prop := w.heap[b]? = some (.cells vs t (0, 0))
theorem objAt_new (w : World) (vs : Array Value) (t : TypeId) : ObjAt w.heap.size vs t (w.alloc (.cells vs t)) := heap_alloc_new w _
theorem objAt_lt {b : Nat} {vs : Array Value} {t : TypeId} {w : World} (h : ObjAt b vs t w) : b < w.heap.size := (Array.getElem?_eq_some_iff.1 h).1
theorem objAt_cell {b : Nat} {vs : Array Value} {t : TypeId} {w : World} (h : ObjAt b vs t w) (j : Nat) {v : Value} (hj : vs[j]? = some v) : w.cell? ⟨b, j, none⟩ = some v := by
  unfold World.cell?
  rw [show w.heap[(⟨b, j, none⟩ : Addr).block]? = some (.cells vs t (0, 0)) from h]
  exact hj
theorem objAt_free {b : Nat} {vs : Array Value} {t : TypeId} {w : World} (h : ObjAt b vs t w) (j : Nat) : w.frozen? ⟨b, j, none⟩ = false := by
  unfold World.frozen?
  rw [show w.heap[(⟨b, j, none⟩ : Addr).block]? = some (.cells vs t (0, 0)) from h]
  simp
theorem objAt_set {b : Nat} {vs : Array Value} {t : TypeId} {w : World} (h : ObjAt b vs t w) (j : Nat) (u : Value) : ObjAt b (vs.setIfInBounds j u) t (w.setCell ⟨b, j, none⟩ u) := by
  unfold ObjAt World.setCell
  simp only [Array.getElem?_modify, if_true]
  rw [show w.heap[b]? = some (.cells vs t (0, 0)) from h]
  rfl
theorem objAt_other {b c : Nat} {vs : Array Value} {t : TypeId} {w : World} (h : ObjAt b vs t w) (hne : b ≠ c) (j : Nat) (u : Value) : ObjAt b vs t (w.setCell ⟨c, j, none⟩ u) := by
  unfold ObjAt at h ⊢
  rw [Below.heap_setCell w ⟨c, j, none⟩ u b (by exact hne)]
  exact h
theorem objAt_next {b : Nat} {vs : Array Value} {t : TypeId} {w w' : World} (h : ObjAt b vs t w) (hb : Below w.heap.size w w') : ObjAt b vs t w' := by
  unfold ObjAt at h ⊢
  rw [hb.block b (objAt_lt h)]
  exact h
theorem objAt_drew {b : Nat} {vs : Array Value} {t : TypeId} {w : World} (h : ObjAt b vs t w) : ObjAt b vs t w.drew := h
/-- The coder. -/
def CodeAt (b : Nat) (v : Int) (m : M) (w : World) : Prop :=
  ∃ p x, ObjAt b #[.int .i64 v, .bool m.reading, p, x, .string m.rest, .int .i64 (m.e : Int)] 269 w ∧ w.ownsRow (b + 1) 5 1 x m.gs.length (byteCells m.gs) ∧ (p = .pointer none ∨ p = .pointer (some ⟨b, 2, none⟩))
/-- All but the coder and what it wrote is as it was. -/
structure Keep (b : Nat) (w w' : World) : Prop where
  os : w'.os = w.os
  tape : w'.tape = w.tape
  output : w'.output = w.output
  size : w.heap.size ≤ w'.heap.size
  block : ∀ i, i < w.heap.size → i ≠ b → (i < b ∨ ∀ c f, w.heap[i]? ≠ some (.cells c 5 f)) → w'.heap[i]? = w.heap[i]?
theorem keep_refl (b : Nat) (w : World) : Keep b w w := ⟨rfl, rfl, rfl, Nat.le_refl _, fun _ _ _ _ => rfl⟩
theorem keep_trans {b : Nat} {w w1 w2 : World} (h : Keep b w w1) (k : Keep b w1 w2) : Keep b w w2 :=
  ⟨k.os.trans h.os, k.tape.trans h.tape, k.output.trans h.output, Nat.le_trans h.size k.size, fun i hi hb hc => by
    have e := h.block i hi hb hc
    rw [k.block i (Nat.lt_of_lt_of_le hi h.size) hb (by rw [e]; exact hc), e]⟩
theorem keep_below {b : Nat} {w w' : World} (h : Below w.heap.size w w') : Keep b w w' := ⟨h.os, h.tape, h.output, h.size, fun i hi _ _ => h.block i hi⟩
theorem keep_drew (b : Nat) (w : World) : Keep b w w.drew := ⟨rfl, rfl, rfl, Nat.le_refl _, fun _ _ _ _ => rfl⟩
theorem keep_alloc (b : Nat) (w : World) (o : Obj) : Keep b w (w.alloc o) := keep_below (below_one w o)
theorem keep_own {b n : Nat} {w w' : World} {x : Value} {xs : List Value} (h : w.ownsRow (b + 1) 5 1 x n xs) (hg : w.grownBy w' x.ownBlock) : Keep b w w' :=
  ⟨hg.os, hg.tape, hg.output, hg.size, fun i hi hb hc => hg.block i hi (fun e => by
    rcases h.2 with ⟨rfl, _⟩ | ⟨g, cap, cur, rfl, hbg, hgc, _⟩
    · simp [Value.ownBlock] at e
    · simp only [Value.ownBlock, Option.some.injEq] at e
      subst e
      rcases hc with hc | hc
      · omega
      · exact hc _ _ hgc)⟩
theorem keep_set (b : Nat) (w : World) (j : Nat) (u : Value) : Keep b w (w.setCell ⟨b, j, none⟩ u) :=
  ⟨rfl, rfl, rfl, by simp [World.setCell], fun i _ hb _ => Below.heap_setCell w ⟨b, j, none⟩ u i (by exact hb)⟩
/-- A store into a block that was not there. -/
theorem keep_new {b c : Nat} {w w' : World} (h : Keep b w w') (hc : w.heap.size ≤ c) (j : Nat) (u : Value) : Keep b w (w'.setCell ⟨c, j, none⟩ u) :=
  ⟨h.os, h.tape, h.output, by simpa [World.setCell] using h.size, fun i hi hb hx => by
    rw [Below.heap_setCell w' ⟨c, j, none⟩ u i (by show i ≠ c; omega)]
    exact h.block i hi hb hx⟩
/-- An append onto a row that was not there. -/
theorem keep_grown {b : Nat} {w w1 w2 : World} {row : Option Nat} (h : Keep b w w1) (hg : w1.grownBy w2 row) (hr : ∀ k, row = some k → w.heap.size ≤ k) : Keep b w w2 :=
  ⟨hg.os.trans h.os, hg.tape.trans h.tape, hg.output.trans h.output, Nat.le_trans h.size hg.size, fun i hi hb hx => by
    rw [hg.block i (Nat.lt_of_lt_of_le hi h.size) (fun e => by have := hr i e.symm; omega)]
    exact h.block i hi hb hx⟩
theorem keep_low {b : Nat} {w w' : World} (h : Keep b w w') (hb : b ≤ w.heap.size) : Below b w w' :=
  ⟨h.os, h.tape, h.output, h.size, fun i hi => h.block i (by omega) (by omega) (.inl hi)⟩
theorem keep_obj {b c : Nat} {vs : Array Value} {t : TypeId} {w w' : World} (h : ObjAt c vs t w) (hk : Keep b w w') (hne : c ≠ b) (ht : t ≠ 5) : ObjAt c vs t w' := by
  have h0 := h
  unfold ObjAt at h ⊢
  rw [hk.block c (objAt_lt h0) hne (.inr fun c' f e => by rw [h] at e; simp only [Option.some.injEq, Obj.cells.injEq] at e; exact ht e.2.1)]
  exact h
/-- A row of another type is kept. -/
theorem keep_row {b B e sz n : Nat} {w w' : World} {x : Value} {xs : List Value} (h : w.ownsRow B e sz x n xs) (hk : Keep b w w') (hB : b < B) (ht : e ≠ 5) : w'.ownsRow B e sz x n xs := by
  refine ⟨h.1, ?_⟩
  rcases h.2 with h0 | ⟨g, cap, cur, hv, hbg, hg, r⟩
  · exact .inl h0
  · refine .inr ⟨g, cap, cur, hv, hbg, ?_, r⟩
    exact keep_obj (b := b) (c := g) hg hk (by omega) ht
theorem code_lt {b : Nat} {v : Int} {m : M} {w : World} (h : CodeAt b v m w) : b < w.heap.size := by
  obtain ⟨p, x, h, _⟩ := h
  exact objAt_lt h
theorem code_cells {b : Nat} {v : Int} {m : M} {w : World} (h : CodeAt b v m w) : w.cell? ⟨b, 0, none⟩ = some (.int .i64 v) ∧ w.cell? ⟨b, 1, none⟩ = some (.bool m.reading) ∧ w.cell? ⟨b, 4, none⟩ = some (.string m.rest) ∧ w.cell? ⟨b, 5, none⟩ = some (.int .i64 (m.e : Int)) := by
  obtain ⟨p, x, h, _⟩ := h
  exact ⟨objAt_cell h 0 rfl, objAt_cell h 1 rfl, objAt_cell h 4 rfl, objAt_cell h 5 rfl⟩
theorem code_free {b : Nat} {v : Int} {m : M} {w : World} (h : CodeAt b v m w) (j : Nat) : w.frozen? ⟨b, j, none⟩ = false := by
  obtain ⟨p, x, h, _⟩ := h
  exact objAt_free h j
theorem own_set_b {w : World} {b e sz n : Nat} {x : Value} {xs : List Value} (h : w.ownsRow (b + 1) e sz x n xs) (j : Nat) (u : Value) : (w.setCell ⟨b, j, none⟩ u).ownsRow (b + 1) e sz x n xs := by
  refine ⟨h.1, ?_⟩
  rcases h.2 with h0 | ⟨g, cap, cur, hv, hbg, hg, r⟩
  · exact .inl h0
  · refine .inr ⟨g, cap, cur, hv, hbg, ?_, r⟩
    rw [Below.heap_setCell w ⟨b, j, none⟩ u g (by show g ≠ b; omega)]
    exact hg
theorem code_rest {b : Nat} {v : Int} {m : M} {w : World} (h : CodeAt b v m w) (r : ByteArray) : CodeAt b v { m with rest := r } (w.setCell ⟨b, 4, none⟩ (.string r)) := by
  obtain ⟨p, x, h1, h2, h3⟩ := h
  exact ⟨p, x, objAt_set h1 4 _, own_set_b h2 4 _, h3⟩
theorem code_e {b : Nat} {v : Int} {m : M} {w : World} (h : CodeAt b v m w) (e : Nat) : CodeAt b v { m with e := e } (w.setCell ⟨b, 5, none⟩ (.int .i64 (e : Int))) := by
  obtain ⟨p, x, h1, h2, h3⟩ := h
  exact ⟨p, x, objAt_set h1 5 _, own_set_b h2 5 _, h3⟩
theorem code_next {b : Nat} {v : Int} {m : M} {w w' : World} (h : CodeAt b v m w) (hb : Below w.heap.size w w') : CodeAt b v m w' := by
  obtain ⟨p, x, h1, h2, h3⟩ := h
  exact ⟨p, x, objAt_next h1 hb, own_below h2 hb, h3⟩
theorem code_alloc {b : Nat} {v : Int} {m : M} {w : World} (h : CodeAt b v m w) (o : Obj) : CodeAt b v m (w.alloc o) := code_next h (below_one w o)
theorem code_drew {b : Nat} {v : Int} {m : M} {w : World} (h : CodeAt b v m w) : CodeAt b v m w.drew := h
/-- A store into another block, of another type. -/
theorem code_set {b c : Nat} {v : Int} {m : M} {w : World} {vs : Array Value} {t : TypeId} (h : CodeAt b v m w) (hc : ObjAt c vs t w) (hne : c ≠ b) (ht : t ≠ 5) (j : Nat) (u : Value) : CodeAt b v m (w.setCell ⟨c, j, none⟩ u) := by
  obtain ⟨p, x, h1, h2, h3⟩ := h
  refine ⟨p, x, objAt_other h1 (fun e => hne e.symm) j u, ⟨h2.1, ?_⟩, h3⟩
  rcases h2.2 with h0 | ⟨g, cap, cur, hv, hbg, hg, r⟩
  · exact .inl h0
  · refine .inr ⟨g, cap, cur, hv, hbg, ?_, r⟩
    rw [Below.heap_setCell w ⟨c, j, none⟩ u g (by
      show g ≠ c
      intro e
      subst e
      unfold ObjAt at hc
      rw [hc] at hg
      simp only [Option.some.injEq, Obj.cells.injEq] at hg
      exact ht hg.2.1)]
    exact hg
/-- An append onto a row of another type. -/
theorem code_grown {b B e sz n : Nat} {v : Int} {m : M} {w w' : World} {y : Value} {ys : List Value} (h : CodeAt b v m w) (ho : w.ownsRow B e sz y n ys) (hg : w.grownBy w' y.ownBlock) (hB : b < B) (ht : e ≠ 5) : CodeAt b v m w' := by
  obtain ⟨p, x, h1, h2, h3⟩ := h
  have hb := objAt_lt h1
  refine ⟨p, x, ?_, ⟨h2.1, ?_⟩, h3⟩
  · unfold ObjAt at h1 ⊢
    rw [hg.block b hb (fun e => by
      rcases ho.2 with ⟨rfl, _⟩ | ⟨g, cap, cur, rfl, hbg, _⟩
      · simp [Value.ownBlock] at e
      · simp only [Value.ownBlock, Option.some.injEq] at e; omega)]
    exact h1
  · rcases h2.2 with h0 | ⟨g, cap, cur, hv, hbg, hgc, r⟩
    · exact .inl h0
    · refine .inr ⟨g, cap, cur, hv, hbg, ?_, r⟩
      rw [hg.block g (Array.getElem?_eq_some_iff.1 hgc).1 (fun e => by
        rcases ho.2 with ⟨rfl, _⟩ | ⟨g', cap', cur', rfl, hbg', hgc', _⟩
        · simp [Value.ownBlock] at e
        · simp only [Value.ownBlock, Option.some.injEq] at e
          subst e
          rw [hgc'] at hgc
          simp only [Option.some.injEq, Obj.cells.injEq] at hgc
          exact ht hgc.2.1)]
      exact hgc
end Go.Proofs.YtiekgafopalfmaaGreatDoor

/- The coder of package wire: its errors, its way through the bytes, numbers. -/
namespace Go.Proofs.YtiekgafopalfmaaGreatDoor
open Go.RowKit Go.Lib

theorem ownRow_slice {w : World} {base e sz n : Nat} {v : Value} {xs : List Value} (h : w.ownsRow base e sz v n xs) : ∃ ad cap, v = .slice ad n cap := by
  rcases h.2 with ⟨rfl, rfl⟩ | ⟨g, cap, cur, rfl, _⟩
  · exact ⟨_, _, rfl⟩
  · exact ⟨_, _, rfl⟩
theorem wp_appS {w : World} {o : Oper} {a : Act} {K : Act → World → Prop} {Q : Exit → Act → World → Prop} (sl x : Operand) (t u : TypeId)
    (ho : o.op = .call { callee := .builtin .append, args := #[sl, x], argTypes := #[t, u] })
    (base : Nat) (e : TypeId) (i : TypeInfo) (ht : Tryz.prog.underlying t = some (.slice e)) (hu : Tryz.prog.underlying u = some .string) (hi : Tryz.prog.info? e = some i) (hz : i.zero = some (.int .u8 0))
    (hsize : i.size = 1) (hby : i.bytes = 1)
    (v : Value) (n : Nat) (xs : List Value) (hs : a.eval sl = v) (hown : w.ownsRow base e 1 v n xs) (s : ByteArray) (hx : a.eval x = .string s)
    (hbytes : n + s.size ≤ 140737488355328) (hbase : base ≤ w.heap.size)
    (h : ∀ v' w', w'.ownsRow base e 1 v' (n + s.size) (xs ++ strCells s) → w.grownBy w' v.ownBlock → K (a.put o.dst v') w') : Oper.wp Tryz.prog o a w K Q := by
  obtain ⟨v', w', hr, h2, h3, _⟩ := run_append_own_string (P := Tryz.prog) w base t u o.type e i ht hu hi hz hsize hby v n xs hown s (by unfold maxLen; omega) hbytes hbase
  unfold Oper.wp
  simp only [execOp, ho, resolve, invoke, builtin, Sem.run_bind, Sem.run_pure, Result.andThen_ok, List.map_toArray, List.map_cons, List.map_nil, hs, hx, hr]
  exact h v' w' h2 h3
theorem step_appS {w : World} {ops : Array Oper} {o : Oper} {a : Act} {K : Act → World → Prop} {Q : Exit → Act → World → Prop} {E : Prop} (hgd : o.guard = none) (sl x : Operand) (t u : TypeId)
    (ho : o.op = .call { callee := .builtin .append, args := #[sl, x], argTypes := #[t, u] })
    (base : Nat) (e : TypeId) (i : TypeInfo) (ht : Tryz.prog.underlying t = some (.slice e)) (hu : Tryz.prog.underlying u = some .string) (hi : Tryz.prog.info? e = some i) (hz : i.zero = some (.int .u8 0))
    (hsize : i.size = 1) (hby : i.bytes = 1)
    (v : Value) (n : Nat) (xs : List Value) (hs : a.eval sl = v) (hown : w.ownsRow base e 1 v n xs) (s : ByteArray) (hx : a.eval x = .string s)
    (hbytes : n + s.size ≤ 140737488355328) (hbase : base ≤ w.heap.size)
    (h : ∀ v' w', w'.ownsRow base e 1 v' (n + s.size) (xs ++ strCells s) → w.grownBy w' v.ownBlock → K (a.put o.dst v') w') :
    if Region.wanted o (yielded ops a.tmps) = true then Oper.wp Tryz.prog o a w K Q else E := by
  have hw : Region.wanted o (yielded ops a.tmps) = true := by simp [Region.wanted, hgd]
  rw [if_pos hw]
  exact wp_appS sl x t u ho base e i ht hu hi hz hsize hby v n xs hs hown s hx hbytes hbase h
theorem strCells_bytes (s : ByteArray) : strCells s = byteCells s.data.toList := rfl
theorem code_size {b : Nat} {v : Int} {m : M} {w : World} (h : CodeAt b v m w) : b + 1 ≤ w.heap.size := code_lt h
/-- What lies behind an append to what was written, and behind its store. -/
theorem code_app {b n : Nat} {w w' : World} {x : Value} {vs : Array Value} {t : TypeId} {xs : List Value} (h1 : ObjAt b vs t w) (h2 : w.ownsRow (b + 1) 5 1 x n xs) (hg : w.grownBy w' x.ownBlock) : ObjAt b vs t w' := by
  have hb := objAt_lt h1
  unfold ObjAt at h1 ⊢
  rw [hg.block b hb (fun e => by
    rcases h2.2 with ⟨rfl, _⟩ | ⟨g, cap, cur, rfl, hbg, _⟩
    · simp [Value.ownBlock] at e
    · simp only [Value.ownBlock, Option.some.injEq] at e; omega)]
  exact h1
/-! ### what was written: a strings.Builder within the coder -/
theorem bd_size : (Tryz.prog.info? 267).map (·.size) = some 2 := by kernel_rfl
theorem bd_lies : liesAt Tryz.prog Tryz.prog.depth 269 (6 / Tryz.prog.cellsOf 269) 2 267 1 = true := by kernel_rfl
theorem objAt_shape {b : Nat} {vs : Array Value} {t : TypeId} {w : World} (h : ObjAt b vs t w) : w.shape? b = some (t, vs.size) := by
  unfold ObjAt at h
  simp [World.shape?, h]
theorem keep_freeze {b g : Nat} {w : World} {cur : Array Value} (hg : w.heap[g]? = some (.cells cur 5 (0, 0))) (hb : b + 1 ≤ g) (n : Nat) : Keep b w (w.drew.freeze ⟨g, 0, none⟩ n) := by
  unfold World.freeze
  split
  · exact keep_drew b w
  · refine ⟨rfl, rfl, rfl, by show w.heap.size ≤ (Array.modify w.drew.heap _ _).size; rw [Array.size_modify]; exact Nat.le_refl _, fun i hi hi2 hc => ?_⟩
    have hne : g ≠ i := by
      intro e
      subst e
      rcases hc with hc | hc
      · omega
      · exact hc _ _ hg
    simp only [Array.getElem?_modify]
    rw [if_neg (by exact hne)]
    rfl
/-- The coder whose builder is in use. -/
def UsedAt (b : Nat) (v : Int) (m : M) (x : Value) (w : World) : Prop :=
  ObjAt b #[.int .i64 v, .bool m.reading, .pointer (some ⟨b, 2, none⟩), x, .string m.rest, .int .i64 (m.e : Int)] 269 w ∧ w.ownsRow (b + 1) 5 1 x m.gs.length (byteCells m.gs)
theorem code_put {b : Nat} {v : Int} {m : M} {w : World} {x y : Value} (gs : List UInt8) {n : Nat} {xs : List Value} (h1 : ObjAt b #[.int .i64 v, .bool m.reading, .pointer (some ⟨b, 2, none⟩), x, .string m.rest, .int .i64 (m.e : Int)] 269 w)
    (h2 : w.ownsRow (b + 1) 5 1 y n xs) (hn : n = gs.length) (hx : xs = byteCells gs) : CodeAt b v { m with gs := gs } (w.setCell ⟨b, 3, none⟩ y) := by
  subst hn hx
  exact ⟨_, y, objAt_set h1 3 y, own_set_b h2 3 y, .inr rfl⟩

theorem ext_all (s : ByteArray) : s.extract s.size s.size = ⟨#[]⟩ := by
  rw [drop_bytes, List.drop_of_length_le (by rw [size_l]; exact Nat.le_refl _)]
theorem rd_size (s : ByteArray) : (rd s.data.toList).2.1 ≤ s.size := by
  by_cases h : (rd s.data.toList).2.2 = 0
  · have := (rd_ok h).2.2.1
    rwa [size_l] at this
  · rw [(rd_err h).2]; omega
theorem lim_le {most n : Nat} (h : n ≤ most) (m : M) : (limS most n m).1 ≤ most := by
  unfold limS
  split
  · split
    · exact Nat.zero_le _
    · simp only; omega
  · exact h
/-- What end answers: the first error; bytes that remain are one, too. -/
def endE (m : M) : Nat := if m.rest.size ≠ 0 then (if m.e = 0 then 4 else m.e) else m.e
end Go.Proofs.YtiekgafopalfmaaGreatDoor

/- The coder of package wire: strings; how far a step leads. -/
namespace Go.Proofs.YtiekgafopalfmaaGreatDoor
open Go.RowKit Go.Lib

theorem rdT_size (s : ByteArray) : (rdT s).2.1 ≤ s.size := by
  unfold rdT
  split
  · simp
  · split
    · simp
    · split
      · simp
      · split
        · simp only; omega
        · simp
theorem txt_note {s : ByteArray} (h : isNote V8 s = true) : txt s = (numS s.size ++ s, 0) := by
  simp only [isNote, Bool.and_eq_true, decide_eq_true_eq] at h
  have hv : validD s.data.toList = true := h.2
  unfold txt
  rw [if_neg (by omega), if_pos hv]
theorem note_size {s : ByteArray} (h : isNote V8 s = true) : s.size ≤ 16 := by
  simp only [isNote, Bool.and_eq_true, decide_eq_true_eq] at h
  exact h.1
/-! ### how far a step leads -/
/-- It writes at most K bytes, and goes on reading, or not, as before. -/
def Lim {α : Type} (K : Nat) (f : St α) : Prop := ∀ m, (f m).2.gs.length ≤ m.gs.length + K ∧ (f m).2.rest.size ≤ m.rest.size ∧ (f m).2.reading = m.reading
theorem lim_pure {α : Type} (a : α) : Lim 0 (pureS a) := fun _ => ⟨Nat.le_refl _, Nat.le_refl _, rfl⟩
theorem lim_bind {α β : Type} {f : St α} {g : α → St β} {K K' : Nat} (hf : Lim K f) (hg : ∀ a, Lim K' (g a)) : Lim (K + K') (bindS f g) := by
  intro m
  have h1 := hf m
  have h2 := hg (f m).1 (f m).2
  unfold bindS
  exact ⟨by omega, by omega, by rw [h2.2.2, h1.2.2]⟩
theorem lim_mono {α : Type} {f : St α} {K K' : Nat} (h : Lim K f) (hk : K ≤ K') : Lim K' f := fun m => ⟨Nat.le_trans (h m).1 (by omega), (h m).2⟩
theorem adv_lim (m : M) (k e : Nat) : (m.adv k e).gs = m.gs ∧ (m.adv k e).rest.size ≤ m.rest.size ∧ (m.adv k e).reading = m.reading := by
  unfold M.adv
  split
  · exact ⟨rfl, by show (m.rest.extract k m.rest.size).size ≤ _; rw [ByteArray.size_extract]; omega, rfl⟩
  · exact ⟨rfl, Nat.zero_le _, rfl⟩
theorem lim_lim {most n : Nat} (h : n < 18446744073709551616) : Lim 10 (limS most n) := by
  intro m
  unfold limS
  split
  · split
    · have := adv_lim m (rd m.rest.data.toList).2.1 2
      exact ⟨by simp only; rw [this.1]; omega, this.2⟩
    · have := adv_lim m (rd m.rest.data.toList).2.1 (rd m.rest.data.toList).2.2
      exact ⟨by simp only; rw [this.1]; omega, this.2⟩
  · exact ⟨by simp only [List.length_append]; have := num_len10 h; omega, Nat.le_refl _, rfl⟩
theorem lim_txt {s : ByteArray} (h : isNote V8 s = true) : Lim 17 (txtS s) := by
  intro m
  unfold txtS
  split
  · have := adv_lim m (rdT m.rest).2.1 (rdT m.rest).2.2
    exact ⟨by simp only; rw [this.1]; omega, this.2⟩
  · exact ⟨by simp only [List.length_append]; have := text_len h; omega, Nat.le_refl _, rfl⟩
theorem lim_numb {n : Int} (h : n ≤ 4611686018427387904) : Lim 10 (numbS n) := lim_bind (K' := 0) (lim_lim (by omega)) (fun _ => lim_pure _)
theorem lim_sgn {n : Int} (h : zig n ≤ 4611686018427387904) : Lim 10 (sgnS n) := lim_bind (K' := 0) (lim_lim (by omega)) (fun _ => lim_pure _)
theorem lim_if {α : Type} {f : St α} {K : Nat} (c : Bool) (a : α) (h : c = true → Lim K f) : Lim K (if c then f else pureS a) := by
  cases c with
  | true => exact h rfl
  | false => exact lim_mono (lim_pure a) (Nat.zero_le _)
theorem lim_job {v : Int} {j : JobD} (h : okJob V8 v j) : Lim 64 (jobS v j) := by
  obtain ⟨h1, h2, h3, h4, h5⟩ := h
  exact lim_bind (K' := 47) (lim_txt h1) fun _ => lim_bind (K' := 37) (lim_sgn h2) fun _ => lim_bind (K' := 27) (lim_numb h3.2) fun _ => lim_bind (K' := 17) (lim_if _ _ (fun hv => by rw [if_pos hv] at h4; exact lim_numb h4.2)) fun _ => lim_bind (K' := 0) (lim_if _ _ (fun hv => by rw [if_pos hv] at h5; exact lim_txt h5)) fun _ => lim_pure _
theorem lim_node {v : Int} {j : NodeD} (h : okNode V8 v j) : Lim 64 (nodeS v j) := by
  obtain ⟨h1, h2, h3⟩ := h
  exact lim_mono (lim_bind (K' := 27) (lim_txt h1) fun _ => lim_bind (K' := 17) (lim_numb h2.2) fun _ => lim_bind (K' := 0) (lim_if _ _ (fun hv => by rw [if_pos hv] at h3; exact lim_txt h3)) fun _ => lim_pure _) (by omega)
theorem lim_lease {j : LeaseD} (h : okLease V8 j) : Lim 64 (leaseS j) := by
  obtain ⟨h1, h2, h3⟩ := h
  exact lim_mono (lim_bind (K' := 27) (lim_txt h1) fun _ => lim_bind (K' := 10) (lim_txt h2) fun _ => lim_bind (K' := 0) (lim_numb h3.2) fun _ => lim_pure _) (by omega)
theorem lim_go {α : Type} {f : α → St α} {K : Nat} : ∀ (l : List α), (∀ x ∈ l, Lim K (f x)) → Lim (K * l.length) (goS f l)
  | [], _ => lim_pure _
  | x :: l, h => by
    have h1 := lim_bind (K' := K * l.length + 0) (h x (by simp)) fun y => lim_bind (lim_go l (fun z hz => h z (by simp [hz]))) fun ys => lim_pure (y :: ys)
    refine lim_mono h1 ?_
    rw [List.length_cons, Nat.mul_add]
    omega
theorem v_empty : isNote V8 ⟨#[]⟩ = true := rfl
theorem ok_zJob (v : Int) : okJob V8 v zJob := by
  refine ⟨v_empty, by decide, by decide, ?_, ?_⟩
  · split
    · decide
    · rfl
  · split
    · exact v_empty
    · rfl
theorem ok_zNode (v : Int) : okNode V8 v zNode := by
  refine ⟨v_empty, by decide, ?_⟩
  split
  · exact v_empty
  · rfl
theorem ok_zLease : okLease V8 zLease := ⟨v_empty, v_empty, by decide⟩
end Go.Proofs.YtiekgafopalfmaaGreatDoor
