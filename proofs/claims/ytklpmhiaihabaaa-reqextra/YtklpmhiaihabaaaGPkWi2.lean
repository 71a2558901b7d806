import Derived.Test.YtklpmhiaihabaaaGPkWi1
import Derived.Test.YtklpmhiaihabaaaGPkNum
import Derived.Test.YtklpmhiaihabaaaGPkSt1
import Derived.Lib.AppendStr
import Derived.Deep.RegionLaw
import Derived.Test.YtklpmhiaihabaaaGPkTxt
import Derived.Test.YtklpmhiaihabaaaGPkSt2
/- The coder of package wire in memory: its cells, what it wrote, and what of the memory a call of it leaves as it was. -/
namespace Go.Proofs.Ytklpmhiaihabaaa
open Go.RowKit Go.Lib

/-- A block that is known whole. -/
def ObjAt (b : Nat) (vs : Array Value) (t : TypeId) (w : World) : Prop := w.heap[b]? = some (.cells vs t (0, 0))
theorem objAt_new (w : World) (vs : Array Value) (t : TypeId) : ObjAt w.heap.size vs t (w.alloc (.cells vs t)) := heap_alloc_new w _
theorem objAt_lt {b : Nat} {vs : Array Value} {t : TypeId} {w : World} (h : ObjAt b vs t w) : b < w.heap.size := (Array.getElem?_eq_some_iff.1 h).1
theorem objAt_cell {b : Nat} {vs : Array Value} {t : TypeId} {w : World} (h : ObjAt b vs t w) (j : Nat) {v : Value} (hj : vs[j]? = some v) : w.cell? ⟨b, j, none⟩ = some v := by
  unfold World.cell?
  rw [show w.heap[(⟨b, j, none⟩ : Addr).block]? = some (.cells vs t (0, 0)) from h]
  exact hj
theorem objAt_free {b : Nat} {vs : Array Value} {t : TypeId} {w : World} (h : ObjAt b vs t w) (j : Nat) : w.frozen? ⟨b, j, none⟩ = false := by
  unfold World.frozen?
  rw [show w.heap[(⟨b, j, none⟩ : Addr).block]? = some (.cells vs t (0, 0)) from h]
  simp
theorem objAt_set {b : Nat} {vs : Array Value} {t : TypeId} {w : World} (h : ObjAt b vs t w) (j : Nat) (u : Value) : ObjAt b (vs.setIfInBounds j u) t (w.setCell ⟨b, j, none⟩ u) := by
  unfold ObjAt World.setCell
  simp only [Array.getElem?_modify, if_true]
  rw [show w.heap[b]? = some (.cells vs t (0, 0)) from h]
  rfl
theorem objAt_other {b c : Nat} {vs : Array Value} {t : TypeId} {w : World} (h : ObjAt b vs t w) (hne : b ≠ c) (j : Nat) (u : Value) : ObjAt b vs t (w.setCell ⟨c, j, none⟩ u) := by
  unfold ObjAt at h ⊢
  rw [Below.heap_setCell w ⟨c, j, none⟩ u b (by exact hne)]
  exact h
theorem objAt_next {b : Nat} {vs : Array Value} {t : TypeId} {w w' : World} (h : ObjAt b vs t w) (hb : Below w.heap.size w w') : ObjAt b vs t w' := by
  unfold ObjAt at h ⊢
  rw [hb.block b (objAt_lt h)]
  exact h
theorem objAt_drew {b : Nat} {vs : Array Value} {t : TypeId} {w : World} (h : ObjAt b vs t w) : ObjAt b vs t w.drew := h
/-- The coder. -/
def CodeAt (b : Nat) (v : Int) (m : M) (w : World) : Prop :=
  ∃ p x, ObjAt b #[.int .i64 v, .bool m.reading, p, x, .string m.rest, .int .i64 (m.e : Int)] 95 w ∧ w.ownsRow (b + 1) 5 1 x m.gs.length (byteCells m.gs) ∧ (p = .pointer none ∨ p = .pointer (some ⟨b, 2, none⟩))
/-- All but the coder and what it wrote is as it was. -/
structure Keep (b : Nat) (w w' : World) : Prop where
  os : w'.os = w.os
  tape : w'.tape = w.tape
  output : w'.output = w.output
  size : w.heap.size ≤ w'.heap.size
  block : ∀ i, i < w.heap.size → i ≠ b → (i < b ∨ ∀ c f, w.heap[i]? ≠ some (.cells c 5 f)) → w'.heap[i]? = w.heap[i]?
theorem keep_refl (b : Nat) (w : World) : Keep b w w := ⟨rfl, rfl, rfl, Nat.le_refl _, fun _ _ _ _ => rfl⟩
theorem keep_trans {b : Nat} {w w1 w2 : World} (h : Keep b w w1) (k : Keep b w1 w2) : Keep b w w2 :=
  ⟨k.os.trans h.os, k.tape.trans h.tape, k.output.trans h.output, Nat.le_trans h.size k.size, fun i hi hb hc => by
    have e := h.block i hi hb hc
    rw [k.block i (Nat.lt_of_lt_of_le hi h.size) hb (by rw [e]; exact hc), e]⟩
theorem keep_below {b : Nat} {w w' : World} (h : Below w.heap.size w w') : Keep b w w' := ⟨h.os, h.tape, h.output, h.size, fun i hi _ _ => h.block i hi⟩
theorem keep_drew (b : Nat) (w : World) : Keep b w w.drew := ⟨rfl, rfl, rfl, Nat.le_refl _, fun _ _ _ _ => rfl⟩
theorem keep_alloc (b : Nat) (w : World) (o : Obj) : Keep b w (w.alloc o) := keep_below (below_one w o)
theorem keep_own {b n : Nat} {w w' : World} {x : Value} {xs : List Value} (h : w.ownsRow (b + 1) 5 1 x n xs) (hg : w.grownBy w' x.ownBlock) : Keep b w w' :=
  ⟨hg.os, hg.tape, hg.output, hg.size, fun i hi hb hc => hg.block i hi (fun e => by
    rcases h.2 with ⟨rfl, _⟩ | ⟨g, cap, cur, rfl, hbg, hgc, _⟩
    · simp [Value.ownBlock] at e
    · simp only [Value.ownBlock, Option.some.injEq] at e
      subst e
      rcases hc with hc | hc
      · omega
      · exact hc _ _ hgc)⟩
theorem keep_set (b : Nat) (w : World) (j : Nat) (u : Value) : Keep b w (w.setCell ⟨b, j, none⟩ u) :=
  ⟨rfl, rfl, rfl, by simp [World.setCell], fun i _ hb _ => Below.heap_setCell w ⟨b, j, none⟩ u i (by exact hb)⟩
/-- A store into a block that was not there. -/
theorem keep_new {b c : Nat} {w w' : World} (h : Keep b w w') (hc : w.heap.size ≤ c) (j : Nat) (u : Value) : Keep b w (w'.setCell ⟨c, j, none⟩ u) :=
  ⟨h.os, h.tape, h.output, by simpa [World.setCell] using h.size, fun i hi hb hx => by
    rw [Below.heap_setCell w' ⟨c, j, none⟩ u i (by show i ≠ c; omega)]
    exact h.block i hi hb hx⟩
/-- An append onto a row that was not there. -/
theorem keep_grown {b : Nat} {w w1 w2 : World} {row : Option Nat} (h : Keep b w w1) (hg : w1.grownBy w2 row) (hr : ∀ k, row = some k → w.heap.size ≤ k) : Keep b w w2 :=
  ⟨hg.os.trans h.os, hg.tape.trans h.tape, hg.output.trans h.output, Nat.le_trans h.size hg.size, fun i hi hb hx => by
    rw [hg.block i (Nat.lt_of_lt_of_le hi h.size) (fun e => by have := hr i e.symm; omega)]
    exact h.block i hi hb hx⟩
theorem keep_low {b : Nat} {w w' : World} (h : Keep b w w') (hb : b ≤ w.heap.size) : Below b w w' :=
  ⟨h.os, h.tape, h.output, h.size, fun i hi => h.block i (by omega) (by omega) (.inl hi)⟩
theorem keep_obj {b c : Nat} {vs : Array Value} {t : TypeId} {w w' : World} (h : ObjAt c vs t w) (hk : Keep b w w') (hne : c ≠ b) (ht : t ≠ 5) : ObjAt c vs t w' := by
  have h0 := h
  unfold ObjAt at h ⊢
  rw [hk.block c (objAt_lt h0) hne (.inr fun c' f e => by rw [h] at e; simp only [Option.some.injEq, Obj.cells.injEq] at e; exact ht e.2.1)]
  exact h
/-- A row of another type is kept. -/
theorem keep_row {b B e sz n : Nat} {w w' : World} {x : Value} {xs : List Value} (h : w.ownsRow B e sz x n xs) (hk : Keep b w w') (hB : b < B) (ht : e ≠ 5) : w'.ownsRow B e sz x n xs := by
  refine ⟨h.1, ?_⟩
  rcases h.2 with h0 | ⟨g, cap, cur, hv, hbg, hg, r⟩
  · exact .inl h0
  · refine .inr ⟨g, cap, cur, hv, hbg, ?_, r⟩
    exact keep_obj (b := b) (c := g) hg hk (by omega) ht
theorem code_lt {b : Nat} {v : Int} {m : M} {w : World} (h : CodeAt b v m w) : b < w.heap.size := by
  obtain ⟨p, x, h, _⟩ := h
  exact objAt_lt h
theorem code_cells {b : Nat} {v : Int} {m : M} {w : World} (h : CodeAt b v m w) : w.cell? ⟨b, 0, none⟩ = some (.int .i64 v) ∧ w.cell? ⟨b, 1, none⟩ = some (.bool m.reading) ∧ w.cell? ⟨b, 4, none⟩ = some (.string m.rest) ∧ w.cell? ⟨b, 5, none⟩ = some (.int .i64 (m.e : Int)) := by
  obtain ⟨p, x, h, _⟩ := h
  exact ⟨objAt_cell h 0 rfl, objAt_cell h 1 rfl, objAt_cell h 4 rfl, objAt_cell h 5 rfl⟩
theorem code_free {b : Nat} {v : Int} {m : M} {w : World} (h : CodeAt b v m w) (j : Nat) : w.frozen? ⟨b, j, none⟩ = false := by
  obtain ⟨p, x, h, _⟩ := h
  exact objAt_free h j
theorem own_set_b {w : World} {b e sz n : Nat} {x : Value} {xs : List Value} (h : w.ownsRow (b + 1) e sz x n xs) (j : Nat) (u : Value) : (w.setCell ⟨b, j, none⟩ u).ownsRow (b + 1) e sz x n xs := by
  refine ⟨h.1, ?_⟩
  rcases h.2 with h0 | ⟨g, cap, cur, hv, hbg, hg, r⟩
  · exact .inl h0
  · refine .inr ⟨g, cap, cur, hv, hbg, ?_, r⟩
    rw [Below.heap_setCell w ⟨b, j, none⟩ u g (by show g ≠ b; omega)]
    exact hg
theorem code_rest {b : Nat} {v : Int} {m : M} {w : World} (h : CodeAt b v m w) (r : ByteArray) : CodeAt b v { m with rest := r } (w.setCell ⟨b, 4, none⟩ (.string r)) := by
  obtain ⟨p, x, h1, h2, h3⟩ := h
  exact ⟨p, x, objAt_set h1 4 _, own_set_b h2 4 _, h3⟩
theorem code_e {b : Nat} {v : Int} {m : M} {w : World} (h : CodeAt b v m w) (e : Nat) : CodeAt b v { m with e := e } (w.setCell ⟨b, 5, none⟩ (.int .i64 (e : Int))) := by
  obtain ⟨p, x, h1, h2, h3⟩ := h
  exact ⟨p, x, objAt_set h1 5 _, own_set_b h2 5 _, h3⟩
theorem code_next {b : Nat} {v : Int} {m : M} {w w' : World} (h : CodeAt b v m w) (hb : Below w.heap.size w w') : CodeAt b v m w' := by
  obtain ⟨p, x, h1, h2, h3⟩ := h
  exact ⟨p, x, objAt_next h1 hb, own_below h2 hb, h3⟩
theorem code_alloc {b : Nat} {v : Int} {m : M} {w : World} (h : CodeAt b v m w) (o : Obj) : CodeAt b v m (w.alloc o) := code_next h (below_one w o)
theorem code_drew {b : Nat} {v : Int} {m : M} {w : World} (h : CodeAt b v m w) : CodeAt b v m w.drew := h
/-- A store into another block, of another type. -/
theorem code_set {b c : Nat} {v : Int} {m : M} {w : World} {vs : Array Value} {t : TypeId} (h : CodeAt b v m w) (hc : ObjAt c vs t w) (hne : c ≠ b) (ht : t ≠ 5) (j : Nat) (u : Value) : CodeAt b v m (w.setCell ⟨c, j, none⟩ u) := by
  obtain ⟨p, x, h1, h2, h3⟩ := h
  refine ⟨p, x, objAt_other h1 (fun e => hne e.symm) j u, ⟨h2.1, ?_⟩, h3⟩
  rcases h2.2 with h0 | ⟨g, cap, cur, hv, hbg, hg, r⟩
  · exact .inl h0
  · refine .inr ⟨g, cap, cur, hv, hbg, ?_, r⟩
    rw [Below.heap_setCell w ⟨c, j, none⟩ u g (by
      show g ≠ c
      intro e
      subst e
      unfold ObjAt at hc
      rw [hc] at hg
      simp only [Option.some.injEq, Obj.cells.injEq] at hg
      exact ht hg.2.1)]
    exact hg
/-- An append onto a row of another type. -/
theorem code_grown {b B e sz n : Nat} {v : Int} {m : M} {w w' : World} {y : Value} {ys : List Value} (h : CodeAt b v m w) (ho : w.ownsRow B e sz y n ys) (hg : w.grownBy w' y.ownBlock) (hB : b < B) (ht : e ≠ 5) : CodeAt b v m w' := by
  obtain ⟨p, x, h1, h2, h3⟩ := h
  have hb := objAt_lt h1
  refine ⟨p, x, ?_, ⟨h2.1, ?_⟩, h3⟩
  · unfold ObjAt at h1 ⊢
    rw [hg.block b hb (fun e => by
      rcases ho.2 with ⟨rfl, _⟩ | ⟨g, cap, cur, rfl, hbg, _⟩
      · simp [Value.ownBlock] at e
      · simp only [Value.ownBlock, Option.some.injEq] at e; omega)]
    exact h1
  · rcases h2.2 with h0 | ⟨g, cap, cur, hv, hbg, hgc, r⟩
    · exact .inl h0
    · refine .inr ⟨g, cap, cur, hv, hbg, ?_, r⟩
      rw [hg.block g (Array.getElem?_eq_some_iff.1 hgc).1 (fun e => by
        rcases ho.2 with ⟨rfl, _⟩ | ⟨g', cap', cur', rfl, hbg', hgc', _⟩
        · simp [Value.ownBlock] at e
        · simp only [Value.ownBlock, Option.some.injEq] at e
          subst e
          rw [hgc'] at hgc
          simp only [Option.some.injEq, Obj.cells.injEq] at hgc
          exact ht hgc.2.1)]
      exact hgc
end Go.Proofs.Ytklpmhiaihabaaa

/- The coder of package wire: its errors, its way through the bytes, numbers. -/
namespace Go.Proofs.Ytklpmhiaihabaaa
open Go.RowKit Go.Lib

theorem ownRow_slice {w : World} {base e sz n : Nat} {v : Value} {xs : List Value} (h : w.ownsRow base e sz v n xs) : ∃ ad cap, v = .slice ad n cap := by
  rcases h.2 with ⟨rfl, rfl⟩ | ⟨g, cap, cur, rfl, _⟩
  · exact ⟨_, _, rfl⟩
  · exact ⟨_, _, rfl⟩
theorem wp_appS {w : World} {o : Oper} {a : Act} {K : Act → World → Prop} {Q : Exit → Act → World → Prop} (sl x : Operand) (t u : TypeId)
    (ho : o.op = .call { callee := .builtin .append, args := #[sl, x], argTypes := #[t, u] })
    (base : Nat) (e : TypeId) (i : TypeInfo) (ht : Try.prog.underlying t = some (.slice e)) (hu : Try.prog.underlying u = some .string) (hi : Try.prog.info? e = some i) (hz : i.zero = some (.int .u8 0))
    (hsize : i.size = 1) (hby : i.bytes = 1)
    (v : Value) (n : Nat) (xs : List Value) (hs : a.eval sl = v) (hown : w.ownsRow base e 1 v n xs) (s : ByteArray) (hx : a.eval x = .string s)
    (hbytes : n + s.size ≤ 140737488355328) (hbase : base ≤ w.heap.size)
    (h : ∀ v' w', w'.ownsRow base e 1 v' (n + s.size) (xs ++ strCells s) → w.grownBy w' v.ownBlock → K (a.put o.dst v') w') : Oper.wp Try.prog o a w K Q := by
  obtain ⟨v', w', hr, h2, h3, _⟩ := run_append_own_string (P := Try.prog) w base t u o.type e i ht hu hi hz hsize hby v n xs hown s (by unfold maxLen; omega) hbytes hbase
  unfold Oper.wp
  simp only [execOp, ho, resolve, invoke, builtin, Sem.run_bind, Sem.run_pure, Result.andThen_ok, List.map_toArray, List.map_cons, List.map_nil, hs, hx, hr]
  exact h v' w' h2 h3
theorem step_appS {w : World} {ops : Array Oper} {o : Oper} {a : Act} {K : Act → World → Prop} {Q : Exit → Act → World → Prop} {E : Prop} (hgd : o.guard = none) (sl x : Operand) (t u : TypeId)
    (ho : o.op = .call { callee := .builtin .append, args := #[sl, x], argTypes := #[t, u] })
    (base : Nat) (e : TypeId) (i : TypeInfo) (ht : Try.prog.underlying t = some (.slice e)) (hu : Try.prog.underlying u = some .string) (hi : Try.prog.info? e = some i) (hz : i.zero = some (.int .u8 0))
    (hsize : i.size = 1) (hby : i.bytes = 1)
    (v : Value) (n : Nat) (xs : List Value) (hs : a.eval sl = v) (hown : w.ownsRow base e 1 v n xs) (s : ByteArray) (hx : a.eval x = .string s)
    (hbytes : n + s.size ≤ 140737488355328) (hbase : base ≤ w.heap.size)
    (h : ∀ v' w', w'.ownsRow base e 1 v' (n + s.size) (xs ++ strCells s) → w.grownBy w' v.ownBlock → K (a.put o.dst v') w') :
    if Region.wanted o (yielded ops a.tmps) = true then Oper.wp Try.prog o a w K Q else E := by
  have hw : Region.wanted o (yielded ops a.tmps) = true := by simp [Region.wanted, hgd]
  rw [if_pos hw]
  exact wp_appS sl x t u ho base e i ht hu hi hz hsize hby v n xs hs hown s hx hbytes hbase h
theorem strCells_bytes (s : ByteArray) : strCells s = byteCells s.data.toList := rfl
theorem code_size {b : Nat} {v : Int} {m : M} {w : World} (h : CodeAt b v m w) : b + 1 ≤ w.heap.size := code_lt h
/-- What lies behind an append to what was written, and behind its store. -/
theorem code_app {b n : Nat} {w w' : World} {x : Value} {vs : Array Value} {t : TypeId} {xs : List Value} (h1 : ObjAt b vs t w) (h2 : w.ownsRow (b + 1) 5 1 x n xs) (hg : w.grownBy w' x.ownBlock) : ObjAt b vs t w' := by
  have hb := objAt_lt h1
  unfold ObjAt at h1 ⊢
  rw [hg.block b hb (fun e => by
    rcases h2.2 with ⟨rfl, _⟩ | ⟨g, cap, cur, rfl, hbg, _⟩
    · simp [Value.ownBlock] at e
    · simp only [Value.ownBlock, Option.some.injEq] at e; omega)]
  exact h1
/-! ### what was written: a strings.Builder within the coder -/
theorem bd_size : (Try.prog.info? 93).map (·.size) = some 2 := by kernel_rfl
theorem bd_lies : liesAt Try.prog Try.prog.depth 95 (6 / Try.prog.cellsOf 95) 2 93 1 = true := by kernel_rfl
theorem objAt_shape {b : Nat} {vs : Array Value} {t : TypeId} {w : World} (h : ObjAt b vs t w) : w.shape? b = some (t, vs.size) := by
  unfold ObjAt at h
  simp [World.shape?, h]
theorem keep_freeze {b g : Nat} {w : World} {cur : Array Value} (hg : w.heap[g]? = some (.cells cur 5 (0, 0))) (hb : b + 1 ≤ g) (n : Nat) : Keep b w (w.drew.freeze ⟨g, 0, none⟩ n) := by
  unfold World.freeze
  split
  · exact keep_drew b w
  · refine ⟨rfl, rfl, rfl, by show w.heap.size ≤ (Array.modify w.drew.heap _ _).size; rw [Array.size_modify]; exact Nat.le_refl _, fun i hi hi2 hc => ?_⟩
    have hne : g ≠ i := by
      intro e
      subst e
      rcases hc with hc | hc
      · omega
      · exact hc _ _ hg
    simp only [Array.getElem?_modify]
    rw [if_neg (by exact hne)]
    rfl
/-- The coder whose builder is in use. -/
def UsedAt (b : Nat) (v : Int) (m : M) (x : Value) (w : World) : Prop :=
  ObjAt b #[.int .i64 v, .bool m.reading, .pointer (some ⟨b, 2, none⟩), x, .string m.rest, .int .i64 (m.e : Int)] 95 w ∧ w.ownsRow (b + 1) 5 1 x m.gs.length (byteCells m.gs)
set_option maxRecDepth 100000 in
theorem codeCheck_is {b : Nat} {v : Int} {m : M} (w : World) (h : CodeAt b v m w) :
    Calls Try.prog 69 #[.pointer (some ⟨b, 2, none⟩)] w fun e w' => e = .returned (.tuple #[]) ∧ (∃ x, UsedAt b v m x w') ∧ Keep b w w' := by
  obtain ⟨j, hj, hjs⟩ := Option.map_eq_some_iff.1 bd_size
  obtain ⟨p, x, h1, h2, h3⟩ := h
  have c2 := objAt_cell h1 2 rfl
  have f2 := objAt_free h1 2
  have hsh := objAt_shape h1
  have hl := objAt_lt h1
  rcases h3 with rfl | rfl
  · have HU : Hid (UsedAt b v m x (w.setCell ⟨b, 2, none⟩ (.pointer (some ⟨b, 2, none⟩)))) := by exact ⟨objAt_set h1 2 _, own_set_b h2 2 _⟩
    clear h1 h2
    go_enter Try.func69, Try.ntmps69
    go_wp2
    rw [Lib.run_to_unsafe w ⟨b, 2, none⟩ Try.underlying90 Try.underlying121 hj (by rw [hjs]; decide) hsh (by simp)]
    simp only [Result.andThen]
    rw [Oper.upon_value]
    go_wp2
    rw [run_callFunc_extern Try.func70 (by kernel_rfl) (by kernel_rfl) (by kernel_rfl) (e := Extern.AbiNoEscape.same) (by kernel_rfl)]
    rw [Lib.run_noEscape]
    simp only [Result.andThen]
    rw [Oper.upon_value]
    go_wp2
    rw [Lib.run_from_unsafe w ⟨b, 2, none⟩ Try.underlying121 Try.underlying90 hj hsh bd_lies]
    simp only [Result.andThen]
    rw [Oper.upon_value]
    go_wp2
    go_end0
    exact ⟨rfl, ⟨x, HU.out⟩, keep_set b w 2 _⟩
  · have HU : Hid (UsedAt b v m x w) := by exact ⟨h1, h2⟩
    clear h1 h2
    go_enter Try.func69, Try.ntmps69
    go_wp2
    rw [Lib.run_neq_ptr_same w _ Try.underlying90 hj]
    go_wp2
    go_end0
    exact ⟨rfl, ⟨x, HU.out⟩, keep_refl b w⟩
theorem code_put {b : Nat} {v : Int} {m : M} {w : World} {x y : Value} (gs : List UInt8) {n : Nat} {xs : List Value} (h1 : ObjAt b #[.int .i64 v, .bool m.reading, .pointer (some ⟨b, 2, none⟩), x, .string m.rest, .int .i64 (m.e : Int)] 95 w)
    (h2 : w.ownsRow (b + 1) 5 1 y n xs) (hn : n = gs.length) (hx : xs = byteCells gs) : CodeAt b v { m with gs := gs } (w.setCell ⟨b, 3, none⟩ y) := by
  subst hn hx
  exact ⟨_, y, objAt_set h1 3 y, own_set_b h2 3 y, .inr rfl⟩
set_option maxRecDepth 100000 in
set_option maxHeartbeats 1000000 in
theorem codeWS_is {b : Nat} {v : Int} {m : M} (s : ByteArray) (hg : m.gs.length + s.size ≤ 140737488355328) (w : World) (h : CodeAt b v m w) :
    Calls Try.prog 65 #[.pointer (some ⟨b, 2, none⟩), .string s] w fun e w' => e = .returned (.tuple #[.int .i64 s.size, .nilIface]) ∧ CodeAt b v { m with gs := m.gs ++ s.data.toList } w' ∧ Keep b w w' := by
  obtain ⟨i0, hi, hz0, hz1, hz2⟩ := info_parts Try.infoByte
  have Hi := Lib.hid hi
  have Hz0 := Lib.hid hz0
  have Hz1 := Lib.hid hz1
  have Hz2 := Lib.hid hz2
  have HC := Lib.hid (codeCheck_is w h)
  clear hi hz0 hz1 hz2 h
  go_enter Try.func65, Try.ntmps65
  go_wp2_with fail
  refine HC.out.mono ?_
  rintro e w1 ⟨rfl, ⟨x, hO, hR⟩, k1⟩
  obtain ⟨ad, cap, rfl⟩ := ownRow_slice hR
  have c3 := objAt_cell hO 3 rfl
  have f3 := objAt_free hO 3
  have hl := objAt_lt hO
  have HO := Lib.hid hO
  have HR := Lib.hid hR
  have K1 := Lib.hid k1
  clear hO hR k1 HC
  go_wp2_with (at_builtin; refine wpList_append_own_string _ rfl _ _ 91 9 rfl (b + 1) 5 i0 Try.underlying91 Try.underlying9 Hi.out Hz0.out Hz1.out Hz2.out _ _ _ rfl HR.out s rfl (by unfold maxLen; omega) (by omega) (by omega) ?_)
  intro v3 w3 own3 hg3 _
  obtain ⟨ad3, cp3, rfl⟩ := ownRow_slice own3
  have O3 := code_app HO.out HR.out hg3
  have c23 := objAt_cell O3 3 rfl
  have f23 := objAt_free O3 3
  have hl3 := objAt_lt O3
  have HO3 := Lib.hid O3
  have HK := Lib.hid (keep_trans K1.out (keep_own HR.out hg3))
  have Hown := Lib.hid own3
  clear O3 own3 hg3 c3 f3 hl
  go_wp2
  go_ret2
  exact ⟨rfl, code_put (m.gs ++ s.data.toList) HO3.out Hown.out (by rw [List.length_append, size_l]) (by rw [strCells_bytes, byteCells_append]), keep_trans HK.out (keep_set b w3 3 _)⟩
set_option maxRecDepth 100000 in
set_option maxHeartbeats 1000000 in
theorem codeStr_is {b : Nat} {v : Int} {m : M} (h0 : m.gs ≠ []) (w : World) (h : CodeAt b v m w) :
    Calls Try.prog 52 #[.pointer (some ⟨b, 2, none⟩)] w fun e w' => e = .returned (.string ⟨m.gs.toArray⟩) ∧ Keep b w w' := by
  obtain ⟨p, x, h1, h2, h3⟩ := h
  have h2' := h2
  obtain ⟨l, hl⟩ : ∃ l, m.gs = l := ⟨_, rfl⟩
  rw [hl] at h0 h2 h2' ⊢
  have hl0 : l.length ≠ 0 := by simpa using h0
  have hlb := objAt_lt h1
  rcases h2.2 with ⟨_, hz⟩ | ⟨g, cap, cur, rfl, hbg, hgc, hnc, hcm, hcs, htake⟩
  · exact absurd hz hl0
  · have c3 : w.drew.cell? ⟨b, 3, none⟩ = some (.slice (some ⟨g, 0, none⟩) l.length cap) := objAt_cell (w := w.drew) h1 3 rfl
    have c3' : w.cell? ⟨b, 3, none⟩ = some (.slice (some ⟨g, 0, none⟩) l.length cap) := c3
    have hSD : (Builtin.unsafeSliceData_ #[91] 112 #[.slice (some ⟨g, 0, none⟩) l.length cap]).run Try.prog w.drew = .ok (.pointer (some ⟨g, 0, none⟩)) w.drew :=
      Lib.run_unsafeSliceData_row _ _ _ _ _ _ (by omega)
    have hUS : (Builtin.unsafeString_ #[112, 3] 9 #[.pointer (some ⟨g, 0, none⟩), .int .i64 l.length]).run Try.prog w.drew = .ok (.string ⟨l.toArray⟩) (w.drew.freeze ⟨g, 0, none⟩ l.length) := by
      refine Lib.run_unsafeString_row w.drew 112 3 9 5 Try.underlying112 (by kernel_rfl) g cur.size (by have hg' : w.drew.heap[g]? = some (.cells cur 5 (0, 0)) := hgc; simp [World.shape?, hg']) l h0 (by omega) (by unfold maxLen at hcm; omega) ?_
      intro j x hx
      exact h2'.cells (g := g) rfl j (.int .u8 x.toNat) (by simp [byteCells, hx])
    have HK : Hid (Keep b w (w.drew.freeze ⟨g, 0, none⟩ l.length)) := by
      exact keep_freeze hgc hbg l.length
    have mixed : Try.prog.follows Departure.mixedOrders = true := by kernel_rfl
    clear h1 h2 h2' h3
    go_enter Try.func52, Try.ntmps52
    go_wp2
    go_region_o
    all_goals (go_wp2; go_ret; exact ⟨rfl, HK.out⟩)

theorem codeFail_is {b : Nat} {v : Int} {m : M} (e : Nat) (w : World) (h : CodeAt b v m w) :
    Calls Try.prog 51 #[.pointer (some ⟨b, 0, none⟩), .int .i64 (e : Int)] w fun r w' => r = .returned (.tuple #[]) ∧ CodeAt b v (m.fail e) w' ∧ Keep b w w' := by
  obtain ⟨c0, c1, c3, c4⟩ := code_cells h
  have f4 := code_free h 5
  have hl := code_lt h
  by_cases he : m.e = 0
  · have hm : m.fail e = { m with e := e } := by unfold M.fail; rw [if_pos he]
    have hc := Lib.hid (code_e h e)
    rw [he] at c4
    rw [hm]
    clear h
    go_enter Try.func51, Try.ntmps51
    go_wp2
    first | go_end0 | refine bodyPost_ret (results_none rfl _ _ _) rfl ?_
    exact ⟨rfl, hc.out, keep_set b w 5 _⟩
  · have hm : m.fail e = m := by unfold M.fail; rw [if_neg he]
    have he' : ((m.e : Int) == 0) = false := by simp; omega
    rw [hm]
    have hc := Lib.hid h
    clear h
    go_enter Try.func51, Try.ntmps51
    go_wp2
    first | go_end0 | refine bodyPost_ret (results_none rfl _ _ _) rfl ?_
    exact ⟨rfl, hc.out, keep_refl b w⟩
theorem ext_all (s : ByteArray) : s.extract s.size s.size = ⟨#[]⟩ := by
  rw [drop_bytes, List.drop_of_length_le (by rw [size_l]; exact Nat.le_refl _)]
theorem advance_is {b : Nat} {v : Int} {m : M} (k e : Nat) (hk : k ≤ m.rest.size) (w : World) (h : CodeAt b v m w) :
    Calls Try.prog 68 #[.pointer (some ⟨b, 0, none⟩), .int .i64 (k : Int), .int .i64 (e : Int)] w fun r w' => r = .returned (.tuple #[]) ∧ CodeAt b v (m.adv k e) w' ∧ Keep b w w' := by
  by_cases he : e = 0
  · obtain ⟨c0, c1, c3, c4⟩ := code_cells h
    have f3 := code_free h 4
    have hl := code_lt h
    have hm : m.adv k e = { m with rest := m.rest.extract k m.rest.size } := by unfold M.adv; rw [if_pos he]
    have hc := Lib.hid (code_rest h (m.rest.extract k m.rest.size))
    rw [hm]
    subst he
    have hk' : (k : Int) ≤ (m.rest.size : Int) := by omega
    clear h hk
    go_enter Try.func68, Try.ntmps68
    go_wp2
    first | go_end0 | refine bodyPost_ret (results_none rfl _ _ _) rfl ?_
    exact ⟨rfl, hc.out, keep_set b w 4 _⟩
  · have hm : m.adv k e = { m.fail e with rest := ⟨#[]⟩ } := by unfold M.adv; rw [if_neg he]
    have he' : ((e : Int) != 0) = true := by simp; omega
    have HF := Lib.hid (codeFail_is e w h)
    rw [hm]
    have hR := ext_all m.rest
    have hr : (m.fail e).rest = m.rest := rfl
    generalize m.fail e = m1 at HF hr ⊢
    clear h
    go_enter Try.func68, Try.ntmps68
    go_wp2_with fail
    refine HF.out.mono ?_
    rintro r w1 ⟨rfl, h1, k1⟩
    obtain ⟨c0, c1, c3, c4⟩ := code_cells h1
    have f3 := code_free h1 4
    have hl := code_lt h1
    have hc := Lib.hid (code_rest h1 ⟨#[]⟩)
    have K1 := Lib.hid k1
    rw [hr] at c3
    clear h1 k1
    go_wp2
    first | go_end0 | refine bodyPost_ret (results_none rfl _ _ _) rfl ?_
    exact ⟨rfl, by first | exact hc.out | (rw [hR]; exact hc.out) | (simp only [hR]; exact hc.out), keep_trans K1.out (keep_set b w1 4 _)⟩
theorem rd_size (s : ByteArray) : (rd s.data.toList).2.1 ≤ s.size := by
  by_cases h : (rd s.data.toList).2.2 = 0
  · have := (rd_ok h).2.2.1
    rwa [size_l] at this
  · rw [(rd_err h).2]; omega
set_option maxRecDepth 100000 in
set_option maxHeartbeats 1000000 in
theorem limited_is {b : Nat} {v : Int} {m : M} (most n : Nat) (hn : n < 18446744073709551616) (hs : m.rest.size ≤ 1152921504606846976) (hg : m.gs.length ≤ 1073741824) (w : World) (h : CodeAt b v m w) :
    Calls Try.prog 62 #[.pointer (some ⟨b, 0, none⟩), .int .u64 (n : Int), .int .u64 (most : Int)] w fun r w' => r = .returned (.int .u64 ((limS most n m).1 : Int)) ∧ CodeAt b v (limS most n m).2 w' ∧ Keep b w w' := by
  by_cases hr : m.reading = true
  · obtain ⟨c0, c1, c3, c4⟩ := code_cells h
    rw [hr] at c1
    have hl := code_lt h
    obtain ⟨N, k, c, hrd⟩ : ∃ N k c, rd m.rest.data.toList = (N, k, c) := ⟨_, _, _, rfl⟩
    have hks := rd_size m.rest
    rw [hrd] at hks
    have HR := Lib.hid (read_is m.rest N k c hrd (by unfold maxLen; omega))
    have hL : limS most n m = if most < N then (0, m.adv k 2) else (N, m.adv k c) := by unfold limS; rw [if_pos hr, hrd]
    rw [hL]
    by_cases hN : most < N
    · rw [if_pos hN]
      have HA := Lib.hid (advance_is k 2 hks w h)
      have hN' : (most : Int) < (N : Int) := by omega
      clear h hL hrd hN hks
      go_enter Try.func62, Try.ntmps62
      go_wp2_with fail
      refine (HR.out _).mono ?_
      rintro r w1 ⟨rfl, rfl⟩
      go_wp2_with fail
      refine HA.out.mono ?_
      rintro r w1 ⟨rfl, h1, k1⟩
      go_wp2
      go_ret
      exact ⟨rfl, h1, k1⟩
    · rw [if_neg hN]
      have HA := Lib.hid (advance_is k c hks w h)
      have hN' : (N : Int) ≤ (most : Int) := by omega
      clear h hL hrd hN hks
      go_enter Try.func62, Try.ntmps62
      go_wp2_with fail
      refine (HR.out _).mono ?_
      rintro r w1 ⟨rfl, rfl⟩
      go_wp2_with fail
      refine HA.out.mono ?_
      rintro r w1 ⟨rfl, h1, k1⟩
      go_wp2
      go_ret
      exact ⟨rfl, h1, k1⟩
  · have hr : m.reading = false := by simpa using hr
    have hL : limS most n m = (n, { m with gs := m.gs ++ num n }) := by unfold limS; rw [if_neg (by rw [hr]; simp)]
    rw [hL]
    obtain ⟨c0, c1, c4, c5⟩ := code_cells h
    rw [hr] at c1
    have hl := code_lt h
    have HN := Lib.hid (number_is n hn)
    have hz := num_len10 hn
    have hsz : (numS n).size ≤ 10 := by rw [numS_size]; exact hz
    have HD := Lib.hid (numS_data n)
    have HC := Lib.hid (fun w' (hb : Below w.heap.size w w') => codeWS_is (numS n) (by omega) w' (code_next h hb))
    clear hz h
    generalize numS n = t at *
    go_enter Try.func62, Try.ntmps62
    go_wp2_with fail
    go_region_law (first
      | (go_simp; go_at_call 66; refine (HN.out _).mono ?_; rintro r w1 ⟨rfl, b1⟩; have B1 : Below w.heap.size w w1 := (Below.refl w.heap.size w).drew.trans b1; have HC1 := Lib.hid (HC.out w1 B1))
      | (go_simp; go_at_call 65; refine HC1.out.mono ?_; rintro r w2 ⟨rfl, h2, k2⟩))
    all_goals
      rw [HD.out] at h2
      go_wp2
      go_ret
      exact ⟨rfl, h2, keep_trans (keep_below B1) k2⟩
theorem lim_le {most n : Nat} (h : n ≤ most) (m : M) : (limS most n m).1 ≤ most := by
  unfold limS
  split
  · split
    · exact Nat.zero_le _
    · simp only; omega
  · exact h
set_option maxRecDepth 100000 in
theorem number_in {b : Nat} {v : Int} {m : M} (n : Int) (hn : 0 ≤ n ∧ n ≤ 4611686018427387904) (hs : m.rest.size ≤ 1152921504606846976) (hg : m.gs.length ≤ 1073741824) (w : World) (h : CodeAt b v m w) :
    Calls Try.prog 50 #[.pointer (some ⟨b, 0, none⟩), .int .i64 n] w fun r w' => r = .returned (.int .i64 (numbS n m).1) ∧ CodeAt b v (numbS n m).2 w' ∧ Keep b w w' := by
  obtain ⟨k, rfl⟩ : ∃ k : Nat, n = k := ⟨n.toNat, by omega⟩
  have H := Lib.hid (limited_is 4611686018427387904 k (by omega) hs hg w h)
  have hle := lim_le (most := 4611686018427387904) (n := k) (by omega) m
  have e : numbS (k : Int) m = (((limS 4611686018427387904 k m).1 : Int), (limS 4611686018427387904 k m).2) := rfl
  rw [e]
  generalize limS 4611686018427387904 k m = r at H hle ⊢
  have w1 : IntKind.u64.wrap (k : Int) = (k : Int) := by rw [IntKind.wrap_u64]; omega
  have w2 : wrap64 (r.1 : Int) = (r.1 : Int) := by unfold wrap64; omega
  clear e h
  go_enter Try.func50, Try.ntmps50
  go_wp2_with fail
  refine H.out.mono ?_
  rintro x w1 ⟨rfl, h1, k1⟩
  go_wp2
  go_ret
  exact ⟨by first | rfl | (rw [w2]) | simp [w2], h1, k1⟩
set_option maxRecDepth 100000 in
theorem signed_is {b : Nat} {v : Int} {m : M} (n : Int) (hn : zig n ≤ 4611686018427387904) (hs : m.rest.size ≤ 1152921504606846976) (hg : m.gs.length ≤ 1073741824) (w : World) (h : CodeAt b v m w) :
    Calls Try.prog 104 #[.pointer (some ⟨b, 0, none⟩), .int .i64 n] w fun r w' => r = .returned (.int .i64 (sgnS n m).1) ∧ CodeAt b v (sgnS n m).2 w' ∧ Keep b w w' := by
  have hz := zig_lo n
  have HZ := Lib.hid (zig_any n w (by unfold zig at hn; simp [Lit.wf, IntKind.min, IntKind.max, IntKind.signed, IntKind.bits]; split at hn <;> omega))
  obtain ⟨k, hk⟩ : ∃ k : Nat, zig n = k := ⟨(zig n).toNat, by omega⟩
  have e : sgnS n m = (zag ((limS 4611686018427387904 k m).1 : Int), (limS 4611686018427387904 k m).2) := by
    have : (zig n).toNat = k := by omega
    unfold sgnS bindS pureS
    rw [this]
  rw [hk] at HZ hn
  have H := Lib.hid (limited_is 4611686018427387904 k (by omega) hs hg w h)
  have hle := lim_le (most := 4611686018427387904) (n := k) (by omega) m
  rw [e]
  generalize limS 4611686018427387904 k m = r at H hle ⊢
  have HG := Lib.hid (fun w' => zag_any (r.1 : Int) w' (by simp [Lit.wf, IntKind.min, IntKind.max, IntKind.signed, IntKind.bits]; omega))
  generalize zag (r.1 : Int) = q at HG ⊢
  clear e h
  go_enter Try.func104, Try.ntmps104
  go_wp2_with fail
  refine HZ.out.mono ?_
  rintro x w0 ⟨rfl, rfl⟩
  go_wp2_with fail
  refine H.out.mono ?_
  rintro x w1 ⟨rfl, h1, k1⟩
  go_wp2_with fail
  refine (HG.out _).mono ?_
  rintro x w2 ⟨rfl, rfl⟩
  go_wp2
  go_ret
  exact ⟨rfl, h1, k1⟩
/-- What end answers: the first error; bytes that remain are one, too. -/
def endE (m : M) : Nat := if m.rest.size ≠ 0 then (if m.e = 0 then 4 else m.e) else m.e
set_option maxRecDepth 100000 in
theorem end_is {b : Nat} {v : Int} {m : M} (w : World) (h : CodeAt b v m w) :
    Calls Try.prog 38 #[.pointer (some ⟨b, 0, none⟩)] w fun r w' => r = .returned (.int .i64 (endE m : Int)) ∧ Keep b w w' := by
  obtain ⟨c0, c1, c3, c4⟩ := code_cells h
  have hl := code_lt h
  by_cases hr : m.rest.size = 0
  · have e : endE m = m.e := by unfold endE; rw [if_neg (by omega)]
    have e0 : m.rest = ⟨#[]⟩ := empty_of_size hr
    rw [e]
    rw [e0] at c3
    clear h
    go_enter Try.func38, Try.ntmps38
    go_wp2
    go_ret
    exact ⟨rfl, keep_refl b w⟩
  · have e : endE m = (m.fail 4).e := by unfold endE M.fail; rw [if_pos hr]
    have HF := Lib.hid (codeFail_is 4 w h)
    have hne : ¬ m.rest.toList = [] := by
      intro e0
      apply hr
      have := congrArg List.length e0
      rw [ByteArray.toList_eq, size_l] at this
      exact this
    have hb : m.rest.toList.isEmpty = false := by simpa using hne
    rw [e]
    clear h e hr
    generalize m.fail 4 = m1 at HF ⊢
    go_enter Try.func38, Try.ntmps38
    go_wp2_with fail
    refine HF.out.mono ?_
    rintro x w1 ⟨rfl, h1, k1⟩
    obtain ⟨d0, d1, d3, d4⟩ := code_cells h1
    have hl1 := code_lt h1
    clear h1
    go_wp2
    go_ret
    exact ⟨rfl, k1⟩
end Go.Proofs.Ytklpmhiaihabaaa

/- The coder of package wire: strings; how far a step leads. -/
namespace Go.Proofs.Ytklpmhiaihabaaa
open Go.RowKit Go.Lib

theorem rdT_size [Inhabited UV] (s : ByteArray) : (rdT s).2.1 ≤ s.size := by
  unfold rdT
  split
  · simp
  · split
    · simp
    · split
      · simp
      · split
        · simp only; omega
        · simp
theorem txt_note [Inhabited UV] {s : ByteArray} (h : isNote V8 s = true) : txt s = (numS s.size ++ s, 0) := by
  simp only [isNote, Bool.and_eq_true, decide_eq_true_eq] at h
  have hv : V8 s = true := h.2
  unfold txt
  rw [if_neg (by omega), if_pos hv]
theorem note_size [Inhabited UV] {s : ByteArray} (h : isNote V8 s = true) : s.size ≤ 16 := by
  simp only [isNote, Bool.and_eq_true, decide_eq_true_eq] at h
  exact h.1
set_option maxRecDepth 100000 in
set_option maxHeartbeats 1000000 in
theorem codeText_is [Inhabited UV] {b : Nat} {v : Int} {m : M} (s : ByteArray) (hn : m.reading = false → isNote V8 s = true) (hs : m.rest.size ≤ 1152921504606846976) (hg : m.gs.length ≤ 1073741824) (w : World) (h : CodeAt b v m w) (hT : Tabs w) :
    Calls Try.prog 103 #[.pointer (some ⟨b, 0, none⟩), .string s] w fun r w' => r = .returned (.string (txtS s m).1) ∧ CodeAt b v (txtS s m).2 w' ∧ Keep b w w' := by
  by_cases hr : m.reading = true
  · obtain ⟨c0, c1, c3, c4⟩ := code_cells h
    rw [hr] at c1
    have hl := code_lt h
    have HR := Lib.hid (readText_big m.rest hs w hT)
    have hks := rdT_size m.rest
    have hL : txtS s m = ((rdT m.rest).1, m.adv (rdT m.rest).2.1 (rdT m.rest).2.2) := by unfold txtS; rw [if_pos hr]
    rw [hL]
    have HA := Lib.hid (fun w' (hb : Below w.heap.size w w') => advance_is (rdT m.rest).2.1 (rdT m.rest).2.2 hks w' (code_next h hb))
    obtain ⟨q, hq⟩ : ∃ q, rdT m.rest = q := ⟨_, rfl⟩
    rw [hq] at HR HA ⊢
    clear h hL hks hT hq hn
    go_enter Try.func103, Try.ntmps103
    go_wp2_with fail
    refine HR.out.mono ?_
    rintro r w1 ⟨rfl, b1⟩
    have HA1 := Lib.hid (HA.out w1 b1)
    go_wp2_with fail
    refine HA1.out.mono ?_
    rintro r w2 ⟨rfl, h1, k1⟩
    go_wp2
    go_ret
    exact ⟨rfl, h1, keep_trans (keep_below b1) k1⟩
  · have hr : m.reading = false := by simpa using hr
    have hN := hn hr
    have hL : txtS s m = (s, { m with gs := m.gs ++ textE s }) := by unfold txtS; rw [if_neg (by rw [hr]; simp)]
    rw [hL]
    have h16 := note_size hN
    have HT := text_any s (by omega) w hT
    rw [txt_note hN] at HT
    have HT := Lib.hid HT
    obtain ⟨T, hTT⟩ : ∃ T, numS s.size ++ s = T := ⟨_, rfl⟩
    have HD : Hid (T.data.toList = textE s) := by show _ = _; rw [← hTT, app_data, numS_data]; rfl
    have hsz : T.size ≤ 26 := by
      rw [← size_l, HD.out]
      have := text_len hN
      omega
    simp only [hTT] at HT
    have h0 := Lib.hid h
    obtain ⟨c0, c1, c3, c4⟩ := code_cells h
    rw [hr] at c1
    have hl := code_lt h
    clear h hT hTT hL hn hN c0 c3 c4
    go_enter Try.func103, Try.ntmps103
    go_wp2_with fail
    refine HT.out.mono ?_
    rintro r w1 ⟨rfl, b1⟩
    have hc1 := Lib.hid (codeFail_is 0 w1 (code_next h0.out b1))
    go_wp2_with fail
    refine hc1.out.mono ?_
    rintro r w2 ⟨rfl, h2, k2⟩
    have gl : (m.fail 0).gs.length = m.gs.length := rfl
    have HW := Lib.hid (codeWS_is T (by omega) w2 h2)
    have K2 := Lib.hid (keep_trans (keep_below b1) k2 : Keep b w w2)
    have hl2 := code_lt h2
    clear k2 b1 c1 hl hc1 HT h2
    go_wp2_with fail
    refine HW.out.mono ?_
    rintro r w3 ⟨rfl, h3, k3⟩
    rw [HD.out] at h3
    go_wp2
    go_ret
    have hmf : ({ m with gs := m.gs ++ textE s } : M) = { m.fail 0 with gs := (m.fail 0).gs ++ textE s } := by
      unfold M.fail
      by_cases he : m.e = 0
      · rw [if_pos he, ← he]
      · rw [if_neg he]
    rw [hmf]
    exact ⟨rfl, h3, keep_trans K2.out k3⟩
/-! ### how far a step leads -/
/-- It writes at most K bytes, and goes on reading, or not, as before. -/
def Lim {α : Type} (K : Nat) (f : St α) : Prop := ∀ m, (f m).2.gs.length ≤ m.gs.length + K ∧ (f m).2.rest.size ≤ m.rest.size ∧ (f m).2.reading = m.reading
theorem lim_pure {α : Type} (a : α) : Lim 0 (pureS a) := fun _ => ⟨Nat.le_refl _, Nat.le_refl _, rfl⟩
theorem lim_bind {α β : Type} {f : St α} {g : α → St β} {K K' : Nat} (hf : Lim K f) (hg : ∀ a, Lim K' (g a)) : Lim (K + K') (bindS f g) := by
  intro m
  have h1 := hf m
  have h2 := hg (f m).1 (f m).2
  unfold bindS
  exact ⟨by omega, by omega, by rw [h2.2.2, h1.2.2]⟩
theorem lim_mono {α : Type} {f : St α} {K K' : Nat} (h : Lim K f) (hk : K ≤ K') : Lim K' f := fun m => ⟨Nat.le_trans (h m).1 (by omega), (h m).2⟩
theorem adv_lim (m : M) (k e : Nat) : (m.adv k e).gs = m.gs ∧ (m.adv k e).rest.size ≤ m.rest.size ∧ (m.adv k e).reading = m.reading := by
  unfold M.adv
  split
  · exact ⟨rfl, by show (m.rest.extract k m.rest.size).size ≤ _; rw [ByteArray.size_extract]; omega, rfl⟩
  · exact ⟨rfl, Nat.zero_le _, rfl⟩
theorem lim_lim {most n : Nat} (h : n < 18446744073709551616) : Lim 10 (limS most n) := by
  intro m
  unfold limS
  split
  · split
    · have := adv_lim m (rd m.rest.data.toList).2.1 2
      exact ⟨by simp only; rw [this.1]; omega, this.2⟩
    · have := adv_lim m (rd m.rest.data.toList).2.1 (rd m.rest.data.toList).2.2
      exact ⟨by simp only; rw [this.1]; omega, this.2⟩
  · exact ⟨by simp only [List.length_append]; have := num_len10 h; omega, Nat.le_refl _, rfl⟩
theorem lim_txt [Inhabited UV] {s : ByteArray} (h : isNote V8 s = true) : Lim 17 (txtS s) := by
  intro m
  unfold txtS
  split
  · have := adv_lim m (rdT m.rest).2.1 (rdT m.rest).2.2
    exact ⟨by simp only; rw [this.1]; omega, this.2⟩
  · exact ⟨by simp only [List.length_append]; have := text_len h; omega, Nat.le_refl _, rfl⟩
theorem lim_numb {n : Int} (h : n ≤ 4611686018427387904) : Lim 10 (numbS n) := lim_bind (K' := 0) (lim_lim (by omega)) (fun _ => lim_pure _)
theorem lim_sgn {n : Int} (h : zig n ≤ 4611686018427387904) : Lim 10 (sgnS n) := lim_bind (K' := 0) (lim_lim (by omega)) (fun _ => lim_pure _)
theorem lim_if {α : Type} {f : St α} {K : Nat} (c : Bool) (a : α) (h : c = true → Lim K f) : Lim K (if c then f else pureS a) := by
  cases c with
  | true => exact h rfl
  | false => exact lim_mono (lim_pure a) (Nat.zero_le _)
theorem lim_job [Inhabited UV] {v : Int} {j : JobD} (h : okJob V8 v j) : Lim 64 (jobS v j) := by
  obtain ⟨h1, h2, h3, h4, h5⟩ := h
  exact lim_bind (K' := 47) (lim_txt h1) fun _ => lim_bind (K' := 37) (lim_sgn h2) fun _ => lim_bind (K' := 27) (lim_numb h3.2) fun _ => lim_bind (K' := 17) (lim_if _ _ (fun hv => by rw [if_pos hv] at h4; exact lim_numb h4.2)) fun _ => lim_bind (K' := 0) (lim_if _ _ (fun hv => by rw [if_pos hv] at h5; exact lim_txt h5)) fun _ => lim_pure _
theorem lim_node [Inhabited UV] {v : Int} {j : NodeD} (h : okNode V8 v j) : Lim 64 (nodeS v j) := by
  obtain ⟨h1, h2, h3⟩ := h
  exact lim_mono (lim_bind (K' := 27) (lim_txt h1) fun _ => lim_bind (K' := 17) (lim_numb h2.2) fun _ => lim_bind (K' := 0) (lim_if _ _ (fun hv => by rw [if_pos hv] at h3; exact lim_txt h3)) fun _ => lim_pure _) (by omega)
theorem lim_lease [Inhabited UV] {j : LeaseD} (h : okLease V8 j) : Lim 64 (leaseS j) := by
  obtain ⟨h1, h2, h3⟩ := h
  exact lim_mono (lim_bind (K' := 27) (lim_txt h1) fun _ => lim_bind (K' := 10) (lim_txt h2) fun _ => lim_bind (K' := 0) (lim_numb h3.2) fun _ => lim_pure _) (by omega)
theorem lim_go {α : Type} {f : α → St α} {K : Nat} : ∀ (l : List α), (∀ x ∈ l, Lim K (f x)) → Lim (K * l.length) (goS f l)
  | [], _ => lim_pure _
  | x :: l, h => by
    have h1 := lim_bind (K' := K * l.length + 0) (h x (by simp)) fun y => lim_bind (lim_go l (fun z hz => h z (by simp [hz]))) fun ys => lim_pure (y :: ys)
    refine lim_mono h1 ?_
    rw [List.length_cons, Nat.mul_add]
    omega
theorem v_empty [Inhabited UV] : isNote V8 ⟨#[]⟩ = true := by rw [note_yes (by decide)]; exact V8_nil
theorem ok_zJob [Inhabited UV] (v : Int) : okJob V8 v zJob := by
  refine ⟨v_empty, by decide, by decide, ?_, ?_⟩
  · split
    · decide
    · rfl
  · split
    · exact v_empty
    · rfl
theorem ok_zNode [Inhabited UV] (v : Int) : okNode V8 v zNode := by
  refine ⟨v_empty, by decide, ?_⟩
  split
  · exact v_empty
  · rfl
theorem ok_zLease [Inhabited UV] : okLease V8 zLease := ⟨v_empty, v_empty, by decide⟩
end Go.Proofs.Ytklpmhiaihabaaa
