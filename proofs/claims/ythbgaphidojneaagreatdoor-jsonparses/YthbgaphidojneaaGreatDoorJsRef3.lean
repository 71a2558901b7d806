/- The reference's reading of the JSON form: what holds between two pieces. -/
import Derived.Test.YthbgaphidojneaaGreatDoorJsRef2
import Derived.Test.YthbgaphidojneaaGreatDoorJsLaw
import Derived.OneCell
namespace Go.Proofs.YthbgaphidojneaaGreatDoor
open Go.RowKit

/-- All but two blocks is as it was. -/
structure JKeep (b c : Nat) (w w' : World) : Prop where
  os : w'.os = w.os
  tape : w'.tape = w.tape
  output : w'.output = w.output
  size : w.heap.size ≤ w'.heap.size
  block : ∀ i, i < w.heap.size → i ≠ b → i ≠ c → w'.heap[i]? = w.heap[i]?
theorem jk_refl (b c : Nat) (w : World) : JKeep b c w w := ⟨rfl, rfl, rfl, Nat.le_refl _, fun _ _ _ _ => rfl⟩
theorem jk_trans {b c : Nat} {w w1 w2 : World} (h : JKeep b c w w1) (k : JKeep b c w1 w2) : JKeep b c w w2 :=
  ⟨k.os.trans h.os, k.tape.trans h.tape, k.output.trans h.output, Nat.le_trans h.size k.size, fun i hi hb hc => (k.block i (Nat.lt_of_lt_of_le hi h.size) hb hc).trans (h.block i hi hb hc)⟩
theorem jk_grown {b c : Nat} {w w' : World} (h : w.grownBy w' (some b)) : JKeep b c w w' := ⟨h.os, h.tape, h.output, h.size, fun i hi hb _ => h.block i hi (by simp; exact hb)⟩
theorem jk_set (b c : Nat) (w : World) (j : Nat) (u : Value) : JKeep b c w (w.setCell ⟨c, j, none⟩ u) :=
  ⟨rfl, rfl, rfl, by simp [World.setCell], fun i _ _ hc => Below.heap_setCell w ⟨c, j, none⟩ u i (by exact hc)⟩
theorem jk_fresh {b c d : Nat} {w w' : World} (hk : JKeep b c w w') (hd : w.heap.size ≤ d) (j : Nat) (u : Value) : JKeep b c w (w'.setCell ⟨d, j, none⟩ u) :=
  ⟨hk.os, hk.tape, hk.output, by simpa [World.setCell] using hk.size, fun i hi hb hc => by
    rw [Below.heap_setCell w' ⟨d, j, none⟩ u i (by show i ≠ d; omega)]
    exact hk.block i hi hb hc⟩
theorem jk_app {b c : Nat} {w w1 w2 : World} {o : Option Nat} (hk : JKeep b c w w1) (hg : w1.grownBy w2 o) (ho : ∀ k, o = some k → w.heap.size ≤ k) : JKeep b c w w2 :=
  ⟨hg.os.trans hk.os, hg.tape.trans hk.tape, hg.output.trans hk.output, Nat.le_trans hk.size hg.size, fun i hi hb hc => (hg.block i (Nat.lt_of_lt_of_le hi hk.size) (fun e => by have := ho i e.symm; omega)).trans (hk.block i hi hb hc)⟩
theorem jobj_grown {b c : Nat} {vs : Array Value} {t : TypeId} {w w' : World} (h : ObjAt c vs t w) (hg : w.grownBy w' (some b)) (hne : c ≠ b) : ObjAt c vs t w' := by
  have h0 := objAt_lt h
  unfold ObjAt at h ⊢
  rw [hg.block c h0 (by simp; exact hne)]
  exact h
theorem jobj_app {b B e sz n : Nat} {w w' : World} {y : Value} {vs : Array Value} {t : TypeId} {ys : List Value} (h1 : ObjAt b vs t w) (h2 : w.ownsRow B e sz y n ys) (hB : b < B) (hg : w.grownBy w' y.ownBlock) : ObjAt b vs t w' := by
  have hb := objAt_lt h1
  unfold ObjAt at h1 ⊢
  rw [hg.block b hb (fun e => by
    have := (h2.lt b e.symm).1
    omega)]
  exact h1
theorem jown_keep {B B' e e' sz sz' n m : Nat} {w w' : World} {x y : Value} {xs ys : List Value} (h : w.ownsRow B e sz x n xs) (k : w.ownsRow B' e' sz' y m ys) (he : e ≠ e') (hg : w.grownBy w' y.ownBlock) : w'.ownsRow B e sz x n xs := by
  refine ⟨h.1, ?_⟩
  rcases h.2 with h0 | ⟨g, cap, cur, hv, hbg, hgc, r⟩
  · exact .inl h0
  · refine .inr ⟨g, cap, cur, hv, hbg, ?_, r⟩
    rw [hg.block g (Array.getElem?_eq_some_iff.1 hgc).1 (fun e1 => by
      rcases k.2 with ⟨rfl, _⟩ | ⟨g', cap', cur', rfl, _, hgc', _⟩
      · simp [Value.ownBlock] at e1
      · simp only [Value.ownBlock, Option.some.injEq] at e1
        subst e1
        rw [hgc'] at hgc
        simp only [Option.some.injEq, Obj.cells.injEq] at hgc
        exact he hgc.2.1.symm)]
    exact hgc
/-- What holds while a state is read: what is left of the text, what was read, nothing else touched. -/
structure Hold (b c : Nat) (li : List UInt8) (r : Int) (js : List JobD) (ns : List NodeD) (ls : List LeaseD) (y1 y2 y3 : Value) (w wr : World) : Prop where
  lb : b < w.heap.size
  lc : c < w.heap.size
  ne : b ≠ c
  sx : SxAt b li wr
  keep : JKeep b c w wr
  obj : ObjAt c #[.int .i64 r, y1, y2, y3] 26 wr
  o1 : wr.ownsRow w.heap.size 51 5 y1 js.length (cJobs js)
  o2 : wr.ownsRow w.heap.size 54 3 y2 ns.length (cNodes ns)
  o3 : wr.ownsRow w.heap.size 56 3 y3 ls.length (cLeases ls)
section
variable {b c : Nat} {li : List UInt8} {r : Int} {js : List JobD} {ns : List NodeD} {ls : List LeaseD} {y1 y2 y3 : Value} {w wr : World}
theorem hold_sx (h : Hold b c li r js ns ls y1 y2 y3 w wr) {li' : List UInt8} {w' : World} (g : wr.grownBy w' (some b)) (s : SxAt b li' w') : Hold b c li' r js ns ls y1 y2 y3 w w' :=
  ⟨h.lb, h.lc, h.ne, s, jk_trans h.keep (jk_grown g), jobj_grown h.obj g (fun e => h.ne e.symm), own_rd h.o1 g h.lb, own_rd h.o2 g h.lb, own_rd h.o3 g h.lb⟩
theorem hold_rev (h : Hold b c li r js ns ls y1 y2 y3 w wr) (n : Int) : Hold b c li n js ns ls y1 y2 y3 w (wr.setCell ⟨c, 0, none⟩ (.int .i64 n)) :=
  ⟨h.lb, h.lc, h.ne, objAt_other h.sx h.ne 0 _, jk_trans h.keep (jk_set b c wr 0 _), objAt_set h.obj 0 _, own_set h.o1 h.lc 0 _, own_set h.o2 h.lc 0 _, own_set h.o3 h.lc 0 _⟩
theorem hold_alloc (h : Hold b c li r js ns ls y1 y2 y3 w wr) (o : Obj) : Hold b c li r js ns ls y1 y2 y3 w (wr.alloc o) :=
  ⟨h.lb, h.lc, h.ne, objAt_next h.sx (below_one _ _), jk_trans h.keep (jk_grown (grown_of_below (below_one _ _) _)), objAt_next h.obj (below_one _ _), h.o1.alloc _, h.o2.alloc _, h.o3.alloc _⟩
/-- And a row's own block. -/
structure HoldJ (J : Nat) (jv : Array Value) (t : TypeId) (b c : Nat) (li : List UInt8) (r : Int) (js : List JobD) (ns : List NodeD) (ls : List LeaseD) (y1 y2 y3 : Value) (w wr : World) : Prop where
  hold : Hold b c li r js ns ls y1 y2 y3 w wr
  job : ObjAt J jv t wr
  fresh : w.heap.size ≤ J
  n1 : y1.ownBlock ≠ some J
  n2 : y2.ownBlock ≠ some J
  n3 : y3.ownBlock ≠ some J
theorem holdJ_new (h : Hold b c li r js ns ls y1 y2 y3 w wr) (jv : Array Value) (t : TypeId) : HoldJ wr.heap.size jv t b c li r js ns ls y1 y2 y3 w (wr.alloc (.cells jv t)) :=
  ⟨hold_alloc h _, objAt_new _ _ _, h.keep.size, fun e => by have := (h.o1.lt _ e).2; omega, fun e => by have := (h.o2.lt _ e).2; omega, fun e => by have := (h.o3.lt _ e).2; omega⟩
theorem holdJ_sx {J : Nat} {jv : Array Value} {t : TypeId} (h : HoldJ J jv t b c li r js ns ls y1 y2 y3 w wr) {li' : List UInt8} {w' : World} (g : wr.grownBy w' (some b)) (s : SxAt b li' w') : HoldJ J jv t b c li' r js ns ls y1 y2 y3 w w' :=
  ⟨hold_sx h.hold g s, jobj_grown h.job g (by have := h.fresh; have := h.hold.lb; omega), h.fresh, h.n1, h.n2, h.n3⟩
theorem holdJ_set {J : Nat} {jv : Array Value} {t : TypeId} (h : HoldJ J jv t b c li r js ns ls y1 y2 y3 w wr) (i : Nat) (u : Value) : HoldJ J (jv.setIfInBounds i u) t b c li r js ns ls y1 y2 y3 w (wr.setCell ⟨J, i, none⟩ u) :=
  have f := h.fresh
  have l1 := h.hold.lb
  have l2 := h.hold.lc
  ⟨⟨h.hold.lb, h.hold.lc, h.hold.ne, objAt_other h.hold.sx (by omega) i u, jk_fresh h.hold.keep f i u, objAt_other h.hold.obj (by omega) i u, ownsRow_setCell_other h.hold.o1 h.n1 u, ownsRow_setCell_other h.hold.o2 h.n2 u, ownsRow_setCell_other h.hold.o3 h.n3 u⟩, objAt_set h.job i u, f, h.n1, h.n2, h.n3⟩
theorem hold_app1 (h : Hold b c li r js ns ls y1 y2 y3 w wr) {a : JobD} {y : Value} {w2 : World} (own : w2.ownsRow w.heap.size 51 5 y (js.length + 1) (cJobs js ++ cJob a)) (hg : wr.grownBy w2 y1.ownBlock) : Hold b c li r (js ++ [a]) ns ls y y2 y3 w (w2.setCell ⟨c, 1, none⟩ y) :=
  ⟨h.lb, h.lc, h.ne, objAt_other (jobj_app h.sx h.o1 h.lb hg) h.ne 1 y, jk_trans (jk_app h.keep hg (fun k hk => (h.o1.lt k hk).1)) (jk_set b c w2 1 y), objAt_set (jobj_app h.obj h.o1 h.lc hg) 1 y, by rw [cJobs_append, cJobs_one, List.length_append]; exact own_set own h.lc 1 y, own_set (jown_keep h.o2 h.o1 (by decide) hg) h.lc 1 y, own_set (jown_keep h.o3 h.o1 (by decide) hg) h.lc 1 y⟩
theorem hold_app2 (h : Hold b c li r js ns ls y1 y2 y3 w wr) {a : NodeD} {y : Value} {w2 : World} (own : w2.ownsRow w.heap.size 54 3 y (ns.length + 1) (cNodes ns ++ cNode a)) (hg : wr.grownBy w2 y2.ownBlock) : Hold b c li r js (ns ++ [a]) ls y1 y y3 w (w2.setCell ⟨c, 2, none⟩ y) :=
  ⟨h.lb, h.lc, h.ne, objAt_other (jobj_app h.sx h.o2 h.lb hg) h.ne 2 y, jk_trans (jk_app h.keep hg (fun k hk => (h.o2.lt k hk).1)) (jk_set b c w2 2 y), objAt_set (jobj_app h.obj h.o2 h.lc hg) 2 y, own_set (jown_keep h.o1 h.o2 (by decide) hg) h.lc 2 y, by rw [cNodes_append, cNodes_one, List.length_append]; exact own_set own h.lc 2 y, own_set (jown_keep h.o3 h.o2 (by decide) hg) h.lc 2 y⟩
theorem hold_app3 (h : Hold b c li r js ns ls y1 y2 y3 w wr) {a : LeaseD} {y : Value} {w2 : World} (own : w2.ownsRow w.heap.size 56 3 y (ls.length + 1) (cLeases ls ++ cLease a)) (hg : wr.grownBy w2 y3.ownBlock) : Hold b c li r js ns (ls ++ [a]) y1 y2 y w (w2.setCell ⟨c, 3, none⟩ y) :=
  ⟨h.lb, h.lc, h.ne, objAt_other (jobj_app h.sx h.o3 h.lb hg) h.ne 3 y, jk_trans (jk_app h.keep hg (fun k hk => (h.o3.lt k hk).1)) (jk_set b c w2 3 y), objAt_set (jobj_app h.obj h.o3 h.lc hg) 3 y, own_set (jown_keep h.o1 h.o3 (by decide) hg) h.lc 3 y, own_set (jown_keep h.o2 h.o3 (by decide) hg) h.lc 3 y, by rw [cLeases_append, cLeases_one, List.length_append]; exact own_set own h.lc 3 y⟩
/-- A state in a block, with rows of its own. -/
def JBoxO (B c : Nat) (aj an al : Option Addr) (cj cn cl : Nat) (t : StD) (w : World) : Prop := ObjAt c #[.int .i64 t.rev, .slice aj t.jobs.length cj, .slice an t.nodes.length cn, .slice al t.leases.length cl] 26 w ∧ JOwn B aj an al cj cn cl t w
def SomeSt (B c : Nat) (w : World) : Prop := ∃ s aj an al cj cn cl, JBoxO B c aj an al cj cn cl s w
theorem hold_box (h : Hold b c li r js ns ls y1 y2 y3 w wr) : ∃ aj an al cj cn cl, JBoxO w.heap.size c aj an al cj cn cl ⟨r, js, ns, ls⟩ wr := by
  obtain ⟨aj, cj, rfl⟩ := ownRow_slice h.o1
  obtain ⟨an, cn, rfl⟩ := ownRow_slice h.o2
  obtain ⟨al, cl, rfl⟩ := ownRow_slice h.o3
  exact ⟨aj, an, al, cj, cn, cl, h.obj, h.o1, h.o2, h.o3⟩
/-- What the function literal leaves behind. -/
def BdPost (b c : Nat) (l : List UInt8) (w : World) (e : Ending) (w' : World) : Prop := JKeep b c w w' ∧ ((e = thrown ∧ (∃ x, stP l = .inl x) ∧ SomeSt w.heap.size c w') ∨ (∃ s l' aj an al cj cn cl, stP l = .inr (s, l') ∧ e = .returned (.tuple #[]) ∧ JBoxO w.heap.size c aj an al cj cn cl s w' ∧ SxAt b l' w'))
/-- What is thrown on the way. -/
theorem hold_throw (h : Hold b c li r js ns ls y1 y2 y3 w wr) {l : List UInt8} {w' : World} (g : wr.grownBy w' (some b)) (he : ∃ x, stP l = .inl x) : BdPost b c l w thrown w' := by
  refine ⟨jk_trans h.keep (jk_grown g), .inl ⟨rfl, he, ?_⟩⟩
  obtain ⟨aj, cj, rfl⟩ := ownRow_slice h.o1
  obtain ⟨an, cn, rfl⟩ := ownRow_slice h.o2
  obtain ⟨al, cl, rfl⟩ := ownRow_slice h.o3
  exact ⟨⟨r, js, ns, ls⟩, aj, an, al, cj, cn, cl, jobj_grown h.obj g (fun e => h.ne e.symm), own_rd h.o1 g h.lb, own_rd h.o2 g h.lb, own_rd h.o3 g h.lb⟩
end
/-! ### the reader, in parts -/
def st3 (r : Int) (j : List JobD) (n : List NodeD) (k : List LeaseD) : Dec StD := bindD (litD [125]) fun _ => pureD ⟨r, j, n, k⟩
def st2 (r : Int) (j : List JobD) (n : List NodeD) : Dec StD := bindD (litD [44, 34, 108, 101, 97, 115, 101, 115, 34, 58, 91]) fun _ => bindD (rowsJ leaseP) (st3 r j n)
def st1 (r : Int) (j : List JobD) : Dec StD := bindD (litD [44, 34, 110, 111, 100, 101, 115, 34, 58, 91]) fun _ => bindD (rowsJ nodeP) (st2 r j)
theorem stP_parts : stP = bindD (litD [123, 34, 114, 101, 118, 34, 58]) fun _ => bindD digD fun r => bindD (litD [44, 34, 106, 111, 98, 115, 34, 58, 91]) fun _ => bindD (rowsJ jobP) (st1 r) := rfl
/-- One row more. -/
theorem jrows_in {α : Type} {d : Dec α} (hd : Shr d) {l2 li : List UInt8} {acc : List α} (h : rowsJ d l2 = rowsAt d (decide (acc.length = 0)) acc li) (hn : li.take 1 ≠ [93]) : rowsJ d l2 = bindD (if decide (acc.length = 0) = true then pureD () else litD [44]) (fun _ => bindD d fun x m => rowsAt d false (acc ++ [x]) m) li := by
  rw [h, rowsAt_step hd _ _ hn]
theorem jrows_on {α : Type} {d : Dec α} {l2 lc lm : List UInt8} {acc : List α} {x : α} (h : rowsJ d l2 = bindD d (fun x m => rowsAt d false (acc ++ [x]) m) lc) (hx : d lc = .inr (x, lm)) : rowsJ d l2 = rowsAt d (decide ((acc ++ [x]).length = 0)) (acc ++ [x]) lm := by
  rw [h, bindD_ok hx, show decide ((acc ++ [x]).length = 0) = false from by simp]
theorem jrows_out {α : Type} {d : Dec α} {l2 li : List UInt8} {acc : List α} (h : rowsJ d l2 = rowsAt d (decide (acc.length = 0)) acc li) (hn : li.take 1 = [93]) : rowsJ d l2 = .inr (acc, li.drop 1) := by rw [h, rowsAt_end _ _ _ hn]
theorem jrows_cm {i : Nat} {li lc : List UInt8} {u : Unit} (h : (if decide (i = 0) = true then pureD () else litD [44]) li = .inr (u, lc)) : lc.length ≤ li.length := by
  split at h
  · exact shr_pure () li u lc h
  · exact shr_weak (shr_lit 44 []) li u lc h
end Go.Proofs.YthbgaphidojneaaGreatDoor
