/- The reference's reading of states: all rows. -/
import Derived.Test.YtklpmhiaihabaaaWiSrcRow
namespace Go.Proofs.Ytklpmhiaihabaaa
open Go.RowKit

theorem obj_app {b B e sz n : Nat} {w w' : World} {y : Value} {vs : Array Value} {t : TypeId} {ys : List Value} (h1 : ObjAt b vs t w) (h2 : w.ownsRow B e sz y n ys) (hB : b < B) (hg : w.grownBy w' y.ownBlock) : ObjAt b vs t w' := by
  have hb := objAt_lt h1
  unfold ObjAt at h1 ⊢
  rw [hg.block b hb (fun e => by
    have := (h2.lt b e.symm).1
    omega)]
  exact h1
theorem own_keep {B B' e e' sz sz' n m : Nat} {w w' : World} {x y : Value} {xs ys : List Value} (h : w.ownsRow B e sz x n xs) (k : w.ownsRow B' e' sz' y m ys) (he : e ≠ e') (hg : w.grownBy w' y.ownBlock) : w'.ownsRow B e sz x n xs := by
  refine ⟨h.1, ?_⟩
  rcases h.2 with h0 | ⟨g, cap, cur, hv, hbg, hgc, r⟩
  · exact .inl h0
  · refine .inr ⟨g, cap, cur, hv, hbg, ?_, r⟩
    rw [hg.block g (Array.getElem?_eq_some_iff.1 hgc).1 (fun e1 => by
      rcases k.2 with ⟨rfl, _⟩ | ⟨g', cap', cur', rfl, _, hgc', _⟩
      · simp [Value.ownBlock] at e1
      · simp only [Value.ownBlock, Option.some.injEq] at e1
        subst e1
        rw [hgc'] at hgc
        simp only [Option.some.injEq, Obj.cells.injEq] at hgc
        exact he hgc.2.1.symm)]
    exact hgc
theorem own_src {b B e sz n : Nat} {w w' : World} {x : Value} {xs : List Value} (h : w.ownsRow B e sz x n xs) (hB : b < B) (hg : w.grownBy w' (some b)) : w'.ownsRow B e sz x n xs := by
  refine ⟨h.1, ?_⟩
  rcases h.2 with h0 | ⟨g, cap, cur, hv, hbg, hgc, r⟩
  · exact .inl h0
  · refine .inr ⟨g, cap, cur, hv, hbg, ?_, r⟩
    rw [hg.block g (Array.getElem?_eq_some_iff.1 hgc).1 (by simp; omega)]
    exact hgc
theorem rep_start {α : Type} (d : Dec α) (n : Nat) (l : List UInt8) : repD d n l = (bindD (repD d (n - 0)) fun zs => pureD ([] ++ zs)) l := by
  rw [Nat.sub_zero]
  unfold bindD
  cases repD d n l <;> rfl
theorem rep_step {α : Type} {d : Dec α} {n i : Nat} {l li lk : List UInt8} {ys : List α} {a : α} (h : i < n) (H : repD d n l = (bindD (repD d (n - i)) fun zs => pureD (ys ++ zs)) li) (hd : d li = .inr (a, lk)) :
    repD d n l = (bindD (repD d (n - (i + 1))) fun zs => pureD ((ys ++ [a]) ++ zs)) lk := by
  rw [H]
  obtain ⟨m, hm⟩ : ∃ m, n - i = m + 1 := ⟨n - i - 1, by omega⟩
  have hm2 : n - (i + 1) = m := by omega
  rw [hm, hm2]
  show bindD (bindD d fun a => bindD (repD d m) fun r => pureD (a :: r)) _ li = _
  rw [bindD_assoc, bindD_ok hd, bindD_assoc]
  unfold bindD
  cases repD d m lk with
  | inl e => rfl
  | inr x => simp [pureD]
theorem rep_fail {α : Type} {d : Dec α} {n i : Nat} {l li : List UInt8} {ys : List α} {e : Nat} (h : i < n) (H : repD d n l = (bindD (repD d (n - i)) fun zs => pureD (ys ++ zs)) li) (hd : d li = .inl e) : repD d n l = .inl e := by
  rw [H]
  obtain ⟨m, hm⟩ : ∃ m, n - i = m + 1 := ⟨n - i - 1, by omega⟩
  rw [hm]
  show bindD (bindD d fun a => bindD (repD d m) fun r => pureD (a :: r)) _ li = _
  rw [bindD_assoc, bindD_err hd]
theorem rep_end {α : Type} {d : Dec α} {n : Nat} {l li : List UInt8} {ys : List α} (H : repD d n l = (bindD (repD d (n - n)) fun zs => pureD (ys ++ zs)) li) : repD d n l = .inr (ys, li) := by
  rw [H, Nat.sub_self]
  show bindD (pureD []) _ li = _
  rw [bindD_pure, List.append_nil]
  rfl
/-- All rows. -/
def rows3 (v : Int) : Dec (List JobD × List NodeD × List LeaseD) := bindD (rowsD 40 (jobR V8 v)) fun b => bindD (rowsD 20 (nodeR V8 v)) fun c => bindD (rowsD 40 (leaseR V8)) fun d => pureD (b, c, d)
theorem short_job {v : Int} {l m : List UInt8} {a : JobD} (h : jobR V8 v l = .inr (a, m)) (hl : l.length ≤ 140737488355328) : m.length ≤ 140737488355328 := Nat.le_trans ((jobC V8 v).short h) hl
theorem short_node {v : Int} {l m : List UInt8} {a : NodeD} (h : nodeR V8 v l = .inr (a, m)) (hl : l.length ≤ 140737488355328) : m.length ≤ 140737488355328 := Nat.le_trans ((nodeC V8 v).short h) hl
theorem short_lease {l m : List UInt8} {a : LeaseD} (h : leaseR V8 l = .inr (a, m)) (hl : l.length ≤ 140737488355328) : m.length ≤ 140737488355328 := Nat.le_trans ((leaseC V8).short h) hl
/-- What rows answers: it throws, or hands back three slices of its own. -/
def RowsPost (v : Int) (b : Nat) (l : List UInt8) (w : World) (r : Ending) (w' : World) : Prop := w.grownBy w' (some b) ∧ ((∃ e, rows3 v l = .inl e ∧ r = taken e) ∨ (∃ js ns ls l' y1 y2 y3, rows3 v l = .inr ((js, ns, ls), l') ∧ r = .returned (.tuple #[y1, y2, y3]) ∧
  w'.ownsRow w.heap.size 23 5 y1 js.length (cJobs js) ∧ w'.ownsRow w.heap.size 25 3 y2 ns.length (cNodes ns) ∧ w'.ownsRow w.heap.size 27 3 y3 ls.length (cLeases ls) ∧ SrcAt b l' w'))
end Go.Proofs.Ytklpmhiaihabaaa
