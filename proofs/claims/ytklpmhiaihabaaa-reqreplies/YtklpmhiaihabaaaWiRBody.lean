/- The reference's reading of states: the function that Decode hands to read. -/
import Derived.Test.YtklpmhiaihabaaaWiSrcRows
namespace Go.Proofs.Ytklpmhiaihabaaa
open Go.RowKit

/-- All but two blocks is as it was. -/
structure Keep2 (b c : Nat) (w w' : World) : Prop where
  os : w'.os = w.os
  tape : w'.tape = w.tape
  output : w'.output = w.output
  size : w.heap.size ≤ w'.heap.size
  block : ∀ i, i < w.heap.size → i ≠ b → i ≠ c → w'.heap[i]? = w.heap[i]?
theorem k2_refl (b c : Nat) (w : World) : Keep2 b c w w := ⟨rfl, rfl, rfl, Nat.le_refl _, fun _ _ _ _ => rfl⟩
theorem k2_trans {b c : Nat} {w w1 w2 : World} (h : Keep2 b c w w1) (k : Keep2 b c w1 w2) : Keep2 b c w w2 :=
  ⟨k.os.trans h.os, k.tape.trans h.tape, k.output.trans h.output, Nat.le_trans h.size k.size, fun i hi hb hc => (k.block i (Nat.lt_of_lt_of_le hi h.size) hb hc).trans (h.block i hi hb hc)⟩
theorem k2_grown {b c : Nat} {w w' : World} (h : w.grownBy w' (some b)) : Keep2 b c w w' := ⟨h.os, h.tape, h.output, h.size, fun i hi hb _ => h.block i hi (by simp; exact hb)⟩
theorem k2_set (b c : Nat) (w : World) (j : Nat) (u : Value) : Keep2 b c w (w.setCell ⟨c, j, none⟩ u) :=
  ⟨rfl, rfl, rfl, by simp [World.setCell], fun i _ _ hc => Below.heap_setCell w ⟨c, j, none⟩ u i (by exact hc)⟩
theorem k2_obj {b c d : Nat} {vs : Array Value} {t : TypeId} {w w' : World} (h : ObjAt d vs t w) (hk : Keep2 b c w w') (h1 : d ≠ b) (h2 : d ≠ c) : ObjAt d vs t w' := by
  have h0 := objAt_lt h
  unfold ObjAt at h ⊢
  rw [hk.block d h0 h1 h2]
  exact h
theorem stR_rows (v : Int) : stR V8 v = bindD (if decide (2 < v) then intD else pureD 0) fun a => bindD (rows3 v) fun x => pureD ⟨a, x.1, x.2.1, x.2.2⟩ := by
  unfold stR rows3
  simp only [bindD_assoc, bindD_pure]
/-- What the function answers: it throws, or the state lies there. -/
def BodyP (v : Int) (b c : Nat) (l : List UInt8) (w : World) (r : Ending) (w' : World) : Prop := Keep2 b c w w' ∧ ((∃ e, stR V8 v l = .inl e ∧ r = taken e) ∨ (∃ s l' d1 d2 d3 p1 p2 p3, stR V8 v l = .inr (s, l') ∧ r = .returned (.tuple #[]) ∧
  ObjAt c #[.int .i64 s.rev, .slice d1 s.jobs.length p1, .slice d2 s.nodes.length p2, .slice d3 s.leases.length p3] 141 w' ∧
  w'.ownsRow w.heap.size 23 5 (.slice d1 s.jobs.length p1) s.jobs.length (cJobs s.jobs) ∧ w'.ownsRow w.heap.size 25 3 (.slice d2 s.nodes.length p2) s.nodes.length (cNodes s.nodes) ∧ w'.ownsRow w.heap.size 27 3 (.slice d3 s.leases.length p3) s.leases.length (cLeases s.leases) ∧ SrcAt b l' w'))
theorem src_other {b c : Nat} {l : List UInt8} {w : World} (h : SrcAt b l w) (hne : b ≠ c) (j : Nat) (u : Value) : SrcAt b l (w.setCell ⟨c, j, none⟩ u) := objAt_other h hne j u
theorem backs3 {w : World} {c B e sz n : Nat} {x : Value} {xs : List Value} {u1 u2 u3 : Value} (ho : w.ownsRow B e sz x n xs) (hc : c < B) : (((w.setCell ⟨c, 1, none⟩ u1).setCell ⟨c, 2, none⟩ u2).setCell ⟨c, 3, none⟩ u3).ownsRow B e sz x n xs := by
  refine ⟨ho.1, ?_⟩
  rcases ho.2 with h0 | ⟨g, cap, cur, hv, hbg, hg, r⟩
  · exact .inl h0
  · refine .inr ⟨g, cap, cur, hv, hbg, ?_, r⟩
    have ne : g ≠ c := by omega
    rw [Below.heap_setCell _ ⟨c, 3, none⟩ u3 g ne, Below.heap_setCell _ ⟨c, 2, none⟩ u2 g ne, Below.heap_setCell _ ⟨c, 1, none⟩ u1 g ne]
    exact hg
end Go.Proofs.Ytklpmhiaihabaaa
