import Derived.Test.YtiaggbdkkbkclaaFdPlain
import Derived.Test.YtiaggbdkkbkclaaFrDec
import Derived.Test.YtiaggbdkkbkclaaOwn
import Derived.Test.YtiaggbdkkbkclaaCells
import Derived.Laws.AppendOwnNone
namespace Go.Proofs.Ytiaggbdkkbkclaa
open Go.RowKit

/-- The cells of frames, one behind the other. -/
def frCell (f : Fr) : List Value := [.int .i64 (f.1 : Int), .int .i64 (f.2.1 : Int), .string f.2.2]
def frCells (fs : List Fr) : List Value := fs.flatMap frCell
theorem frCells_nil : frCells [] = [] := rfl
theorem frCells_append (a b : List Fr) : frCells (a ++ b) = frCells a ++ frCells b := by simp [frCells]
theorem frCells_one (f : Fr) : frCells [f] = frCell f := by simp [frCells]
theorem frCells_length (a : List Fr) : (frCells a).length = a.length * 3 := by
  induction a with
  | nil => rfl
  | cons f a ih => rw [show f :: a = [f] ++ a from rfl, frCells_append, List.length_append, ih, frCells_one, List.length_append]; simp [frCell]; omega
theorem frCells_at (a : List Fr) (i : Nat) (h : i < a.length) : (frCells a)[i * 3]? = some (.int .i64 (a[i].1 : Int)) ∧ (frCells a)[i * 3 + 1]? = some (.int .i64 (a[i].2.1 : Int)) ∧ (frCells a)[i * 3 + 2]? = some (.string a[i].2.2) := by
  induction a generalizing i with
  | nil => simp at h
  | cons f a ih =>
    rw [show frCells (f :: a) = frCell f ++ frCells a from by simp [frCells]]
    cases i with
    | zero => simp [frCell]
    | succ i =>
      have h1 := ih i (by simpa using h)
      have e : ∀ j, (frCell f ++ frCells a)[(i + 1) * 3 + j]? = (frCells a)[i * 3 + j]? := by
        intro j
        rw [List.getElem?_append_right (by simp [frCell]; omega)]
        congr 1
        simp [frCell]; omega
      have e0 := e 0
      simp only [Nat.add_zero] at e0
      rw [e0, e 1, e 2]
      simpa using h1
theorem frCell_one (f : Fr) : ∀ u : Value, u ∈ frCell f → u.oneCell' = true := by
  intro u hu
  simp only [frCell, List.mem_cons, List.not_mem_nil, or_false] at hu
  rcases hu with rfl | rfl | rfl <;> rfl
theorem frCells_ones (a : List Fr) : ∀ u : Value, u ∈ frCells a → u.oneCell' = true := by
  intro u hu
  simp only [frCells, List.mem_flatMap] at hu
  obtain ⟨f, _, hf⟩ := hu
  exact frCell_one f u hf
theorem Try.infoFrame : (Try.prog.info? 33).map (fun i => (i.zero, i.size, i.bytes)) = some (some (.agg #[.int .i64 0, .int .i64 0, .string ⟨#[]⟩]), 3, 32) := by kernel_rfl
theorem addr_add (g j : Nat) : (⟨g, 0, none⟩ : Addr).add j = ⟨g, j, none⟩ := by simp [Addr.add]; intro h0; exact h0.symm
theorem fr_new (w : World) (f : Fr) (t : TypeId) : ∀ j u, (frCell f)[j]? = some u → (w.alloc (.cells #[.int .i64 (f.1 : Int), .int .i64 (f.2.1 : Int), .string f.2.2] t)).cell? ((⟨w.heap.size, 0, none⟩ : Addr).add j) = some u := by
  intro j u hj
  rw [addr_add]
  match j with
  | 0 => simp [frCell] at hj; subst hj; exact cell_one_new0 _ _ _ _ _
  | 1 => simp [frCell] at hj; subst hj; exact cell_one_new1 _ _ _ _ _
  | 2 => simp [frCell] at hj; subst hj; exact cell_one_new2 _ _ _ _ _
  | j + 3 => simp [frCell] at hj
theorem size_alloc (w : World) (o : Obj) : (w.alloc o).heap.size = w.heap.size + 1 := by simp
theorem fr_new2 (w : World) (o : Obj) (v k : Nat) (p : ByteArray) (t : TypeId) : ∀ j u, (frCell (v, k, p))[j]? = some u → ((w.alloc o).alloc (.cells #[.int .i64 (v : Int), .int .i64 (k : Int), .string p] t)).cell? ((⟨w.heap.size + 1, 0, none⟩ : Addr).add j) = some u := by
  intro j u hj
  have := fr_new (w.alloc o) (v, k, p) t j u hj
  rwa [size_alloc] at this
theorem grown_bel {B t sz n : Nat} {w wr w' : World} {v : Value} {xs : List Value} (hbel : Below B w wr) (hB : B ≤ wr.heap.size) (hown : wr.ownsRow B t sz v n xs) (hg : wr.grownBy w' v.ownBlock) : Below B w w' :=
  hbel.grown hg hB (fun k hk => (hown.lt k hk).1)
theorem own_kept {W W' : World} {B B' e size n : Nat} {v : Value} {xs : List Value} (h : W.ownsRow B e size v n xs) (hb : Below W.heap.size W W') (hB : B' ≤ B) : W'.ownsRow B' e size v n xs := by
  have h1 := own_below h hb
  refine ⟨h1.1, ?_⟩
  rcases h1.2 with h2 | ⟨g, cap, cur, hv, hg, r⟩
  · exact .inl h2
  · exact .inr ⟨g, cap, cur, hv, Nat.le_trans hB hg, r⟩
end Go.Proofs.Ytiaggbdkkbkclaa
