/- A server and a transaction in memory. -/
import Derived.Test.YthpgkfonbmffdaaGreatDoorSvPlain
import Derived.Test.YthpgkfonbmffdaaGreatDoorDlDiff
import Derived.Test.YthpgkfonbmffdaaGreatDoorDlGrow
namespace Go.Proofs.YthpgkfonbmffdaaGreatDoor
open Go.RowKit

/-- The five cells of a server (and of a transaction). -/
def svC (v : SvD) (aj an al : Option Addr) (cj cn cl : Nat) : Array Value := #[.int .i64 v.s.rev, .slice aj v.s.jobs.length cj, .slice an v.s.nodes.length cn, .slice al v.s.leases.length cl, .int .i64 v.now]
def RowT (t : TypeId) : Prop := t ≠ 38 ∧ t ≠ 40 ∧ t ≠ 42
theorem rowT_sv : RowT 77 := by unfold RowT; decide
theorem rowT_tx : RowT 117 := by unfold RowT; decide
theorem rowT_st : RowT 26 := by unfold RowT; decide
/-- A server at block b. -/
def SvAt (b : Nat) (v : SvD) (w : World) : Prop := ∃ aj an al cj cn cl, ObjAt b (svC v aj an al cj cn cl) 77 w ∧ OwnS 0 aj an al cj cn cl v.s w
/-- A transaction at block b. -/
def TxAt (b : Nat) (v : SvD) (w : World) : Prop := ∃ aj an al cj cn cl, ObjAt b (svC v aj an al cj cn cl) 117 w ∧ OwnS 0 aj an al cj cn cl v.s w
theorem ownS_gN {B N : Nat} {aj an al : Option Addr} {cj cn cl : Nat} {s : StD} {w w' : World} {vs : Array Value} {t : TypeId} (h : OwnS B aj an al cj cn cl s w) (ho : ObjAt N vs t w) (ht : RowT t) (g : w.grownBy w' (some N)) : OwnS B aj an al cj cn cl s w' :=
  ⟨own_gN h.1 ho ht.1 g, own_gN h.2.1 ho ht.2.1 g, own_gN h.2.2 ho ht.2.2 g⟩
theorem ownS_set1 {B b : Nat} {aj an al : Option Addr} {cj cn cl : Nat} {s : StD} {w : World} {vs : Array Value} {t : TypeId} (h : OwnS B aj an al cj cn cl s w) (ho : ObjAt b vs t w) (ht : RowT t) (j : Nat) (u : Value) : OwnS B aj an al cj cn cl s (w.setCell ⟨b, j, none⟩ u) :=
  ⟨own_box h.1 ho ht.1 j u, own_box h.2.1 ho ht.2.1 j u, own_box h.2.2 ho ht.2.2 j u⟩
theorem svAt_next {b : Nat} {v : SvD} {w w' : World} (h : SvAt b v w) (hb : Below w.heap.size w w') : SvAt b v w' := by
  obtain ⟨aj, an, al, cj, cn, cl, o, r⟩ := h
  exact ⟨aj, an, al, cj, cn, cl, objAt_next o hb, ownS_next r hb⟩
theorem svAt_gN {b N : Nat} {v : SvD} {w w' : World} {vs : Array Value} {t : TypeId} (h : SvAt b v w) (hn : b ≠ N) (ho : ObjAt N vs t w) (ht : RowT t) (g : w.grownBy w' (some N)) : SvAt b v w' := by
  obtain ⟨aj, an, al, cj, cn, cl, o, r⟩ := h
  exact ⟨aj, an, al, cj, cn, cl, objAt_gN o hn g, ownS_gN r ho ht g⟩
theorem svAt_lt {b : Nat} {v : SvD} {w : World} (h : SvAt b v w) : b < w.heap.size := by
  obtain ⟨_, _, _, _, _, _, o, _⟩ := h
  exact objAt_lt o
theorem txAt_next {b : Nat} {v : SvD} {w w' : World} (h : TxAt b v w) (hb : Below w.heap.size w w') : TxAt b v w' := by
  obtain ⟨aj, an, al, cj, cn, cl, o, r⟩ := h
  exact ⟨aj, an, al, cj, cn, cl, objAt_next o hb, ownS_next r hb⟩
theorem txAt_lt {b : Nat} {v : SvD} {w : World} (h : TxAt b v w) : b < w.heap.size := by
  obtain ⟨_, _, _, _, _, _, o, _⟩ := h
  exact objAt_lt o
theorem svAt_other {b c : Nat} {v u : SvD} {w w' : World} (h : SvAt b v w) (k : TxAt c u w) (g : w.grownBy w' (some c)) : SvAt b v w' := by
  obtain ⟨_, _, _, _, _, _, o, _⟩ := k
  have o2 := h
  obtain ⟨_, _, _, _, _, _, p, _⟩ := h
  refine svAt_gN o2 (fun e => ?_) o rowT_tx g
  subst e
  unfold ObjAt at o p
  rw [o] at p
  simp at p
theorem svAt_two {b c : Nat} {v u : SvD} {w w' : World} (h : SvAt b v w) (k : SvAt c u w) (hn : b ≠ c) (g : w.grownBy w' (some c)) : SvAt b v w' := by
  obtain ⟨_, _, _, _, _, _, o, _⟩ := k
  exact svAt_gN h hn o rowT_sv g
/-- What was below a server's block is as it was. -/
theorem sv_low {B b : Nat} {w0 w w' : World} (h : Below B w0 w) (hB : B ≤ w.heap.size) (hb : B ≤ b) (g : w.grownBy w' (some b)) : Below B w0 w' := gN_below h hB hb g
/-- Only the server's block was written: rows and blocks that the call did not make are as they were. -/
theorem gN_of_below {N : Nat} {w w' : World} (h : Below w.heap.size w w') : w.grownBy w' (some N) := gN_next (gN_refl N w) h
theorem gN_new {N : Nat} {w w' : World} (hN : w.heap.size ≤ N) (g : w.grownBy w' (some N)) : Below w.heap.size w w' := gN_below (Below.refl _ _) (Nat.le_refl _) hN g
theorem own_is {B e sz n : Nat} {ad : Option Addr} {cap : Nat} {xs : List Value} {w : World} (h : w.ownsRow B e sz (.slice ad n cap) n xs) : w.ownsRow 0 e sz (.slice ad n cap) n xs := ownsRow_low h (Nat.zero_le _)
end Go.Proofs.YthpgkfonbmffdaaGreatDoor
