/- What a law on a server knows of it between two requests. -/
import Derived.Test.YthpgkfonbmffdaaGreatDoorSvServed
import Derived.Test.YthpgkfonbmffdaaGreatDoorSvLaws
import Derived.Test.YthpgkfonbmffdaaGreatDoorSvArg
import Derived.Test.YthpgkfonbmffdaaGreatDoorDlBox
namespace Go.Proofs.YthpgkfonbmffdaaGreatDoor
open Go.RowKit Go.Lib

def SvIn (w0 : World) (b : Nat) (v : SvD) (w : World) : Prop := SvAt b v w ∧ checkE V8 v.s = 0 ∧ (0 ≤ v.now ∧ v.now ≤ 1099511627776) ∧ Below w0.heap.size w0 w ∧ w0.heap.size ≤ b ∧ w0.heap.size ≤ w.heap.size ∧ Tabs w
theorem svIn_next {w0 w w' : World} {b : Nat} {v : SvD} (h : SvIn w0 b v w) (hb : Below w.heap.size w w') : SvIn w0 b v w' :=
  ⟨svAt_next h.1 hb, h.2.1, h.2.2.1, below_trans h.2.2.2.1 hb h.2.2.2.2.2.1, h.2.2.2.2.1, Nat.le_trans h.2.2.2.2.2.1 hb.size, h.2.2.2.2.2.2.below hb⟩
theorem svIn_new {w0 w' : World} {b : Nat} {s : StD} (hv : checkE V8 s = 0) (h : SvAt b ⟨s, 0⟩ w') (B : Below w0.heap.size w0 w') (hT : Tabs w0) (hb : w0.heap.size ≤ b) : SvIn w0 b ⟨s, 0⟩ w' :=
  ⟨h, hv, by show (0 : Int) ≤ 0 ∧ (0 : Int) ≤ _; decide, B, hb, B.size, hT.below B⟩
theorem svIn_tabs {w w' : World} {b : Nat} {v : SvD} (h : SvAt b v w) (hT : Tabs w) (g : w.grownBy w' (some b)) : Tabs w' := by
  obtain ⟨aj, an, al, cj, cn, cl, ho, -⟩ := h
  exact tabs_gN hT ho rfl g
theorem svIn_do {w0 w w' : World} {b : Nat} {v : SvD} {q : ReqD} (h : SvIn w0 b v w) (k : SvAt b (doR V8 v.s v.now q).1 w') (g : w.grownBy w' (some b)) : SvIn w0 b (doR V8 v.s v.now q).1 w' :=
  ⟨k, (check_zero V8 _).2 (doR_valid ((check_zero V8 _).1 h.2.1) v.now q), ⟨by have := (doR_now (s := v.s) (U := V8) v.now q h.2.2.1).1; have := h.2.2.1.1; omega, (doR_now (s := v.s) (U := V8) v.now q h.2.2.1).2⟩, gN_below h.2.2.2.1 h.2.2.2.2.2.1 h.2.2.2.2.1 g, h.2.2.2.2.1, Nat.le_trans h.2.2.2.2.2.1 g.size, svIn_tabs h.1 h.2.2.2.2.2.2 g⟩
/-- Rows of one's own stay when the server at b turns. -/
theorem svOwn_do {w w' : World} {b B : Nat} {v : SvD} {aj an al : Option Addr} {cj cn cl : Nat} {s : StD} (h : OwnS B aj an al cj cn cl s w) (k : SvAt b v w) (g : w.grownBy w' (some b)) : OwnS B aj an al cj cn cl s w' := by
  obtain ⟨_, _, _, _, _, _, ho, -⟩ := k
  exact ownS_gN h ho rowT_sv g
theorem svNe {w : World} {b N : Nat} {v : SvD} {vs : Array Value} {t : TypeId} (k : SvAt b v w) (o : ObjAt N vs t w) (ht : t ≠ 77) : N ≠ b := by
  obtain ⟨aj, an, al, cj, cn, cl, ho, -⟩ := k
  rintro rfl
  have := o.symm.trans ho
  simp at this
  exact ht this.2
end Go.Proofs.YthpgkfonbmffdaaGreatDoor
