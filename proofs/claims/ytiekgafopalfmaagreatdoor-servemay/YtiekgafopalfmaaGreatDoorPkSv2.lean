import Derived.Test.YtiekgafopalfmaaGreatDoorPkSv1
import Derived.Test.YtiekgafopalfmaaGreatDoorPkDl5
import Derived.Test.YtiekgafopalfmaaGreatDoorUpEq
import Derived.Test.YtiekgafopalfmaaGreatDoorPkUp4
/- A server and a transaction in memory. -/
namespace Go.Proofs.YtiekgafopalfmaaGreatDoor
open Go.RowKit

/-- The five cells of a server (and of a transaction). -/
def svC (v : SvD) (aj an al : Option Addr) (cj cn cl : Nat) : Array Value := #[.int .i64 v.s.rev, .slice aj v.s.jobs.length cj, .slice an v.s.nodes.length cn, .slice al v.s.leases.length cl, .int .i64 v.now]
def RowT (t : TypeId) : Prop := t ≠ 38 ∧ t ≠ 40 ∧ t ≠ 42
theorem rowT_sv : RowT 59 := by unfold RowT; decide
theorem rowT_tx : RowT 96 := by unfold RowT; decide
theorem rowT_st : RowT 26 := by unfold RowT; decide
/-- A server at block b. -/
def SvAt (b : Nat) (v : SvD) (w : World) : Prop := ∃ aj an al cj cn cl, ObjAt b (svC v aj an al cj cn cl) 59 w ∧ OwnS 0 aj an al cj cn cl v.s w
/-- A transaction at block b. -/
def TxAt (b : Nat) (v : SvD) (w : World) : Prop := ∃ aj an al cj cn cl, ObjAt b (svC v aj an al cj cn cl) 96 w ∧ OwnS 0 aj an al cj cn cl v.s w
theorem ownS_gN {B N : Nat} {aj an al : Option Addr} {cj cn cl : Nat} {s : StD} {w w' : World} {vs : Array Value} {t : TypeId} (h : OwnS B aj an al cj cn cl s w) (ho : ObjAt N vs t w) (ht : RowT t) (g : w.grownBy w' (some N)) : OwnS B aj an al cj cn cl s w' :=
  ⟨own_gN h.1 ho ht.1 g, own_gN h.2.1 ho ht.2.1 g, own_gN h.2.2 ho ht.2.2 g⟩
theorem ownS_set1 {B b : Nat} {aj an al : Option Addr} {cj cn cl : Nat} {s : StD} {w : World} {vs : Array Value} {t : TypeId} (h : OwnS B aj an al cj cn cl s w) (ho : ObjAt b vs t w) (ht : RowT t) (j : Nat) (u : Value) : OwnS B aj an al cj cn cl s (w.setCell ⟨b, j, none⟩ u) :=
  ⟨own_box h.1 ho ht.1 j u, own_box h.2.1 ho ht.2.1 j u, own_box h.2.2 ho ht.2.2 j u⟩
theorem svAt_next {b : Nat} {v : SvD} {w w' : World} (h : SvAt b v w) (hb : Below w.heap.size w w') : SvAt b v w' := by
  obtain ⟨aj, an, al, cj, cn, cl, o, r⟩ := h
  exact ⟨aj, an, al, cj, cn, cl, objAt_next o hb, ownS_next r hb⟩
theorem svAt_gN {b N : Nat} {v : SvD} {w w' : World} {vs : Array Value} {t : TypeId} (h : SvAt b v w) (hn : b ≠ N) (ho : ObjAt N vs t w) (ht : RowT t) (g : w.grownBy w' (some N)) : SvAt b v w' := by
  obtain ⟨aj, an, al, cj, cn, cl, o, r⟩ := h
  exact ⟨aj, an, al, cj, cn, cl, objAt_gN o hn g, ownS_gN r ho ht g⟩
theorem svAt_lt {b : Nat} {v : SvD} {w : World} (h : SvAt b v w) : b < w.heap.size := by
  obtain ⟨_, _, _, _, _, _, o, _⟩ := h
  exact objAt_lt o
theorem txAt_next {b : Nat} {v : SvD} {w w' : World} (h : TxAt b v w) (hb : Below w.heap.size w w') : TxAt b v w' := by
  obtain ⟨aj, an, al, cj, cn, cl, o, r⟩ := h
  exact ⟨aj, an, al, cj, cn, cl, objAt_next o hb, ownS_next r hb⟩
theorem txAt_lt {b : Nat} {v : SvD} {w : World} (h : TxAt b v w) : b < w.heap.size := by
  obtain ⟨_, _, _, _, _, _, o, _⟩ := h
  exact objAt_lt o
theorem svAt_other {b c : Nat} {v u : SvD} {w w' : World} (h : SvAt b v w) (k : TxAt c u w) (g : w.grownBy w' (some c)) : SvAt b v w' := by
  obtain ⟨_, _, _, _, _, _, o, _⟩ := k
  have o2 := h
  obtain ⟨_, _, _, _, _, _, p, _⟩ := h
  refine svAt_gN o2 (fun e => ?_) o rowT_tx g
  subst e
  unfold ObjAt at o p
  rw [o] at p
  simp at p
theorem svAt_two {b c : Nat} {v u : SvD} {w w' : World} (h : SvAt b v w) (k : SvAt c u w) (hn : b ≠ c) (g : w.grownBy w' (some c)) : SvAt b v w' := by
  obtain ⟨_, _, _, _, _, _, o, _⟩ := k
  exact svAt_gN h hn o rowT_sv g
/-- What was below a server's block is as it was. -/
theorem sv_low {B b : Nat} {w0 w w' : World} (h : Below B w0 w) (hB : B ≤ w.heap.size) (hb : B ≤ b) (g : w.grownBy w' (some b)) : Below B w0 w' := gN_below h hB hb g
/-- Only the server's block was written: rows and blocks that the call did not make are as they were. -/
theorem gN_of_below {N : Nat} {w w' : World} (h : Below w.heap.size w w') : w.grownBy w' (some N) := gN_next (gN_refl N w) h
theorem gN_new {N : Nat} {w w' : World} (hN : w.heap.size ≤ N) (g : w.grownBy w' (some N)) : Below w.heap.size w w' := gN_below (Below.refl _ _) (Nat.le_refl _) hN g
theorem own_is {B e sz n : Nat} {ad : Option Addr} {cap : Nat} {xs : List Value} {w : World} (h : w.ownsRow B e sz (.slice ad n cap) n xs) : w.ownsRow 0 e sz (.slice ad n cap) n xs := ownsRow_low h (Nat.zero_le _)
end Go.Proofs.YtiekgafopalfmaaGreatDoor

/- More on servers in memory. -/
namespace Go.Proofs.YtiekgafopalfmaaGreatDoor
open Go.RowKit

/-- The library's tables stand whatever a block of numbers becomes. -/
theorem tabs_gN {w w' : World} {c : Nat} {r : Int} {vs : Array Value} {t : TypeId} (h : Tabs w) (ho : ObjAt c vs t w) (h0 : vs[0]? = some (.int .i64 r)) (g : w.grownBy w' (some c)) : Tabs w' := by
  have c0 := objAt_cell ho 0 h0
  have lt : ∀ {a : Addr} {v : Value}, w.cell? a = some v → a.block < w.heap.size := fun {a v} hc => by
    rcases Nat.lt_or_ge a.block w.heap.size with h' | h'
    · exact h'
    · simp [World.cell?, Array.getElem?_eq_none h'] at hc
  have far : ∀ {a : Addr} {v : Value}, w.cell? a = some v → a.block ≠ c → w'.cell? a = some v := fun {a v} hc hn => by
    rw [World.cell?_of_block (g.block a.block (lt hc) (by simpa using hn))]; exact hc
  refine ⟨fun k hk => far (h.1 k hk) (fun e => ?_), fun i hi => ⟨far (h.2 i hi).1 (fun e => ?_), far (h.2 i hi).2 (fun e => ?_)⟩⟩
  · have e : Tryz.laysValid_ren.g 3 = c := e
    have := h.1 0 (by decide)
    rw [e, c0] at this; simp at this
  · have e : Tryz.laysValid_ren.g 4 = c := e
    have := (h.2 0 (by decide)).1
    rw [e, Nat.mul_zero, c0] at this; simp at this
  · have e : Tryz.laysValid_ren.g 4 = c := e
    have := (h.2 0 (by decide)).1
    rw [e, Nat.mul_zero, c0] at this; simp at this
theorem wf_sv {n : Int} (h : -9223372036854775808 ≤ n ∧ n ≤ 9223372036854775807) : (Lit.int .i64 n).wf = true := by
  simp [Lit.wf, IntKind.min, IntKind.max, IntKind.signed, IntKind.bits]; omega
theorem wState_sv {s : StD} (h : checkE V8 s = 0) : wState s := wState_ok (ok_of_valid (v := 3) ((check_zero V8 s).1 h) (by simp [fitsD]))
end Go.Proofs.YtiekgafopalfmaaGreatDoor

/- Package serve's comparison of two states' rows; a server's State, Now and New. -/
namespace Go.Proofs.YtiekgafopalfmaaGreatDoor
open Go.RowKit

set_option maxRecDepth 100000 in
set_option maxHeartbeats 1000000 in
theorem svSame_is (s t : StD) (aj an al aj' an' al' : Option Addr) (cj cn cl cj' cn' cl' : Nat) (hs : s.jobs.length ≤ 140737488355328 ∧ s.nodes.length ≤ 140737488355328 ∧ s.leases.length ≤ 140737488355328) (w : World)
    (hj : JobsAt w aj s.jobs) (hn : NodesAt w an s.nodes) (hl : LeasesAt w al s.leases) (hj' : JobsAt w aj' t.jobs) (hn' : NodesAt w an' t.nodes) (hl' : LeasesAt w al' t.leases) :
    Calls Tryz.prog 89 #[.agg #[.int .i64 s.rev, .slice aj s.jobs.length cj, .slice an s.nodes.length cn, .slice al s.leases.length cl], .agg #[.int .i64 t.rev, .slice aj' t.jobs.length cj', .slice an' t.nodes.length cn', .slice al' t.leases.length cl']] w fun e w' => ∃ c : Bool, e = .returned (.bool c) ∧ (c = true ↔ SameRows s t) ∧ Below w.heap.size w w' := by
  obtain ⟨W, hW⟩ : ∃ W, (w.alloc (.cells #[.int .i64 s.rev, .slice aj s.jobs.length cj, .slice an s.nodes.length cn, .slice al s.leases.length cl] 26)).alloc (.cells #[.int .i64 t.rev, .slice aj' t.jobs.length cj', .slice an' t.nodes.length cn', .slice al' t.leases.length cl'] 26) = W := ⟨_, rfl⟩
  have q1 := box_alloc (box_new4 w (.int .i64 s.rev) (.slice aj s.jobs.length cj) (.slice an s.nodes.length cn) (.slice al s.leases.length cl) 26) (.cells #[.int .i64 t.rev, .slice aj' t.jobs.length cj', .slice an' t.nodes.length cn', .slice al' t.leases.length cl'] 26)
  have q2 := box_new4 (w.alloc (.cells #[.int .i64 s.rev, .slice aj s.jobs.length cj, .slice an s.nodes.length cn, .slice al s.leases.length cl] 26)) (.int .i64 t.rev) (.slice aj' t.jobs.length cj') (.slice an' t.nodes.length cn') (.slice al' t.leases.length cl') 26
  have bW : Below w.heap.size w W := by rw [← hW]; exact below_trans (below_one _ _) (below_one _ _) (by simp)
  rw [hW] at q1 q2
  rw [World.size_alloc] at q2
  have HJ := Lib.hid (equalJobs_is s.jobs t.jobs aj aj' cj cj' hs.1 W (jobsAt_next hj bW) (jobsAt_next hj' bW))
  have HN := Lib.hid (fun W' (hb : Below w.heap.size w W') => equalNodes_is s.nodes t.nodes an an' cn cn' hs.2.1 W' (nodesAt_next hn hb) (nodesAt_next hn' hb))
  have HL := Lib.hid (fun W' (hb : Below w.heap.size w W') => equalLeases_is s.leases t.leases al al' cl cl' hs.2.2 W' (leasesAt_next hl hb) (leasesAt_next hl' hb))
  have Q1 := Lib.hid q1
  have Q2 := Lib.hid q2
  have a1 := q1.1 1 _ rfl
  have b1 := q2.1 1 _ rfl
  have HW := Lib.hid hW
  have BW := Lib.hid bW
  clear hj hn hl hj' hn' hl' q1 q2 hs bW
  go_enter Tryz.func89, Tryz.ntmps89
  go_wp2_with fail
  refine HJ.out.mono ?_
  rintro e w1 ⟨c1, rfl, i1, x1⟩
  have B1 := below_trans BW.out x1 BW.out.size
  have p1 := box_next Q1.out x1
  have p2 := box_next Q2.out x1
  have a2 := p1.1 2 _ rfl
  have b2 := p2.1 2 _ rfl
  have I1 := Lib.hid i1
  clear a1 b1 i1
  cases c1 with
  | false =>
    have BB := Lib.hid B1
    clear B1 p1 p2 a2 b2 x1
    go_wp2
    go_ret
    exact ⟨false, rfl, ⟨fun h => (by cases h), fun h => by have := I1.out.2 h.1; cases this⟩, BB.out⟩
  | true =>
    have HN1 := Lib.hid (HN.out w1 B1)
    go_wp2_with fail
    refine HN1.out.mono ?_
    rintro e w2 ⟨c2, rfl, i2, x2⟩
    have B2 := below_trans B1 x2 B1.size
    have r1 := box_next p1 x2
    have r2 := box_next p2 x2
    have a3 := r1.1 3 _ rfl
    have b3 := r2.1 3 _ rfl
    have I2 := Lib.hid i2
    clear a2 b2 i2
    cases c2 with
    | false =>
      have BB := Lib.hid B2
      clear B1 B2 p1 p2 r1 r2 a3 b3 x1 x2
      go_wp2
      go_ret
      exact ⟨false, rfl, ⟨fun h => (by cases h), fun h => by have := I2.out.2 h.2.1; cases this⟩, BB.out⟩
    | true =>
      have HL1 := Lib.hid (HL.out w2 B2)
      go_wp2_with fail
      refine HL1.out.mono ?_
      rintro e w3 ⟨c3, rfl, i3, x3⟩
      have B3 := Lib.hid (below_trans B2 x3 B2.size)
      have I3 := Lib.hid i3
      clear i3 a3 b3 B1 B2 p1 p2 r1 r2 x1 x2 x3
      go_wp2
      go_ret
      exact ⟨c3, rfl, ⟨fun h => ⟨I1.out.1 (by first | rfl | trivial), I2.out.1 (by first | rfl | trivial), I3.out.1 h⟩, fun h => I3.out.2 h.2.2⟩, B3.out⟩
set_option maxRecDepth 100000 in
theorem svNow_is (b : Nat) (v : SvD) (w : World) (h : SvAt b v w) : Calls Tryz.prog 13 #[.pointer (some ⟨b, 0, none⟩)] w fun e w' => e = .returned (.int .i64 v.now) ∧ w' = w := by
  obtain ⟨aj, an, al, cj, cn, cl, o, _⟩ := h
  unfold svC at o
  have k4 := objAt_cell o 4 rfl
  have lt := objAt_lt o
  clear o
  go_enter Tryz.func13, Tryz.ntmps13
  go_wp2
  go_ret
  exact ⟨rfl, rfl⟩
theorem small_sv {s : StD} (h : checkE V8 s = 0) : (s.jobs.length ≤ 40 ∧ s.nodes.length ≤ 40 ∧ s.leases.length ≤ 40) ∧ ((∀ x ∈ s.jobs, x.name.size ≤ 140737488355328 ∧ x.tag.size ≤ 140737488355328) ∧ (∀ x ∈ s.nodes, x.name.size ≤ 140737488355328 ∧ x.zone.size ≤ 140737488355328) ∧ ∀ x ∈ s.leases, x.job.size ≤ 140737488355328 ∧ x.node.size ≤ 140737488355328) := small_valid h
set_option maxRecDepth 100000 in
theorem svState_is (b : Nat) (v : SvD) (hv : checkE V8 v.s = 0) (w : World) (h : SvAt b v w) : Calls Tryz.prog 12 #[.pointer (some ⟨b, 0, none⟩)] w fun e w' => ∃ aj an al cj cn cl, e = .returned (.agg #[.int .i64 v.s.rev, .slice aj v.s.jobs.length cj, .slice an v.s.nodes.length cn, .slice al v.s.leases.length cl]) ∧ OwnS w.heap.size aj an al cj cn cl v.s w' ∧ Below w.heap.size w w' := by
  obtain ⟨aj, an, al, cj, cn, cl, o, x⟩ := h
  unfold svC at o
  obtain ⟨W, hW⟩ : ∃ W, w.alloc (.cells #[.int .i64 0, .slice none 0 0, .slice none 0 0, .slice none 0 0] 26) = W := ⟨_, rfl⟩
  have bA := below_one w (.cells #[.int .i64 0, .slice none 0 0, .slice none 0 0, .slice none 0 0] 26)
  have oR := objAt_new w #[.int .i64 0, .slice none 0 0, .slice none 0 0, .slice none 0 0] 26
  rw [hW] at bA oR
  have oB := objAt_next o bA
  have xB := ownS_next x bA
  have k0 := objAt_cell oB 0 rfl
  have k1 := objAt_cell oB 1 rfl
  have k2 := objAt_cell oB 2 rfl
  have k3 := objAt_cell oB 3 rfl
  have lt := objAt_lt oB
  obtain ⟨hl, hz⟩ := small_sv hv
  have C1 := Lib.hid (copy_is v.s aj an al cj cn cl hl hz W (ownS_at xB).1 (ownS_at xB).2.1 (ownS_at xB).2.2)
  have BA := Lib.hid bA
  have OR := Lib.hid oR
  clear o x hl hz oB xB bA oR
  go_enter Tryz.func12, Tryz.ntmps12
  go_wp2_with fail
  refine C1.out.mono ?_
  rintro e w1 ⟨aj', cj', an', cn', al', cl', rfl, r1, r2, r3, b1⟩
  have R := show OwnS W.heap.size aj' an' al' cj' cn' cl' v.s w1 from ⟨r1, r2, r3⟩
  have o1 := objAt_next OR.out b1
  have B1 := below_trans BA.out b1 BA.out.size
  clear r1 r2 r3 b1 k0 k1 k2 k3
  have k0 := objAt_cell o1 0 rfl
  have f0 := objAt_free o1 0
  have k1 := objAt_cell o1 1 rfl
  have f1 := objAt_free o1 1
  have k2 := objAt_cell o1 2 rfl
  have f2 := objAt_free o1 2
  have k3 := objAt_cell o1 3 rfl
  have f3 := objAt_free o1 3
  have kl := objAt_lt o1
  have oF := obj_put4 o1 (.int .i64 v.s.rev) (.slice aj' v.s.jobs.length cj') (.slice an' v.s.nodes.length cn') (.slice al' v.s.leases.length cl')
  have t0 := objAt_cell oF 0 rfl
  have t1 := objAt_cell oF 1 rfl
  have t2 := objAt_cell oF 2 rfl
  have t3 := objAt_cell oF 3 rfl
  have TT := Lib.hid (And.intro t0 (And.intro t1 (And.intro t2 t3)))
  have RF := Lib.hid (ownS_put4 (ownS_low R BA.out.size) o1 (.int .i64 v.s.rev) (.slice aj' v.s.jobs.length cj') (.slice an' v.s.nodes.length cn') (.slice al' v.s.leases.length cl'))
  have BF := Lib.hid (below_put4 B1 (Nat.le_refl _) (.int .i64 v.s.rev) (.slice aj' v.s.jobs.length cj') (.slice an' v.s.nodes.length cn') (.slice al' v.s.leases.length cl'))
  clear oF t0 t1 t2 t3 o1 R B1
  go_wp2
  obtain ⟨t0, t1, t2, t3⟩ := TT.out
  exact bodyPost_ret (v := .agg #[.int .i64 v.s.rev, .slice aj' v.s.jobs.length cj', .slice an' v.s.nodes.length cn', .slice al' v.s.leases.length cl']) (by simp [results, Tryz.results12, go_sem, t0, t1, t2, t3]) rfl ⟨aj', an', al', cj', cn', cl', rfl, RF.out, BF.out⟩
set_option maxRecDepth 100000 in
theorem svNew_bad (s : StD) (aj an al : Option Addr) (cj cn cl : Nat) (hw : wState s) (hv : checkE V8 s ≠ 0) (w : World) (hT : Tabs w) (hm : JobsAt w aj s.jobs ∧ NodesAt w an s.nodes ∧ LeasesAt w al s.leases) : Calls Tryz.prog 5 #[.agg #[.int .i64 s.rev, .slice aj s.jobs.length cj, .slice an s.nodes.length cn, .slice al s.leases.length cl]] w fun e w' => e = .returned (.tuple #[.pointer none, .int .i64 (checkE V8 s : Nat)]) ∧ Below w.heap.size w w' := by
  have bA := below_one w (.cells #[.int .i64 s.rev, .slice aj s.jobs.length cj, .slice an s.nodes.length cn, .slice al s.leases.length cl] 26)
  have oA := objAt_new w #[.int .i64 s.rev, .slice aj s.jobs.length cj, .slice an s.nodes.length cn, .slice al s.leases.length cl] 26
  obtain ⟨W, hW⟩ : ∃ W, w.alloc (.cells #[.int .i64 s.rev, .slice aj s.jobs.length cj, .slice an s.nodes.length cn, .slice al s.leases.length cl] 26) = W := ⟨_, rfl⟩
  rw [hW] at bA oA
  have C1 := check_any s.rev aj an al cj cn cl s.jobs s.nodes s.leases hw W (hT.below bA) (jobsAt_next hm.1 bA) (nodesAt_next hm.2.1 bA) (leasesAt_next hm.2.2 bA)
  obtain ⟨z, hz⟩ : ∃ z : Nat, checkE V8 s = z := ⟨_, rfl⟩
  have hz' : checkE V8 ⟨s.rev, s.jobs, s.nodes, s.leases⟩ = z := hz
  rw [hz'] at C1
  rw [hz] at hv ⊢
  have C1 := Lib.hid C1
  have hzz : ((z : Int) == 0) = false := by simpa using hv
  have k0 := objAt_cell oA 0 rfl
  have k1 := objAt_cell oA 1 rfl
  have k2 := objAt_cell oA 2 rfl
  have k3 := objAt_cell oA 3 rfl
  have BA := Lib.hid bA
  clear bA oA hT hm hz hz'
  go_enter Tryz.func5, Tryz.ntmps5
  go_wp2_with fail
  refine C1.out.mono ?_
  rintro e w1 ⟨rfl, b1⟩
  have B1 := Lib.hid (below_trans BA.out b1 BA.out.size)
  clear b1 k0 k1 k2 k3
  go_wp2
  go_ret2
  exact ⟨rfl, B1.out⟩
set_option maxRecDepth 100000 in
set_option maxHeartbeats 1000000 in
theorem svNew_ok (s : StD) (aj an al : Option Addr) (cj cn cl : Nat) (hv : checkE V8 s = 0) (w : World) (hT : Tabs w) (hm : JobsAt w aj s.jobs ∧ NodesAt w an s.nodes ∧ LeasesAt w al s.leases) : Calls Tryz.prog 5 #[.agg #[.int .i64 s.rev, .slice aj s.jobs.length cj, .slice an s.nodes.length cn, .slice al s.leases.length cl]] w fun e w' => ∃ b, e = .returned (.tuple #[.pointer (some ⟨b, 0, none⟩), .int .i64 0]) ∧ w.heap.size ≤ b ∧ SvAt b ⟨s, 0⟩ w' ∧ Below w.heap.size w w' := by
  have bA := below_one w (.cells #[.int .i64 s.rev, .slice aj s.jobs.length cj, .slice an s.nodes.length cn, .slice al s.leases.length cl] 26)
  have oA := objAt_new w #[.int .i64 s.rev, .slice aj s.jobs.length cj, .slice an s.nodes.length cn, .slice al s.leases.length cl] 26
  obtain ⟨W, hW⟩ : ∃ W, w.alloc (.cells #[.int .i64 s.rev, .slice aj s.jobs.length cj, .slice an s.nodes.length cn, .slice al s.leases.length cl] 26) = W := ⟨_, rfl⟩
  rw [hW] at bA oA
  have C1 := check_any s.rev aj an al cj cn cl s.jobs s.nodes s.leases (wState_sv hv) W (hT.below bA) (jobsAt_next hm.1 bA) (nodesAt_next hm.2.1 bA) (leasesAt_next hm.2.2 bA)
  have hz' : checkE V8 ⟨s.rev, s.jobs, s.nodes, s.leases⟩ = 0 := hv
  rw [hz'] at C1
  have C1 := Lib.hid C1
  obtain ⟨hl, hz⟩ := small_sv hv
  have C2 := Lib.hid (fun (V : World) (b : Below w.heap.size w V) => copy_is s aj an al cj cn cl hl hz V (jobsAt_next hm.1 b) (nodesAt_next hm.2.1 b) (leasesAt_next hm.2.2 b))
  have k0 := objAt_cell oA 0 rfl
  have k1 := objAt_cell oA 1 rfl
  have k2 := objAt_cell oA 2 rfl
  have k3 := objAt_cell oA 3 rfl
  have BA := Lib.hid bA
  have OA := Lib.hid oA
  clear bA oA hT hm hz' hl hz
  go_enter Tryz.func5, Tryz.ntmps5
  go_wp2_with fail
  refine C1.out.mono ?_
  rintro e w1 ⟨rfl, b1⟩
  have oA1 := objAt_next OA.out b1
  have B1 := below_trans BA.out b1 BA.out.size
  clear b1 k0 k1 k2 k3
  have k0 := objAt_cell oA1 0 rfl
  have k1 := objAt_cell oA1 1 rfl
  have k2 := objAt_cell oA1 2 rfl
  have k3 := objAt_cell oA1 3 rfl
  have C3 := Lib.hid (C2.out w1 B1)
  have B1 := Lib.hid B1
  have lt := objAt_lt oA1
  clear oA1
  go_wp2_with fail
  refine C3.out.mono ?_
  rintro e w2 ⟨aj', cj', an', cn', al', cl', rfl, r1, r2, r3, b2⟩
  have b3 := below_one w2 (.cells (svC ⟨s, 0⟩ aj' an' al' cj' cn' cl') 59)
  have B2 := below_trans B1.out b2 B1.out.size
  have o3 := objAt_new w2 (svC ⟨s, 0⟩ aj' an' al' cj' cn' cl') 59
  have R : Hid (SvAt w2.heap.size ⟨s, 0⟩ (w2.alloc (.cells (svC ⟨s, 0⟩ aj' an' al' cj' cn' cl') 59)) ∧ Below w.heap.size w (w2.alloc (.cells (svC ⟨s, 0⟩ aj' an' al' cj' cn' cl') 59)) ∧ w.heap.size ≤ w2.heap.size) := ⟨⟨aj', an', al', cj', cn', cl', o3, ownS_next (ownS_low (show OwnS w1.heap.size aj' an' al' cj' cn' cl' s w2 from ⟨r1, r2, r3⟩) (Nat.zero_le _)) b3⟩, below_trans B2 b3 B2.size, B2.size⟩
  clear r1 r2 r3 b2 b3 B2 o3 k0 k1 k2 k3
  go_wp2
  go_ret2
  exact ⟨w2.heap.size, rfl, R.out.2.2, R.out.1, R.out.2.1⟩
end Go.Proofs.YtiekgafopalfmaaGreatDoor
