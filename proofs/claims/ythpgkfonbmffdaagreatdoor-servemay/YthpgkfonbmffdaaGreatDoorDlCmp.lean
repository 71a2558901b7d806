/- The comparison of two rows by their keys. -/
import Derived.Test.YthpgkfonbmffdaaGreatDoorDlIter
import Derived.Deep.RegionHeld3
namespace Go.Proofs.YthpgkfonbmffdaaGreatDoor
open Go.RowKit Go.Shelf

theorem cmpJob_all {x y : JobD} {H kb : Nat} {w0 w : World} (hx : ObjAt H #[.string x.name, .int .i64 x.prio, .int .i64 x.need, .int .i64 x.tries, .string x.tag] 38 w) (hy : ObjAt (H + 1) #[.string y.name, .int .i64 y.prio, .int .i64 y.need, .int .i64 y.tries, .string y.tag] 38 w) (hk : w.cell? ⟨kb, 0, none⟩ = some (.func (.func 51) #[] #[])) (hl : kb < w.heap.size) (hg : Grew w0 w) : ((w.cell? ⟨H, 0, none⟩ = some (.string x.name) ∧ w.cell? ⟨H, 1, none⟩ = some (.int .i64 x.prio) ∧ w.cell? ⟨H, 2, none⟩ = some (.int .i64 x.need) ∧ w.cell? ⟨H, 3, none⟩ = some (.int .i64 x.tries) ∧ w.cell? ⟨H, 4, none⟩ = some (.string x.tag)) ∧ (w.cell? ⟨H + 1, 0, none⟩ = some (.string y.name) ∧ w.cell? ⟨H + 1, 1, none⟩ = some (.int .i64 y.prio) ∧ w.cell? ⟨H + 1, 2, none⟩ = some (.int .i64 y.need) ∧ w.cell? ⟨H + 1, 3, none⟩ = some (.int .i64 y.tries) ∧ w.cell? ⟨H + 1, 4, none⟩ = some (.string y.tag)) ∧ w.cell? ⟨kb, 0, none⟩ = some (.func (.func 51) #[] #[])) ∧ ObjAt H #[.string x.name, .int .i64 x.prio, .int .i64 x.need, .int .i64 x.tries, .string x.tag] 38 w ∧ ObjAt (H + 1) #[.string y.name, .int .i64 y.prio, .int .i64 y.need, .int .i64 y.tries, .string y.tag] 38 w ∧ (H < w.heap.size ∧ H + 1 < w.heap.size) ∧ kb < w.heap.size ∧ Grew w0 w :=
  ⟨⟨⟨objAt_cell hx 0 rfl, objAt_cell hx 1 rfl, objAt_cell hx 2 rfl, objAt_cell hx 3 rfl, objAt_cell hx 4 rfl⟩, ⟨objAt_cell hy 0 rfl, objAt_cell hy 1 rfl, objAt_cell hy 2 rfl, objAt_cell hy 3 rfl, objAt_cell hy 4 rfl⟩, hk⟩, hx, hy, ⟨objAt_lt hx, objAt_lt hy⟩, hl, hg⟩
theorem cmpJob_next {x y : JobD} {H kb : Nat} {w0 w : World} {o : Obj} (h : ((w.cell? ⟨H, 0, none⟩ = some (.string x.name) ∧ w.cell? ⟨H, 1, none⟩ = some (.int .i64 x.prio) ∧ w.cell? ⟨H, 2, none⟩ = some (.int .i64 x.need) ∧ w.cell? ⟨H, 3, none⟩ = some (.int .i64 x.tries) ∧ w.cell? ⟨H, 4, none⟩ = some (.string x.tag)) ∧ (w.cell? ⟨H + 1, 0, none⟩ = some (.string y.name) ∧ w.cell? ⟨H + 1, 1, none⟩ = some (.int .i64 y.prio) ∧ w.cell? ⟨H + 1, 2, none⟩ = some (.int .i64 y.need) ∧ w.cell? ⟨H + 1, 3, none⟩ = some (.int .i64 y.tries) ∧ w.cell? ⟨H + 1, 4, none⟩ = some (.string y.tag)) ∧ w.cell? ⟨kb, 0, none⟩ = some (.func (.func 51) #[] #[])) ∧ ObjAt H #[.string x.name, .int .i64 x.prio, .int .i64 x.need, .int .i64 x.tries, .string x.tag] 38 w ∧ ObjAt (H + 1) #[.string y.name, .int .i64 y.prio, .int .i64 y.need, .int .i64 y.tries, .string y.tag] 38 w ∧ (H < w.heap.size ∧ H + 1 < w.heap.size) ∧ kb < w.heap.size ∧ Grew w0 w) : (((w.alloc o).cell? ⟨H, 0, none⟩ = some (.string x.name) ∧ (w.alloc o).cell? ⟨H, 1, none⟩ = some (.int .i64 x.prio) ∧ (w.alloc o).cell? ⟨H, 2, none⟩ = some (.int .i64 x.need) ∧ (w.alloc o).cell? ⟨H, 3, none⟩ = some (.int .i64 x.tries) ∧ (w.alloc o).cell? ⟨H, 4, none⟩ = some (.string x.tag)) ∧ ((w.alloc o).cell? ⟨H + 1, 0, none⟩ = some (.string y.name) ∧ (w.alloc o).cell? ⟨H + 1, 1, none⟩ = some (.int .i64 y.prio) ∧ (w.alloc o).cell? ⟨H + 1, 2, none⟩ = some (.int .i64 y.need) ∧ (w.alloc o).cell? ⟨H + 1, 3, none⟩ = some (.int .i64 y.tries) ∧ (w.alloc o).cell? ⟨H + 1, 4, none⟩ = some (.string y.tag)) ∧ (w.alloc o).cell? ⟨kb, 0, none⟩ = some (.func (.func 51) #[] #[])) ∧ ObjAt H #[.string x.name, .int .i64 x.prio, .int .i64 x.need, .int .i64 x.tries, .string x.tag] 38 (w.alloc o) ∧ ObjAt (H + 1) #[.string y.name, .int .i64 y.prio, .int .i64 y.need, .int .i64 y.tries, .string y.tag] 38 (w.alloc o) ∧ (H < (w.alloc o).heap.size ∧ H + 1 < (w.alloc o).heap.size) ∧ kb < (w.alloc o).heap.size ∧ Grew w0 (w.alloc o) :=
  cmpJob_all (objAt_next h.2.1 (below_one _ _)) (objAt_next h.2.2.1 (below_one _ _)) (by rw [(below_one w o).cell (p := ⟨kb, 0, none⟩) h.2.2.2.2.1]; exact h.1.2.2) (by rw [World.size_alloc]; have := h.2.2.2.2.1; omega) (grew_alloc h.2.2.2.2.2 o)
set_option maxRecDepth 100000 in
set_option maxHeartbeats 2000000 in
theorem cmpJob_is (x y : JobD) (kb : Nat) (w : World) (hk : w.cell? ⟨kb, 0, none⟩ = some (.func (.func 51) #[] #[])) (hkl : kb < w.heap.size) :
    Calls Tryz.prog 124 #[.agg #[.string x.name, .int .i64 x.prio, .int .i64 x.need, .int .i64 x.tries, .string x.tag], .agg #[.string y.name, .int .i64 y.prio, .int .i64 y.need, .int .i64 y.tries, .string y.tag], .pointer (some ⟨kb, 0, none⟩)] w fun e w' => e = .returned (.int .i64 (cmpK (·.name) x y)) ∧ Grew w w' := by
  have HC : ∀ W, Calls Tryz.prog 125 #[.string x.name, .string y.name] W fun e w' => e = .returned (.int .i64 (cmpK (·.name) x y)) ∧ w' = W := fun W => Any.strings_Compare Tryz.layCompare x.name y.name W
  have HC := Lib.hid HC
  obtain ⟨H, hH⟩ : ∃ H, w.heap.size = H := ⟨_, rfl⟩
  obtain ⟨W, hW⟩ : ∃ W, (w.alloc (.cells #[.string x.name, .int .i64 x.prio, .int .i64 x.need, .int .i64 x.tries, .string x.tag] 38)).alloc (.cells #[.string y.name, .int .i64 y.prio, .int .i64 y.need, .int .i64 y.tries, .string y.tag] 38) = W := ⟨_, rfl⟩
  have oX : ObjAt H #[.string x.name, .int .i64 x.prio, .int .i64 x.need, .int .i64 x.tries, .string x.tag] 38 W := by rw [← hW, ← hH]; exact objAt_next (objAt_new w _ _) (below_one _ _)
  have oY : ObjAt (H + 1) #[.string y.name, .int .i64 y.prio, .int .i64 y.need, .int .i64 y.tries, .string y.tag] 38 W := by
    rw [← hW, ← hH]
    have := objAt_new (w.alloc (.cells #[.string x.name, .int .i64 x.prio, .int .i64 x.need, .int .i64 x.tries, .string x.tag] 38)) #[.string y.name, .int .i64 y.prio, .int .i64 y.need, .int .i64 y.tries, .string y.tag] 38
    rwa [World.size_alloc] at this
  have bW : Below w.heap.size w W := by rw [← hW]; exact below_trans (below_one _ _) (below_one _ _) (by simp)
  have gW : Grew w W := by rw [← hW]; exact grew_alloc (grew_alloc (grew_refl w) _) _
  have kW : W.cell? ⟨kb, 0, none⟩ = some (.func (.func 51) #[] #[]) := by rw [bW.cell (p := ⟨kb, 0, none⟩) hkl]; exact hk
  have o1 := cmpJob_all (w := W.drew) (objAt_drew oX) (objAt_drew oY) kW (show kb < W.heap.size by have := bW.size; omega) (grew_drew gW)
  have HW := Lib.hid hW
  clear oX oY bW hW hk kW gW
  go_enter Tryz.func124, Tryz.ntmps124
  go_wp2_with fail
  rw [HW.out]
  go_region_held3 (fun w' => ((w'.cell? ⟨H, 0, none⟩ = some (.string x.name) ∧ w'.cell? ⟨H, 1, none⟩ = some (.int .i64 x.prio) ∧ w'.cell? ⟨H, 2, none⟩ = some (.int .i64 x.need) ∧ w'.cell? ⟨H, 3, none⟩ = some (.int .i64 x.tries) ∧ w'.cell? ⟨H, 4, none⟩ = some (.string x.tag)) ∧ (w'.cell? ⟨H + 1, 0, none⟩ = some (.string y.name) ∧ w'.cell? ⟨H + 1, 1, none⟩ = some (.int .i64 y.prio) ∧ w'.cell? ⟨H + 1, 2, none⟩ = some (.int .i64 y.need) ∧ w'.cell? ⟨H + 1, 3, none⟩ = some (.int .i64 y.tries) ∧ w'.cell? ⟨H + 1, 4, none⟩ = some (.string y.tag)) ∧ w'.cell? ⟨kb, 0, none⟩ = some (.func (.func 51) #[] #[])) ∧ ObjAt H #[.string x.name, .int .i64 x.prio, .int .i64 x.need, .int .i64 x.tries, .string x.tag] 38 w' ∧ ObjAt (H + 1) #[.string y.name, .int .i64 y.prio, .int .i64 y.need, .int .i64 y.tries, .string y.tag] 38 w' ∧ (H < w'.heap.size ∧ H + 1 < w'.heap.size) ∧ kb < w'.heap.size ∧ Grew w w')
    (first | assumption | exact o1)
    (first
      | (go_at_call 51; (with_reducible refine (jobKey_eq x _).mono ?_); rintro e w2 ⟨rfl, rfl⟩; have o2 := cmpJob_next (x := x) (y := y) (H := H) (kb := kb) (w0 := w) (o := .cells #[.string x.name, .int .i64 x.prio, .int .i64 x.need, .int .i64 x.tries, .string x.tag] 38) (by assumption))
      | (go_at_call 51; (with_reducible refine (jobKey_eq y _).mono ?_); rintro e w2 ⟨rfl, rfl⟩; have o2 := cmpJob_next (x := x) (y := y) (H := H) (kb := kb) (w0 := w) (o := .cells #[.string y.name, .int .i64 y.prio, .int .i64 y.need, .int .i64 y.tries, .string y.tag] 38) (by assumption))
      | (go_at_call 125; refine (HC.out _).mono ?_; rintro e w2 ⟨rfl, rfl⟩; have o2 : True := trivial))
  all_goals
    rename_i o2
    have hb := o2.2.2.2.2.2
    clear o2
    go_wp2
    go_ret
    exact ⟨rfl, hb⟩
theorem cmpNode_all {x y : NodeD} {H kb : Nat} {w0 w : World} (hx : ObjAt H #[.string x.name, .int .i64 x.room, .string x.zone] 40 w) (hy : ObjAt (H + 1) #[.string y.name, .int .i64 y.room, .string y.zone] 40 w) (hk : w.cell? ⟨kb, 0, none⟩ = some (.func (.func 54) #[] #[])) (hl : kb < w.heap.size) (hg : Grew w0 w) : ((w.cell? ⟨H, 0, none⟩ = some (.string x.name) ∧ w.cell? ⟨H, 1, none⟩ = some (.int .i64 x.room) ∧ w.cell? ⟨H, 2, none⟩ = some (.string x.zone)) ∧ (w.cell? ⟨H + 1, 0, none⟩ = some (.string y.name) ∧ w.cell? ⟨H + 1, 1, none⟩ = some (.int .i64 y.room) ∧ w.cell? ⟨H + 1, 2, none⟩ = some (.string y.zone)) ∧ w.cell? ⟨kb, 0, none⟩ = some (.func (.func 54) #[] #[])) ∧ ObjAt H #[.string x.name, .int .i64 x.room, .string x.zone] 40 w ∧ ObjAt (H + 1) #[.string y.name, .int .i64 y.room, .string y.zone] 40 w ∧ (H < w.heap.size ∧ H + 1 < w.heap.size) ∧ kb < w.heap.size ∧ Grew w0 w :=
  ⟨⟨⟨objAt_cell hx 0 rfl, objAt_cell hx 1 rfl, objAt_cell hx 2 rfl⟩, ⟨objAt_cell hy 0 rfl, objAt_cell hy 1 rfl, objAt_cell hy 2 rfl⟩, hk⟩, hx, hy, ⟨objAt_lt hx, objAt_lt hy⟩, hl, hg⟩
theorem cmpNode_next {x y : NodeD} {H kb : Nat} {w0 w : World} {o : Obj} (h : ((w.cell? ⟨H, 0, none⟩ = some (.string x.name) ∧ w.cell? ⟨H, 1, none⟩ = some (.int .i64 x.room) ∧ w.cell? ⟨H, 2, none⟩ = some (.string x.zone)) ∧ (w.cell? ⟨H + 1, 0, none⟩ = some (.string y.name) ∧ w.cell? ⟨H + 1, 1, none⟩ = some (.int .i64 y.room) ∧ w.cell? ⟨H + 1, 2, none⟩ = some (.string y.zone)) ∧ w.cell? ⟨kb, 0, none⟩ = some (.func (.func 54) #[] #[])) ∧ ObjAt H #[.string x.name, .int .i64 x.room, .string x.zone] 40 w ∧ ObjAt (H + 1) #[.string y.name, .int .i64 y.room, .string y.zone] 40 w ∧ (H < w.heap.size ∧ H + 1 < w.heap.size) ∧ kb < w.heap.size ∧ Grew w0 w) : (((w.alloc o).cell? ⟨H, 0, none⟩ = some (.string x.name) ∧ (w.alloc o).cell? ⟨H, 1, none⟩ = some (.int .i64 x.room) ∧ (w.alloc o).cell? ⟨H, 2, none⟩ = some (.string x.zone)) ∧ ((w.alloc o).cell? ⟨H + 1, 0, none⟩ = some (.string y.name) ∧ (w.alloc o).cell? ⟨H + 1, 1, none⟩ = some (.int .i64 y.room) ∧ (w.alloc o).cell? ⟨H + 1, 2, none⟩ = some (.string y.zone)) ∧ (w.alloc o).cell? ⟨kb, 0, none⟩ = some (.func (.func 54) #[] #[])) ∧ ObjAt H #[.string x.name, .int .i64 x.room, .string x.zone] 40 (w.alloc o) ∧ ObjAt (H + 1) #[.string y.name, .int .i64 y.room, .string y.zone] 40 (w.alloc o) ∧ (H < (w.alloc o).heap.size ∧ H + 1 < (w.alloc o).heap.size) ∧ kb < (w.alloc o).heap.size ∧ Grew w0 (w.alloc o) :=
  cmpNode_all (objAt_next h.2.1 (below_one _ _)) (objAt_next h.2.2.1 (below_one _ _)) (by rw [(below_one w o).cell (p := ⟨kb, 0, none⟩) h.2.2.2.2.1]; exact h.1.2.2) (by rw [World.size_alloc]; have := h.2.2.2.2.1; omega) (grew_alloc h.2.2.2.2.2 o)
set_option maxRecDepth 100000 in
set_option maxHeartbeats 2000000 in
theorem cmpNode_is (x y : NodeD) (kb : Nat) (w : World) (hk : w.cell? ⟨kb, 0, none⟩ = some (.func (.func 54) #[] #[])) (hkl : kb < w.heap.size) :
    Calls Tryz.prog 128 #[.agg #[.string x.name, .int .i64 x.room, .string x.zone], .agg #[.string y.name, .int .i64 y.room, .string y.zone], .pointer (some ⟨kb, 0, none⟩)] w fun e w' => e = .returned (.int .i64 (cmpK (·.name) x y)) ∧ Grew w w' := by
  have HC : ∀ W, Calls Tryz.prog 125 #[.string x.name, .string y.name] W fun e w' => e = .returned (.int .i64 (cmpK (·.name) x y)) ∧ w' = W := fun W => Any.strings_Compare Tryz.layCompare x.name y.name W
  have HC := Lib.hid HC
  obtain ⟨H, hH⟩ : ∃ H, w.heap.size = H := ⟨_, rfl⟩
  obtain ⟨W, hW⟩ : ∃ W, (w.alloc (.cells #[.string x.name, .int .i64 x.room, .string x.zone] 40)).alloc (.cells #[.string y.name, .int .i64 y.room, .string y.zone] 40) = W := ⟨_, rfl⟩
  have oX : ObjAt H #[.string x.name, .int .i64 x.room, .string x.zone] 40 W := by rw [← hW, ← hH]; exact objAt_next (objAt_new w _ _) (below_one _ _)
  have oY : ObjAt (H + 1) #[.string y.name, .int .i64 y.room, .string y.zone] 40 W := by
    rw [← hW, ← hH]
    have := objAt_new (w.alloc (.cells #[.string x.name, .int .i64 x.room, .string x.zone] 40)) #[.string y.name, .int .i64 y.room, .string y.zone] 40
    rwa [World.size_alloc] at this
  have bW : Below w.heap.size w W := by rw [← hW]; exact below_trans (below_one _ _) (below_one _ _) (by simp)
  have gW : Grew w W := by rw [← hW]; exact grew_alloc (grew_alloc (grew_refl w) _) _
  have kW : W.cell? ⟨kb, 0, none⟩ = some (.func (.func 54) #[] #[]) := by rw [bW.cell (p := ⟨kb, 0, none⟩) hkl]; exact hk
  have o1 := cmpNode_all (w := W.drew) (objAt_drew oX) (objAt_drew oY) kW (show kb < W.heap.size by have := bW.size; omega) (grew_drew gW)
  have HW := Lib.hid hW
  clear oX oY bW hW hk kW gW
  go_enter Tryz.func128, Tryz.ntmps128
  go_wp2_with fail
  rw [HW.out]
  go_region_held3 (fun w' => ((w'.cell? ⟨H, 0, none⟩ = some (.string x.name) ∧ w'.cell? ⟨H, 1, none⟩ = some (.int .i64 x.room) ∧ w'.cell? ⟨H, 2, none⟩ = some (.string x.zone)) ∧ (w'.cell? ⟨H + 1, 0, none⟩ = some (.string y.name) ∧ w'.cell? ⟨H + 1, 1, none⟩ = some (.int .i64 y.room) ∧ w'.cell? ⟨H + 1, 2, none⟩ = some (.string y.zone)) ∧ w'.cell? ⟨kb, 0, none⟩ = some (.func (.func 54) #[] #[])) ∧ ObjAt H #[.string x.name, .int .i64 x.room, .string x.zone] 40 w' ∧ ObjAt (H + 1) #[.string y.name, .int .i64 y.room, .string y.zone] 40 w' ∧ (H < w'.heap.size ∧ H + 1 < w'.heap.size) ∧ kb < w'.heap.size ∧ Grew w w')
    (first | assumption | exact o1)
    (first
      | (go_at_call 54; (with_reducible refine (nodeKey_eq x _).mono ?_); rintro e w2 ⟨rfl, rfl⟩; have o2 := cmpNode_next (x := x) (y := y) (H := H) (kb := kb) (w0 := w) (o := .cells #[.string x.name, .int .i64 x.room, .string x.zone] 40) (by assumption))
      | (go_at_call 54; (with_reducible refine (nodeKey_eq y _).mono ?_); rintro e w2 ⟨rfl, rfl⟩; have o2 := cmpNode_next (x := x) (y := y) (H := H) (kb := kb) (w0 := w) (o := .cells #[.string y.name, .int .i64 y.room, .string y.zone] 40) (by assumption))
      | (go_at_call 125; refine (HC.out _).mono ?_; rintro e w2 ⟨rfl, rfl⟩; have o2 : True := trivial))
  all_goals
    rename_i o2
    have hb := o2.2.2.2.2.2
    clear o2
    go_wp2
    go_ret
    exact ⟨rfl, hb⟩
theorem cmpLease_all {x y : LeaseD} {H kb : Nat} {w0 w : World} (hx : ObjAt H #[.string x.job, .string x.node, .int .i64 x.til] 42 w) (hy : ObjAt (H + 1) #[.string y.job, .string y.node, .int .i64 y.til] 42 w) (hk : w.cell? ⟨kb, 0, none⟩ = some (.func (.func 58) #[] #[])) (hl : kb < w.heap.size) (hg : Grew w0 w) : ((w.cell? ⟨H, 0, none⟩ = some (.string x.job) ∧ w.cell? ⟨H, 1, none⟩ = some (.string x.node) ∧ w.cell? ⟨H, 2, none⟩ = some (.int .i64 x.til)) ∧ (w.cell? ⟨H + 1, 0, none⟩ = some (.string y.job) ∧ w.cell? ⟨H + 1, 1, none⟩ = some (.string y.node) ∧ w.cell? ⟨H + 1, 2, none⟩ = some (.int .i64 y.til)) ∧ w.cell? ⟨kb, 0, none⟩ = some (.func (.func 58) #[] #[])) ∧ ObjAt H #[.string x.job, .string x.node, .int .i64 x.til] 42 w ∧ ObjAt (H + 1) #[.string y.job, .string y.node, .int .i64 y.til] 42 w ∧ (H < w.heap.size ∧ H + 1 < w.heap.size) ∧ kb < w.heap.size ∧ Grew w0 w :=
  ⟨⟨⟨objAt_cell hx 0 rfl, objAt_cell hx 1 rfl, objAt_cell hx 2 rfl⟩, ⟨objAt_cell hy 0 rfl, objAt_cell hy 1 rfl, objAt_cell hy 2 rfl⟩, hk⟩, hx, hy, ⟨objAt_lt hx, objAt_lt hy⟩, hl, hg⟩
theorem cmpLease_next {x y : LeaseD} {H kb : Nat} {w0 w : World} {o : Obj} (h : ((w.cell? ⟨H, 0, none⟩ = some (.string x.job) ∧ w.cell? ⟨H, 1, none⟩ = some (.string x.node) ∧ w.cell? ⟨H, 2, none⟩ = some (.int .i64 x.til)) ∧ (w.cell? ⟨H + 1, 0, none⟩ = some (.string y.job) ∧ w.cell? ⟨H + 1, 1, none⟩ = some (.string y.node) ∧ w.cell? ⟨H + 1, 2, none⟩ = some (.int .i64 y.til)) ∧ w.cell? ⟨kb, 0, none⟩ = some (.func (.func 58) #[] #[])) ∧ ObjAt H #[.string x.job, .string x.node, .int .i64 x.til] 42 w ∧ ObjAt (H + 1) #[.string y.job, .string y.node, .int .i64 y.til] 42 w ∧ (H < w.heap.size ∧ H + 1 < w.heap.size) ∧ kb < w.heap.size ∧ Grew w0 w) : (((w.alloc o).cell? ⟨H, 0, none⟩ = some (.string x.job) ∧ (w.alloc o).cell? ⟨H, 1, none⟩ = some (.string x.node) ∧ (w.alloc o).cell? ⟨H, 2, none⟩ = some (.int .i64 x.til)) ∧ ((w.alloc o).cell? ⟨H + 1, 0, none⟩ = some (.string y.job) ∧ (w.alloc o).cell? ⟨H + 1, 1, none⟩ = some (.string y.node) ∧ (w.alloc o).cell? ⟨H + 1, 2, none⟩ = some (.int .i64 y.til)) ∧ (w.alloc o).cell? ⟨kb, 0, none⟩ = some (.func (.func 58) #[] #[])) ∧ ObjAt H #[.string x.job, .string x.node, .int .i64 x.til] 42 (w.alloc o) ∧ ObjAt (H + 1) #[.string y.job, .string y.node, .int .i64 y.til] 42 (w.alloc o) ∧ (H < (w.alloc o).heap.size ∧ H + 1 < (w.alloc o).heap.size) ∧ kb < (w.alloc o).heap.size ∧ Grew w0 (w.alloc o) :=
  cmpLease_all (objAt_next h.2.1 (below_one _ _)) (objAt_next h.2.2.1 (below_one _ _)) (by rw [(below_one w o).cell (p := ⟨kb, 0, none⟩) h.2.2.2.2.1]; exact h.1.2.2) (by rw [World.size_alloc]; have := h.2.2.2.2.1; omega) (grew_alloc h.2.2.2.2.2 o)
set_option maxRecDepth 100000 in
set_option maxHeartbeats 2000000 in
theorem cmpLease_is (x y : LeaseD) (kb : Nat) (w : World) (hk : w.cell? ⟨kb, 0, none⟩ = some (.func (.func 58) #[] #[])) (hkl : kb < w.heap.size) :
    Calls Tryz.prog 131 #[.agg #[.string x.job, .string x.node, .int .i64 x.til], .agg #[.string y.job, .string y.node, .int .i64 y.til], .pointer (some ⟨kb, 0, none⟩)] w fun e w' => e = .returned (.int .i64 (cmpK (·.job) x y)) ∧ Grew w w' := by
  have HC : ∀ W, Calls Tryz.prog 125 #[.string x.job, .string y.job] W fun e w' => e = .returned (.int .i64 (cmpK (·.job) x y)) ∧ w' = W := fun W => Any.strings_Compare Tryz.layCompare x.job y.job W
  have HC := Lib.hid HC
  obtain ⟨H, hH⟩ : ∃ H, w.heap.size = H := ⟨_, rfl⟩
  obtain ⟨W, hW⟩ : ∃ W, (w.alloc (.cells #[.string x.job, .string x.node, .int .i64 x.til] 42)).alloc (.cells #[.string y.job, .string y.node, .int .i64 y.til] 42) = W := ⟨_, rfl⟩
  have oX : ObjAt H #[.string x.job, .string x.node, .int .i64 x.til] 42 W := by rw [← hW, ← hH]; exact objAt_next (objAt_new w _ _) (below_one _ _)
  have oY : ObjAt (H + 1) #[.string y.job, .string y.node, .int .i64 y.til] 42 W := by
    rw [← hW, ← hH]
    have := objAt_new (w.alloc (.cells #[.string x.job, .string x.node, .int .i64 x.til] 42)) #[.string y.job, .string y.node, .int .i64 y.til] 42
    rwa [World.size_alloc] at this
  have bW : Below w.heap.size w W := by rw [← hW]; exact below_trans (below_one _ _) (below_one _ _) (by simp)
  have gW : Grew w W := by rw [← hW]; exact grew_alloc (grew_alloc (grew_refl w) _) _
  have kW : W.cell? ⟨kb, 0, none⟩ = some (.func (.func 58) #[] #[]) := by rw [bW.cell (p := ⟨kb, 0, none⟩) hkl]; exact hk
  have o1 := cmpLease_all (w := W.drew) (objAt_drew oX) (objAt_drew oY) kW (show kb < W.heap.size by have := bW.size; omega) (grew_drew gW)
  have HW := Lib.hid hW
  clear oX oY bW hW hk kW gW
  go_enter Tryz.func131, Tryz.ntmps131
  go_wp2_with fail
  rw [HW.out]
  go_region_held3 (fun w' => ((w'.cell? ⟨H, 0, none⟩ = some (.string x.job) ∧ w'.cell? ⟨H, 1, none⟩ = some (.string x.node) ∧ w'.cell? ⟨H, 2, none⟩ = some (.int .i64 x.til)) ∧ (w'.cell? ⟨H + 1, 0, none⟩ = some (.string y.job) ∧ w'.cell? ⟨H + 1, 1, none⟩ = some (.string y.node) ∧ w'.cell? ⟨H + 1, 2, none⟩ = some (.int .i64 y.til)) ∧ w'.cell? ⟨kb, 0, none⟩ = some (.func (.func 58) #[] #[])) ∧ ObjAt H #[.string x.job, .string x.node, .int .i64 x.til] 42 w' ∧ ObjAt (H + 1) #[.string y.job, .string y.node, .int .i64 y.til] 42 w' ∧ (H < w'.heap.size ∧ H + 1 < w'.heap.size) ∧ kb < w'.heap.size ∧ Grew w w')
    (first | assumption | exact o1)
    (first
      | (go_at_call 58; (with_reducible refine (leaseKey_eq x _).mono ?_); rintro e w2 ⟨rfl, rfl⟩; have o2 := cmpLease_next (x := x) (y := y) (H := H) (kb := kb) (w0 := w) (o := .cells #[.string x.job, .string x.node, .int .i64 x.til] 42) (by assumption))
      | (go_at_call 58; (with_reducible refine (leaseKey_eq y _).mono ?_); rintro e w2 ⟨rfl, rfl⟩; have o2 := cmpLease_next (x := x) (y := y) (H := H) (kb := kb) (w0 := w) (o := .cells #[.string y.job, .string y.node, .int .i64 y.til] 42) (by assumption))
      | (go_at_call 125; refine (HC.out _).mono ?_; rintro e w2 ⟨rfl, rfl⟩; have o2 : True := trivial))
  all_goals
    rename_i o2
    have hb := o2.2.2.2.2.2
    clear o2
    go_wp2
    go_ret
    exact ⟨rfl, hb⟩
end Go.Proofs.YthpgkfonbmffdaaGreatDoor
