/- Package up: functions that set one field of a row. -/
import Derived.Test.YtclopkpfeofjmaaGreatDoorUpSep
namespace Go.Proofs.YtclopkpfeofjmaaGreatDoor
open Go.RowKit

theorem sepJob_new (x : JobD) (w : World) {H : Nat} (hH : w.heap.size = H) {W0 : World} (hW0 : (w.alloc (.cells #[.string x.name, .int .i64 x.prio, .int .i64 x.need, .int .i64 x.tries, .string x.tag] 50)).alloc (.cells #[.string ⟨#[]⟩, .int .i64 0, .int .i64 0, .int .i64 0, .string ⟨#[]⟩] 50) = W0) : SepJob H x w W0 := by
  rw [← hW0, ← hH]
  refine ⟨objAt_next (objAt_new w _ _) (below_one _ _), ?_, below_trans (below_one _ _) (below_one _ _) (by simp)⟩
  have := objAt_new (w.alloc (.cells #[.string x.name, .int .i64 x.prio, .int .i64 x.need, .int .i64 x.tries, .string x.tag] 50)) #[.string ⟨#[]⟩, .int .i64 0, .int .i64 0, .int .i64 0, .string ⟨#[]⟩] 50
  rwa [World.size_alloc] at this
theorem sepNode_new (x : NodeD) (w : World) {H : Nat} (hH : w.heap.size = H) {W0 : World} (hW0 : (w.alloc (.cells #[.string x.name, .int .i64 x.room, .string x.zone] 52)).alloc (.cells #[.string ⟨#[]⟩, .int .i64 0, .string ⟨#[]⟩] 52) = W0) : SepNode H x w W0 := by
  rw [← hW0, ← hH]
  refine ⟨objAt_next (objAt_new w _ _) (below_one _ _), ?_, below_trans (below_one _ _) (below_one _ _) (by simp)⟩
  have := objAt_new (w.alloc (.cells #[.string x.name, .int .i64 x.room, .string x.zone] 52)) #[.string ⟨#[]⟩, .int .i64 0, .string ⟨#[]⟩] 52
  rwa [World.size_alloc] at this
set_option maxRecDepth 100000 in
theorem withoutTag_is (x : JobD) (w : World) : Calls Tryz.prog 60 #[.agg #[.string x.name, .int .i64 x.prio, .int .i64 x.need, .int .i64 x.tries, .string x.tag]] w fun e w' => e = .returned (.agg #[.string (noTag x).name, .int .i64 (noTag x).prio, .int .i64 (noTag x).need, .int .i64 (noTag x).tries, .string (noTag x).tag]) ∧ Below w.heap.size w w' := by
  obtain ⟨H, hH⟩ : ∃ H, w.heap.size = H := ⟨_, rfl⟩
  obtain ⟨W0, hW0⟩ : ∃ W0, (w.alloc (.cells #[.string x.name, .int .i64 x.prio, .int .i64 x.need, .int .i64 x.tries, .string x.tag] 50)).alloc (.cells #[.string ⟨#[]⟩, .int .i64 0, .int .i64 0, .int .i64 0, .string ⟨#[]⟩] 50) = W0 := ⟨_, rfl⟩
  obtain ⟨o1, o2, hB⟩ := sepJob_new x w hH hW0
  have g := objAt_free o1 4
  have e := objAt_cell o1 4 rfl
  have q1 : ObjAt H #[.string x.name, .int .i64 x.prio, .int .i64 x.need, .int .i64 x.tries, .string ⟨#[]⟩] 50 _ := objAt_set o1 4 (.string ⟨#[]⟩)
  have q2 := objAt_other o2 (c := H) (by omega) 4 (.string ⟨#[]⟩)
  have hB2 := hB.setCell (p := ⟨H, 4, none⟩) (Nat.le_refl _) (.string ⟨#[]⟩)
  have oF : ObjAt (H + 1) #[.string x.name, .int .i64 x.prio, .int .i64 x.need, .int .i64 x.tries, .string ⟨#[]⟩] 50 _ := (objAt_set (objAt_set (objAt_set (objAt_set (objAt_set q2 0 (.string x.name)) 1 (.int .i64 x.prio)) 2 (.int .i64 x.need)) 3 (.int .i64 x.tries)) 4 (.string ⟨#[]⟩))
  have BB := Lib.hid (((((hB2.setCell (p := ⟨H + 1, 0, none⟩) (Nat.le_succ H) (.string x.name)).setCell (p := ⟨H + 1, 1, none⟩) (Nat.le_succ H) (.int .i64 x.prio)).setCell (p := ⟨H + 1, 2, none⟩) (Nat.le_succ H) (.int .i64 x.need)).setCell (p := ⟨H + 1, 3, none⟩) (Nat.le_succ H) (.int .i64 x.tries)).setCell (p := ⟨H + 1, 4, none⟩) (Nat.le_succ H) (.string ⟨#[]⟩))
  have c0 := objAt_cell q1 0 rfl
  have f0 := objAt_free q2 0
  have m0 := objAt_cell q2 0 rfl
  have t0 := objAt_cell oF 0 rfl
  have c1 := objAt_cell q1 1 rfl
  have f1 := objAt_free q2 1
  have m1 := objAt_cell q2 1 rfl
  have t1 := objAt_cell oF 1 rfl
  have c2 := objAt_cell q1 2 rfl
  have f2 := objAt_free q2 2
  have m2 := objAt_cell q2 2 rfl
  have t2 := objAt_cell oF 2 rfl
  have c3 := objAt_cell q1 3 rfl
  have f3 := objAt_free q2 3
  have m3 := objAt_cell q2 3 rfl
  have t3 := objAt_cell oF 3 rfl
  have c4 := objAt_cell q1 4 rfl
  have f4 := objAt_free q2 4
  have m4 := objAt_cell q2 4 rfl
  have t4 := objAt_cell oF 4 rfl
  have h0 := objAt_cell o1 0 rfl
  have h1 := objAt_cell o1 1 rfl
  have h2 := objAt_cell o1 2 rfl
  have h3 := objAt_cell o1 3 rfl
  have TT := Lib.hid (And.intro t0 (And.intro t1 (And.intro t2 (And.intro t3 (t4)))))
  clear oF hB hB2 o1 o2 q1 q2 t0 t1 t2 t3 t4
  rw [hH]
  go_enter Tryz.func60, Tryz.ntmps60
  go_wp2
  obtain ⟨t0, t1, t2, t3, t4⟩ := TT.out
  exact bodyPost_ret (v := .agg #[.string x.name, .int .i64 x.prio, .int .i64 x.need, .int .i64 x.tries, .string ⟨#[]⟩]) (by simp [results, Tryz.results60, go_sem, t0, t1, t2, t3, t4]) rfl ⟨rfl, BB.out⟩
set_option maxRecDepth 100000 in
theorem withoutTries_is (x : JobD) (w : World) : Calls Tryz.prog 58 #[.agg #[.string x.name, .int .i64 x.prio, .int .i64 x.need, .int .i64 x.tries, .string x.tag]] w fun e w' => e = .returned (.agg #[.string (noTries x).name, .int .i64 (noTries x).prio, .int .i64 (noTries x).need, .int .i64 (noTries x).tries, .string (noTries x).tag]) ∧ Below w.heap.size w w' := by
  obtain ⟨H, hH⟩ : ∃ H, w.heap.size = H := ⟨_, rfl⟩
  obtain ⟨W0, hW0⟩ : ∃ W0, (w.alloc (.cells #[.string x.name, .int .i64 x.prio, .int .i64 x.need, .int .i64 x.tries, .string x.tag] 50)).alloc (.cells #[.string ⟨#[]⟩, .int .i64 0, .int .i64 0, .int .i64 0, .string ⟨#[]⟩] 50) = W0 := ⟨_, rfl⟩
  obtain ⟨o1, o2, hB⟩ := sepJob_new x w hH hW0
  have g := objAt_free o1 3
  have e := objAt_cell o1 3 rfl
  have q1 : ObjAt H #[.string x.name, .int .i64 x.prio, .int .i64 x.need, .int .i64 0, .string x.tag] 50 _ := objAt_set o1 3 (.int .i64 0)
  have q2 := objAt_other o2 (c := H) (by omega) 3 (.int .i64 0)
  have hB2 := hB.setCell (p := ⟨H, 3, none⟩) (Nat.le_refl _) (.int .i64 0)
  have oF : ObjAt (H + 1) #[.string x.name, .int .i64 x.prio, .int .i64 x.need, .int .i64 0, .string x.tag] 50 _ := (objAt_set (objAt_set (objAt_set (objAt_set (objAt_set q2 0 (.string x.name)) 1 (.int .i64 x.prio)) 2 (.int .i64 x.need)) 3 (.int .i64 0)) 4 (.string x.tag))
  have BB := Lib.hid (((((hB2.setCell (p := ⟨H + 1, 0, none⟩) (Nat.le_succ H) (.string x.name)).setCell (p := ⟨H + 1, 1, none⟩) (Nat.le_succ H) (.int .i64 x.prio)).setCell (p := ⟨H + 1, 2, none⟩) (Nat.le_succ H) (.int .i64 x.need)).setCell (p := ⟨H + 1, 3, none⟩) (Nat.le_succ H) (.int .i64 0)).setCell (p := ⟨H + 1, 4, none⟩) (Nat.le_succ H) (.string x.tag))
  have c0 := objAt_cell q1 0 rfl
  have f0 := objAt_free q2 0
  have m0 := objAt_cell q2 0 rfl
  have t0 := objAt_cell oF 0 rfl
  have c1 := objAt_cell q1 1 rfl
  have f1 := objAt_free q2 1
  have m1 := objAt_cell q2 1 rfl
  have t1 := objAt_cell oF 1 rfl
  have c2 := objAt_cell q1 2 rfl
  have f2 := objAt_free q2 2
  have m2 := objAt_cell q2 2 rfl
  have t2 := objAt_cell oF 2 rfl
  have c3 := objAt_cell q1 3 rfl
  have f3 := objAt_free q2 3
  have m3 := objAt_cell q2 3 rfl
  have t3 := objAt_cell oF 3 rfl
  have c4 := objAt_cell q1 4 rfl
  have f4 := objAt_free q2 4
  have m4 := objAt_cell q2 4 rfl
  have t4 := objAt_cell oF 4 rfl
  have h0 := objAt_cell o1 0 rfl
  have h1 := objAt_cell o1 1 rfl
  have h2 := objAt_cell o1 2 rfl
  have h4 := objAt_cell o1 4 rfl
  have TT := Lib.hid (And.intro t0 (And.intro t1 (And.intro t2 (And.intro t3 (t4)))))
  clear oF hB hB2 o1 o2 q1 q2 t0 t1 t2 t3 t4
  rw [hH]
  go_enter Tryz.func58, Tryz.ntmps58
  go_wp2
  obtain ⟨t0, t1, t2, t3, t4⟩ := TT.out
  exact bodyPost_ret (v := .agg #[.string x.name, .int .i64 x.prio, .int .i64 x.need, .int .i64 0, .string x.tag]) (by simp [results, Tryz.results58, go_sem, t0, t1, t2, t3, t4]) rfl ⟨rfl, BB.out⟩
set_option maxRecDepth 100000 in
theorem withoutZone_is (x : NodeD) (w : World) : Calls Tryz.prog 59 #[.agg #[.string x.name, .int .i64 x.room, .string x.zone]] w fun e w' => e = .returned (.agg #[.string (noZone x).name, .int .i64 (noZone x).room, .string (noZone x).zone]) ∧ Below w.heap.size w w' := by
  obtain ⟨H, hH⟩ : ∃ H, w.heap.size = H := ⟨_, rfl⟩
  obtain ⟨W0, hW0⟩ : ∃ W0, (w.alloc (.cells #[.string x.name, .int .i64 x.room, .string x.zone] 52)).alloc (.cells #[.string ⟨#[]⟩, .int .i64 0, .string ⟨#[]⟩] 52) = W0 := ⟨_, rfl⟩
  obtain ⟨o1, o2, hB⟩ := sepNode_new x w hH hW0
  have g := objAt_free o1 2
  have e := objAt_cell o1 2 rfl
  have q1 : ObjAt H #[.string x.name, .int .i64 x.room, .string ⟨#[]⟩] 52 _ := objAt_set o1 2 (.string ⟨#[]⟩)
  have q2 := objAt_other o2 (c := H) (by omega) 2 (.string ⟨#[]⟩)
  have hB2 := hB.setCell (p := ⟨H, 2, none⟩) (Nat.le_refl _) (.string ⟨#[]⟩)
  have oF : ObjAt (H + 1) #[.string x.name, .int .i64 x.room, .string ⟨#[]⟩] 52 _ := (objAt_set (objAt_set (objAt_set q2 0 (.string x.name)) 1 (.int .i64 x.room)) 2 (.string ⟨#[]⟩))
  have BB := Lib.hid (((hB2.setCell (p := ⟨H + 1, 0, none⟩) (Nat.le_succ H) (.string x.name)).setCell (p := ⟨H + 1, 1, none⟩) (Nat.le_succ H) (.int .i64 x.room)).setCell (p := ⟨H + 1, 2, none⟩) (Nat.le_succ H) (.string ⟨#[]⟩))
  have c0 := objAt_cell q1 0 rfl
  have f0 := objAt_free q2 0
  have m0 := objAt_cell q2 0 rfl
  have t0 := objAt_cell oF 0 rfl
  have c1 := objAt_cell q1 1 rfl
  have f1 := objAt_free q2 1
  have m1 := objAt_cell q2 1 rfl
  have t1 := objAt_cell oF 1 rfl
  have c2 := objAt_cell q1 2 rfl
  have f2 := objAt_free q2 2
  have m2 := objAt_cell q2 2 rfl
  have t2 := objAt_cell oF 2 rfl
  have h0 := objAt_cell o1 0 rfl
  have h1 := objAt_cell o1 1 rfl
  have TT := Lib.hid (And.intro t0 (And.intro t1 (t2)))
  clear oF hB hB2 o1 o2 q1 q2 t0 t1 t2
  rw [hH]
  go_enter Tryz.func59, Tryz.ntmps59
  go_wp2
  obtain ⟨t0, t1, t2⟩ := TT.out
  exact bodyPost_ret (v := .agg #[.string x.name, .int .i64 x.room, .string ⟨#[]⟩]) (by simp [results, Tryz.results59, go_sem, t0, t1, t2]) rfl ⟨rfl, BB.out⟩
set_option maxRecDepth 100000 in
theorem raiseN_is (x : NodeD) (w : World) : Calls Tryz.prog 82 #[.agg #[.string x.name, .int .i64 x.room, .string x.zone]] w fun e w' => e = .returned (.agg #[.string (r2N x).name, .int .i64 (r2N x).room, .string (r2N x).zone]) ∧ Below w.heap.size w w' := by
  obtain ⟨H, hH⟩ : ∃ H, w.heap.size = H := ⟨_, rfl⟩
  obtain ⟨W0, hW0⟩ : ∃ W0, (w.alloc (.cells #[.string x.name, .int .i64 x.room, .string x.zone] 52)).alloc (.cells #[.string ⟨#[]⟩, .int .i64 0, .string ⟨#[]⟩] 52) = W0 := ⟨_, rfl⟩
  obtain ⟨o1, o2, hB⟩ := sepNode_new x w hH hW0
  have HC := Lib.hid (fun w => clone_is ⟨#[45]⟩ (by decide) w)
  have O := Lib.hid (And.intro o1 (And.intro o2 hB))
  clear o1 o2 hB
  rw [hH]
  go_enter Tryz.func82, Tryz.ntmps82
  go_wp2_with fail
  refine (HC.out _).mono ?_
  rintro e w1 ⟨rfl, b1⟩
  obtain ⟨o1', o2', hB'⟩ := O.out
  have o1 := objAt_next o1' b1
  have o2 := objAt_next o2' b1
  have hB := below_trans hB' b1 (Nat.le_of_lt (objAt_lt o1'))
  clear o1' o2' hB' b1 HC O
  have g := objAt_free o1 2
  have e := objAt_cell o1 2 rfl
  have q1 : ObjAt H #[.string x.name, .int .i64 x.room, .string ⟨#[45]⟩] 52 _ := objAt_set o1 2 (.string ⟨#[45]⟩)
  have q2 := objAt_other o2 (c := H) (by omega) 2 (.string ⟨#[45]⟩)
  have hB2 := hB.setCell (p := ⟨H, 2, none⟩) (Nat.le_refl _) (.string ⟨#[45]⟩)
  have oF : ObjAt (H + 1) #[.string x.name, .int .i64 x.room, .string ⟨#[45]⟩] 52 _ := (objAt_set (objAt_set (objAt_set q2 0 (.string x.name)) 1 (.int .i64 x.room)) 2 (.string ⟨#[45]⟩))
  have BB := Lib.hid (((hB2.setCell (p := ⟨H + 1, 0, none⟩) (Nat.le_succ H) (.string x.name)).setCell (p := ⟨H + 1, 1, none⟩) (Nat.le_succ H) (.int .i64 x.room)).setCell (p := ⟨H + 1, 2, none⟩) (Nat.le_succ H) (.string ⟨#[45]⟩))
  have c0 := objAt_cell q1 0 rfl
  have f0 := objAt_free q2 0
  have m0 := objAt_cell q2 0 rfl
  have t0 := objAt_cell oF 0 rfl
  have c1 := objAt_cell q1 1 rfl
  have f1 := objAt_free q2 1
  have m1 := objAt_cell q2 1 rfl
  have t1 := objAt_cell oF 1 rfl
  have c2 := objAt_cell q1 2 rfl
  have f2 := objAt_free q2 2
  have m2 := objAt_cell q2 2 rfl
  have t2 := objAt_cell oF 2 rfl
  have h0 := objAt_cell o1 0 rfl
  have h1 := objAt_cell o1 1 rfl
  have TT := Lib.hid (And.intro t0 (And.intro t1 (t2)))
  clear oF hB hB2 o1 o2 q1 q2 t0 t1 t2
  go_wp2
  obtain ⟨t0, t1, t2⟩ := TT.out
  exact bodyPost_ret (v := .agg #[.string x.name, .int .i64 x.room, .string ⟨#[45]⟩]) (by simp [results, Tryz.results82, go_sem, t0, t1, t2]) rfl ⟨rfl, BB.out⟩
end Go.Proofs.YtclopkpfeofjmaaGreatDoor
