/- Package req: what each payload's check and pass answer. -/
import Derived.Test.YthpgkfonbmffdaaGreatDoorRqNone
import Derived.Test.YthpgkfonbmffdaaGreatDoorPkSt2
import Derived.Test.YthpgkfonbmffdaaGreatDoorPkDl2
namespace Go.Proofs.YthpgkfonbmffdaaGreatDoor
open Go.RowKit Go.Lib

theorem check_job1 (j : JobD) : checkE V8 ⟨0, [j], [], []⟩ = jobE V8 j := by
  have h1 : headSE ⟨0, [j], [], []⟩ = 0 := by simp [headSE, inR]
  have h2 : rowsE (jobE V8) (·.name) none [j] = jobE V8 j := by
    unfold rowsE
    by_cases h : jobE V8 j ≠ 0
    · rw [if_pos h]
    · rw [if_neg h]; simp only [badO]; simp [rowsE]; omega
  unfold checkE
  simp only
  rw [h1, h2]
  simp [orE, rowsE, roomE]
  omega
theorem check_node1 (n : NodeD) : checkE V8 ⟨0, [], [n], []⟩ = nodeE V8 n := by
  have h1 : headSE ⟨0, [], [n], []⟩ = 0 := by simp [headSE, inR]
  have h2 : rowsE (nodeE V8) (·.name) none [n] = nodeE V8 n := by
    unfold rowsE
    by_cases h : nodeE V8 n ≠ 0
    · rw [if_pos h]
    · rw [if_neg h]; simp only [badO]; simp [rowsE]; omega
  unfold checkE
  simp only
  rw [h1, h2]
  by_cases h : nodeE V8 n ≠ 0
  · simp [orE, rowsE, h]
  · have h : nodeE V8 n = 0 := by omega
    have hr := ((nodeE_zero V8 n).1 h).2.1
    simp [orE, rowsE, h, roomE, usedD, sumZ, hr]
theorem jobsAt_one {b : Nat} {x : JobD} {t : TypeId} {w : World} (o : ObjAt b #[.string x.name, .int .i64 x.prio, .int .i64 x.need, .int .i64 x.tries, .string x.tag] t w) : JobsAt w (some ⟨b, 0, none⟩) [x] := by
  intro i hi
  obtain rfl : i = 0 := by simp at hi; omega
  exact ⟨_, rfl, objAt_lt o, objAt_cell o 0 rfl, objAt_cell o 1 rfl, objAt_cell o 2 rfl, objAt_cell o 3 rfl, objAt_cell o 4 rfl⟩
theorem nodesAt_one {b : Nat} {x : NodeD} {t : TypeId} {w : World} (o : ObjAt b #[.string x.name, .int .i64 x.room, .string x.zone] t w) : NodesAt w (some ⟨b, 0, none⟩) [x] := by
  intro i hi
  obtain rfl : i = 0 := by simp at hi; omega
  exact ⟨_, rfl, objAt_lt o, objAt_cell o 0 rfl, objAt_cell o 1 rfl, objAt_cell o 2 rfl⟩
set_option maxRecDepth 100000 in
set_option maxHeartbeats 4000000 in
theorem jobCheck_is (j : JobD) (hw : wJob j) (w : World) (hT : Tabs w) :
    Calls Tryz.prog 239 #[.agg #[.string j.name, .int .i64 j.prio, .int .i64 j.need, .int .i64 j.tries, .string j.tag]] w fun e w' => e = .returned (.int .i64 (jobE V8 j : Nat)) ∧ Below w.heap.size w w' := by
  have o := objAt_new (w.alloc (.cells #[.string j.name, .int .i64 j.prio, .int .i64 j.need, .int .i64 j.tries, .string j.tag] 202)) #[.string j.name, .int .i64 j.prio, .int .i64 j.need, .int .i64 j.tries, .string j.tag] 38
  rw [World.size_alloc] at o
  have bW : Below w.heap.size w ((w.alloc (.cells #[.string j.name, .int .i64 j.prio, .int .i64 j.need, .int .i64 j.tries, .string j.tag] 202)).alloc (.cells #[.string j.name, .int .i64 j.prio, .int .i64 j.need, .int .i64 j.tries, .string j.tag] 38)) := below_trans (below_one _ _) (below_one _ _) (by simp)
  have HC := check_any 0 (some ⟨w.heap.size + 1, 0, none⟩) none none 1 0 0 [j] [] [] ⟨by show (Lit.int .i64 0).wf = true; decide, fun x hx => by simp at hx; subst hx; exact hw, fun x hx => (by cases hx), fun x hx => (by cases hx)⟩ _ (hT.below bW) (jobsAt_one o) (fun i hi => absurd hi (by simp)) (fun i hi => absurd hi (by simp))
  rw [check_job1] at HC
  simp only [List.length_singleton, List.length_nil] at HC
  have HC := Lib.hid HC
  have BW := Lib.hid bW
  clear hT hw o bW
  go_enter Tryz.func239, Tryz.ntmps239
  go_wp2_with fail
  refine HC.out.mono ?_
  rintro e w1 ⟨rfl, b1⟩
  go_wp2
  go_ret
  exact ⟨rfl, below_trans BW.out b1 BW.out.size⟩
set_option maxRecDepth 100000 in
set_option maxHeartbeats 4000000 in
theorem nodeCheck_is (n : NodeD) (hw : wNode n) (w : World) (hT : Tabs w) :
    Calls Tryz.prog 242 #[.agg #[.string n.name, .int .i64 n.room, .string n.zone]] w fun e w' => e = .returned (.int .i64 (nodeE V8 n : Nat)) ∧ Below w.heap.size w w' := by
  have o := objAt_new (w.alloc (.cells #[.string n.name, .int .i64 n.room, .string n.zone] 204)) #[.string n.name, .int .i64 n.room, .string n.zone] 40
  rw [World.size_alloc] at o
  have bW : Below w.heap.size w ((w.alloc (.cells #[.string n.name, .int .i64 n.room, .string n.zone] 204)).alloc (.cells #[.string n.name, .int .i64 n.room, .string n.zone] 40)) := below_trans (below_one _ _) (below_one _ _) (by simp)
  have HC := check_any 0 none (some ⟨w.heap.size + 1, 0, none⟩) none 0 1 0 [] [n] [] ⟨by show (Lit.int .i64 0).wf = true; decide, fun x hx => (by cases hx), fun x hx => by simp at hx; subst hx; exact hw, fun x hx => (by cases hx)⟩ _ (hT.below bW) (fun i hi => absurd hi (by simp)) (nodesAt_one o) (fun i hi => absurd hi (by simp))
  rw [check_node1] at HC
  simp only [List.length_singleton, List.length_nil] at HC
  have HC := Lib.hid HC
  have BW := Lib.hid bW
  clear hT hw o bW
  go_enter Tryz.func242, Tryz.ntmps242
  go_wp2_with fail
  refine HC.out.mono ?_
  rintro e w1 ⟨rfl, b1⟩
  go_wp2
  go_ret
  exact ⟨rfl, below_trans BW.out b1 BW.out.size⟩
set_option maxRecDepth 100000 in
set_option maxHeartbeats 4000000 in
theorem leaseCheck_is (l : LeaseD) (w : World) (hT : Tabs w) :
    Calls Tryz.prog 248 #[.agg #[.string l.job, .string l.node, .int .i64 l.til]] w fun e w' => e = .returned (.int .i64 (leaseCE V8 l : Nat)) ∧ Below w.heap.size w w' := by
  have bW := below_one w (.cells #[.string l.job, .string l.node, .int .i64 l.til] 207)
  have HC := Lib.hid (checkLeaseC_is l _ (hT.below bW))
  have BW := Lib.hid bW
  clear hT bW
  go_enter Tryz.func248, Tryz.ntmps248
  go_wp2_with fail
  refine HC.out.mono ?_
  rintro e w1 ⟨rfl, b1⟩
  go_wp2
  go_ret
  exact ⟨rfl, below_trans BW.out b1 BW.out.size⟩
set_option maxRecDepth 100000 in
set_option maxHeartbeats 4000000 in
theorem nameCheck_is (nm : ByteArray) (w : World) (hT : Tabs w) :
    Calls Tryz.prog 245 #[.string nm] w fun e w' => e = .returned (.int .i64 ((if isName V8 nm then 0 else 4 : Nat) : Int)) ∧ Below w.heap.size w w' := by
  have HC := isName_is nm w hT
  obtain ⟨c, hc⟩ : ∃ c, isName V8 nm = c := ⟨_, rfl⟩
  rw [hc] at HC ⊢
  have HC := Lib.hid HC
  clear hT hc
  cases c with
  | true =>
    go_enter Tryz.func245, Tryz.ntmps245
    go_wp2_with fail
    refine HC.out.mono ?_
    rintro e w1 ⟨rfl, b1⟩
    go_wp2
    go_ret
    exact ⟨rfl, b1⟩
  | false =>
    go_enter Tryz.func245, Tryz.ntmps245
    go_wp2_with fail
    refine HC.out.mono ?_
    rintro e w1 ⟨rfl, b1⟩
    go_wp2
    go_ret
    exact ⟨rfl, b1⟩
set_option maxRecDepth 100000 in
set_option maxHeartbeats 4000000 in
theorem ticksCheck_is (N : Int) (w : World) :
    Calls Tryz.prog 251 #[.int .i64 N] w fun e w' => e = .returned (.int .i64 ((if inR N 0 1099511627776 then 0 else 1 : Nat) : Int)) ∧ Below w.heap.size w w' := by
  have HC := isTime_is N w
  obtain ⟨c, hc⟩ : ∃ c, inR N 0 1099511627776 = c := ⟨_, rfl⟩
  rw [hc] at HC ⊢
  have HC := Lib.hid HC
  clear hc
  cases c with
  | true =>
    go_enter Tryz.func251, Tryz.ntmps251
    go_wp2_with fail
    refine HC.out.mono ?_
    rintro e w1 ⟨rfl, rfl⟩
    go_wp2
    go_ret
    exact ⟨rfl, Below.refl _ _⟩
  | false =>
    go_enter Tryz.func251, Tryz.ntmps251
    go_wp2_with fail
    refine HC.out.mono ?_
    rintro e w1 ⟨rfl, rfl⟩
    go_wp2
    go_ret
    exact ⟨rfl, Below.refl _ _⟩
set_option maxRecDepth 100000 in
set_option maxHeartbeats 4000000 in
theorem nothingCheck_is (w : World) :
    Calls Tryz.prog 255 #[.agg #[]] w fun e w' => e = .returned (.int .i64 0) ∧ Below w.heap.size w w' := by
  go_enter Tryz.func255, Tryz.ntmps255
  go_wp2
  go_ret
  exact ⟨rfl, below_one _ _⟩
end Go.Proofs.YthpgkfonbmffdaaGreatDoor
