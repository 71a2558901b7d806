/- Package req: what each payload's check and pass answer. -/
import Derived.Test.YtklpmhiaihabaaaGRqNone
import Derived.Test.YtklpmhiaihabaaaGPkSt2
import Derived.Test.YtklpmhiaihabaaaGPkDl2
namespace Go.Proofs.Ytklpmhiaihabaaa
open Go.RowKit Go.Lib

theorem check_job1 [Inhabited UV] (j : JobD) : checkE V8 ⟨0, [j], [], []⟩ = jobE V8 j := by
  have h1 : headSE ⟨0, [j], [], []⟩ = 0 := by simp [headSE, inR]
  have h2 : rowsE (jobE V8) (·.name) none [j] = jobE V8 j := by
    unfold rowsE
    by_cases h : jobE V8 j ≠ 0
    · rw [if_pos h]
    · rw [if_neg h]; simp only [badO]; simp [rowsE]; omega
  unfold checkE
  simp only
  rw [h1, h2]
  simp [orE, rowsE, roomE]
  omega
theorem check_node1 [Inhabited UV] (n : NodeD) : checkE V8 ⟨0, [], [n], []⟩ = nodeE V8 n := by
  have h1 : headSE ⟨0, [], [n], []⟩ = 0 := by simp [headSE, inR]
  have h2 : rowsE (nodeE V8) (·.name) none [n] = nodeE V8 n := by
    unfold rowsE
    by_cases h : nodeE V8 n ≠ 0
    · rw [if_pos h]
    · rw [if_neg h]; simp only [badO]; simp [rowsE]; omega
  unfold checkE
  simp only
  rw [h1, h2]
  by_cases h : nodeE V8 n ≠ 0
  · simp [orE, rowsE, h]
  · have h : nodeE V8 n = 0 := by omega
    have hr := ((nodeE_zero V8 n).1 h).2.1
    simp [orE, rowsE, h, roomE, usedD, sumZ, hr]
theorem jobsAt_one {b : Nat} {x : JobD} {t : TypeId} {w : World} (o : ObjAt b #[.string x.name, .int .i64 x.prio, .int .i64 x.need, .int .i64 x.tries, .string x.tag] t w) : JobsAt w (some ⟨b, 0, none⟩) [x] := by
  intro i hi
  obtain rfl : i = 0 := by simp at hi; omega
  exact ⟨_, rfl, objAt_lt o, objAt_cell o 0 rfl, objAt_cell o 1 rfl, objAt_cell o 2 rfl, objAt_cell o 3 rfl, objAt_cell o 4 rfl⟩
theorem nodesAt_one {b : Nat} {x : NodeD} {t : TypeId} {w : World} (o : ObjAt b #[.string x.name, .int .i64 x.room, .string x.zone] t w) : NodesAt w (some ⟨b, 0, none⟩) [x] := by
  intro i hi
  obtain rfl : i = 0 := by simp at hi; omega
  exact ⟨_, rfl, objAt_lt o, objAt_cell o 0 rfl, objAt_cell o 1 rfl, objAt_cell o 2 rfl⟩
set_option maxRecDepth 100000 in
set_option maxHeartbeats 4000000 in
theorem jobCheck_is [Inhabited UV] (j : JobD) (hw : wJob j) (w : World) (hT : Tabs w) :
    Calls Try.prog 86 #[.agg #[.string j.name, .int .i64 j.prio, .int .i64 j.need, .int .i64 j.tries, .string j.tag]] w fun e w' => e = .returned (.int .i64 (jobE V8 j : Nat)) ∧ Below w.heap.size w w' := by
  have o := objAt_new (w.alloc (.cells #[.string j.name, .int .i64 j.prio, .int .i64 j.need, .int .i64 j.tries, .string j.tag] 81)) #[.string j.name, .int .i64 j.prio, .int .i64 j.need, .int .i64 j.tries, .string j.tag] 23
  rw [World.size_alloc] at o
  have bW : Below w.heap.size w ((w.alloc (.cells #[.string j.name, .int .i64 j.prio, .int .i64 j.need, .int .i64 j.tries, .string j.tag] 81)).alloc (.cells #[.string j.name, .int .i64 j.prio, .int .i64 j.need, .int .i64 j.tries, .string j.tag] 23)) := below_trans (below_one _ _) (below_one _ _) (by simp)
  have HC := check_any 0 (some ⟨w.heap.size + 1, 0, none⟩) none none 1 0 0 [j] [] [] ⟨by show (Lit.int .i64 0).wf = true; decide, fun x hx => by simp at hx; subst hx; exact hw, fun x hx => (by cases hx), fun x hx => (by cases hx)⟩ _ (hT.below bW) (jobsAt_one o) (fun i hi => absurd hi (by simp)) (fun i hi => absurd hi (by simp))
  rw [check_job1] at HC
  simp only [List.length_singleton, List.length_nil] at HC
  have HC := Lib.hid HC
  have BW := Lib.hid bW
  clear hT hw o bW
  go_enter Try.func86, Try.ntmps86
  go_wp2_with fail
  refine HC.out.mono ?_
  rintro e w1 ⟨rfl, b1⟩
  go_wp2
  go_ret
  exact ⟨rfl, below_trans BW.out b1 BW.out.size⟩
set_option maxRecDepth 100000 in
set_option maxHeartbeats 4000000 in
theorem nodeCheck_is [Inhabited UV] (n : NodeD) (hw : wNode n) (w : World) (hT : Tabs w) :
    Calls Try.prog 117 #[.agg #[.string n.name, .int .i64 n.room, .string n.zone]] w fun e w' => e = .returned (.int .i64 (nodeE V8 n : Nat)) ∧ Below w.heap.size w w' := by
  have o := objAt_new (w.alloc (.cells #[.string n.name, .int .i64 n.room, .string n.zone] 83)) #[.string n.name, .int .i64 n.room, .string n.zone] 25
  rw [World.size_alloc] at o
  have bW : Below w.heap.size w ((w.alloc (.cells #[.string n.name, .int .i64 n.room, .string n.zone] 83)).alloc (.cells #[.string n.name, .int .i64 n.room, .string n.zone] 25)) := below_trans (below_one _ _) (below_one _ _) (by simp)
  have HC := check_any 0 none (some ⟨w.heap.size + 1, 0, none⟩) none 0 1 0 [] [n] [] ⟨by show (Lit.int .i64 0).wf = true; decide, fun x hx => (by cases hx), fun x hx => by simp at hx; subst hx; exact hw, fun x hx => (by cases hx)⟩ _ (hT.below bW) (fun i hi => absurd hi (by simp)) (nodesAt_one o) (fun i hi => absurd hi (by simp))
  rw [check_node1] at HC
  simp only [List.length_singleton, List.length_nil] at HC
  have HC := Lib.hid HC
  have BW := Lib.hid bW
  clear hT hw o bW
  go_enter Try.func117, Try.ntmps117
  go_wp2_with fail
  refine HC.out.mono ?_
  rintro e w1 ⟨rfl, b1⟩
  go_wp2
  go_ret
  exact ⟨rfl, below_trans BW.out b1 BW.out.size⟩
set_option maxRecDepth 100000 in
set_option maxHeartbeats 4000000 in
theorem leaseCheck_is [Inhabited UV] (l : LeaseD) (w : World) (hT : Tabs w) :
    Calls Try.prog 124 #[.agg #[.string l.job, .string l.node, .int .i64 l.til]] w fun e w' => e = .returned (.int .i64 (leaseCE V8 l : Nat)) ∧ Below w.heap.size w w' := by
  have bW := below_one w (.cells #[.string l.job, .string l.node, .int .i64 l.til] 86)
  have HC := Lib.hid (checkLeaseC_is l _ (hT.below bW))
  have BW := Lib.hid bW
  clear hT bW
  go_enter Try.func124, Try.ntmps124
  go_wp2_with fail
  refine HC.out.mono ?_
  rintro e w1 ⟨rfl, b1⟩
  go_wp2
  go_ret
  exact ⟨rfl, below_trans BW.out b1 BW.out.size⟩
set_option maxRecDepth 100000 in
set_option maxHeartbeats 4000000 in
theorem nameCheck_is [Inhabited UV] (nm : ByteArray) (w : World) (hT : Tabs w) :
    Calls Try.prog 121 #[.string nm] w fun e w' => e = .returned (.int .i64 ((if isName V8 nm then 0 else 4 : Nat) : Int)) ∧ Below w.heap.size w w' := by
  have HC := isName_is nm w hT
  obtain ⟨c, hc⟩ : ∃ c, isName V8 nm = c := ⟨_, rfl⟩
  rw [hc] at HC ⊢
  have HC := Lib.hid HC
  clear hT hc
  cases c with
  | true =>
    go_enter Try.func121, Try.ntmps121
    go_wp2_with fail
    refine HC.out.mono ?_
    rintro e w1 ⟨rfl, b1⟩
    go_wp2
    go_ret
    exact ⟨rfl, b1⟩
  | false =>
    go_enter Try.func121, Try.ntmps121
    go_wp2_with fail
    refine HC.out.mono ?_
    rintro e w1 ⟨rfl, b1⟩
    go_wp2
    go_ret
    exact ⟨rfl, b1⟩
set_option maxRecDepth 100000 in
set_option maxHeartbeats 4000000 in
theorem ticksCheck_is (N : Int) (w : World) :
    Calls Try.prog 129 #[.int .i64 N] w fun e w' => e = .returned (.int .i64 ((if inR N 0 1099511627776 then 0 else 1 : Nat) : Int)) ∧ Below w.heap.size w w' := by
  have HC := isTime_is N w
  obtain ⟨c, hc⟩ : ∃ c, inR N 0 1099511627776 = c := ⟨_, rfl⟩
  rw [hc] at HC ⊢
  have HC := Lib.hid HC
  clear hc
  cases c with
  | true =>
    go_enter Try.func129, Try.ntmps129
    go_wp2_with fail
    refine HC.out.mono ?_
    rintro e w1 ⟨rfl, rfl⟩
    go_wp2
    go_ret
    exact ⟨rfl, Below.refl _ _⟩
  | false =>
    go_enter Try.func129, Try.ntmps129
    go_wp2_with fail
    refine HC.out.mono ?_
    rintro e w1 ⟨rfl, rfl⟩
    go_wp2
    go_ret
    exact ⟨rfl, Below.refl _ _⟩
set_option maxRecDepth 100000 in
set_option maxHeartbeats 4000000 in
theorem nothingCheck_is (w : World) :
    Calls Try.prog 132 #[.agg #[]] w fun e w' => e = .returned (.int .i64 0) ∧ Below w.heap.size w w' := by
  go_enter Try.func132, Try.ntmps132
  go_wp2
  go_ret
  exact ⟨rfl, below_one _ _⟩
set_option maxRecDepth 100000 in
set_option maxHeartbeats 4000000 in
theorem jobPass_is [Inhabited UV] {b : Nat} {m : M} (j : JobD) (hok : okJob V8 3 j) (hs : m.rest.size ≤ 1152921504606846976) (hg : m.gs.length ≤ 1000000000) (w : World) (h : CodeAt b 3 m w) (hE : Env b w) :
    Calls Try.prog 87 #[.agg #[.string j.name, .int .i64 j.prio, .int .i64 j.need, .int .i64 j.tries, .string j.tag], .pointer (some ⟨b, 0, none⟩)] w fun x w' => x = .returned (.iface 81 (.agg #[.string (jobS 3 j m).1.name, .int .i64 (jobS 3 j m).1.prio, .int .i64 (jobS 3 j m).1.need, .int .i64 (jobS 3 j m).1.tries, .string (jobS 3 j m).1.tag])) ∧ CodeAt b 3 (jobS 3 j m).2 w' ∧ Keep b w w' := by
  have k0 := keep_alloc b w (.cells #[.string j.name, .int .i64 j.prio, .int .i64 j.need, .int .i64 j.tries, .string j.tag] 81)
  have HC := codeJob_is j hok hs hg _ (code_alloc h (.cells #[.string j.name, .int .i64 j.prio, .int .i64 j.need, .int .i64 j.tries, .string j.tag] 81)) (env_keep hE k0)
  obtain ⟨r, hr⟩ : ∃ r, jobS 3 j m = r := ⟨_, rfl⟩
  rw [hr] at HC ⊢
  have HC := Lib.hid HC
  have K0 := Lib.hid k0
  have hl := code_lt h
  clear hE h k0 hr
  go_enter Try.func87, Try.ntmps87
  go_wp2_with fail
  refine HC.out.mono ?_
  rintro x w1 ⟨rfl, c1, k1⟩
  go_wp2
  go_ret
  exact ⟨rfl, c1, keep_trans K0.out k1⟩
set_option maxRecDepth 100000 in
set_option maxHeartbeats 4000000 in
theorem nodePass_is [Inhabited UV] {b : Nat} {m : M} (n : NodeD) (hok : okNode V8 3 n) (hs : m.rest.size ≤ 1152921504606846976) (hg : m.gs.length ≤ 1000000000) (w : World) (h : CodeAt b 3 m w) (hE : Env b w) :
    Calls Try.prog 118 #[.agg #[.string n.name, .int .i64 n.room, .string n.zone], .pointer (some ⟨b, 0, none⟩)] w fun x w' => x = .returned (.iface 83 (.agg #[.string (nodeS 3 n m).1.name, .int .i64 (nodeS 3 n m).1.room, .string (nodeS 3 n m).1.zone])) ∧ CodeAt b 3 (nodeS 3 n m).2 w' ∧ Keep b w w' := by
  have k0 := keep_alloc b w (.cells #[.string n.name, .int .i64 n.room, .string n.zone] 83)
  have HC := codeNode_is n hok hs hg _ (code_alloc h (.cells #[.string n.name, .int .i64 n.room, .string n.zone] 83)) (env_keep hE k0)
  obtain ⟨r, hr⟩ : ∃ r, nodeS 3 n m = r := ⟨_, rfl⟩
  rw [hr] at HC ⊢
  have HC := Lib.hid HC
  have K0 := Lib.hid k0
  have hl := code_lt h
  clear hE h k0 hr
  go_enter Try.func118, Try.ntmps118
  go_wp2_with fail
  refine HC.out.mono ?_
  rintro x w1 ⟨rfl, c1, k1⟩
  go_wp2
  go_ret
  exact ⟨rfl, c1, keep_trans K0.out k1⟩
set_option maxRecDepth 100000 in
set_option maxHeartbeats 4000000 in
theorem leasePass_is [Inhabited UV] {b : Nat} {m : M} (l : LeaseD) (hok : okLease V8 l) (hs : m.rest.size ≤ 1152921504606846976) (hg : m.gs.length ≤ 1000000000) (w : World) (h : CodeAt b 3 m w) (hE : Env b w) :
    Calls Try.prog 125 #[.agg #[.string l.job, .string l.node, .int .i64 l.til], .pointer (some ⟨b, 0, none⟩)] w fun x w' => x = .returned (.iface 86 (.agg #[.string (leaseS l m).1.job, .string (leaseS l m).1.node, .int .i64 (leaseS l m).1.til])) ∧ CodeAt b 3 (leaseS l m).2 w' ∧ Keep b w w' := by
  have k0 := keep_alloc b w (.cells #[.string l.job, .string l.node, .int .i64 l.til] 86)
  have HC := codeLease_is l hok hs hg _ (code_alloc h (.cells #[.string l.job, .string l.node, .int .i64 l.til] 86)) (env_keep hE k0)
  obtain ⟨r, hr⟩ : ∃ r, leaseS l m = r := ⟨_, rfl⟩
  rw [hr] at HC ⊢
  have HC := Lib.hid HC
  have K0 := Lib.hid k0
  have hl := code_lt h
  clear hE h k0 hr
  go_enter Try.func125, Try.ntmps125
  go_wp2_with fail
  refine HC.out.mono ?_
  rintro x w1 ⟨rfl, c1, k1⟩
  go_wp2
  go_ret
  exact ⟨rfl, c1, keep_trans K0.out k1⟩
set_option maxRecDepth 100000 in
set_option maxHeartbeats 4000000 in
theorem namePass_is [Inhabited UV] {b : Nat} {m : M} (nm : ByteArray) (hn : m.reading = false → isNote V8 nm = true) (hs : m.rest.size ≤ 1152921504606846976) (hg : m.gs.length ≤ 1000000000) (w : World) (h : CodeAt b 3 m w) (hE : Env b w) :
    Calls Try.prog 122 #[.string nm, .pointer (some ⟨b, 0, none⟩)] w fun x w' => x = .returned (.iface 84 (.string (txtS nm m).1)) ∧ CodeAt b 3 (txtS nm m).2 w' ∧ Keep b w w' := by
  have HC := codeText_is nm hn hs (by omega) w h (env_tabs hE)
  obtain ⟨r, hr⟩ : ∃ r, txtS nm m = r := ⟨_, rfl⟩
  rw [hr] at HC ⊢
  have HC := Lib.hid HC
  clear hE h hr hn
  go_enter Try.func122, Try.ntmps122
  go_wp2_with fail
  refine HC.out.mono ?_
  rintro x w1 ⟨rfl, c1, k1⟩
  go_wp2
  go_ret
  exact ⟨rfl, c1, k1⟩
set_option maxRecDepth 100000 in
set_option maxHeartbeats 4000000 in
theorem ticksPass_is {b : Nat} {m : M} (N : Int) (hn : 0 ≤ N ∧ N ≤ 4611686018427387904) (hs : m.rest.size ≤ 1152921504606846976) (hg : m.gs.length ≤ 1000000000) (w : World) (h : CodeAt b 3 m w) :
    Calls Try.prog 130 #[.int .i64 N, .pointer (some ⟨b, 0, none⟩)] w fun x w' => x = .returned (.iface 87 (.int .i64 (numbS N m).1)) ∧ CodeAt b 3 (numbS N m).2 w' ∧ Keep b w w' := by
  have HC := number_in N hn hs (by omega) w h
  obtain ⟨r, hr⟩ : ∃ r, numbS N m = r := ⟨_, rfl⟩
  rw [hr] at HC ⊢
  have HC := Lib.hid HC
  clear h hr hn
  go_enter Try.func130, Try.ntmps130
  go_wp2_with fail
  refine HC.out.mono ?_
  rintro x w1 ⟨rfl, c1, k1⟩
  go_wp2
  go_ret
  exact ⟨rfl, c1, k1⟩
set_option maxRecDepth 100000 in
set_option maxHeartbeats 4000000 in
theorem nothingPass_is {b : Nat} {m : M} (w : World) (h : CodeAt b 3 m w) :
    Calls Try.prog 133 #[.agg #[], .pointer (some ⟨b, 0, none⟩)] w fun x w' => x = .returned (.iface 89 (.agg #[])) ∧ CodeAt b 3 m w' ∧ Keep b w w' := by
  have k0 := Lib.hid (keep_alloc b w (.cells #[] 89))
  have c0 := Lib.hid (code_alloc h (.cells #[] 89))
  clear h
  go_enter Try.func133, Try.ntmps133
  go_wp2
  go_ret
  exact ⟨rfl, c0.out, k0.out⟩
end Go.Proofs.Ytklpmhiaihabaaa
