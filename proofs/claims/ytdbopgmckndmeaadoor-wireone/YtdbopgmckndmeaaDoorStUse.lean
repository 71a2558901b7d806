/- The tables of a state, and what is used of a node: the program's maps. -/
import Derived.Test.YtdbopgmckndmeaaDoorStBox
import Derived.Maps.OwnOps
import Derived.Carry
namespace Go.Proofs.YtdbopgmckndmeaaDoor
open Go.RowKit

/-- A block of cells that may be written. -/
def OwnB (b : Nat) (vs : List Value) (w : World) : Prop := Box b vs w ∧ ∀ j, j < vs.length → w.frozen? ⟨b, j, none⟩ = false
theorem ownB_next {b : Nat} {vs : List Value} {w w' : World} (h : OwnB b vs w) (hb : Below w.heap.size w w') : OwnB b vs w' :=
  ⟨box_next h.1 hb, fun j hj => by rw [hb.frozen (p := ⟨b, j, none⟩) h.1.2]; exact h.2 j hj⟩
theorem ownB_alloc {b : Nat} {vs : List Value} {w : World} (h : OwnB b vs w) (o : Obj) : OwnB b vs (w.alloc o) := ownB_next h (below_one _ _)
theorem ownB_grown {b : Nat} {vs : List Value} {w w' : World} {row : Option Nat} (h : OwnB b vs w) (hg : w.grownBy w' row) (hne : some b ≠ row) : OwnB b vs w' :=
  ⟨box_grown h.1 hg hne, fun j hj => by rw [World.frozen?_of_block (w := w) (a := ⟨b, j, none⟩) (hg.block b h.1.2 hne)]; exact h.2 j hj⟩
theorem ownB_new2 (w : World) (a b : Value) (t : TypeId) : OwnB w.heap.size [a, b] (w.alloc (.cells #[a, b] t)) := by
  refine ⟨box_new2 _ _ _ _, fun j hj => ?_⟩
  match j with
  | 0 => go_simp
  | 1 => go_simp
  | j + 2 => exact absurd hj (by simp)
theorem grownB_below {B : Nat} {w0 w w' : World} {b : Nat} (h : Below B w0 w) (k : w.grownBy w' (some b)) (hB : B ≤ w.heap.size) (hb : B ≤ b) : Below B w0 w' := h.grown k hB (fun j hj => by simp at hj; omega)
theorem mapAt_set {w : World} {b b' n : Nat} {f : ByteArray → Option Value} (h : MapAt w b n f) (hne : b ≠ b') (j : Nat) (u : Value) : MapAt (w.setCell ⟨b', j, none⟩ u) b n f := h.elim fun D h => ⟨D, h.1.setCell (a := ⟨b', j, none⟩) hne u, h.2⟩
set_option maxRecDepth 100000 in
set_option maxHeartbeats 2000000 in
theorem tablesOf_is (rev : Int) (aj an al : Option Addr) (cj cn cl : Nat) (jobs : List JobD) (nodes : List NodeD) (leases : List LeaseD) (hj : jobs.length ≤ 40) (hn : nodes.length ≤ 20)
    (hwj : ∀ x ∈ jobs, wJob x) (hwn : ∀ x ∈ nodes, wNode x) (w : World) (hmj : JobsAt w aj jobs) (hmn : NodesAt w an nodes) :
    Calls Tryd.prog 69 #[.agg #[.int .i64 rev, .slice aj jobs.length cj, .slice an nodes.length cn, .slice al leases.length cl]] w fun e w' =>
      ∃ bj bn, e = .returned (.agg #[.map (some bj), .map (some bn)]) ∧ MapAt w' bj 40 (tabF (·.name) jobV jobs) ∧ MapAt w' bn 20 (tabF (·.name) nodeV nodes) ∧ Below w.heap.size w w' := by
  have hmm := @run_makeMap Tryd.prog
  have HMJ := Lib.hid hmj
  have HMN := Lib.hid hmn
  have HWJ := Lib.hid hwj
  have HWN := Lib.hid hwn
  clear hmj hmn hwj hwn
  go_enter Tryd.func69, Tryd.ntmps69
  go_wp2
  clear hmm
  go_loopw [14] (fun iv wr => ∃ (i : Nat), iv = .int .i64 (i : Int) ∧ i ≤ jobs.length ∧ Below w.heap.size w wr ∧ Box w.heap.size [.int .i64 rev, .slice aj jobs.length cj, .slice an nodes.length cn, .slice al leases.length cl] wr ∧ OwnB (w.heap.size + 1) [.map none, .map none] wr ∧
    Box (w.heap.size + 1 + 1 + 1 + 1) [.map (some (w.heap.size + 1 + 1)), .map (some (w.heap.size + 1 + 1 + 1))] wr ∧ MapAt wr (w.heap.size + 1 + 1) i (tabF (·.name) jobV (jobs.take i)) ∧ MapAt wr (w.heap.size + 1 + 1 + 1) 0 (fun _ => none)) (fun iv _ => jobs.length - (intOf iv).toNat)
  case atStart =>
    have q1 := box_new4 w (.int .i64 rev) (.slice aj jobs.length cj) (.slice an nodes.length cn) (.slice al leases.length cl) 26
    obtain ⟨W0, e0⟩ : ∃ W0, w.alloc (.cells #[.int .i64 rev, .slice aj jobs.length cj, .slice an nodes.length cn, .slice al leases.length cl] 26) = W0 := ⟨_, rfl⟩
    have s0 : W0.heap.size = w.heap.size + 1 := by rw [← e0, World.size_alloc]
    have b0 : Below w.heap.size w W0 := by rw [← e0]; exact below_one _ _
    rw [e0] at q1 ⊢
    have q2 := ownB_new2 W0 (.map none) (.map none) 104
    obtain ⟨W1, e1⟩ : ∃ W1, W0.alloc (.cells #[.map none, .map none] 104) = W1 := ⟨_, rfl⟩
    have s1 : W1.heap.size = w.heap.size + 1 + 1 := by rw [← e1, World.size_alloc, s0]
    have b1 : Below w.heap.size w W1 := by rw [← e1]; exact b0.alloc (by omega) _
    have r1 : Box w.heap.size [.int .i64 rev, .slice aj jobs.length cj, .slice an nodes.length cn, .slice al leases.length cl] W1 := by rw [← e1]; exact box_alloc q1 _
    rw [e1, s0] at q2
    rw [e1]
    have q3 := mapAt_made W1
    obtain ⟨W2, e2⟩ : ∃ W2, W1.alloc (.map #[] 0) = W2 := ⟨_, rfl⟩
    have s2 : W2.heap.size = w.heap.size + 1 + 1 + 1 := by rw [← e2, World.size_alloc, s1]
    have b2 : Below w.heap.size w W2 := by rw [← e2]; exact b1.alloc (by omega) _
    have r2 : Box w.heap.size [.int .i64 rev, .slice aj jobs.length cj, .slice an nodes.length cn, .slice al leases.length cl] W2 := by rw [← e2]; exact box_alloc r1 _
    have t2 : OwnB (w.heap.size + 1) [.map none, .map none] W2 := by rw [← e2]; exact ownB_alloc q2 _
    rw [e2, s1] at q3
    rw [e2]
    have q4 := mapAt_made W2
    rw [s2] at q4
    have q5 := box_new2 (W2.alloc (.map #[] 0)) (.map (some (w.heap.size + 1 + 1))) (.map (some (w.heap.size + 1 + 1 + 1))) 104
    rw [World.size_alloc, s2] at q5
    exact ⟨0, rfl, Nat.zero_le _, (b2.alloc b2.size _).alloc (by rw [World.size_alloc]; omega) _, box_alloc (box_alloc r2 _) _, ownB_alloc (ownB_alloc t2 _) _, q5, mapAt_ext (mapAt_alloc (mapAt_alloc q3 _) _) (fun s => rfl), mapAt_alloc q4 _⟩
  case round =>
    obtain ⟨i, rfl, hi, hbr, hS, hO, hB, h1, h2⟩ := hrel
    by_cases h : (i : Int) < (jobs.length : Int)
    · have hil : i < jobs.length := by omega
      obtain ⟨a, rfl, hal, k0, k1, k2, k3, k4⟩ := jobsAt_next HMJ.out hbr i hil
      obtain ⟨x, hxi⟩ : ∃ x, jobs[i] = x := ⟨_, rfl⟩
      rw [hxi] at k0 k1 k2 k3 k4
      have hwx : x.name.size ≤ maxLen := (HWJ.out x (by rw [← hxi]; exact List.getElem_mem _)).1
      have Hxi := Lib.hid hxi
      have kb := (box_alloc hB (.cells #[.string x.name, .int .i64 x.prio, .int .i64 x.need, .int .i64 x.tries, .string x.tag] 64)).1 0 _ rfl
      have h1' := mapAt_alloc h1 (.cells #[.string x.name, .int .i64 x.prio, .int .i64 x.need, .int .i64 x.tries, .string x.tag] 64)
      clear hxi
      go_wp2_with (at_mapUpdate; refine wpList_put _ rfl _ _ _ 101 rfl 64 Tryd.underlying101 _ _ _ rfl h1' (by unfold maxLen; omega) x.name rfl hwx (jobV x) rfl ?_)
      intro w1 h3 hg
      have hbs := hbr.size
      have hbel := grownB_below (hbr.alloc hbs (.cells #[.string x.name, .int .i64 x.prio, .int .i64 x.need, .int .i64 x.tries, .string x.tag] 64)) hg (by simp; omega) (by omega)
      have hS1 := box_grown (box_alloc hS _) hg (by intro e; simp only [Option.some.injEq] at e; omega)
      have hO1 := ownB_grown (ownB_alloc hO _) hg (by intro e; simp only [Option.some.injEq] at e; omega)
      have hB1 := box_grown (box_alloc hB _) hg (by intro e; simp only [Option.some.injEq] at e; omega)
      have h21 := mapAt_kept (mapAt_alloc h2 _) hg (by intro e; simp only [Option.some.injEq] at e; omega)
      have h11 : MapAt w1 (w.heap.size + 1 + 1) (i + 1) (tabF (·.name) jobV (jobs.take (i + 1))) := mapAt_ext h3 (fun s => by have := tabF_step (·.name) jobV jobs i hil s; rw [Hxi.out] at this; exact this)
      clear h3 hg h1 h2 hS hO hB h1' kb k0 k1 k2 k3 k4
      go_wp2
      go_roundw
      case rel => exact ⟨i + 1, by simp, by omega, hbel, hS1, hO1, hB1, h11, h21⟩
      case measure => simp [intOf]; omega
    · obtain rfl : i = jobs.length := by omega
      rw [List.take_length] at h1
      have c2 := hS.1 2 _ rfl
      have hj40 := mapAt_mono h1 hj
      have hO2 := Lib.hid hO
      clear h1
      go_wp2
      go_loopw [27] (fun iv wr => ∃ (i : Nat), iv = .int .i64 (i : Int) ∧ i ≤ nodes.length ∧ Below w.heap.size w wr ∧ OwnB (w.heap.size + 1) [.map none, .map none] wr ∧
        Box (w.heap.size + 1 + 1 + 1 + 1) [.map (some (w.heap.size + 1 + 1)), .map (some (w.heap.size + 1 + 1 + 1))] wr ∧ MapAt wr (w.heap.size + 1 + 1) 40 (tabF (·.name) jobV jobs) ∧ MapAt wr (w.heap.size + 1 + 1 + 1) i (tabF (·.name) nodeV (nodes.take i))) (fun iv _ => nodes.length - (intOf iv).toNat)
      case atStart => exact ⟨0, rfl, Nat.zero_le _, hbr, hO, hB, hj40, mapAt_ext h2 (fun s => rfl)⟩
      case round =>
        clear hS hO hB hj40 h2 hbr c2 hO2
        obtain ⟨i, rfl, hi, hbr, hO, hB, h1, h2⟩ := hrel
        by_cases h : (i : Int) < (nodes.length : Int)
        · have hil : i < nodes.length := by omega
          obtain ⟨a, rfl, hal, k0, k1, k2⟩ := nodesAt_next HMN.out hbr i hil
          obtain ⟨x, hxi⟩ : ∃ x, nodes[i] = x := ⟨_, rfl⟩
          rw [hxi] at k0 k1 k2
          have hwx : x.name.size ≤ maxLen := (HWN.out x (by rw [← hxi]; exact List.getElem_mem _)).1
          have Hxi := Lib.hid hxi
          have kb := (box_alloc hB (.cells #[.string x.name, .int .i64 x.room, .string x.zone] 67)).1 1 _ rfl
          have h2' := mapAt_alloc h2 (.cells #[.string x.name, .int .i64 x.room, .string x.zone] 67)
          clear hxi
          go_wp2_with (at_mapUpdate; refine wpList_put _ rfl _ _ _ 102 rfl 67 Tryd.underlying102 _ _ _ rfl h2' (by unfold maxLen; omega) x.name rfl hwx (nodeV x) rfl ?_)
          intro w1 h3 hg
          have hbs := hbr.size
          have hbel := grownB_below (hbr.alloc hbs (.cells #[.string x.name, .int .i64 x.room, .string x.zone] 67)) hg (by simp; omega) (by omega)
          have hO1 := ownB_grown (ownB_alloc hO _) hg (by intro e; simp only [Option.some.injEq] at e; omega)
          have hB1 := box_grown (box_alloc hB _) hg (by intro e; simp only [Option.some.injEq] at e; omega)
          have h11 := mapAt_kept (mapAt_alloc h1 _) hg (by intro e; simp only [Option.some.injEq] at e; omega)
          have h21 : MapAt w1 (w.heap.size + 1 + 1 + 1) (i + 1) (tabF (·.name) nodeV (nodes.take (i + 1))) := mapAt_ext h3 (fun s => by have := tabF_step (·.name) nodeV nodes i hil s; rw [Hxi.out] at this; exact this)
          clear h3 hg h1 h2 hO hB h2' kb k0 k1 k2
          go_wp2
          go_roundw
          case rel => exact ⟨i + 1, by simp, by omega, hbel, hO1, hB1, h11, h21⟩
          case measure => simp [intOf]; omega
        · obtain rfl : i = nodes.length := by omega
          rw [List.take_length] at h2
          have c0 := hB.1 0 _ rfl
          have c1 := hB.1 1 _ rfl
          have o0 := hO.1.1 0 _ rfl
          have o1 := hO.1.1 1 _ rfl
          have f0 := hO.2 0 (by simp)
          have f1 := hO.2 1 (by simp)
          have h11 := mapAt_set (mapAt_set h1 (b' := w.heap.size + 1) (by omega) 0 (.map (some (w.heap.size + 1 + 1)))) (b' := w.heap.size + 1) (by omega) 1 (.map (some (w.heap.size + 1 + 1 + 1)))
          have h21 := mapAt_set (mapAt_set h2 (b' := w.heap.size + 1) (by omega) 0 (.map (some (w.heap.size + 1 + 1)))) (b' := w.heap.size + 1) (by omega) 1 (.map (some (w.heap.size + 1 + 1 + 1)))
          have hbel := (hbr.setCell (p := ⟨w.heap.size + 1, 0, none⟩) (Nat.le_succ _) (.map (some (w.heap.size + 1 + 1)))).setCell (p := ⟨w.heap.size + 1, 1, none⟩) (Nat.le_succ _) (.map (some (w.heap.size + 1 + 1 + 1)))
          have q0 : ((wr.setCell ⟨w.heap.size + 1, 0, none⟩ (.map (some (w.heap.size + 1 + 1)))).setCell ⟨w.heap.size + 1, 1, none⟩ (.map (some (w.heap.size + 1 + 1 + 1)))).cell? ⟨w.heap.size + 1, 0, none⟩ = some (.map (some (w.heap.size + 1 + 1))) := by go_simp
          have q1 : ((wr.setCell ⟨w.heap.size + 1, 0, none⟩ (.map (some (w.heap.size + 1 + 1)))).setCell ⟨w.heap.size + 1, 1, none⟩ (.map (some (w.heap.size + 1 + 1 + 1)))).cell? ⟨w.heap.size + 1, 1, none⟩ = some (.map (some (w.heap.size + 1 + 1 + 1))) := by go_simp
          clear h1 h2 hO hB hbr
          go_wp2
          exact bodyPost_ret (v := .agg #[.map (some (w.heap.size + 1 + 1)), .map (some (w.heap.size + 1 + 1 + 1))]) (by simp [results, Tryd.results69, go_sem, q0, q1]) rfl ⟨_, _, rfl, h11, mapAt_mono h21 hn, hbel⟩
/-- Zero values. -/
theorem zeroJob (w : World) : (zeroValue 64).run Tryd.prog w = .ok (jobV zeroJ) w := by kernel_rfl
theorem zeroNode (w : World) : (zeroValue 67).run Tryd.prog w = .ok (nodeV zeroN) w := by kernel_rfl
theorem zeroInt (w : World) : (zeroValue 3).run Tryd.prog w = .ok (.int .i64 0) w := by kernel_rfl
theorem field_need (a b c d e : Value) (w : World) : (Instr.field 64 (.agg #[a, b, c, d, e]) 2).run Tryd.prog w = .ok c w := by kernel_rfl
set_option maxRecDepth 100000 in
set_option maxHeartbeats 2000000 in
theorem used_is (U : ByteArray → Bool) (bj bn : Nat) (jobs : List JobD) (hJ : ∀ j ∈ jobs, jobE U j = 0) (hA : Asc (·.name) jobs) (al : Option Addr) (cl : Nat) (leases : List LeaseD) (hl : leases.length ≤ 40) (hwl : ∀ x ∈ leases, wLease x)
    (w : World) (hml : LeasesAt w al leases) (hM : MapAt w bj 40 (tabF (·.name) jobV jobs)) :
    Calls Tryd.prog 104 #[.agg #[.map (some bj), .map (some bn)], .slice al leases.length cl] w fun e w' =>
      ∃ bs, e = .returned (.map (some bs)) ∧ MapAt w' bs 40 (sumF jobs leases) ∧ Below w.heap.size w w' := by
  have hmm := @run_makeMap Tryd.prog
  have HML := Lib.hid hml
  have HWL := Lib.hid hwl
  have HM := Lib.hid hM
  have HJ := Lib.hid hJ
  have HA := Lib.hid hA
  clear hml hwl hM hJ hA
  go_enter Tryd.func104, Tryd.ntmps104
  go_wp2
  clear hmm
  go_loopw [11] (fun iv wr => ∃ (i : Nat), iv = .int .i64 (i : Int) ∧ i ≤ leases.length ∧ Below w.heap.size w wr ∧ Box w.heap.size [.map (some bj), .map (some bn)] wr ∧ MapAt wr (w.heap.size + 1) i (sumF jobs (leases.take i))) (fun iv _ => leases.length - (intOf iv).toNat)
  case atStart =>
    have q1 := box_new2 w (.map (some bj)) (.map (some bn)) 104
    have q3 := mapAt_made (w.alloc (.cells #[.map (some bj), .map (some bn)] 104))
    rw [World.size_alloc] at q3
    exact ⟨0, rfl, Nat.zero_le _, (below_one _ _).alloc (by simp) _, box_alloc q1 _, mapAt_ext q3 (fun s => rfl)⟩
  case round =>
    obtain ⟨i, rfl, hi, hbr, hB, h1⟩ := hrel
    by_cases h : (i : Int) < (leases.length : Int)
    · have hil : i < leases.length := by omega
      obtain ⟨a, rfl, hal, k0, k1, k2⟩ := leasesAt_next HML.out hbr i hil
      have hst := sumF_step jobs leases i hil
      have hbd := used_take_bd U HJ.out leases[i].node leases hl i
      have hnd := needOf_bd U HJ.out leases[i].job
      obtain ⟨x, hxi⟩ : ∃ x, leases[i] = x := ⟨_, rfl⟩
      rw [hxi] at k0 k1 k2 hst hbd hnd
      have hwx := HWL.out x (by rw [← hxi]; exact List.getElem_mem _)
      have hw0 : x.job.size ≤ maxLen := hwx.1
      have hw1 : x.node.size ≤ maxLen := hwx.2.1
      obtain ⟨c, hc⟩ : ∃ c, c = usedD jobs (leases.take i) x.node := ⟨_, rfl⟩
      obtain ⟨d, hd⟩ : ∃ d, d = needOf jobs x.job := ⟨_, rfl⟩
      rw [← hc, ← hd] at hst
      rw [← hc] at hbd
      rw [← hd] at hnd
      have kb := (box_alloc hB (.cells #[.string x.job, .string x.node, .int .i64 x.til] 70)).1 0 _ rfl
      have h1' := mapAt_alloc h1 (.cells #[.string x.job, .string x.node, .int .i64 x.til] 70)
      have hM' := mapAt_alloc (mapAt_below HM.out hbr) (.cells #[.string x.job, .string x.node, .int .i64 x.til] 70)
      have z1 : (sumF jobs (leases.take i) x.node).getD (.int .i64 0) = .int .i64 c := by rw [hc]; exact sumF_get _ _ _
      have z2 := tabF_pickJ jobV jobs x.job
      have z3 := pickJ_need HA.out x.job
      rw [← hd] at z3
      obtain ⟨y, hy⟩ : ∃ y, y = pickJ jobs x.job := ⟨_, rfl⟩
      rw [← hy] at z2 z3
      have hwr : IntKind.i64.wrap (c + d) = c + d := IntWalk.i64_in _ (by omega)
      have Z1 := Lib.hid z1
      have Z2 : Hid ((tabF (·.name) jobV jobs x.job).getD (jobV zeroJ) = .agg #[.string y.name, .int .i64 y.prio, .int .i64 d, .int .i64 y.tries, .string y.tag]) := by show _ = _; rw [z2, ← z3]; rfl
      have HST := Lib.hid hst
      have hfn := field_need (.string y.name) (.int .i64 y.prio) (.int .i64 d) (.int .i64 y.tries) (.string y.tag)
      clear hxi hc hd hy z1 z2 z3 hwx hst
      have hbs := hbr.size
      go_wp2_with (first
        | (at_lookup; refine wpList_look _ rfl _ _ 133 rfl 3 Tryd.underlying133 (zeroInt _) _ _ _ rfl h1' x.node rfl hw1 _ Z1.out ?_)
        | (at_lookup; refine wpList_look _ rfl _ _ 101 rfl 64 Tryd.underlying101 (zeroJob _) _ _ _ rfl hM' x.job rfl hw0 _ Z2.out ?_)
        | (at_mapUpdate; refine wpList_put _ rfl _ _ _ 133 rfl 3 Tryd.underlying133 _ _ _ rfl h1' (by unfold maxLen; omega) x.node rfl hw1 (.int .i64 (c + d)) rfl ?_))
      intro w1 h3 hg
      have hbel := grownB_below (hbr.alloc hbs (.cells #[.string x.job, .string x.node, .int .i64 x.til] 70)) hg (by simp; omega) (by omega)
      have hB1 := box_grown (box_alloc hB _) hg (by intro e; simp only [Option.some.injEq] at e; omega)
      have h11 : MapAt w1 (w.heap.size + 1) (i + 1) (sumF jobs (leases.take (i + 1))) := mapAt_ext h3 HST.out
      clear h3 hg h1 hB h1' kb k0 k1 k2 hM'
      go_wp2
      go_roundw
      case rel => exact ⟨i + 1, by simp, by omega, hbel, hB1, h11⟩
      case measure => simp [intOf]; omega
    · obtain rfl : i = leases.length := by omega
      rw [List.take_length] at h1
      have h2 := mapAt_mono h1 hl
      go_wp2
      go_ret
      exact ⟨_, rfl, h2, hbr⟩
end Go.Proofs.YtdbopgmckndmeaaDoor
