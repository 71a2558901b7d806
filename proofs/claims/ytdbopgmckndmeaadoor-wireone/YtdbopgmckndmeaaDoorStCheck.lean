/- state.Check at every state. -/
import Derived.Test.YtdbopgmckndmeaaDoorStUse
import Derived.Test.YtdbopgmckndmeaaDoorStRows
import Derived.Test.YtdbopgmckndmeaaDoorStChk
namespace Go.Proofs.YtdbopgmckndmeaaDoor
open Go.RowKit

theorem leaseE_is {jobs : List JobD} {nodes : List NodeD} {x : LeaseD} {c1 c2 d : Bool} (h1 : hasJob jobs x.job = c1) (h2 : hasNode nodes x.node = c2) (h3 : inR x.til 0 1099511627776 = d) : leaseE jobs nodes x = if (c1 && c2) = true then (if d = true then 0 else 1) else 6 := by rw [leaseE, h1, h2, h3]
/-- The tables of jobs and nodes lie in memory. -/
def TabsAt (bj bn : Nat) (jobs : List JobD) (nodes : List NodeD) (w : World) : Prop := MapAt w bj 40 (tabF (·.name) jobV jobs) ∧ MapAt w bn 20 (tabF (·.name) nodeV nodes)
theorem tabsAt_next {bj bn : Nat} {jobs : List JobD} {nodes : List NodeD} : ∀ w w', TabsAt bj bn jobs nodes w → Below w.heap.size w w' → TabsAt bj bn jobs nodes w' := fun _ _ h hb => ⟨mapAt_below h.1 hb, mapAt_below h.2 hb⟩
set_option maxRecDepth 100000 in
set_option maxHeartbeats 2000000 in
theorem checkLease_is (bj bn : Nat) (jobs : List JobD) (nodes : List NodeD) (x : LeaseD) (hw0 : x.job.size ≤ maxLen) (hw1 : x.node.size ≤ maxLen) (w : World) (hT : TabsAt bj bn jobs nodes w) :
    Calls Tryd.prog 71 #[.agg #[.map (some bj), .map (some bn)], .agg #[.string x.job, .string x.node, .int .i64 x.til]] w fun e w' => e = .returned (.int .i64 (leaseE jobs nodes x : Nat)) ∧ Below w.heap.size w w' := by
  obtain ⟨c1, h1⟩ : ∃ c, hasJob jobs x.job = c := ⟨_, rfl⟩
  obtain ⟨c2, h2⟩ : ∃ c, hasNode nodes x.node = c := ⟨_, rfl⟩
  obtain ⟨d, h3⟩ : ∃ d, inR x.til 0 1099511627776 = d := ⟨_, rfl⟩
  have HE := Lib.hid (leaseE_is h1 h2 h3)
  obtain ⟨R, hR⟩ : ∃ R, leaseE jobs nodes x = R := ⟨_, rfl⟩
  rw [hR] at HE ⊢
  have G := Lib.hid (within_is x.til 0 1099511627776)
  rw [h3] at G
  have m1 := mapAt_alloc (mapAt_alloc hT.1 (.cells #[.map (some bj), .map (some bn)] 104)) (.cells #[.string x.job, .string x.node, .int .i64 x.til] 70)
  have m2 := mapAt_alloc (mapAt_alloc hT.2 (.cells #[.map (some bj), .map (some bn)] 104)) (.cells #[.string x.job, .string x.node, .int .i64 x.til] 70)
  obtain ⟨y, hy⟩ : ∃ y, y = pickJ jobs x.job := ⟨_, rfl⟩
  obtain ⟨z, hz⟩ : ∃ z, z = pickN nodes x.node := ⟨_, rfl⟩
  have Z1 : Hid ((tabF (·.name) jobV jobs x.job).getD (jobV zeroJ) = .agg #[.string y.name, .int .i64 y.prio, .int .i64 y.need, .int .i64 y.tries, .string y.tag]) := by show _ = _; rw [tabF_pickJ, hy]; rfl
  have Z2 : Hid ((tabF (·.name) nodeV nodes x.node).getD (nodeV zeroN) = .agg #[.string z.name, .int .i64 z.room, .string z.zone]) := by show _ = _; rw [tabF_pickN, hz]; rfl
  have Y1 : Hid ((tabF (·.name) jobV jobs x.job).isSome = c1) := by show _ = _; rw [tabF_job]; exact h1
  have Y2 : Hid ((tabF (·.name) nodeV nodes x.node).isSome = c2) := by show _ = _; rw [tabF_node]; exact h2
  have m2' := mapAt_alloc m2 (.cells #[.string y.name, .int .i64 y.prio, .int .i64 y.need, .int .i64 y.tries, .string y.tag] 64)
  clear hT h1 h2 h3 hR hy hz m2
  go_enter Tryd.func71, Tryd.ntmps71
  have bel : Below w.heap.size w ((((w.alloc (.cells #[.map (some bj), .map (some bn)] 104)).alloc (.cells #[.string x.job, .string x.node, .int .i64 x.til] 70)).alloc (.cells #[.string y.name, .int .i64 y.prio, .int .i64 y.need, .int .i64 y.tries, .string y.tag] 64)).alloc (.cells #[.string z.name, .int .i64 z.room, .string z.zone] 67)) :=
    ((((below_one _ _).alloc (by simp) _).alloc (by simp; omega) _).alloc (by simp; omega) _)
  cases c1 with
  | false =>
    go_wp2_with (first
      | (at_lookup; refine wpList_look_ok _ rfl _ _ 101 rfl 64 Tryd.underlying101 (zeroJob _) _ _ _ rfl m1 x.job rfl hw0 _ _ Z1.out Y1.out ?_)
      | (at_lookup; refine wpList_look_ok _ rfl _ _ 102 rfl 67 Tryd.underlying102 (zeroNode _) _ _ _ rfl m2' x.node rfl hw1 _ _ Z2.out Y2.out ?_))
    go_ret
    exact ⟨by rw [HE.out]; rfl, bel⟩
  | true =>
    cases c2 with
    | false =>
      go_wp2_with (first
        | (at_lookup; refine wpList_look_ok _ rfl _ _ 101 rfl 64 Tryd.underlying101 (zeroJob _) _ _ _ rfl m1 x.job rfl hw0 _ _ Z1.out Y1.out ?_)
        | (at_lookup; refine wpList_look_ok _ rfl _ _ 102 rfl 67 Tryd.underlying102 (zeroNode _) _ _ _ rfl m2' x.node rfl hw1 _ _ Z2.out Y2.out ?_))
      go_ret
      exact ⟨by rw [HE.out]; rfl, bel⟩
    | true =>
      go_wp2_with (first
        | (at_lookup; refine wpList_look_ok _ rfl _ _ 101 rfl 64 Tryd.underlying101 (zeroJob _) _ _ _ rfl m1 x.job rfl hw0 _ _ Z1.out Y1.out ?_)
        | (at_lookup; refine wpList_look_ok _ rfl _ _ 102 rfl 67 Tryd.underlying102 (zeroNode _) _ _ _ rfl m2' x.node rfl hw1 _ _ Z2.out Y2.out ?_))
      refine (G.out _).mono ?_
      rintro e w1 ⟨rfl, rfl⟩
      cases d with
      | false =>
        go_wp2
        go_ret
        exact ⟨by rw [HE.out]; rfl, bel⟩
      | true =>
        go_wp2
        go_ret
        exact ⟨by rw [HE.out]; rfl, bel⟩
set_option maxRecDepth 100000 in
set_option maxHeartbeats 2000000 in
theorem checkRoom_is (U : ByteArray → Bool) (bj bn : Nat) (rev : Int) (aj an al : Option Addr) (cj cn cl : Nat) (jobs : List JobD) (nodes : List NodeD) (leases : List LeaseD) (hJ : ∀ j ∈ jobs, jobE U j = 0) (hA : Asc (·.name) jobs) (hl : leases.length ≤ 40) (hn : nodes.length ≤ 20)
    (hwn : ∀ x ∈ nodes, wNode x) (hwl : ∀ x ∈ leases, wLease x) (w : World) (hmn : NodesAt w an nodes) (hml : LeasesAt w al leases) (hM : MapAt w bj 40 (tabF (·.name) jobV jobs)) :
    Calls Tryd.prog 73 #[.agg #[.map (some bj), .map (some bn)], .agg #[.int .i64 rev, .slice aj jobs.length cj, .slice an nodes.length cn, .slice al leases.length cl]] w fun e w' => e = .returned (.int .i64 (roomE jobs leases nodes : Nat)) ∧ Below w.heap.size w w' := by
  obtain ⟨W, hW⟩ : ∃ W, (w.alloc (.cells #[.map (some bj), .map (some bn)] 104)).alloc (.cells #[.int .i64 rev, .slice aj jobs.length cj, .slice an nodes.length cn, .slice al leases.length cl] 26) = W := ⟨_, rfl⟩
  have hbW : Below w.heap.size w W := by rw [← hW]; exact (below_one _ _).alloc (by simp) _
  have q2 := box_new4 (w.alloc (.cells #[.map (some bj), .map (some bn)] 104)) (.int .i64 rev) (.slice aj jobs.length cj) (.slice an nodes.length cn) (.slice al leases.length cl) 26
  rw [World.size_alloc, hW] at q2
  have HU := Lib.hid (used_is U bj bn jobs hJ hA al cl leases hl hwl W (leasesAt_next hml hbW) (mapAt_below hM hbW))
  have HMN := Lib.hid (nodesAt_next hmn hbW)
  have HWN := Lib.hid hwn
  have HJ := Lib.hid hJ
  have HW := Lib.hid hW
  clear hJ hA hwn hwl hmn hml hM hW
  go_enter Tryd.func73, Tryd.ntmps73
  go_wp2_with fail
  rw [HW.out]
  refine HU.out.mono ?_
  rintro e w1 ⟨bs, rfl, ms, b1⟩
  have q3 := box_next q2 b1
  have c2 := q3.1 2 _ rfl
  have hb1 := below_trans hbW b1 hbW.size
  clear HU HW
  go_wp2
  go_loopw [15] (fun iv wr => ∃ (i : Nat), iv = .int .i64 (i : Int) ∧ i ≤ nodes.length ∧ Below w1.heap.size w1 wr ∧ Hid (∀ j, (hj : j < nodes.length) → j < i → usedD jobs leases nodes[j].name ≤ nodes[j].room)) (fun iv _ => nodes.length - (intOf iv).toNat)
  case atStart => exact ⟨0, rfl, Nat.zero_le _, Below.refl _ _, fun j _ hj => by omega⟩
  case round =>
    obtain ⟨i, rfl, hi, hbr, HS⟩ := hrel
    by_cases h : (i : Int) < (nodes.length : Int)
    · have hil : i < nodes.length := by omega
      obtain ⟨a, rfl, hal, k0, k1, k2⟩ := nodesAt_next (nodesAt_next HMN.out b1) hbr i hil
      have hbd := used_take_bd U HJ.out nodes[i].name leases hl leases.length
      rw [List.take_length] at hbd
      obtain ⟨x, hxi⟩ : ∃ x, nodes[i] = x := ⟨_, rfl⟩
      rw [hxi] at k0 k1 k2 hbd
      have hwx := HWN.out x (by rw [← hxi]; exact List.getElem_mem _)
      have hw0 : x.name.size ≤ maxLen := hwx.1
      obtain ⟨c, hc⟩ : ∃ c, c = usedD jobs leases x.name := ⟨_, rfl⟩
      have Z1 : Hid ((sumF jobs leases x.name).getD (.int .i64 0) = .int .i64 c) := by show _ = _; rw [hc]; exact sumF_get _ _ _
      have m1 := mapAt_alloc (mapAt_below ms hbr) (.cells #[.string x.name, .int .i64 x.room, .string x.zone] 67)
      have HC := Lib.hid hc
      have HX := Lib.hid hxi
      have hb2 := (below_trans hb1 hbr hb1.size).alloc (Nat.le_trans hb1.size hbr.size) (.cells #[.string x.name, .int .i64 x.room, .string x.zone] 67)
      clear hc hxi hwx q2 q3 c2
      by_cases hr : x.room < c
      · have HR : Hid (roomE jobs leases nodes = 9) := roomE_no i hil (by rw [HX.out, ← HC.out]; exact hr)
        go_wp2_with (at_lookup; refine wpList_look _ rfl _ _ 133 rfl 3 Tryd.underlying133 (zeroInt _) _ _ _ rfl m1 x.name rfl hw0 _ Z1.out ?_)
        go_ret
        exact ⟨by rw [HR.out]; rfl, hb2⟩
      · have HS2 : Hid (∀ j, (hj : j < nodes.length) → j < i + 1 → usedD jobs leases nodes[j].name ≤ nodes[j].room) := by
          intro j hj hji
          by_cases e : j = i
          · subst e; rw [HX.out, ← HC.out]; omega
          · exact HS.out j hj (by omega)
        go_wp2_with (at_lookup; refine wpList_look _ rfl _ _ 133 rfl 3 Tryd.underlying133 (zeroInt _) _ _ _ rfl m1 x.name rfl hw0 _ Z1.out ?_)
        go_roundw
        case rel => exact ⟨i + 1, by simp, by omega, hbr.alloc hbr.size _, HS2⟩
        case measure => simp [intOf]; omega
    · obtain rfl : i = nodes.length := by omega
      have HR : Hid (roomE jobs leases nodes = 0) := roomE_yes (fun j hj => HS.out j hj hj)
      go_wp2
      go_ret
      exact ⟨by rw [HR.out]; rfl, below_trans hb1 hbr hb1.size⟩
theorem orE_stop {a b : Nat} (h : a ≠ 0) : orE a b = a := if_pos h
theorem orE_go (b : Nat) : orE 0 b = b := if_neg (by simp)
theorem check_rev {s : StD} (h : inR s.rev 0 1099511627776 = false) : checkE V8 s = 1 := by
  unfold checkE headSE
  rw [h]; rfl
theorem check_large {s : StD} (h : inR s.rev 0 1099511627776 = true) (h2 : ¬ (s.jobs.length ≤ 40 ∧ s.leases.length ≤ 40 ∧ s.nodes.length ≤ 20)) : checkE V8 s = 2 := by
  unfold checkE headSE
  rw [if_pos h, if_neg h2]; rfl
theorem check_rows {s : StD} (h : inR s.rev 0 1099511627776 = true) (h2 : s.jobs.length ≤ 40 ∧ s.leases.length ≤ 40 ∧ s.nodes.length ≤ 20) :
    checkE V8 s = orE (rowsE (jobE V8) (·.name) none s.jobs) (orE (rowsE (nodeE V8) (·.name) none s.nodes) (orE (rowsE (leaseE s.jobs s.nodes) (·.job) none s.leases) (roomE s.jobs s.leases s.nodes))) := by
  unfold checkE headSE
  rw [if_pos h, if_pos h2, orE_go]
end Go.Proofs.YtdbopgmckndmeaaDoor
