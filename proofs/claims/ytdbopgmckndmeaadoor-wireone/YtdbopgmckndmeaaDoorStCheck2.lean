/- state.Check at every state. -/
import Derived.Test.YtdbopgmckndmeaaDoorStCheck
namespace Go.Proofs.YtdbopgmckndmeaaDoor
open Go.RowKit

set_option maxRecDepth 100000 in
set_option maxHeartbeats 4000000 in
theorem check_any (rev : Int) (aj an al : Option Addr) (cj cn cl : Nat) (jobs : List JobD) (nodes : List NodeD) (leases : List LeaseD) (hw : wState ⟨rev, jobs, nodes, leases⟩) (w : World) (hT : Tabs w) (hmj : JobsAt w aj jobs) (hmn : NodesAt w an nodes) (hml : LeasesAt w al leases) :
    Calls Tryd.prog 28 #[.agg #[.int .i64 rev, .slice aj jobs.length cj, .slice an nodes.length cn, .slice al leases.length cl]] w fun e w' => e = .returned (.int .i64 (checkE V8 ⟨rev, jobs, nodes, leases⟩ : Nat)) ∧ Below w.heap.size w w' := by
  obtain ⟨R, hR⟩ : ∃ R, checkE V8 ⟨rev, jobs, nodes, leases⟩ = R := ⟨_, rfl⟩
  rw [hR]
  have HR := Lib.hid hR
  obtain ⟨hw0, hwj, hwn, hwl⟩ := hw
  obtain ⟨c, hc⟩ : ∃ c, inR rev 0 1099511627776 = c := ⟨_, rfl⟩
  have G := Lib.hid (within_is rev 0 1099511627776)
  rw [hc] at G
  have HC := Lib.hid hc
  obtain ⟨W, hW⟩ : ∃ W, w.alloc (.cells #[.int .i64 rev, .slice aj jobs.length cj, .slice an nodes.length cn, .slice al leases.length cl] 26) = W := ⟨_, rfl⟩
  have bW : Below w.heap.size w W := by rw [← hW]; exact below_one _ _
  have q := box_new4 w (.int .i64 rev) (.slice aj jobs.length cj) (.slice an nodes.length cn) (.slice al leases.length cl) 26
  rw [hW] at q
  have hTW := Lib.hid (hT.below bW)
  have hmjW := Lib.hid (jobsAt_next hmj bW)
  have hmnW := Lib.hid (nodesAt_next hmn bW)
  have hmlW := Lib.hid (leasesAt_next hml bW)
  have hwj := Lib.hid hwj
  have hwn := Lib.hid hwn
  have hwl := Lib.hid hwl
  have hmf : ∀ (fn : Fn) (first cap : Array Value) (w : World), (Instr.makeFunc fn first cap).run Tryd.prog w = .ok (.func fn first cap) w := fun _ _ _ _ => rfl
  have k0 := q.1 0 _ rfl
  have k1 := q.1 1 _ rfl
  have k2 := q.1 2 _ rfl
  have k3 := q.1 3 _ rfl
  clear hR hc hT hmj hmn hml hw0
  go_enter Tryd.func28, Tryd.ntmps28
  go_wp2_with fail
  refine (G.out _).mono ?_
  rintro e w0 ⟨rfl, rfl⟩
  cases c with
  | false =>
    have HR1 : Hid (R = 1) := HR.out.symm.trans (check_rev HC.out)
    go_wp2
    go_ret
    exact ⟨by rw [HR1.out]; rfl, bW⟩
  | true =>
  by_cases hj : ¬ jobs.length ≤ 40
  · have HR1 : Hid (R = 2) := HR.out.symm.trans (check_large HC.out (fun k => hj k.1))
    go_wp2
    go_ret
    exact ⟨by rw [HR1.out]; rfl, bW⟩
  have hj : jobs.length ≤ 40 := by omega
  by_cases hl : ¬ leases.length ≤ 40
  · have HR1 : Hid (R = 2) := HR.out.symm.trans (check_large HC.out (fun k => hl k.2.1))
    go_wp2
    go_ret
    exact ⟨by rw [HR1.out]; rfl, bW⟩
  have hl : leases.length ≤ 40 := by omega
  by_cases hn : ¬ nodes.length ≤ 20
  · have HR1 : Hid (R = 2) := HR.out.symm.trans (check_large HC.out (fun k => hn k.2.2))
    go_wp2
    go_ret
    exact ⟨by rw [HR1.out]; rfl, bW⟩
  have hn : nodes.length ≤ 20 := by omega
  have HR1 := Lib.hid (HR.out.symm.trans (check_rows HC.out ⟨hj, hl, hn⟩))
  clear HR HC G
  simp only at HR1
  have HJ := Lib.hid (checkRows_job Tabs tabs_next (jobE V8) jobs (fun x _ w hT => checkJob_is x w hT) aj cj hj W hTW.out hmjW.out)
  go_wp2_with fail
  refine HJ.out.mono ?_
  rintro e w1 ⟨rfl, b1⟩
  have q1 := box_next q b1
  have hb1 := below_trans bW b1 bW.size
  clear q k0 k1 k2 k3
  have k0 := q1.1 0 _ rfl
  have k1 := q1.1 1 _ rfl
  have k2 := q1.1 2 _ rfl
  have k3 := q1.1 3 _ rfl
  obtain ⟨ej, hej⟩ : ∃ ej, rowsE (jobE V8) (·.name) none jobs = ej := ⟨_, rfl⟩
  have HEJ := Lib.hid hej
  rw [hej] at HR1 ⊢
  clear hej HJ
  by_cases h0 : ej ≠ 0
  · have HR2 : Hid (R = ej) := HR1.out.trans (orE_stop h0)
    have hc : ((ej : Int) != 0) = true := by simp; omega
    go_wp2
    go_ret
    exact ⟨by rw [HR2.out]; rfl, hb1⟩
  have h0 : ej = 0 := by simpa using h0
  subst h0
  have HR2 := Lib.hid (HR1.out.trans (orE_go _))
  clear HR1
  have HN := Lib.hid (checkRows_node Tabs tabs_next (nodeE V8) nodes (fun x _ w hT => checkNode_is x w hT) an cn (by omega) w1 (hTW.out.below b1) (nodesAt_next hmnW.out b1))
  go_wp2_with fail
  refine HN.out.mono ?_
  rintro e w2 ⟨rfl, b2⟩
  have q2 := box_next q1 b2
  have hb2 := below_trans hb1 b2 hb1.size
  clear q1 k0 k1 k2 k3
  have k0 := q2.1 0 _ rfl
  have k1 := q2.1 1 _ rfl
  have k2 := q2.1 2 _ rfl
  have k3 := q2.1 3 _ rfl
  obtain ⟨en, hen⟩ : ∃ en, rowsE (nodeE V8) (·.name) none nodes = en := ⟨_, rfl⟩
  rw [hen] at HR2 ⊢
  clear hen HN
  by_cases h0 : en ≠ 0
  · have HR3 : Hid (R = en) := HR2.out.trans (orE_stop h0)
    have hc : ((en : Int) != 0) = true := by simp; omega
    go_wp2
    go_ret
    exact ⟨by rw [HR3.out]; rfl, hb2⟩
  have h0 : en = 0 := by simpa using h0
  subst h0
  have HR3 := Lib.hid (HR2.out.trans (orE_go _))
  clear HR2
  have HTa := Lib.hid (tablesOf_is rev aj an al cj cn cl jobs nodes leases hj hn hwj.out hwn.out w2 (jobsAt_next (jobsAt_next hmjW.out b1) b2) (nodesAt_next (nodesAt_next hmnW.out b1) b2))
  go_wp2_with fail
  refine HTa.out.mono ?_
  rintro e w3 ⟨bj, bn, rfl, m1, m2, b3⟩
  obtain ⟨W4, hW4⟩ : ∃ W4, w3.alloc (.cells #[.map (some bj), .map (some bn)] 104) = W4 := ⟨_, rfl⟩
  have b4 : Below w3.heap.size w3 W4 := by rw [← hW4]; exact below_one _ _
  have q4 := box_next (box_next q2 b3) b4
  have p4 := box_new2 w3 (.map (some bj)) (.map (some bn)) 104
  rw [hW4] at p4
  have hb3 := below_trans hb2 b3 hb2.size
  have hb4 := below_trans hb3 b4 hb3.size
  have mT : TabsAt bj bn jobs nodes W4 := ⟨mapAt_below m1 b4, mapAt_below m2 b4⟩
  clear q2 k0 k1 k2 k3 HTa
  have k0 := q4.1 0 _ rfl
  have k1 := q4.1 1 _ rfl
  have k2 := q4.1 2 _ rfl
  have k3 := q4.1 3 _ rfl
  have j0 := p4.1 0 _ rfl
  have j1 := p4.1 1 _ rfl
  have HL := Lib.hid (checkRows_lease bj bn (TabsAt bj bn jobs nodes) tabsAt_next (leaseE jobs nodes) leases (fun x hx w hT => checkLease_is bj bn jobs nodes x (hwl.out x hx).1 (hwl.out x hx).2.1 w hT) al cl hl W4 mT (leasesAt_next (leasesAt_next (leasesAt_next (leasesAt_next hmlW.out b1) b2) b3) b4))
  go_wp2_with fail
  refine HL.out.mono ?_
  rintro e w5 ⟨rfl, b5⟩
  have q5 := box_next q4 b5
  have p5 := box_next p4 b5
  have hb5 := below_trans hb4 b5 hb4.size
  have mT5 := tabsAt_next _ _ mT b5
  clear q4 p4 k0 k1 k2 k3 j0 j1
  have k0 := q5.1 0 _ rfl
  have k1 := q5.1 1 _ rfl
  have k2 := q5.1 2 _ rfl
  have k3 := q5.1 3 _ rfl
  have j0 := p5.1 0 _ rfl
  have j1 := p5.1 1 _ rfl
  obtain ⟨el, hel⟩ : ∃ el, rowsE (leaseE jobs nodes) (·.job) none leases = el := ⟨_, rfl⟩
  rw [hel] at HR3 ⊢
  clear hel HL
  by_cases h0 : el ≠ 0
  · have HR4 : Hid (R = el) := HR3.out.trans (orE_stop h0)
    have hc : ((el : Int) != 0) = true := by simp; omega
    go_wp2
    go_ret
    exact ⟨by rw [HR4.out]; rfl, hb5⟩
  have h0 : el = 0 := by simpa using h0
  subst h0
  have HR4 := Lib.hid (HR3.out.trans (orE_go _))
  clear HR3
  have hz := (rowsE_zero (jobE V8) (·.name) none jobs).1 HEJ.out
  have HRo := Lib.hid (checkRoom_is V8 bj bn rev aj an al cj cn cl jobs nodes leases hz.1 hz.2.2 hl hn hwn.out hwl.out w5 (nodesAt_next (nodesAt_next (nodesAt_next (nodesAt_next (nodesAt_next hmnW.out b1) b2) b3) b4) b5) (leasesAt_next (leasesAt_next (leasesAt_next (leasesAt_next (leasesAt_next hmlW.out b1) b2) b3) b4) b5) mT5.1)
  clear hz
  go_wp2_with fail
  refine HRo.out.mono ?_
  rintro e w6 ⟨rfl, b6⟩
  have hb6 := below_trans hb5 b6 hb5.size
  rw [← HR4.out]
  go_wp2
  go_ret
  exact ⟨rfl, hb6⟩
theorem check_is (M : StM) (s : StD) (hw : wState s) (w : World) (hT : Tabs w) (hm : StateAt w M s) :
    Calls Tryd.prog 28 #[stV M s] w fun e w' => e = .returned (.int .i64 (checkE V8 s : Nat)) ∧ Below w.heap.size w w' :=
  check_any s.rev M.aj M.an M.al M.cj M.cn M.cl s.jobs s.nodes s.leases hw w hT hm.1 hm.2.1 hm.2.2
end Go.Proofs.YtdbopgmckndmeaaDoor
