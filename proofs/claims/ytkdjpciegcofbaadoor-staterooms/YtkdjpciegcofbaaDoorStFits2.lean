/- state.Fits and state.Used at every state. -/
import Derived.Test.YtkdjpciegcofbaaDoorStFits
namespace Go.Proofs.YtkdjpciegcofbaaDoor
open Go.RowKit

theorem ret_b2 {p : Bool × Nat} {a : Bool} {b : Int} (n : Nat) (h : p = (a, n)) (hb : b = n) : Ending.returned (.tuple #[.bool a, .int .i64 b]) = .returned (.tuple #[.bool p.1, .int .i64 p.2]) := by
  subst h hb; rfl
theorem ret_i2 {p : Int × Nat} {a : Int} {b : Int} (n : Nat) (h : p = (a, n)) (hb : b = n) : Ending.returned (.tuple #[.int .i64 a, .int .i64 b]) = .returned (.tuple #[.int .i64 p.1, .int .i64 p.2]) := by
  subst h hb; rfl
theorem check_len {s : StD} (h : checkE V8 s = 0) : s.jobs.length ≤ 40 ∧ s.leases.length ≤ 40 ∧ s.nodes.length ≤ 20 := ((check_zero V8 s).1 h).2.1
set_option maxRecDepth 100000 in
set_option maxHeartbeats 2000000 in
theorem fits_any (rev : Int) (aj an al : Option Addr) (cj cn cl : Nat) (jobs : List JobD) (nodes : List NodeD) (leases : List LeaseD) (v : Int) (hw : wState ⟨rev, jobs, nodes, leases⟩) (w : World) (hT : Tabs w) (hmj : JobsAt w aj jobs) (hmn : NodesAt w an nodes) (hml : LeasesAt w al leases) :
    Calls Tryd.prog 14 #[.agg #[.int .i64 rev, .slice aj jobs.length cj, .slice an nodes.length cn, .slice al leases.length cl], .int .i64 v] w fun e w' => e = .returned (.tuple #[.bool (fitsR ⟨rev, jobs, nodes, leases⟩ v).1, .int .i64 (fitsR ⟨rev, jobs, nodes, leases⟩ v).2]) ∧ Below w.heap.size w w' := by
  have bW := below_one w (.cells #[.int .i64 rev, .slice aj jobs.length cj, .slice an nodes.length cn, .slice al leases.length cl] 26)
  have H := Lib.hid (check_any rev aj an al cj cn cl jobs nodes leases hw _ (hT.below bW) (jobsAt_next hmj bW) (nodesAt_next hmn bW) (leasesAt_next hml bW))
  have q := box_new4 w (.int .i64 rev) (.slice aj jobs.length cj) (.slice an nodes.length cn) (.slice al leases.length cl) 26
  have HMJ := Lib.hid (jobsAt_next hmj bW)
  have HMN := Lib.hid (nodesAt_next hmn bW)
  obtain ⟨P, hP⟩ : ∃ P, fitsR ⟨rev, jobs, nodes, leases⟩ v = P := ⟨_, rfl⟩
  rw [hP]
  have HP : Hid (P = fitsR ⟨rev, jobs, nodes, leases⟩ v) := hP.symm
  obtain ⟨c, hc⟩ : ∃ c, checkE V8 ⟨rev, jobs, nodes, leases⟩ = c := ⟨_, rfl⟩
  rw [hc] at H
  have HC := Lib.hid hc
  clear hT hmj hmn hml hw hP hc
  go_enter Tryd.func14, Tryd.ntmps14
  go_wp2_with fail
  refine H.out.mono ?_
  rintro e w1 ⟨rfl, b1⟩
  have q1 := box_next q b1
  have hb1 := below_trans bW b1 bW.size
  have k0 := q1.1 0 _ rfl
  have k1 := q1.1 1 _ rfl
  have k2 := q1.1 2 _ rfl
  have k3 := q1.1 3 _ rfl
  have hm1 := Lib.hid (jobsAt_next HMJ.out b1)
  have hm2 := Lib.hid (nodesAt_next HMN.out b1)
  clear q b1 H HMJ HMN
  by_cases h0 : c ≠ 0
  · have HR : Hid (P = (false, c)) := by show _ = _; rw [HP.out, fitsR, HC.out, if_pos h0]
    have hc : ((c : Int) != 0) = true := by simp; omega
    go_wp2
    go_ret2
    exact ⟨ret_b2 c HR.out rfl, hb1⟩
  have h0 : c = 0 := by simpa using h0
  subst h0
  have hl := check_len HC.out
  simp only at hl
  by_cases h1 : v = 1
  · subst h1
    have HR : Hid (P = (!n3 ⟨rev, jobs, nodes, leases⟩ && !n2 ⟨rev, jobs, nodes, leases⟩, 0)) := by show _ = _; rw [HP.out, fitsR, HC.out, ← fits_one]; rfl
    have H3 := Lib.hid (needsThree_is rev aj an al cj cn cl jobs nodes leases hl.1 w1 hm1.out)
    go_wp2_with fail
    refine H3.out.mono ?_
    rintro e w2 ⟨rfl, b2⟩
    have q2 := box_next q1 b2
    have hb2 := below_trans hb1 b2 hb1.size
    clear q1 k0 k1 k2 k3
    have k0 := q2.1 0 _ rfl
    have k1 := q2.1 1 _ rfl
    have k2 := q2.1 2 _ rfl
    have k3 := q2.1 3 _ rfl
    have H2 := Lib.hid (needsTwo_is rev aj an al cj cn cl jobs nodes leases hl.1 hl.2.2 w2 (jobsAt_next hm1.out b2) (nodesAt_next hm2.out b2))
    generalize n3 ⟨rev, jobs, nodes, leases⟩ = d3 at *
    generalize n2 ⟨rev, jobs, nodes, leases⟩ = d2 at *
    cases d3 with
    | true =>
      go_wp2
      go_ret2
      exact ⟨ret_b2 0 HR.out rfl, hb2⟩
    | false =>
      go_wp2_with fail
      refine H2.out.mono ?_
      rintro e w3 ⟨rfl, b3⟩
      go_wp2
      go_ret2
      exact ⟨ret_b2 0 HR.out rfl, below_trans hb2 b3 hb2.size⟩
  have g1 : (v == 1) = false := by simpa using h1
  by_cases h2 : v = 2
  · subst h2
    have HR : Hid (P = (!n3 ⟨rev, jobs, nodes, leases⟩, 0)) := by show _ = _; rw [HP.out, fitsR, HC.out, ← fits_two]; rfl
    have H3 := Lib.hid (needsThree_is rev aj an al cj cn cl jobs nodes leases hl.1 w1 hm1.out)
    go_wp2_with fail
    refine H3.out.mono ?_
    rintro e w2 ⟨rfl, b2⟩
    go_wp2
    go_ret2
    exact ⟨ret_b2 0 HR.out rfl, below_trans hb1 b2 hb1.size⟩
  have g2 : (v == 2) = false := by simpa using h2
  by_cases h3 : v = 3
  · subst h3
    have HR : Hid (P = (true, 0)) := by show _ = _; rw [HP.out, fitsR, HC.out, fits_three]; rfl
    go_wp2
    go_ret2
    exact ⟨ret_b2 0 HR.out rfl, hb1⟩
  · have g3 : (v == 3) = false := by simpa using h3
    have HR : Hid (P = (false, 1)) := by show _ = _; rw [HP.out, fitsR, HC.out, if_neg (by simp), if_neg (by omega)]
    clear h1 h2 h3
    go_wp2
    go_ret2
    exact ⟨ret_b2 1 HR.out rfl, hb1⟩
set_option maxRecDepth 100000 in
set_option maxHeartbeats 2000000 in
theorem usedS_any (rev : Int) (aj an al : Option Addr) (cj cn cl : Nat) (jobs : List JobD) (nodes : List NodeD) (leases : List LeaseD) (x : ByteArray) (hx : x.size ≤ maxLen) (hw : wState ⟨rev, jobs, nodes, leases⟩) (w : World) (hT : Tabs w) (hmj : JobsAt w aj jobs) (hmn : NodesAt w an nodes) (hml : LeasesAt w al leases) :
    Calls Tryd.prog 16 #[.agg #[.int .i64 rev, .slice aj jobs.length cj, .slice an nodes.length cn, .slice al leases.length cl], .string x] w fun e w' => e = .returned (.tuple #[.int .i64 (usedR ⟨rev, jobs, nodes, leases⟩ x).1, .int .i64 (usedR ⟨rev, jobs, nodes, leases⟩ x).2]) ∧ Below w.heap.size w w' := by
  have bW := below_one w (.cells #[.int .i64 rev, .slice aj jobs.length cj, .slice an nodes.length cn, .slice al leases.length cl] 26)
  have H := Lib.hid (check_any rev aj an al cj cn cl jobs nodes leases hw _ (hT.below bW) (jobsAt_next hmj bW) (nodesAt_next hmn bW) (leasesAt_next hml bW))
  have q := box_new4 w (.int .i64 rev) (.slice aj jobs.length cj) (.slice an nodes.length cn) (.slice al leases.length cl) 26
  have HMJ := Lib.hid (jobsAt_next hmj bW)
  have HMN := Lib.hid (nodesAt_next hmn bW)
  have HML := Lib.hid (leasesAt_next hml bW)
  obtain ⟨P, hP⟩ : ∃ P, usedR ⟨rev, jobs, nodes, leases⟩ x = P := ⟨_, rfl⟩
  rw [hP]
  have HP : Hid (P = usedR ⟨rev, jobs, nodes, leases⟩ x) := hP.symm
  obtain ⟨c, hc⟩ : ∃ c, checkE V8 ⟨rev, jobs, nodes, leases⟩ = c := ⟨_, rfl⟩
  rw [hc] at H
  have HC := Lib.hid hc
  have HWS := Lib.hid hw
  clear hT hmj hmn hml hw hP hc
  go_enter Tryd.func16, Tryd.ntmps16
  go_wp2_with fail
  refine H.out.mono ?_
  rintro e w1 ⟨rfl, b1⟩
  have q1 := box_next q b1
  have hb1 := below_trans bW b1 bW.size
  have k0 := q1.1 0 _ rfl
  have k1 := q1.1 1 _ rfl
  have k2 := q1.1 2 _ rfl
  have k3 := q1.1 3 _ rfl
  have hm1 := Lib.hid (jobsAt_next HMJ.out b1)
  have hm2 := Lib.hid (nodesAt_next HMN.out b1)
  have hm3 := Lib.hid (leasesAt_next HML.out b1)
  clear q b1 H HMJ HMN HML
  by_cases h0 : c ≠ 0
  · have HR : Hid (P = (0, c)) := by show _ = _; rw [HP.out, usedR, HC.out, if_pos h0]
    have hc : ((c : Int) != 0) = true := by simp; omega
    go_wp2
    go_ret2
    exact ⟨ret_i2 c HR.out rfl, hb1⟩
  have h0 : c = 0 := by simpa using h0
  subst h0
  have hV := Lib.hid ((check_zero V8 _).1 HC.out)
  have hl := hV.out.2.1
  simp only at hl
  have HTa := Lib.hid (tablesOf_is rev aj an al cj cn cl jobs nodes leases hl.1 hl.2.2 HWS.out.2.1 HWS.out.2.2.1 w1 hm1.out hm2.out)
  go_wp2_with fail
  refine HTa.out.mono ?_
  rintro e w3 ⟨bj, bn, rfl, m1, m2, b3⟩
  obtain ⟨W4, hW4⟩ : ∃ W4, w3.alloc (.cells #[.map (some bj), .map (some bn)] 65) = W4 := ⟨_, rfl⟩
  have b4 : Below w3.heap.size w3 W4 := by rw [← hW4]; exact below_one _ _
  have q4 := box_next (box_next q1 b3) b4
  have p4 := box_new2 w3 (.map (some bj)) (.map (some bn)) 65
  rw [hW4] at p4
  have hb3 := below_trans hb1 b3 hb1.size
  have hb4 := below_trans hb3 b4 hb3.size
  have m14 := mapAt_below m1 b4
  have m24 := mapAt_below m2 b4
  clear q1 k0 k1 k2 k3 HTa
  have k3 := q4.1 3 _ rfl
  have j0 := p4.1 0 _ rfl
  have j1 := p4.1 1 _ rfl
  obtain ⟨z, hz⟩ : ∃ z, z = pickN nodes x := ⟨_, rfl⟩
  have Z2 : Hid ((tabF (·.name) nodeV nodes x).getD (nodeV zeroN) = .agg #[.string z.name, .int .i64 z.room, .string z.zone]) := by show _ = _; rw [tabF_pickN, hz]; rfl
  obtain ⟨d, hd⟩ : ∃ d, hasNode nodes x = d := ⟨_, rfl⟩
  have Y2 : Hid ((tabF (·.name) nodeV nodes x).isSome = d) := by show _ = _; rw [tabF_node]; exact hd
  have HD := Lib.hid hd
  clear hz hd
  cases d with
  | false =>
    have HR : Hid (P = (0, 6)) := by show _ = _; rw [HP.out, usedR, HC.out, if_neg (by simp), if_neg (by rw [HD.out]; simp)]
    go_wp2_with (at_lookup; refine wpList_look_ok _ rfl _ _ 63 rfl 45 Tryd.underlying63 (zeroNode _) _ _ _ rfl m24 x rfl hx _ _ Z2.out Y2.out ?_)
    go_ret2
    exact ⟨ret_i2 6 HR.out rfl, hb4.alloc hb4.size _⟩
  | true =>
    have HR : Hid (P = (usedD jobs leases x, 0)) := by show _ = _; rw [HP.out, usedR, HC.out, if_neg (by simp), if_pos HD.out]
    obtain ⟨W5, hW5⟩ : ∃ W5, W4.alloc (.cells #[.string z.name, .int .i64 z.room, .string z.zone] 45) = W5 := ⟨_, rfl⟩
    have b5 : Below W4.heap.size W4 W5 := by rw [← hW5]; exact below_one _ _
    have hb5 := below_trans hb4 b5 hb4.size
    have k35 := (box_next q4 b5).1 3 _ rfl
    have j05 := (box_next p4 b5).1 0 _ rfl
    have j15 := (box_next p4 b5).1 1 _ rfl
    have HU := Lib.hid (used_is V8 bj bn jobs hV.out.2.2.1.1 hV.out.2.2.1.2 al cl leases hl.2.1 HWS.out.2.2.2 W5 (leasesAt_next (leasesAt_next (leasesAt_next hm3.out b3) b4) b5) (mapAt_below m14 b5))
    go_wp2_with (at_lookup; refine wpList_look_ok _ rfl _ _ 63 rfl 45 Tryd.underlying63 (zeroNode _) _ _ _ rfl m24 x rfl hx _ _ Z2.out Y2.out ?_)
    refine HU.out.mono ?_
    rintro e w6 ⟨bs, rfl, ms, b6⟩
    have Z1 := Lib.hid (sumF_get jobs leases x)
    go_wp2_with (at_lookup; refine wpList_look _ rfl _ _ 74 rfl 3 Tryd.underlying74 (zeroInt _) _ _ _ rfl ms x rfl hx _ Z1.out ?_)
    go_ret2
    exact ⟨ret_i2 0 HR.out rfl, below_trans hb5 b6 hb5.size⟩
end Go.Proofs.YtkdjpciegcofbaaDoor
