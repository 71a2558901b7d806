/- state.Fits and state.Used at every state. -/
import Derived.Test.YtdbopgmckndmeaaDoorStFits
namespace Go.Proofs.YtdbopgmckndmeaaDoor
open Go.RowKit

theorem ret_b2 {p : Bool × Nat} {a : Bool} {b : Int} (n : Nat) (h : p = (a, n)) (hb : b = n) : Ending.returned (.tuple #[.bool a, .int .i64 b]) = .returned (.tuple #[.bool p.1, .int .i64 p.2]) := by
  subst h hb; rfl
theorem ret_i2 {p : Int × Nat} {a : Int} {b : Int} (n : Nat) (h : p = (a, n)) (hb : b = n) : Ending.returned (.tuple #[.int .i64 a, .int .i64 b]) = .returned (.tuple #[.int .i64 p.1, .int .i64 p.2]) := by
  subst h hb; rfl
theorem check_len {s : StD} (h : checkE V8 s = 0) : s.jobs.length ≤ 40 ∧ s.leases.length ≤ 40 ∧ s.nodes.length ≤ 20 := ((check_zero V8 s).1 h).2.1
set_option maxRecDepth 100000 in
set_option maxHeartbeats 2000000 in
theorem fits_any (rev : Int) (aj an al : Option Addr) (cj cn cl : Nat) (jobs : List JobD) (nodes : List NodeD) (leases : List LeaseD) (v : Int) (hw : wState ⟨rev, jobs, nodes, leases⟩) (w : World) (hT : Tabs w) (hmj : JobsAt w aj jobs) (hmn : NodesAt w an nodes) (hml : LeasesAt w al leases) :
    Calls Tryd.prog 21 #[.agg #[.int .i64 rev, .slice aj jobs.length cj, .slice an nodes.length cn, .slice al leases.length cl], .int .i64 v] w fun e w' => e = .returned (.tuple #[.bool (fitsR ⟨rev, jobs, nodes, leases⟩ v).1, .int .i64 (fitsR ⟨rev, jobs, nodes, leases⟩ v).2]) ∧ Below w.heap.size w w' := by
  have bW := below_one w (.cells #[.int .i64 rev, .slice aj jobs.length cj, .slice an nodes.length cn, .slice al leases.length cl] 26)
  have H := Lib.hid (check_any rev aj an al cj cn cl jobs nodes leases hw _ (hT.below bW) (jobsAt_next hmj bW) (nodesAt_next hmn bW) (leasesAt_next hml bW))
  have q := box_new4 w (.int .i64 rev) (.slice aj jobs.length cj) (.slice an nodes.length cn) (.slice al leases.length cl) 26
  have HMJ := Lib.hid (jobsAt_next hmj bW)
  have HMN := Lib.hid (nodesAt_next hmn bW)
  obtain ⟨P, hP⟩ : ∃ P, fitsR ⟨rev, jobs, nodes, leases⟩ v = P := ⟨_, rfl⟩
  rw [hP]
  have HP : Hid (P = fitsR ⟨rev, jobs, nodes, leases⟩ v) := hP.symm
  obtain ⟨c, hc⟩ : ∃ c, checkE V8 ⟨rev, jobs, nodes, leases⟩ = c := ⟨_, rfl⟩
  rw [hc] at H
  have HC := Lib.hid hc
  clear hT hmj hmn hml hw hP hc
  go_enter Tryd.func21, Tryd.ntmps21
  go_wp2_with fail
  refine H.out.mono ?_
  rintro e w1 ⟨rfl, b1⟩
  have q1 := box_next q b1
  have hb1 := below_trans bW b1 bW.size
  have k0 := q1.1 0 _ rfl
  have k1 := q1.1 1 _ rfl
  have k2 := q1.1 2 _ rfl
  have k3 := q1.1 3 _ rfl
  have hm1 := Lib.hid (jobsAt_next HMJ.out b1)
  have hm2 := Lib.hid (nodesAt_next HMN.out b1)
  clear q b1 H HMJ HMN
  by_cases h0 : c ≠ 0
  · have HR : Hid (P = (false, c)) := by show _ = _; rw [HP.out, fitsR, HC.out, if_pos h0]
    have hc : ((c : Int) != 0) = true := by simp; omega
    go_wp2
    go_ret2
    exact ⟨ret_b2 c HR.out rfl, hb1⟩
  have h0 : c = 0 := by simpa using h0
  subst h0
  have hl := check_len HC.out
  simp only at hl
  by_cases h1 : v = 1
  · subst h1
    have HR : Hid (P = (!n3 ⟨rev, jobs, nodes, leases⟩ && !n2 ⟨rev, jobs, nodes, leases⟩, 0)) := by show _ = _; rw [HP.out, fitsR, HC.out, ← fits_one]; rfl
    have H3 := Lib.hid (needsThree_is rev aj an al cj cn cl jobs nodes leases hl.1 w1 hm1.out)
    go_wp2_with fail
    refine H3.out.mono ?_
    rintro e w2 ⟨rfl, b2⟩
    have q2 := box_next q1 b2
    have hb2 := below_trans hb1 b2 hb1.size
    clear q1 k0 k1 k2 k3
    have k0 := q2.1 0 _ rfl
    have k1 := q2.1 1 _ rfl
    have k2 := q2.1 2 _ rfl
    have k3 := q2.1 3 _ rfl
    have H2 := Lib.hid (needsTwo_is rev aj an al cj cn cl jobs nodes leases hl.1 hl.2.2 w2 (jobsAt_next hm1.out b2) (nodesAt_next hm2.out b2))
    generalize n3 ⟨rev, jobs, nodes, leases⟩ = d3 at *
    generalize n2 ⟨rev, jobs, nodes, leases⟩ = d2 at *
    cases d3 with
    | true =>
      go_wp2
      go_ret2
      exact ⟨ret_b2 0 HR.out rfl, hb2⟩
    | false =>
      go_wp2_with fail
      refine H2.out.mono ?_
      rintro e w3 ⟨rfl, b3⟩
      go_wp2
      go_ret2
      exact ⟨ret_b2 0 HR.out rfl, below_trans hb2 b3 hb2.size⟩
  have g1 : (v == 1) = false := by simpa using h1
  by_cases h2 : v = 2
  · subst h2
    have HR : Hid (P = (!n3 ⟨rev, jobs, nodes, leases⟩, 0)) := by show _ = _; rw [HP.out, fitsR, HC.out, ← fits_two]; rfl
    have H3 := Lib.hid (needsThree_is rev aj an al cj cn cl jobs nodes leases hl.1 w1 hm1.out)
    go_wp2_with fail
    refine H3.out.mono ?_
    rintro e w2 ⟨rfl, b2⟩
    go_wp2
    go_ret2
    exact ⟨ret_b2 0 HR.out rfl, below_trans hb1 b2 hb1.size⟩
  have g2 : (v == 2) = false := by simpa using h2
  by_cases h3 : v = 3
  · subst h3
    have HR : Hid (P = (true, 0)) := by show _ = _; rw [HP.out, fitsR, HC.out, fits_three]; rfl
    go_wp2
    go_ret2
    exact ⟨ret_b2 0 HR.out rfl, hb1⟩
  · have g3 : (v == 3) = false := by simpa using h3
    have HR : Hid (P = (false, 1)) := by show _ = _; rw [HP.out, fitsR, HC.out, if_neg (by simp), if_neg (by omega)]
    clear h1 h2 h3
    go_wp2
    go_ret2
    exact ⟨ret_b2 1 HR.out rfl, hb1⟩
end Go.Proofs.YtdbopgmckndmeaaDoor
