/- Package delta: Check. -/
import Derived.Test.YtfbakobmlbjncaaGreatDoorDlGone
import Derived.Test.YtfbakobmlbjncaaGreatDoorDlRows
import Derived.Test.YtfbakobmlbjncaaGreatDoorPkSt2
namespace Go.Proofs.YtfbakobmlbjncaaGreatDoor
open Go.RowKit

set_option maxRecDepth 100000 in
set_option maxHeartbeats 1000000 in
theorem checkLeaseC_is (x : LeaseD) (w : World) (hT : Tabs w) : Calls Tryz.prog 44 #[.agg #[.string x.job, .string x.node, .int .i64 x.til]] w fun e w' => e = .returned (.int .i64 (leaseCE V8 x : Nat)) ∧ Below w.heap.size w w' := by
  have bW := below_one w (.cells #[.string x.job, .string x.node, .int .i64 x.til] 47)
  have oB := objAt_new w #[.string x.job, .string x.node, .int .i64 x.til] 47
  have H1 := Lib.hid (isName_is x.job _ (hT.below bW))
  have HN := Lib.hid (isName_is x.node)
  have HT := Lib.hid (hT.below bW)
  obtain ⟨c1, h1⟩ : ∃ c, isName V8 x.job = c := ⟨_, rfl⟩
  obtain ⟨c2, h2⟩ : ∃ c, isName V8 x.node = c := ⟨_, rfl⟩
  obtain ⟨d0, g0⟩ : ∃ d, inR x.til 0 1099511627776 = d := ⟨_, rfl⟩
  have G0 := Lib.hid (checkUntil_is x d0 g0)
  have HE : Hid (leaseCE V8 x = if (c1 && c2) = true then (if d0 = true then 0 else 1) else 4) := by show _ = _; rw [leaseCE, h1, h2, g0]
  obtain ⟨R, hR⟩ : ∃ R, leaseCE V8 x = R := ⟨_, rfl⟩
  rw [hR] at HE ⊢
  rw [h1] at H1
  rw [h2] at HN
  have BW := Lib.hid bW
  have OB := Lib.hid oB
  have q0 := objAt_cell oB 0 rfl
  have q1 := objAt_cell oB 1 rfl
  have q2 := objAt_cell oB 2 rfl
  clear hT h1 h2 hR g0 bW oB
  cases c1 with
  | false =>
    go_enter Tryz.func44, Tryz.ntmps44
    go_wp2_with fail
    refine H1.out.mono ?_
    rintro e w1 ⟨rfl, b1⟩
    go_wp2
    go_ret
    exact ⟨by rw [HE.out]; rfl, below_trans BW.out b1 BW.out.size⟩
  | true =>
    go_enter Tryz.func44, Tryz.ntmps44
    go_wp2_with fail
    refine H1.out.mono ?_
    rintro e w1 ⟨rfl, b1⟩
    have O1 := objAt_next OB.out b1
    have HN1 := Lib.hid (HN.out w1 (HT.out.below b1))
    have B1 := Lib.hid (below_trans BW.out b1 BW.out.size)
    have r0 := objAt_cell O1 0 rfl
    have r1 := objAt_cell O1 1 rfl
    have r2 := objAt_cell O1 2 rfl
    have OO1 := Lib.hid O1
    clear O1 b1 q0 q1 q2
    go_wp2_with fail
    refine HN1.out.mono ?_
    rintro e w2 ⟨rfl, b2⟩
    have O2 := objAt_next OO1.out b2
    have B2 := Lib.hid (below_trans B1.out b2 B1.out.size)
    have s0 := objAt_cell O2 0 rfl
    have s1 := objAt_cell O2 1 rfl
    have s2 := objAt_cell O2 2 rfl
    clear O2 b2 r0 r1 r2 OO1
    cases c2 with
    | false =>
      go_wp2
      go_ret
      exact ⟨by rw [HE.out]; rfl, B2.out⟩
    | true =>
      go_wp2_with fail
      refine (G0.out w2).mono ?_
      rintro e w3 ⟨rfl, b3⟩
      have B3 := Lib.hid (below_trans B2.out b3 B2.out.size)
      clear b3
      cases d0 with
      | false =>
        simp only [Bool.false_eq_true, if_false]
        go_wp2
        go_ret
        exact ⟨by rw [HE.out]; rfl, B3.out⟩
      | true =>
        simp only [if_true]
        go_wp2
        go_ret
        exact ⟨by rw [HE.out]; rfl, B3.out⟩
/-- Are there too many? -/
def largeD (d : DelD) : Bool := !(decide ((d.jobs.length ≤ 40 ∧ d.leases.length ≤ 40 ∧ d.gj.length ≤ 40 ∧ d.gl.length ≤ 40) ∧ d.nodes.length ≤ 20 ∧ d.gn.length ≤ 20))
theorem max_gt (a b n : Nat) : decide ((n : Int) < max (a : Int) (b : Int)) = decide (n < a ∨ n < b) := by
  rw [Bool.eq_iff_iff, decide_eq_true_eq, decide_eq_true_eq]
  omega
set_option maxRecDepth 100000 in
set_option maxHeartbeats 1000000 in
theorem isLarge_is (M : DlM) (d : DelD) (w : World) : Calls Tryz.prog 42 #[.agg (dlC M d)] w fun e w' => e = .returned (.bool (largeD d)) ∧ Below w.heap.size w w' := by
  have bW := below_one w (.cells (dlC M d) 29)
  obtain ⟨c, hc⟩ : ∃ c, largeD d = c := ⟨_, rfl⟩
  rw [hc]
  have h1 : (c = true ↔ (40 < d.jobs.length ∨ 40 < d.gj.length) ∨ (20 < d.nodes.length ∨ 20 < d.gn.length) ∨ (40 < d.leases.length ∨ 40 < d.gl.length)) := by
    rw [← hc]
    unfold largeD
    rw [Bool.not_eq_true', decide_eq_false_iff_not]
    omega
  unfold dlC at bW ⊢
  clear hc
  by_cases a1 : 40 < d.jobs.length ∨ 40 < d.gj.length
  · have e1 : (40 : Int) < max (d.jobs.length : Int) (d.gj.length : Int) := by omega
    obtain rfl : c = true := h1.2 (.inl a1)
    clear h1 a1
    go_enter Tryz.func42, Tryz.ntmps42
    go_wp2
    go_ret
    exact ⟨rfl, bW⟩
  · have e1 : ¬ (40 : Int) < max (d.jobs.length : Int) (d.gj.length : Int) := by omega
    by_cases a2 : 20 < d.nodes.length ∨ 20 < d.gn.length
    · have e2 : (20 : Int) < max (d.nodes.length : Int) (d.gn.length : Int) := by omega
      obtain rfl : c = true := h1.2 (.inr (.inl a2))
      clear h1 a1 a2
      go_enter Tryz.func42, Tryz.ntmps42
      go_wp2
      go_ret
      exact ⟨rfl, bW⟩
    · have e2 : ¬ (20 : Int) < max (d.nodes.length : Int) (d.gn.length : Int) := by omega
      by_cases a3 : 40 < d.leases.length ∨ 40 < d.gl.length
      · have e3 : (40 : Int) < max (d.leases.length : Int) (d.gl.length : Int) := by omega
        obtain rfl : c = true := h1.2 (.inr (.inr a3))
        clear h1 a1 a2 a3
        go_enter Tryz.func42, Tryz.ntmps42
        go_wp2
        go_ret
        exact ⟨rfl, bW⟩
      · have e3 : ¬ (40 : Int) < max (d.leases.length : Int) (d.gl.length : Int) := by omega
        obtain rfl : c = false := by
          cases c with
          | false => rfl
          | true =>
            rcases h1.1 rfl with h | h | h
            · exact absurd h a1
            · exact absurd h a2
            · exact absurd h a3
        clear h1 a1 a2 a3
        go_enter Tryz.func42, Tryz.ntmps42
        go_wp2
        go_ret
        exact ⟨rfl, bW⟩
end Go.Proofs.YtfbakobmlbjncaaGreatDoor
