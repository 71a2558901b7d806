/- The reference: what is used of a node. -/
import Derived.Test.YtkdjpciegcofbaaDoorStAt
import Derived.Test.YtkdjpciegcofbaaDoorStTab
namespace Go.Proofs.YtkdjpciegcofbaaDoor
open Go.RowKit

theorem used_same {jobs : List JobD} {leases : List LeaseD} {i : Nat} {node : ByteArray} (h : i < leases.length) {x : LeaseD} (hx : leases[i] = x) (hz : x.node ≠ node ∨ needOf jobs x.job = 0) : usedD jobs (leases.take (i + 1)) node = usedD jobs (leases.take i) node := by
  rw [used_step jobs leases i h node, hx]
  rcases hz with hz | hz
  · rw [if_neg hz]; omega
  · rw [hz]; split <;> omega
theorem used_more {jobs : List JobD} {leases : List LeaseD} {i : Nat} {node : ByteArray} (h : i < leases.length) {x : LeaseD} (hx : leases[i] = x) (hz : x.node = node) : usedD jobs (leases.take (i + 1)) node = usedD jobs (leases.take i) node + needOf jobs x.job := by
  rw [used_step jobs leases i h node, hx, if_pos hz]
set_option maxRecDepth 100000 in
set_option maxHeartbeats 2000000 in
theorem rused_is (U : ByteArray → Bool) (rev : Int) (aj an al : Option Addr) (cj cn cl : Nat) (jobs : List JobD) (nodes : List NodeD) (leases : List LeaseD) (node : ByteArray) (hJ : ∀ j ∈ jobs, jobE U j = 0) (hj : jobs.length ≤ 40) (hl : leases.length ≤ 40) (w : World) (hmj : JobsAt w aj jobs) (hml : LeasesAt w al leases) :
    Calls Tryd.prog 18 #[.agg #[.int .i64 rev, .slice aj jobs.length cj, .slice an nodes.length cn, .slice al leases.length cl], .string node] w fun e w' => e = .returned (.int .i64 (usedD jobs leases node)) ∧ Below w.heap.size w w' := by
  have bW := below_one w (.cells #[.int .i64 rev, .slice aj jobs.length cj, .slice an nodes.length cn, .slice al leases.length cl] 26)
  have q := box_new4 w (.int .i64 rev) (.slice aj jobs.length cj) (.slice an nodes.length cn) (.slice al leases.length cl) 26
  have HMJ := Lib.hid hmj
  have HML := Lib.hid hml
  have HJ := Lib.hid hJ
  clear hmj hml hJ
  go_enter Tryd.func18, Tryd.ntmps18
  go_wp2
  go_loopw [5, 12] (fun sv iv wr => ∃ (i : Nat) (c : Int), iv = .int .i64 (i : Int) ∧ sv = .int .i64 c ∧ i ≤ leases.length ∧ (0 ≤ c ∧ c ≤ 40000000) ∧ Hid (c = usedD jobs (leases.take i) node) ∧ Box w.heap.size [.int .i64 rev, .slice aj jobs.length cj, .slice an nodes.length cn, .slice al leases.length cl] wr ∧ Below w.heap.size w wr) (fun _ iv _ => leases.length - (intOf iv).toNat)
  case atStart => exact ⟨0, 0, rfl, rfl, by omega, by omega, rfl, q, bW⟩
  case round =>
    clear q bW
    obtain ⟨i, c, rfl, rfl, hi, hc, HC, q, hb⟩ := hrel
    by_cases h : (i : Int) < (leases.length : Int)
    · have hil : i < leases.length := by omega
      obtain ⟨a, rfl, hal, k0, k1, k2⟩ := leasesAt_next HML.out hb i hil
      obtain ⟨x, hxi⟩ : ∃ x, leases[i] = x := ⟨_, rfl⟩
      rw [hxi] at k0 k1 k2
      have Hxi := Lib.hid hxi
      have hwr : IntKind.i64.wrap ((i : Int) + 1) = (i : Int) + 1 := IntWalk.i64_in _ (by omega)
      have g1 := (box_alloc q (.cells #[.string x.job, .string x.node, .int .i64 x.til] 48)).1 1 _ rfl
      have HA := Lib.hid (jobAt_is jobs aj cj (by omega) x.job (wr.alloc (.cells #[.string x.job, .string x.node, .int .i64 x.til] 48)) (jobsAt_next HMJ.out (hb.alloc hb.size _)))
      clear hxi
      go_wp2_with fail
      refine HA.out.mono ?_
      rintro e w1 ⟨r, rfl, hr, b1⟩
      have q1 := box_next (box_alloc q _) b1
      have p1 := box_next (box_new3 wr (.string x.job) (.string x.node) (.int .i64 x.til) 48) b1
      have hb1 := below_trans (hb.alloc hb.size _) b1 (by have := hb.size; simp; omega)
      have HR := Lib.hid hr
      clear q g1 k0 k1 k2 hr HA b1
      have k1 := q1.1 1 _ rfl
      have j1 := p1.1 1 _ rfl
      by_cases hn : x.node = node
      · have hl1 : (x.node.toList == node.toList) = true := by rw [same_lists, decide_eq_true hn]
        have HN := Lib.hid hn
        clear hn
        rcases HR.out with ⟨rfl, hno⟩ | ⟨k, hk, rfl, hkn, hfirst⟩
        · have HZ : Hid (c = usedD jobs (leases.take (i + 1)) node) := by
            show _ = _
            rw [used_same hil Hxi.out (.inr (needOf_none (by have := (at_job HR.out).1; simpa using this)))]
            exact HC.out
          clear hno
          go_wp2
          go_roundw
          case rel => exact ⟨i + 1, c, by simp, rfl, by omega, hc, HZ, q1, hb1⟩
          case measure => simp [intOf]; omega
        · obtain ⟨_, hneed⟩ := (at_job HR.out).2 k rfl
          obtain ⟨b, rfl, hbl, m0, m1, m2, m3, m4⟩ := jobsAt_next HMJ.out hb1 k hk
          have HZ : Hid (c + jobs[k].need = usedD jobs (leases.take (i + 1)) node) := by
            show _ = _
            rw [used_more hil Hxi.out HN.out, hneed, ← HC.out]
          have hbd := used_take_bd U HJ.out node leases hl (i + 1)
          rw [← HZ.out] at hbd
          obtain ⟨d, hd⟩ : ∃ d, d = jobs[k].need := ⟨_, rfl⟩
          rw [← hd] at m2 HZ hbd
          have hk0 : (0 : Int) ≤ (k : Int) := by omega
          have hk1 : (k : Int) < (jobs.length : Int) := by omega
          have hws : IntKind.i64.wrap (c + d) = c + d := IntWalk.i64_in _ (by omega)
          clear hkn hfirst hneed hd m0 m1 m3 m4
          go_wp2
          go_roundw
          case rel => exact ⟨i + 1, c + d, by simp, rfl, by omega, hbd, HZ, q1, hb1⟩
          case measure => simp [intOf]; omega
      · have hl1 : (x.node.toList == node.toList) = false := by rw [same_lists, decide_eq_false hn]
        have HZ : Hid (c = usedD jobs (leases.take (i + 1)) node) := by
          show _ = _
          rw [used_same hil Hxi.out (.inl hn)]
          exact HC.out
        clear hn
        go_wp2
        go_roundw
        case rel => exact ⟨i + 1, c, by simp, rfl, by omega, hc, HZ, q1, hb1⟩
        case measure => simp [intOf]; omega
    · obtain rfl : i = leases.length := by omega
      have HZ : Hid (c = usedD jobs leases node) := by have := HC.out; rw [List.take_length] at this; exact this
      go_wp2
      go_ret
      exact ⟨by rw [← HZ.out]; rfl, hb⟩
end Go.Proofs.YtkdjpciegcofbaaDoor
