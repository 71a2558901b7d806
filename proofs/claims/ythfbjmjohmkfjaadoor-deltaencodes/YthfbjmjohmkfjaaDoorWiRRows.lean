/- The reference's bytes of states: brackenref.rowsBytes, Bytes, Encode. -/
import Derived.Test.YthfbjmjohmkfjaaDoorWiRJob
namespace Go.Proofs.YthfbjmjohmkfjaaDoor
open Go.RowKit

theorem flat_step {α : Type} (f : α → List UInt8) (xs : List α) (i : Nat) (h : i < xs.length) : (xs.take (i + 1)).flatMap f = (xs.take i).flatMap f ++ f xs[i] := by
  rw [List.take_add_one, List.flatMap_append, List.getElem?_eq_getElem h]; simp
theorem flat_small {α : Type} {f : α → List UInt8} {xs : List α} (i : Nat) (hl : xs.length ≤ 40) (h : ∀ x ∈ xs, (f x).length ≤ 64) : ((xs.take i).flatMap f).length ≤ 2560 := by
  have h1 := flat_len (l := xs.take i) (f := f) (M := 64) (fun x hx => h x (List.mem_of_mem_take hx))
  have h2 : (xs.take i).length ≤ 40 := by rw [List.length_take]; omega
  have h3 : (xs.take i).length * 64 ≤ 40 * 64 := Nat.mul_le_mul_right 64 h2
  omega
theorem job_small {v : Int} {x : JobD} (h : okJob V8 v x) : (jobB v x).length ≤ 64 := by
  have := (lim_job h ⟨false, [], ⟨#[]⟩, 0⟩).1
  rw [wrt_job h _ rfl] at this
  simpa using this
theorem node_small {v : Int} {x : NodeD} (h : okNode V8 v x) : (nodeB v x).length ≤ 64 := by
  have := (lim_node h ⟨false, [], ⟨#[]⟩, 0⟩).1
  rw [wrt_node h _ rfl] at this
  simpa using this
theorem lease_small {x : LeaseD} (h : okLease V8 x) : (leaseB x).length ≤ 64 := by
  have := (lim_lease h ⟨false, [], ⟨#[]⟩, 0⟩).1
  rw [wrt_lease h _ rfl] at this
  simpa using this
theorem lenB (n : Nat) (h : n ≤ 40) : intE (n : Int) = num n ∧ (num n).length ≤ 10 := ⟨by unfold intE; rw [Int.toNat_natCast], num_len10 (by omega)⟩
set_option maxRecDepth 100000 in
set_option maxHeartbeats 8000000 in
theorem rowsBytes_is (s : StD) (aj an al : Option Addr) (cj cn cl : Nat) (v : Int) (hj : s.jobs.length ≤ 40 ∧ ∀ x ∈ s.jobs, okJob V8 v x) (hn : s.nodes.length ≤ 20 ∧ ∀ x ∈ s.nodes, okNode V8 v x) (hl : s.leases.length ≤ 40 ∧ ∀ x ∈ s.leases, okLease V8 x) (w : World) (hmj : JobsAt w aj s.jobs) (hmn : NodesAt w an s.nodes) (hml : LeasesAt w al s.leases) :
    Calls Tryd.prog 16 #[.slice aj s.jobs.length cj, .slice an s.nodes.length cn, .slice al s.leases.length cl, .int .i64 v] w fun e w' => e = .returned (.string (ba (rowsE' (jobB v) s.jobs ++ (rowsE' (nodeB v) s.nodes ++ rowsE' leaseB s.leases)))) ∧ Below w.heap.size w w' := by
  have nj := lenB s.jobs.length hj.1
  have nn := lenB s.nodes.length (by omega)
  have nl := lenB s.leases.length hl.1
  have HLj := rnumB_is (s.jobs.length : Int) (by omega)
  have HLn := rnumB_is (s.nodes.length : Int) (by omega)
  have HLl := rnumB_is (s.leases.length : Int) (by omega)
  rw [nj.1] at HLj
  rw [nn.1] at HLn
  rw [nl.1] at HLl
  have HLj := Lib.hid HLj
  have HLn := Lib.hid HLn
  have HLl := Lib.hid HLl
  have fj := flat_small (f := jobB v) (xs := s.jobs) s.jobs.length hj.1 (fun x hx => job_small (hj.2 x hx))
  have fn := flat_small (f := nodeB v) (xs := s.nodes) s.nodes.length (by omega) (fun x hx => node_small (hn.2 x hx))
  rw [List.take_length] at fj fn
  obtain ⟨p0, e0⟩ : ∃ p, num s.jobs.length = p := ⟨_, rfl⟩
  obtain ⟨p1, e1⟩ : ∃ p, p0 ++ s.jobs.flatMap (jobB v) ++ num s.nodes.length = p := ⟨_, rfl⟩
  obtain ⟨p2, e2⟩ : ∃ p, p1 ++ s.nodes.flatMap (nodeB v) ++ num s.leases.length = p := ⟨_, rfl⟩
  have eR : rowsE' (jobB v) s.jobs ++ (rowsE' (nodeB v) s.nodes ++ rowsE' leaseB s.leases) = p2 ++ s.leases.flatMap leaseB := by
    rw [← e2, ← e1, ← e0]; unfold rowsE'; simp only [List.append_assoc]
  rw [eR]
  have HP0 : Hid (p0.length ≤ 10) := by show _ ≤ _; rw [← e0]; exact nj.2
  have HP1 : Hid (p1.length ≤ 3000) := by show _ ≤ _; rw [← e1, List.length_append, List.length_append]; have := HP0.out; have := nn.2; omega
  have HP2 : Hid (p2.length ≤ 6000) := by show _ ≤ _; rw [← e2, List.length_append, List.length_append]; have := HP1.out; have := nl.2; omega
  have HO0 := Lib.hid hj.2
  have HO1 := Lib.hid hn.2
  have HO2 := Lib.hid hl.2
  have HM0 := Lib.hid hmj
  have HM1 := Lib.hid hmn
  have HM2 := Lib.hid hml
  have lj := hj.1
  have ln := hn.1
  have ll := hl.1
  rw [e0] at HLj
  have E1 := Lib.hid e1
  have E2 := Lib.hid e2
  have NN := Lib.hid nn.2
  have NL := Lib.hid nl.2
  have FJ := Lib.hid fj
  have FN := Lib.hid fn
  clear eR e0 e1 e2 nj nn nl fj fn hj hn hl hmj hmn hml
  go_enter Tryd.func16, Tryd.ntmps16
  go_wp2_with fail
  refine (HLj.out _).mono ?_
  rintro e w0 ⟨rfl, B0⟩
  clear HLj
  go_wp2
  go_loopw [9, 21] (fun sv iv wr => ∃ (i : Nat), iv = .int .i64 (i : Int) ∧ i ≤ s.jobs.length ∧ sv = .string (ba (p0 ++ (s.jobs.take i).flatMap (jobB v))) ∧ Below w.heap.size w wr) (fun _ iv _ => s.jobs.length - (intOf iv).toNat)
  case atStart => exact ⟨0, rfl, Nat.zero_le _, by first | rfl | (simp; done) | simp [ba], B0⟩
  case round =>
    clear B0
    obtain ⟨i, rfl, hi, rfl, hb⟩ := hrel
    by_cases h : (i : Int) < (s.jobs.length : Int)
    · have hil : i < s.jobs.length := by omega
      obtain ⟨a, rfl, hal, k0, k1, k2, k3, k4⟩ := jobsAt_next HM0.out hb i hil
      have hst := flat_step (jobB v) s.jobs i hil
      have hsm := flat_small (f := (jobB v)) (xs := s.jobs) i (by omega) (fun x hx => job_small (HO0.out x hx))
      have hokx := HO0.out s.jobs[i] (List.getElem_mem _)
      obtain ⟨x, hxi⟩ : ∃ x, s.jobs[i] = x := ⟨_, rfl⟩
      rw [hxi] at hst hokx k0 k1 k2 k3 k4
      have hxs := job_small hokx
      have HJ := Lib.hid (jobBytes_is x v hokx)
      have eN : ba (p0 ++ (s.jobs.take i).flatMap (jobB v)) ++ ba ((jobB v) x) = ba (p0 ++ (s.jobs.take (i + 1)).flatMap (jobB v)) := by rw [ba_app, hst, List.append_assoc]
      have s1 := ba_size (p0 ++ (s.jobs.take i).flatMap (jobB v))
      have s2 := ba_size ((jobB v) x)
      rw [List.length_append] at s1
      have hp := HP0.out
      obtain ⟨N, hN⟩ : ∃ N, ba (p0 ++ (s.jobs.take (i + 1)).flatMap (jobB v)) = N := ⟨_, rfl⟩
      rw [hN] at eN
      have HN := Lib.hid hN
      generalize ba (p0 ++ (s.jobs.take i).flatMap (jobB v)) = Sx at s1 eN ⊢
      generalize ba ((jobB v) x) = Jx at s2 eN HJ
      have ad : ¬ (9223372036854775807 < Sx.size + Jx.size) := by omega
      clear hst hsm hokx hxi hxs s1 s2 hp hN
      go_wp2_with fail
      refine (HJ.out _).mono ?_
      rintro e w1 ⟨rfl, b1⟩
      have hb1 := below_trans hb (below_trans (below_one wr (.cells #[.string x.name, .int .i64 x.prio, .int .i64 x.need, .int .i64 x.tries, .string x.tag] 55)) b1 (by simp)) hb.size
      clear b1 HJ hb k0 k1 k2 k3 k4
      go_wp2
      go_roundw
      case rel => exact ⟨i + 1, by simp, by omega, by rw [HN.out], hb1⟩
      case measure => simp [intOf]; omega
    · obtain rfl : i = s.jobs.length := by omega
      rw [List.take_length]
      have eA : ba (p0 ++ s.jobs.flatMap (jobB v)) ++ ba (num s.nodes.length) = ba p1 := by rw [ba_app, E1.out]
      have s1 := ba_size (p0 ++ s.jobs.flatMap (jobB v))
      have s2 := ba_size (num s.nodes.length)
      rw [List.length_append] at s1
      have hp := HP0.out
      have hq := FJ.out
      have hr := NN.out
      obtain ⟨Lx, hLx⟩ : ∃ Lx, ba (num s.nodes.length) = Lx := ⟨_, rfl⟩
      obtain ⟨Nx, hNx⟩ : ∃ Nx, ba p1 = Nx := ⟨_, rfl⟩
      have HC := HLn.out
      rw [hLx] at HC eA s2
      rw [hNx] at eA
      have HC := Lib.hid HC
      generalize ba (p0 ++ s.jobs.flatMap (jobB v)) = Sx at s1 eA ⊢
      have ad : ¬ (9223372036854775807 < Sx.size + Lx.size) := by omega
      have HNx := Lib.hid hNx
      clear s1 s2 hp hq hr hLx hNx HLn
      go_wp2_with fail
      refine (HC.out _).mono ?_
      rintro e w1 ⟨rfl, b1⟩
      have B1 := below_trans hb b1 hb.size
      clear HC hb b1
      go_wp2
      rw [← HNx.out]
      go_loopw [9, 38] (fun sv iv wr => ∃ (i : Nat), iv = .int .i64 (i : Int) ∧ i ≤ s.nodes.length ∧ sv = .string (ba (p1 ++ (s.nodes.take i).flatMap (nodeB v))) ∧ Below w.heap.size w wr) (fun _ iv _ => s.nodes.length - (intOf iv).toNat)
      case atStart => exact ⟨0, rfl, Nat.zero_le _, by first | rfl | (simp; done) | simp [ba], B1⟩
      case round =>
        clear B1
        obtain ⟨i, rfl, hi, rfl, hb⟩ := hrel
        by_cases h : (i : Int) < (s.nodes.length : Int)
        · have hil : i < s.nodes.length := by omega
          obtain ⟨a, rfl, hal, k0, k1, k2⟩ := nodesAt_next HM1.out hb i hil
          have hst := flat_step (nodeB v) s.nodes i hil
          have hsm := flat_small (f := (nodeB v)) (xs := s.nodes) i (by omega) (fun x hx => node_small (HO1.out x hx))
          have hokx := HO1.out s.nodes[i] (List.getElem_mem _)
          obtain ⟨x, hxi⟩ : ∃ x, s.nodes[i] = x := ⟨_, rfl⟩
          rw [hxi] at hst hokx k0 k1 k2
          have hxs := node_small hokx
          have HJ := Lib.hid (nodeBytes_is x v hokx)
          have eN : ba (p1 ++ (s.nodes.take i).flatMap (nodeB v)) ++ ba ((nodeB v) x) = ba (p1 ++ (s.nodes.take (i + 1)).flatMap (nodeB v)) := by rw [ba_app, hst, List.append_assoc]
          have s1 := ba_size (p1 ++ (s.nodes.take i).flatMap (nodeB v))
          have s2 := ba_size ((nodeB v) x)
          rw [List.length_append] at s1
          have hp := HP1.out
          obtain ⟨N, hN⟩ : ∃ N, ba (p1 ++ (s.nodes.take (i + 1)).flatMap (nodeB v)) = N := ⟨_, rfl⟩
          rw [hN] at eN
          have HN := Lib.hid hN
          generalize ba (p1 ++ (s.nodes.take i).flatMap (nodeB v)) = Sx at s1 eN ⊢
          generalize ba ((nodeB v) x) = Jx at s2 eN HJ
          have ad : ¬ (9223372036854775807 < Sx.size + Jx.size) := by omega
          clear hst hsm hokx hxi hxs s1 s2 hp hN
          go_wp2_with fail
          refine (HJ.out _).mono ?_
          rintro e w1 ⟨rfl, b1⟩
          have hb1 := below_trans hb (below_trans (below_one wr (.cells #[.string x.name, .int .i64 x.room, .string x.zone] 59)) b1 (by simp)) hb.size
          clear b1 HJ hb k0 k1 k2
          go_wp2
          go_roundw
          case rel => exact ⟨i + 1, by simp, by omega, by rw [HN.out], hb1⟩
          case measure => simp [intOf]; omega
        · obtain rfl : i = s.nodes.length := by omega
          rw [List.take_length]
          have eA : ba (p1 ++ s.nodes.flatMap (nodeB v)) ++ ba (num s.leases.length) = ba p2 := by rw [ba_app, E2.out]
          have s1 := ba_size (p1 ++ s.nodes.flatMap (nodeB v))
          have s2 := ba_size (num s.leases.length)
          rw [List.length_append] at s1
          have hp := HP1.out
          have hq := FN.out
          have hr := NL.out
          obtain ⟨Lx, hLx⟩ : ∃ Lx, ba (num s.leases.length) = Lx := ⟨_, rfl⟩
          obtain ⟨Nx, hNx⟩ : ∃ Nx, ba p2 = Nx := ⟨_, rfl⟩
          have HC := HLl.out
          rw [hLx] at HC eA s2
          rw [hNx] at eA
          have HC := Lib.hid HC
          generalize ba (p1 ++ s.nodes.flatMap (nodeB v)) = Sx at s1 eA ⊢
          have ad : ¬ (9223372036854775807 < Sx.size + Lx.size) := by omega
          have HNx := Lib.hid hNx
          clear s1 s2 hp hq hr hLx hNx HLl
          go_wp2_with fail
          refine (HC.out _).mono ?_
          rintro e w2 ⟨rfl, b1⟩
          have B2 := below_trans hb b1 hb.size
          clear HC hb b1
          go_wp2
          rw [← HNx.out]
          go_loopw [9, 55] (fun sv iv wr => ∃ (i : Nat), iv = .int .i64 (i : Int) ∧ i ≤ s.leases.length ∧ sv = .string (ba (p2 ++ (s.leases.take i).flatMap leaseB)) ∧ Below w.heap.size w wr) (fun _ iv _ => s.leases.length - (intOf iv).toNat)
          case atStart => exact ⟨0, rfl, Nat.zero_le _, by first | rfl | (simp; done) | simp [ba], B2⟩
          case round =>
            clear B2
            obtain ⟨i, rfl, hi, rfl, hb⟩ := hrel
            by_cases h : (i : Int) < (s.leases.length : Int)
            · have hil : i < s.leases.length := by omega
              obtain ⟨a, rfl, hal, k0, k1, k2⟩ := leasesAt_next HM2.out hb i hil
              have hst := flat_step leaseB s.leases i hil
              have hsm := flat_small (f := leaseB) (xs := s.leases) i (by omega) (fun x hx => lease_small (HO2.out x hx))
              have hokx := HO2.out s.leases[i] (List.getElem_mem _)
              obtain ⟨x, hxi⟩ : ∃ x, s.leases[i] = x := ⟨_, rfl⟩
              rw [hxi] at hst hokx k0 k1 k2
              have hxs := lease_small hokx
              have HJ := Lib.hid (leaseBytes_is x hokx)
              have eN : ba (p2 ++ (s.leases.take i).flatMap leaseB) ++ ba (leaseB x) = ba (p2 ++ (s.leases.take (i + 1)).flatMap leaseB) := by rw [ba_app, hst, List.append_assoc]
              have s1 := ba_size (p2 ++ (s.leases.take i).flatMap leaseB)
              have s2 := ba_size (leaseB x)
              rw [List.length_append] at s1
              have hp := HP2.out
              obtain ⟨N, hN⟩ : ∃ N, ba (p2 ++ (s.leases.take (i + 1)).flatMap leaseB) = N := ⟨_, rfl⟩
              rw [hN] at eN
              have HN := Lib.hid hN
              generalize ba (p2 ++ (s.leases.take i).flatMap leaseB) = Sx at s1 eN ⊢
              generalize ba (leaseB x) = Jx at s2 eN HJ
              have ad : ¬ (9223372036854775807 < Sx.size + Jx.size) := by omega
              clear hst hsm hokx hxi hxs s1 s2 hp hN
              go_wp2_with fail
              refine (HJ.out _).mono ?_
              rintro e w1 ⟨rfl, b1⟩
              have hb1 := below_trans hb (below_trans (below_one wr (.cells #[.string x.job, .string x.node, .int .i64 x.til] 50)) b1 (by simp)) hb.size
              clear b1 HJ hb k0 k1 k2
              go_wp2
              go_roundw
              case rel => exact ⟨i + 1, by simp, by omega, by rw [HN.out], hb1⟩
              case measure => simp [intOf]; omega
            · obtain rfl : i = s.leases.length := by omega
              rw [List.take_length]
              go_wp2
              go_ret
              exact ⟨rfl, hb⟩
end Go.Proofs.YthfbjmjohmkfjaaDoor
