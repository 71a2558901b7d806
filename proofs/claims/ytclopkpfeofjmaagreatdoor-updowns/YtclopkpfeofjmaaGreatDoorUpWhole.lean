/- Package up: separate, raise and lower at states. -/
import Derived.Test.YtclopkpfeofjmaaGreatDoorUpMem
namespace Go.Proofs.YtclopkpfeofjmaaGreatDoor
open Go.RowKit

set_option maxRecDepth 100000 in
set_option maxHeartbeats 4000000 in
theorem separate_is (s : StD) (aj an al : Option Addr) (cj cn cl : Nat) (hl : s.jobs.length ≤ 40 ∧ s.nodes.length ≤ 40 ∧ s.leases.length ≤ 40) (hz : (∀ x ∈ s.jobs, x.name.size ≤ 140737488355328 ∧ x.tag.size ≤ 140737488355328) ∧ (∀ x ∈ s.nodes, x.name.size ≤ 140737488355328 ∧ x.zone.size ≤ 140737488355328) ∧ ∀ x ∈ s.leases, x.job.size ≤ 140737488355328 ∧ x.node.size ≤ 140737488355328) (w : World) (hmj : JobsAt w aj s.jobs) (hmn : NodesAt w an s.nodes) (hml : LeasesAt w al s.leases) :
    Calls Tryz.prog 20 #[.agg #[.int .i64 s.rev, .slice aj s.jobs.length cj, .slice an s.nodes.length cn, .slice al s.leases.length cl]] w fun e w' => ∃ aj' cj' an' cn' al' cl', e = .returned (.agg #[.int .i64 s.rev, .slice aj' s.jobs.length cj', .slice an' s.nodes.length cn', .slice al' s.leases.length cl']) ∧ w'.ownsRow w.heap.size 50 5 (.slice aj' s.jobs.length cj') s.jobs.length (cJobs (s.jobs.map id)) ∧ w'.ownsRow w.heap.size 52 3 (.slice an' s.nodes.length cn') s.nodes.length (cNodes (s.nodes.map id)) ∧ w'.ownsRow w.heap.size 48 3 (.slice al' s.leases.length cl') s.leases.length (cLeases (s.leases.map id)) ∧ Below w.heap.size w w' := by
  obtain ⟨W0, hW0⟩ : ∃ W0, (w.alloc (.cells #[.int .i64 s.rev, .slice aj s.jobs.length cj, .slice an s.nodes.length cn, .slice al s.leases.length cl] 30)).alloc (.cells #[.int .i64 0, .slice none 0 0, .slice none 0 0, .slice none 0 0] 30) = W0 := ⟨_, rfl⟩
  obtain ⟨p0, r0, B0, sz0⟩ := two_new w _ _ _ _ _ W0 hW0
  have HMJ := Lib.hid hmj
  have HMN := Lib.hid hmn
  have HML := Lib.hid hml
  obtain ⟨hl1, hl2, hl3⟩ := hl
  clear hmj hmn hml
  have S0 := Lib.hid sz0
  clear sz0
  have C0 := Lib.hid (eachJ_sep s.jobs aj cj hl1 W0 (jobsAt_next HMJ.out B0) (fun x hx w1 _ => sepJob_is x (hz.1 x hx).1 (hz.1 x hx).2 w1))
  have c1 := objAt_cell p0 1 rfl
  have P0 := Lib.hid (And.intro p0 (And.intro r0 B0))
  clear p0 r0 B0
  go_enter Tryz.func20, Tryz.ntmps20
  go_wp2_with fail
  refine C0.out.mono ?_
  rintro e w1 ⟨aj', cj', rfl, o1, b1⟩
  obtain ⟨p0, r0, B0⟩ := P0.out
  have p := objAt_next p0 b1
  have r := objAt_next r0 b1
  have B := below_trans B0 b1 B0.size
  have g := objAt_free p 1
  have e := objAt_cell p 1 rfl
  obtain ⟨W1, hW1⟩ : ∃ W1, w1.setCell ⟨w.heap.size, 1, none⟩ (.slice aj' s.jobs.length cj') = W1 := ⟨_, rfl⟩
  have p1 : ObjAt w.heap.size #[.int .i64 s.rev, .slice aj' s.jobs.length cj', .slice an s.nodes.length cn, .slice al s.leases.length cl] 30 W1 := by rw [← hW1]; exact objAt_set p 1 (.slice aj' s.jobs.length cj')
  have r1 : ObjAt (w.heap.size + 1) #[.int .i64 0, .slice none 0 0, .slice none 0 0, .slice none 0 0] 30 W1 := by rw [← hW1]; exact objAt_other r (by omega) 1 _
  have B1 : Below w.heap.size w W1 := by rw [← hW1]; exact B.setCell (p := ⟨w.heap.size, 1, none⟩) (Nat.le_refl _) _
  have s1 : w.heap.size + 2 ≤ W1.heap.size := by have h1 := b1.size; have h2 := S0.out; have h3 : W1.heap.size = w1.heap.size := by rw [← hW1]; simp [World.setCell]
                                                 omega
  have q1 := ownsRow_low (B' := w.heap.size) (own_box o1 p (by decide) 1 (.slice aj' s.jobs.length cj')) (by have := S0.out; omega)
  rw [hW1] at q1
  have Q1 := Lib.hid q1
  clear q1
  have S1 := Lib.hid s1
  have A1 := Lib.hid (And.intro p (And.intro r B))
  clear p r B p0 r0 B0 o1 b1 s1 c1 C0
  have C1 := Lib.hid (eachN_sep s.nodes an cn hl2 W1 (nodesAt_next HMN.out B1) (fun x hx w1 _ => sepNode_is x (hz.2.1 x hx).1 (hz.2.1 x hx).2 w1))
  have c2 := objAt_cell p1 2 rfl
  have P1 := Lib.hid (And.intro p1 (And.intro r1 B1))
  clear p1 r1 B1
  go_wp2_with fail
  refine C1.out.mono ?_
  rintro e w2 ⟨an', cn', rfl, o2, b2⟩
  obtain ⟨p1, r1, B1⟩ := P1.out
  have p := objAt_next p1 b2
  have r := objAt_next r1 b2
  have B := below_trans B1 b2 B1.size
  have g := objAt_free p 2
  have e := objAt_cell p 2 rfl
  obtain ⟨W2, hW2⟩ : ∃ W2, w2.setCell ⟨w.heap.size, 2, none⟩ (.slice an' s.nodes.length cn') = W2 := ⟨_, rfl⟩
  have p2 : ObjAt w.heap.size #[.int .i64 s.rev, .slice aj' s.jobs.length cj', .slice an' s.nodes.length cn', .slice al s.leases.length cl] 30 W2 := by rw [← hW2]; exact objAt_set p 2 (.slice an' s.nodes.length cn')
  have r2 : ObjAt (w.heap.size + 1) #[.int .i64 0, .slice none 0 0, .slice none 0 0, .slice none 0 0] 30 W2 := by rw [← hW2]; exact objAt_other r (by omega) 2 _
  have B2 : Below w.heap.size w W2 := by rw [← hW2]; exact B.setCell (p := ⟨w.heap.size, 2, none⟩) (Nat.le_refl _) _
  have s2 : w.heap.size + 2 ≤ W2.heap.size := by have h1 := b2.size; have h2 := S1.out; have h3 : W2.heap.size = w2.heap.size := by rw [← hW2]; simp [World.setCell]
                                                 omega
  have q1 := own_box (own_next Q1.out b2) p (by decide) 2 (.slice an' s.nodes.length cn')
  have q2 := ownsRow_low (B' := w.heap.size) (own_box o2 p (by decide) 2 (.slice an' s.nodes.length cn')) (by have := S1.out; omega)
  rw [hW2] at q1
  have Q1 := Lib.hid q1
  clear q1
  rw [hW2] at q2
  have Q2 := Lib.hid q2
  clear q2
  have S2 := Lib.hid s2
  have A2 := Lib.hid (And.intro p (And.intro r B))
  clear p r B p1 r1 B1 o2 b2 s2 c2 C1
  have C2 := Lib.hid (eachL_sep s.leases al cl hl3 W2 (leasesAt_next HML.out B2) (fun x hx w1 _ => sepLease_is x (hz.2.2 x hx).1 (hz.2.2 x hx).2 w1))
  have c3 := objAt_cell p2 3 rfl
  have P2 := Lib.hid (And.intro p2 (And.intro r2 B2))
  clear p2 r2 B2
  go_wp2_with fail
  refine C2.out.mono ?_
  rintro e w3 ⟨al', cl', rfl, o3, b3⟩
  obtain ⟨p2, r2, B2⟩ := P2.out
  have p := objAt_next p2 b3
  have r := objAt_next r2 b3
  have B := below_trans B2 b3 B2.size
  have g := objAt_free p 3
  have e := objAt_cell p 3 rfl
  obtain ⟨W3, hW3⟩ : ∃ W3, w3.setCell ⟨w.heap.size, 3, none⟩ (.slice al' s.leases.length cl') = W3 := ⟨_, rfl⟩
  have p3 : ObjAt w.heap.size #[.int .i64 s.rev, .slice aj' s.jobs.length cj', .slice an' s.nodes.length cn', .slice al' s.leases.length cl'] 30 W3 := by rw [← hW3]; exact objAt_set p 3 (.slice al' s.leases.length cl')
  have r3 : ObjAt (w.heap.size + 1) #[.int .i64 0, .slice none 0 0, .slice none 0 0, .slice none 0 0] 30 W3 := by rw [← hW3]; exact objAt_other r (by omega) 3 _
  have B3 : Below w.heap.size w W3 := by rw [← hW3]; exact B.setCell (p := ⟨w.heap.size, 3, none⟩) (Nat.le_refl _) _
  have s3 : w.heap.size + 2 ≤ W3.heap.size := by have h1 := b3.size; have h2 := S2.out; have h3 : W3.heap.size = w3.heap.size := by rw [← hW3]; simp [World.setCell]
                                                 omega
  have q1 := own_box (own_next Q1.out b3) p (by decide) 3 (.slice al' s.leases.length cl')
  have q2 := own_box (own_next Q2.out b3) p (by decide) 3 (.slice al' s.leases.length cl')
  have q3 := ownsRow_low (B' := w.heap.size) (own_box o3 p (by decide) 3 (.slice al' s.leases.length cl')) (by have := S2.out; omega)
  rw [hW3] at q1
  have Q1 := Lib.hid q1
  clear q1
  rw [hW3] at q2
  have Q2 := Lib.hid q2
  clear q2
  rw [hW3] at q3
  have Q3 := Lib.hid q3
  clear q3
  have S3 := Lib.hid s3
  have A3 := Lib.hid (And.intro p (And.intro r B))
  clear p r B p2 r2 B2 o3 b3 s3 c3 C2
  have d0 := objAt_cell p3 0 rfl
  have f0 := objAt_free r3 0
  have m0 := objAt_cell r3 0 rfl
  have d1 := objAt_cell p3 1 rfl
  have f1 := objAt_free r3 1
  have m1 := objAt_cell r3 1 rfl
  have d2 := objAt_cell p3 2 rfl
  have f2 := objAt_free r3 2
  have m2 := objAt_cell r3 2 rfl
  have d3 := objAt_cell p3 3 rfl
  have f3 := objAt_free r3 3
  have m3 := objAt_cell r3 3 rfl
  have oF := obj_put4 r3 (.int .i64 s.rev) (.slice aj' s.jobs.length cj') (.slice an' s.nodes.length cn') (.slice al' s.leases.length cl')
  have BF := Lib.hid (below_put4 B3 (b := w.heap.size + 1) (by omega) (.int .i64 s.rev) (.slice aj' s.jobs.length cj') (.slice an' s.nodes.length cn') (.slice al' s.leases.length cl'))
  have Z1 := Lib.hid (own_put4 Q1.out r3 (by decide) (.int .i64 s.rev) (.slice aj' s.jobs.length cj') (.slice an' s.nodes.length cn') (.slice al' s.leases.length cl'))
  have Z2 := Lib.hid (own_put4 Q2.out r3 (by decide) (.int .i64 s.rev) (.slice aj' s.jobs.length cj') (.slice an' s.nodes.length cn') (.slice al' s.leases.length cl'))
  have Z3 := Lib.hid (own_put4 Q3.out r3 (by decide) (.int .i64 s.rev) (.slice aj' s.jobs.length cj') (.slice an' s.nodes.length cn') (.slice al' s.leases.length cl'))
  have t0 := objAt_cell oF 0 rfl
  have t1 := objAt_cell oF 1 rfl
  have t2 := objAt_cell oF 2 rfl
  have t3 := objAt_cell oF 3 rfl
  have TT := Lib.hid (And.intro t0 (And.intro t1 (And.intro t2 t3)))
  clear oF t0 t1 t2 t3 p3 r3 B3
  go_wp2
  obtain ⟨t0, t1, t2, t3⟩ := TT.out
  exact bodyPost_ret (v := .agg #[.int .i64 s.rev, .slice aj' s.jobs.length cj', .slice an' s.nodes.length cn', .slice al' s.leases.length cl']) (by simp [results, Tryz.results20, go_sem, t0, t1, t2, t3]) rfl ⟨_, _, _, _, _, _, rfl, Z1.out, Z2.out, Z3.out, BF.out⟩
set_option maxRecDepth 100000 in
set_option maxHeartbeats 4000000 in
theorem raise_2 (s : StD) (aj an al : Option Addr) (cj cn cl : Nat) (hl : s.jobs.length ≤ 40 ∧ s.nodes.length ≤ 40 ∧ s.leases.length ≤ 40) (w : World) (hmj : JobsAt w aj s.jobs) (hmn : NodesAt w an s.nodes) (hml : LeasesAt w al s.leases) :
    Calls Tryz.prog 31 #[.agg #[.int .i64 s.rev, .slice aj s.jobs.length cj, .slice an s.nodes.length cn, .slice al s.leases.length cl], .int .i64 2] w fun e w' => ∃ aj' cj' an' cn', e = .returned (.agg #[.int .i64 s.rev, .slice aj' s.jobs.length cj', .slice an' s.nodes.length cn', .slice al s.leases.length cl]) ∧ w'.ownsRow w.heap.size 50 5 (.slice aj' s.jobs.length cj') s.jobs.length (cJobs (s.jobs.map (r2J s.leases))) ∧ w'.ownsRow w.heap.size 52 3 (.slice an' s.nodes.length cn') s.nodes.length (cNodes (s.nodes.map r2N)) ∧ Below w.heap.size w w' := by
  obtain ⟨W0, hW0⟩ : ∃ W0, (w.alloc (.cells #[.int .i64 s.rev, .slice aj s.jobs.length cj, .slice an s.nodes.length cn, .slice al s.leases.length cl] 30)).alloc (.cells #[.int .i64 0, .slice none 0 0, .slice none 0 0, .slice none 0 0] 30) = W0 := ⟨_, rfl⟩
  obtain ⟨p0, r0, B0, sz0⟩ := two_new w _ _ _ _ _ W0 hW0
  have HMJ := Lib.hid hmj
  have HMN := Lib.hid hmn
  have HML := Lib.hid hml
  obtain ⟨hl1, hl2, hl3⟩ := hl
  clear hmj hmn hml
  have S0 := Lib.hid sz0
  clear sz0
  have C0 := Lib.hid (eachJ_raise w.heap.size s.leases s.jobs aj cj hl1 W0 (jobsAt_next HMJ.out B0) (fun x hx w1 hb => raiseJ_is w.heap.size x s.leases al cl hl3 w1 (leasesAt_next (leasesAt_next HML.out B0) hb) (by rw [hb.cell (p := ⟨w.heap.size, 3, none⟩) (objAt_lt p0)]; exact objAt_cell p0 3 rfl) (Nat.lt_of_lt_of_le (objAt_lt p0) hb.size)))
  have c1 := objAt_cell p0 1 rfl
  have P0 := Lib.hid (And.intro p0 (And.intro r0 B0))
  clear p0 r0 B0
  go_enter Tryz.func31, Tryz.ntmps31
  go_wp2_with fail
  refine C0.out.mono ?_
  rintro e w1 ⟨aj', cj', rfl, o1, b1⟩
  obtain ⟨p0, r0, B0⟩ := P0.out
  have p := objAt_next p0 b1
  have r := objAt_next r0 b1
  have B := below_trans B0 b1 B0.size
  have g := objAt_free p 1
  have e := objAt_cell p 1 rfl
  obtain ⟨W1, hW1⟩ : ∃ W1, w1.setCell ⟨w.heap.size, 1, none⟩ (.slice aj' s.jobs.length cj') = W1 := ⟨_, rfl⟩
  have p1 : ObjAt w.heap.size #[.int .i64 s.rev, .slice aj' s.jobs.length cj', .slice an s.nodes.length cn, .slice al s.leases.length cl] 30 W1 := by rw [← hW1]; exact objAt_set p 1 (.slice aj' s.jobs.length cj')
  have r1 : ObjAt (w.heap.size + 1) #[.int .i64 0, .slice none 0 0, .slice none 0 0, .slice none 0 0] 30 W1 := by rw [← hW1]; exact objAt_other r (by omega) 1 _
  have B1 : Below w.heap.size w W1 := by rw [← hW1]; exact B.setCell (p := ⟨w.heap.size, 1, none⟩) (Nat.le_refl _) _
  have s1 : w.heap.size + 2 ≤ W1.heap.size := by have h1 := b1.size; have h2 := S0.out; have h3 : W1.heap.size = w1.heap.size := by rw [← hW1]; simp [World.setCell]
                                                 omega
  have q1 := ownsRow_low (B' := w.heap.size) (own_box o1 p (by decide) 1 (.slice aj' s.jobs.length cj')) (by have := S0.out; omega)
  rw [hW1] at q1
  have Q1 := Lib.hid q1
  clear q1
  have S1 := Lib.hid s1
  have A1 := Lib.hid (And.intro p (And.intro r B))
  clear p r B p0 r0 B0 o1 b1 s1 c1 C0
  have C1 := Lib.hid (eachN_raise s.nodes an cn hl2 W1 (nodesAt_next HMN.out B1) (fun x hx w1 _ => raiseN_is x w1))
  have c2 := objAt_cell p1 2 rfl
  have P1 := Lib.hid (And.intro p1 (And.intro r1 B1))
  clear p1 r1 B1
  go_wp2_with fail
  refine C1.out.mono ?_
  rintro e w2 ⟨an', cn', rfl, o2, b2⟩
  obtain ⟨p1, r1, B1⟩ := P1.out
  have p := objAt_next p1 b2
  have r := objAt_next r1 b2
  have B := below_trans B1 b2 B1.size
  have g := objAt_free p 2
  have e := objAt_cell p 2 rfl
  obtain ⟨W2, hW2⟩ : ∃ W2, w2.setCell ⟨w.heap.size, 2, none⟩ (.slice an' s.nodes.length cn') = W2 := ⟨_, rfl⟩
  have p2 : ObjAt w.heap.size #[.int .i64 s.rev, .slice aj' s.jobs.length cj', .slice an' s.nodes.length cn', .slice al s.leases.length cl] 30 W2 := by rw [← hW2]; exact objAt_set p 2 (.slice an' s.nodes.length cn')
  have r2 : ObjAt (w.heap.size + 1) #[.int .i64 0, .slice none 0 0, .slice none 0 0, .slice none 0 0] 30 W2 := by rw [← hW2]; exact objAt_other r (by omega) 2 _
  have B2 : Below w.heap.size w W2 := by rw [← hW2]; exact B.setCell (p := ⟨w.heap.size, 2, none⟩) (Nat.le_refl _) _
  have s2 : w.heap.size + 2 ≤ W2.heap.size := by have h1 := b2.size; have h2 := S1.out; have h3 : W2.heap.size = w2.heap.size := by rw [← hW2]; simp [World.setCell]
                                                 omega
  have q1 := own_box (own_next Q1.out b2) p (by decide) 2 (.slice an' s.nodes.length cn')
  have q2 := ownsRow_low (B' := w.heap.size) (own_box o2 p (by decide) 2 (.slice an' s.nodes.length cn')) (by have := S1.out; omega)
  rw [hW2] at q1
  have Q1 := Lib.hid q1
  clear q1
  rw [hW2] at q2
  have Q2 := Lib.hid q2
  clear q2
  have S2 := Lib.hid s2
  have A2 := Lib.hid (And.intro p (And.intro r B))
  clear p r B p1 r1 B1 o2 b2 s2 c2 C1
  have d0 := objAt_cell p2 0 rfl
  have f0 := objAt_free r2 0
  have m0 := objAt_cell r2 0 rfl
  have d1 := objAt_cell p2 1 rfl
  have f1 := objAt_free r2 1
  have m1 := objAt_cell r2 1 rfl
  have d2 := objAt_cell p2 2 rfl
  have f2 := objAt_free r2 2
  have m2 := objAt_cell r2 2 rfl
  have d3 := objAt_cell p2 3 rfl
  have f3 := objAt_free r2 3
  have m3 := objAt_cell r2 3 rfl
  have oF := obj_put4 r2 (.int .i64 s.rev) (.slice aj' s.jobs.length cj') (.slice an' s.nodes.length cn') (.slice al s.leases.length cl)
  have BF := Lib.hid (below_put4 B2 (b := w.heap.size + 1) (by omega) (.int .i64 s.rev) (.slice aj' s.jobs.length cj') (.slice an' s.nodes.length cn') (.slice al s.leases.length cl))
  have Z1 := Lib.hid (own_put4 Q1.out r2 (by decide) (.int .i64 s.rev) (.slice aj' s.jobs.length cj') (.slice an' s.nodes.length cn') (.slice al s.leases.length cl))
  have Z2 := Lib.hid (own_put4 Q2.out r2 (by decide) (.int .i64 s.rev) (.slice aj' s.jobs.length cj') (.slice an' s.nodes.length cn') (.slice al s.leases.length cl))
  have t0 := objAt_cell oF 0 rfl
  have t1 := objAt_cell oF 1 rfl
  have t2 := objAt_cell oF 2 rfl
  have t3 := objAt_cell oF 3 rfl
  have TT := Lib.hid (And.intro t0 (And.intro t1 (And.intro t2 t3)))
  clear oF t0 t1 t2 t3 p2 r2 B2
  go_wp2
  obtain ⟨t0, t1, t2, t3⟩ := TT.out
  exact bodyPost_ret (v := .agg #[.int .i64 s.rev, .slice aj' s.jobs.length cj', .slice an' s.nodes.length cn', .slice al s.leases.length cl]) (by simp [results, Tryz.results31, go_sem, t0, t1, t2, t3]) rfl ⟨_, _, _, _, rfl, Z1.out, Z2.out, BF.out⟩
set_option maxRecDepth 100000 in
set_option maxHeartbeats 4000000 in
theorem raise_3 (s : StD) (aj an al : Option Addr) (cj cn cl : Nat) (hl : s.jobs.length ≤ 40 ∧ s.nodes.length ≤ 40 ∧ s.leases.length ≤ 40) (w : World) (hmj : JobsAt w aj s.jobs) (hmn : NodesAt w an s.nodes) (hml : LeasesAt w al s.leases) :
    Calls Tryz.prog 31 #[.agg #[.int .i64 s.rev, .slice aj s.jobs.length cj, .slice an s.nodes.length cn, .slice al s.leases.length cl], .int .i64 3] w fun e w' => ∃ aj' cj', e = .returned (.agg #[.int .i64 1, .slice aj' s.jobs.length cj', .slice an s.nodes.length cn, .slice al s.leases.length cl]) ∧ w'.ownsRow w.heap.size 50 5 (.slice aj' s.jobs.length cj') s.jobs.length (cJobs (s.jobs.map noTag)) ∧ Below w.heap.size w w' := by
  obtain ⟨W0, hW0⟩ : ∃ W0, (w.alloc (.cells #[.int .i64 s.rev, .slice aj s.jobs.length cj, .slice an s.nodes.length cn, .slice al s.leases.length cl] 30)).alloc (.cells #[.int .i64 0, .slice none 0 0, .slice none 0 0, .slice none 0 0] 30) = W0 := ⟨_, rfl⟩
  obtain ⟨p0, r0, B0, sz0⟩ := two_new w _ _ _ _ _ W0 hW0
  have V := Lib.hid (And.intro p0 (And.intro r0 (And.intro B0 sz0)))
  have g0 := objAt_free p0 0
  have e0 := objAt_cell p0 0 rfl
  obtain ⟨W1, hW1⟩ : ∃ W1, W0.setCell ⟨w.heap.size, 0, none⟩ (.int .i64 1) = W1 := ⟨_, rfl⟩
  have p1 : ObjAt w.heap.size #[.int .i64 1, .slice aj s.jobs.length cj, .slice an s.nodes.length cn, .slice al s.leases.length cl] 30 W1 := by rw [← hW1]; exact objAt_set p0 0 (.int .i64 1)
  have r1 := objAt_other r0 (c := w.heap.size) (by omega) 0 (.int .i64 1)
  have B1 := B0.setCell (p := ⟨w.heap.size, 0, none⟩) (Nat.le_refl _) (.int .i64 1)
  have sz1 : W1.heap.size = w.heap.size + 2 := by rw [← hW1, ← sz0]; simp [World.setCell]
  rw [hW1] at r1 B1
  clear p0 r0 B0 sz0 V
  have HMJ := Lib.hid hmj
  have HMN := Lib.hid hmn
  have HML := Lib.hid hml
  obtain ⟨hl1, hl2, hl3⟩ := hl
  clear hmj hmn hml
  have S1 := Lib.hid sz1
  clear sz1
  have C1 := Lib.hid (eachJ_tag s.jobs aj cj hl1 W1 (jobsAt_next HMJ.out B1) (fun x hx w1 _ => withoutTag_is x w1))
  have c1 := objAt_cell p1 1 rfl
  have P1 := Lib.hid (And.intro p1 (And.intro r1 B1))
  clear p1 r1 B1
  go_enter Tryz.func31, Tryz.ntmps31
  go_wp2_with fail
  refine C1.out.mono ?_
  rintro e w2 ⟨aj', cj', rfl, o2, b2⟩
  obtain ⟨p1, r1, B1⟩ := P1.out
  have p := objAt_next p1 b2
  have r := objAt_next r1 b2
  have B := below_trans B1 b2 B1.size
  have g := objAt_free p 1
  have e := objAt_cell p 1 rfl
  obtain ⟨W2, hW2⟩ : ∃ W2, w2.setCell ⟨w.heap.size, 1, none⟩ (.slice aj' s.jobs.length cj') = W2 := ⟨_, rfl⟩
  have p2 : ObjAt w.heap.size #[.int .i64 1, .slice aj' s.jobs.length cj', .slice an s.nodes.length cn, .slice al s.leases.length cl] 30 W2 := by rw [← hW2]; exact objAt_set p 1 (.slice aj' s.jobs.length cj')
  have r2 : ObjAt (w.heap.size + 1) #[.int .i64 0, .slice none 0 0, .slice none 0 0, .slice none 0 0] 30 W2 := by rw [← hW2]; exact objAt_other r (by omega) 1 _
  have B2 : Below w.heap.size w W2 := by rw [← hW2]; exact B.setCell (p := ⟨w.heap.size, 1, none⟩) (Nat.le_refl _) _
  have s2 : w.heap.size + 2 ≤ W2.heap.size := by have h1 := b2.size; have h2 := S1.out; have h3 : W2.heap.size = w2.heap.size := by rw [← hW2]; simp [World.setCell]
                                                 omega
  have q1 := ownsRow_low (B' := w.heap.size) (own_box o2 p (by decide) 1 (.slice aj' s.jobs.length cj')) (by have := S1.out; omega)
  rw [hW2] at q1
  have Q1 := Lib.hid q1
  clear q1
  have S2 := Lib.hid s2
  have A2 := Lib.hid (And.intro p (And.intro r B))
  clear p r B p1 r1 B1 o2 b2 s2 c1 C1
  have d0 := objAt_cell p2 0 rfl
  have f0 := objAt_free r2 0
  have m0 := objAt_cell r2 0 rfl
  have d1 := objAt_cell p2 1 rfl
  have f1 := objAt_free r2 1
  have m1 := objAt_cell r2 1 rfl
  have d2 := objAt_cell p2 2 rfl
  have f2 := objAt_free r2 2
  have m2 := objAt_cell r2 2 rfl
  have d3 := objAt_cell p2 3 rfl
  have f3 := objAt_free r2 3
  have m3 := objAt_cell r2 3 rfl
  have oF := obj_put4 r2 (.int .i64 1) (.slice aj' s.jobs.length cj') (.slice an s.nodes.length cn) (.slice al s.leases.length cl)
  have BF := Lib.hid (below_put4 B2 (b := w.heap.size + 1) (by omega) (.int .i64 1) (.slice aj' s.jobs.length cj') (.slice an s.nodes.length cn) (.slice al s.leases.length cl))
  have Z1 := Lib.hid (own_put4 Q1.out r2 (by decide) (.int .i64 1) (.slice aj' s.jobs.length cj') (.slice an s.nodes.length cn) (.slice al s.leases.length cl))
  have t0 := objAt_cell oF 0 rfl
  have t1 := objAt_cell oF 1 rfl
  have t2 := objAt_cell oF 2 rfl
  have t3 := objAt_cell oF 3 rfl
  have TT := Lib.hid (And.intro t0 (And.intro t1 (And.intro t2 t3)))
  clear oF t0 t1 t2 t3 p2 r2 B2
  go_wp2
  obtain ⟨t0, t1, t2, t3⟩ := TT.out
  exact bodyPost_ret (v := .agg #[.int .i64 1, .slice aj' s.jobs.length cj', .slice an s.nodes.length cn, .slice al s.leases.length cl]) (by simp [results, Tryz.results31, go_sem, t0, t1, t2, t3]) rfl ⟨_, _, rfl, Z1.out, BF.out⟩
set_option maxRecDepth 100000 in
set_option maxHeartbeats 4000000 in
theorem lower_2 (s : StD) (aj an al : Option Addr) (cj cn cl : Nat) (hl : s.jobs.length ≤ 40 ∧ s.nodes.length ≤ 40 ∧ s.leases.length ≤ 40) (w : World) (hmj : JobsAt w aj s.jobs) (hmn : NodesAt w an s.nodes) (hml : LeasesAt w al s.leases) :
    Calls Tryz.prog 21 #[.agg #[.int .i64 s.rev, .slice aj s.jobs.length cj, .slice an s.nodes.length cn, .slice al s.leases.length cl], .int .i64 2] w fun e w' => ∃ aj' cj' an' cn', e = .returned (.agg #[.int .i64 s.rev, .slice aj' s.jobs.length cj', .slice an' s.nodes.length cn', .slice al s.leases.length cl]) ∧ w'.ownsRow w.heap.size 50 5 (.slice aj' s.jobs.length cj') s.jobs.length (cJobs (s.jobs.map noTries)) ∧ w'.ownsRow w.heap.size 52 3 (.slice an' s.nodes.length cn') s.nodes.length (cNodes (s.nodes.map noZone)) ∧ Below w.heap.size w w' := by
  obtain ⟨W0, hW0⟩ : ∃ W0, (w.alloc (.cells #[.int .i64 s.rev, .slice aj s.jobs.length cj, .slice an s.nodes.length cn, .slice al s.leases.length cl] 30)).alloc (.cells #[.int .i64 0, .slice none 0 0, .slice none 0 0, .slice none 0 0] 30) = W0 := ⟨_, rfl⟩
  obtain ⟨p0, r0, B0, sz0⟩ := two_new w _ _ _ _ _ W0 hW0
  have HMJ := Lib.hid hmj
  have HMN := Lib.hid hmn
  have HML := Lib.hid hml
  obtain ⟨hl1, hl2, hl3⟩ := hl
  clear hmj hmn hml
  have S0 := Lib.hid sz0
  clear sz0
  have C0 := Lib.hid (eachJ_tries s.jobs aj cj hl1 W0 (jobsAt_next HMJ.out B0) (fun x hx w1 _ => withoutTries_is x w1))
  have c1 := objAt_cell p0 1 rfl
  have P0 := Lib.hid (And.intro p0 (And.intro r0 B0))
  clear p0 r0 B0
  go_enter Tryz.func21, Tryz.ntmps21
  go_wp2_with fail
  refine C0.out.mono ?_
  rintro e w1 ⟨aj', cj', rfl, o1, b1⟩
  obtain ⟨p0, r0, B0⟩ := P0.out
  have p := objAt_next p0 b1
  have r := objAt_next r0 b1
  have B := below_trans B0 b1 B0.size
  have g := objAt_free p 1
  have e := objAt_cell p 1 rfl
  obtain ⟨W1, hW1⟩ : ∃ W1, w1.setCell ⟨w.heap.size, 1, none⟩ (.slice aj' s.jobs.length cj') = W1 := ⟨_, rfl⟩
  have p1 : ObjAt w.heap.size #[.int .i64 s.rev, .slice aj' s.jobs.length cj', .slice an s.nodes.length cn, .slice al s.leases.length cl] 30 W1 := by rw [← hW1]; exact objAt_set p 1 (.slice aj' s.jobs.length cj')
  have r1 : ObjAt (w.heap.size + 1) #[.int .i64 0, .slice none 0 0, .slice none 0 0, .slice none 0 0] 30 W1 := by rw [← hW1]; exact objAt_other r (by omega) 1 _
  have B1 : Below w.heap.size w W1 := by rw [← hW1]; exact B.setCell (p := ⟨w.heap.size, 1, none⟩) (Nat.le_refl _) _
  have s1 : w.heap.size + 2 ≤ W1.heap.size := by have h1 := b1.size; have h2 := S0.out; have h3 : W1.heap.size = w1.heap.size := by rw [← hW1]; simp [World.setCell]
                                                 omega
  have q1 := ownsRow_low (B' := w.heap.size) (own_box o1 p (by decide) 1 (.slice aj' s.jobs.length cj')) (by have := S0.out; omega)
  rw [hW1] at q1
  have Q1 := Lib.hid q1
  clear q1
  have S1 := Lib.hid s1
  have A1 := Lib.hid (And.intro p (And.intro r B))
  clear p r B p0 r0 B0 o1 b1 s1 c1 C0
  have C1 := Lib.hid (eachN_zone s.nodes an cn hl2 W1 (nodesAt_next HMN.out B1) (fun x hx w1 _ => withoutZone_is x w1))
  have c2 := objAt_cell p1 2 rfl
  have P1 := Lib.hid (And.intro p1 (And.intro r1 B1))
  clear p1 r1 B1
  go_wp2_with fail
  refine C1.out.mono ?_
  rintro e w2 ⟨an', cn', rfl, o2, b2⟩
  obtain ⟨p1, r1, B1⟩ := P1.out
  have p := objAt_next p1 b2
  have r := objAt_next r1 b2
  have B := below_trans B1 b2 B1.size
  have g := objAt_free p 2
  have e := objAt_cell p 2 rfl
  obtain ⟨W2, hW2⟩ : ∃ W2, w2.setCell ⟨w.heap.size, 2, none⟩ (.slice an' s.nodes.length cn') = W2 := ⟨_, rfl⟩
  have p2 : ObjAt w.heap.size #[.int .i64 s.rev, .slice aj' s.jobs.length cj', .slice an' s.nodes.length cn', .slice al s.leases.length cl] 30 W2 := by rw [← hW2]; exact objAt_set p 2 (.slice an' s.nodes.length cn')
  have r2 : ObjAt (w.heap.size + 1) #[.int .i64 0, .slice none 0 0, .slice none 0 0, .slice none 0 0] 30 W2 := by rw [← hW2]; exact objAt_other r (by omega) 2 _
  have B2 : Below w.heap.size w W2 := by rw [← hW2]; exact B.setCell (p := ⟨w.heap.size, 2, none⟩) (Nat.le_refl _) _
  have s2 : w.heap.size + 2 ≤ W2.heap.size := by have h1 := b2.size; have h2 := S1.out; have h3 : W2.heap.size = w2.heap.size := by rw [← hW2]; simp [World.setCell]
                                                 omega
  have q1 := own_box (own_next Q1.out b2) p (by decide) 2 (.slice an' s.nodes.length cn')
  have q2 := ownsRow_low (B' := w.heap.size) (own_box o2 p (by decide) 2 (.slice an' s.nodes.length cn')) (by have := S1.out; omega)
  rw [hW2] at q1
  have Q1 := Lib.hid q1
  clear q1
  rw [hW2] at q2
  have Q2 := Lib.hid q2
  clear q2
  have S2 := Lib.hid s2
  have A2 := Lib.hid (And.intro p (And.intro r B))
  clear p r B p1 r1 B1 o2 b2 s2 c2 C1
  have d0 := objAt_cell p2 0 rfl
  have f0 := objAt_free r2 0
  have m0 := objAt_cell r2 0 rfl
  have d1 := objAt_cell p2 1 rfl
  have f1 := objAt_free r2 1
  have m1 := objAt_cell r2 1 rfl
  have d2 := objAt_cell p2 2 rfl
  have f2 := objAt_free r2 2
  have m2 := objAt_cell r2 2 rfl
  have d3 := objAt_cell p2 3 rfl
  have f3 := objAt_free r2 3
  have m3 := objAt_cell r2 3 rfl
  have oF := obj_put4 r2 (.int .i64 s.rev) (.slice aj' s.jobs.length cj') (.slice an' s.nodes.length cn') (.slice al s.leases.length cl)
  have BF := Lib.hid (below_put4 B2 (b := w.heap.size + 1) (by omega) (.int .i64 s.rev) (.slice aj' s.jobs.length cj') (.slice an' s.nodes.length cn') (.slice al s.leases.length cl))
  have Z1 := Lib.hid (own_put4 Q1.out r2 (by decide) (.int .i64 s.rev) (.slice aj' s.jobs.length cj') (.slice an' s.nodes.length cn') (.slice al s.leases.length cl))
  have Z2 := Lib.hid (own_put4 Q2.out r2 (by decide) (.int .i64 s.rev) (.slice aj' s.jobs.length cj') (.slice an' s.nodes.length cn') (.slice al s.leases.length cl))
  have t0 := objAt_cell oF 0 rfl
  have t1 := objAt_cell oF 1 rfl
  have t2 := objAt_cell oF 2 rfl
  have t3 := objAt_cell oF 3 rfl
  have TT := Lib.hid (And.intro t0 (And.intro t1 (And.intro t2 t3)))
  clear oF t0 t1 t2 t3 p2 r2 B2
  go_wp2
  obtain ⟨t0, t1, t2, t3⟩ := TT.out
  exact bodyPost_ret (v := .agg #[.int .i64 s.rev, .slice aj' s.jobs.length cj', .slice an' s.nodes.length cn', .slice al s.leases.length cl]) (by simp [results, Tryz.results21, go_sem, t0, t1, t2, t3]) rfl ⟨_, _, _, _, rfl, Z1.out, Z2.out, BF.out⟩
set_option maxRecDepth 100000 in
set_option maxHeartbeats 4000000 in
theorem lower_3 (s : StD) (aj an al : Option Addr) (cj cn cl : Nat) (hl : s.jobs.length ≤ 40 ∧ s.nodes.length ≤ 40 ∧ s.leases.length ≤ 40) (w : World) (hmj : JobsAt w aj s.jobs) (hmn : NodesAt w an s.nodes) (hml : LeasesAt w al s.leases) :
    Calls Tryz.prog 21 #[.agg #[.int .i64 s.rev, .slice aj s.jobs.length cj, .slice an s.nodes.length cn, .slice al s.leases.length cl], .int .i64 3] w fun e w' => ∃ aj' cj', e = .returned (.agg #[.int .i64 0, .slice aj' s.jobs.length cj', .slice an s.nodes.length cn, .slice al s.leases.length cl]) ∧ w'.ownsRow w.heap.size 50 5 (.slice aj' s.jobs.length cj') s.jobs.length (cJobs (s.jobs.map noTag)) ∧ Below w.heap.size w w' := by
  obtain ⟨W0, hW0⟩ : ∃ W0, (w.alloc (.cells #[.int .i64 s.rev, .slice aj s.jobs.length cj, .slice an s.nodes.length cn, .slice al s.leases.length cl] 30)).alloc (.cells #[.int .i64 0, .slice none 0 0, .slice none 0 0, .slice none 0 0] 30) = W0 := ⟨_, rfl⟩
  obtain ⟨p0, r0, B0, sz0⟩ := two_new w _ _ _ _ _ W0 hW0
  have V := Lib.hid (And.intro p0 (And.intro r0 (And.intro B0 sz0)))
  have g0 := objAt_free p0 0
  have e0 := objAt_cell p0 0 rfl
  obtain ⟨W1, hW1⟩ : ∃ W1, W0.setCell ⟨w.heap.size, 0, none⟩ (.int .i64 0) = W1 := ⟨_, rfl⟩
  have p1 : ObjAt w.heap.size #[.int .i64 0, .slice aj s.jobs.length cj, .slice an s.nodes.length cn, .slice al s.leases.length cl] 30 W1 := by rw [← hW1]; exact objAt_set p0 0 (.int .i64 0)
  have r1 := objAt_other r0 (c := w.heap.size) (by omega) 0 (.int .i64 0)
  have B1 := B0.setCell (p := ⟨w.heap.size, 0, none⟩) (Nat.le_refl _) (.int .i64 0)
  have sz1 : W1.heap.size = w.heap.size + 2 := by rw [← hW1, ← sz0]; simp [World.setCell]
  rw [hW1] at r1 B1
  clear p0 r0 B0 sz0 V
  have HMJ := Lib.hid hmj
  have HMN := Lib.hid hmn
  have HML := Lib.hid hml
  obtain ⟨hl1, hl2, hl3⟩ := hl
  clear hmj hmn hml
  have S1 := Lib.hid sz1
  clear sz1
  have C1 := Lib.hid (eachJ_tag s.jobs aj cj hl1 W1 (jobsAt_next HMJ.out B1) (fun x hx w1 _ => withoutTag_is x w1))
  have c1 := objAt_cell p1 1 rfl
  have P1 := Lib.hid (And.intro p1 (And.intro r1 B1))
  clear p1 r1 B1
  go_enter Tryz.func21, Tryz.ntmps21
  go_wp2_with fail
  refine C1.out.mono ?_
  rintro e w2 ⟨aj', cj', rfl, o2, b2⟩
  obtain ⟨p1, r1, B1⟩ := P1.out
  have p := objAt_next p1 b2
  have r := objAt_next r1 b2
  have B := below_trans B1 b2 B1.size
  have g := objAt_free p 1
  have e := objAt_cell p 1 rfl
  obtain ⟨W2, hW2⟩ : ∃ W2, w2.setCell ⟨w.heap.size, 1, none⟩ (.slice aj' s.jobs.length cj') = W2 := ⟨_, rfl⟩
  have p2 : ObjAt w.heap.size #[.int .i64 0, .slice aj' s.jobs.length cj', .slice an s.nodes.length cn, .slice al s.leases.length cl] 30 W2 := by rw [← hW2]; exact objAt_set p 1 (.slice aj' s.jobs.length cj')
  have r2 : ObjAt (w.heap.size + 1) #[.int .i64 0, .slice none 0 0, .slice none 0 0, .slice none 0 0] 30 W2 := by rw [← hW2]; exact objAt_other r (by omega) 1 _
  have B2 : Below w.heap.size w W2 := by rw [← hW2]; exact B.setCell (p := ⟨w.heap.size, 1, none⟩) (Nat.le_refl _) _
  have s2 : w.heap.size + 2 ≤ W2.heap.size := by have h1 := b2.size; have h2 := S1.out; have h3 : W2.heap.size = w2.heap.size := by rw [← hW2]; simp [World.setCell]
                                                 omega
  have q1 := ownsRow_low (B' := w.heap.size) (own_box o2 p (by decide) 1 (.slice aj' s.jobs.length cj')) (by have := S1.out; omega)
  rw [hW2] at q1
  have Q1 := Lib.hid q1
  clear q1
  have S2 := Lib.hid s2
  have A2 := Lib.hid (And.intro p (And.intro r B))
  clear p r B p1 r1 B1 o2 b2 s2 c1 C1
  have d0 := objAt_cell p2 0 rfl
  have f0 := objAt_free r2 0
  have m0 := objAt_cell r2 0 rfl
  have d1 := objAt_cell p2 1 rfl
  have f1 := objAt_free r2 1
  have m1 := objAt_cell r2 1 rfl
  have d2 := objAt_cell p2 2 rfl
  have f2 := objAt_free r2 2
  have m2 := objAt_cell r2 2 rfl
  have d3 := objAt_cell p2 3 rfl
  have f3 := objAt_free r2 3
  have m3 := objAt_cell r2 3 rfl
  have oF := obj_put4 r2 (.int .i64 0) (.slice aj' s.jobs.length cj') (.slice an s.nodes.length cn) (.slice al s.leases.length cl)
  have BF := Lib.hid (below_put4 B2 (b := w.heap.size + 1) (by omega) (.int .i64 0) (.slice aj' s.jobs.length cj') (.slice an s.nodes.length cn) (.slice al s.leases.length cl))
  have Z1 := Lib.hid (own_put4 Q1.out r2 (by decide) (.int .i64 0) (.slice aj' s.jobs.length cj') (.slice an s.nodes.length cn) (.slice al s.leases.length cl))
  have t0 := objAt_cell oF 0 rfl
  have t1 := objAt_cell oF 1 rfl
  have t2 := objAt_cell oF 2 rfl
  have t3 := objAt_cell oF 3 rfl
  have TT := Lib.hid (And.intro t0 (And.intro t1 (And.intro t2 t3)))
  clear oF t0 t1 t2 t3 p2 r2 B2
  go_wp2
  obtain ⟨t0, t1, t2, t3⟩ := TT.out
  exact bodyPost_ret (v := .agg #[.int .i64 0, .slice aj' s.jobs.length cj', .slice an s.nodes.length cn, .slice al s.leases.length cl]) (by simp [results, Tryz.results21, go_sem, t0, t1, t2, t3]) rfl ⟨_, _, rfl, Z1.out, BF.out⟩
end Go.Proofs.YtclopkpfeofjmaaGreatDoor
