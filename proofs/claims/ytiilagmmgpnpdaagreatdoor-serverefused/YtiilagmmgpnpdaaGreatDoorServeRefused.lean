/- For every state and all requests the law ServeRefused of the package brackenkeep returns true, as a tied card: what is refused changes nothing; and what only asks doesn't either. -/
import Derived.Test.YtiilagmmgpnpdaaGreatDoorPkSv5
import Derived.Test.YtiilagmmgpnpdaaGreatDoorPkSv2
import Derived.Test.YtiilagmmgpnpdaaGreatDoorUpEq
import Derived.Test.YtiilagmmgpnpdaaGreatDoorPkWi5
namespace Go.Proofs.YtiilagmmgpnpdaaGreatDoor.serveRefused
open Go.ChangeShapes Go.WideShapes Go.ChangeAt Go.RowKit Go.Lib
set_option linter.unusedVariables false
theorem held6 {X w w' : World} {n0 n1 n2 : Nat} {x0 x1 x2 x3 x4 x5 : Value} (l0 : n0 < X.heap.size) (l1 : n1 < X.heap.size) (l2 : n2 < X.heap.size) (h : (w.cell? ⟨n0, 0, none⟩ = some x0 ∧ w.cell? ⟨n1, 0, none⟩ = some x1 ∧ w.cell? ⟨n2, 0, none⟩ = some x2 ∧ w.cell? ⟨n2, 1, none⟩ = some x3 ∧ w.cell? ⟨n2, 2, none⟩ = some x4 ∧ w.cell? ⟨n2, 3, none⟩ = some x5) ∧ Below X.heap.size X w) (k : Below w.heap.size w w') : (w'.cell? ⟨n0, 0, none⟩ = some x0 ∧ w'.cell? ⟨n1, 0, none⟩ = some x1 ∧ w'.cell? ⟨n2, 0, none⟩ = some x2 ∧ w'.cell? ⟨n2, 1, none⟩ = some x3 ∧ w'.cell? ⟨n2, 2, none⟩ = some x4 ∧ w'.cell? ⟨n2, 3, none⟩ = some x5) ∧ Below X.heap.size X w' := by
  have hs := h.2.size
  obtain ⟨⟨h0, h1, h2, h3, h4, h5⟩, hB⟩ := h
  exact ⟨⟨by rw [k.cell (p := ⟨n0, 0, none⟩) (by show n0 < _; omega)]; exact h0, by rw [k.cell (p := ⟨n1, 0, none⟩) (by show n1 < _; omega)]; exact h1, by rw [k.cell (p := ⟨n2, 0, none⟩) (by show n2 < _; omega)]; exact h2, by rw [k.cell (p := ⟨n2, 1, none⟩) (by show n2 < _; omega)]; exact h3, by rw [k.cell (p := ⟨n2, 2, none⟩) (by show n2 < _; omega)]; exact h4, by rw [k.cell (p := ⟨n2, 3, none⟩) (by show n2 < _; omega)]; exact h5⟩, below_trans hB k hs⟩
theorem small3 {s : StD} (h : checkE V8 s = 0) : s.jobs.length ≤ 140737488355328 ∧ s.nodes.length ≤ 140737488355328 ∧ s.leases.length ≤ 140737488355328 := by
  have := (small_sv h).1
  omega
set_option maxRecDepth 100000 in
set_option maxHeartbeats 4000000 in
theorem walk (M : StM) (s : StD) (ad : Option Addr) (cap : Nat) (xs : List ReqD) (hws : wState s) (hwx : ∀ x ∈ xs, wReq x) (hzs : SzState s) (hzx : xs.length ≤ 140737488351232) (w : World) (hm : StateAt w M s) (hx : ReqsAt w ad xs) (hT : Tabs w) :
    Calls Tryz.prog 5 #[stV M s, .slice ad xs.length cap] w fun e w' => e = .returned (.bool true) ∧ Below w.heap.size w w' := by
  obtain ⟨aj, cj, an, cn, al, cl⟩ := M
  have hm : JobsAt w aj s.jobs ∧ NodesAt w an s.nodes ∧ LeasesAt w al s.leases := hm
  show Calls _ _ #[.agg #[.int .i64 s.rev, .slice aj s.jobs.length cj, .slice an s.nodes.length cn, .slice al s.leases.length cl], .slice ad xs.length cap] _ _
  have B0 := below_one w (.cells #[.int .i64 s.rev, .slice aj s.jobs.length cj, .slice an s.nodes.length cn, .slice al s.leases.length cl] 26)
  have I0 := bxS_new (cj := cj) (cn := cn) (cl := cl) (w := w) hm
  obtain ⟨W0, hW0⟩ : ∃ W0, w.alloc (.cells #[.int .i64 s.rev, .slice aj s.jobs.length cj, .slice an s.nodes.length cn, .slice al s.leases.length cl] 26) = W0 := ⟨_, rfl⟩
  rw [hW0] at B0 I0
  have C := Lib.hid (served_is W0 (hT.below B0))
  have HS := Lib.hid hws
  have HT := Lib.hid hT
  have HM0 := Lib.hid hm
  have I0 := Lib.hid I0
  have B0 := Lib.hid B0
  have HX := Lib.hid hx
  have HWX := Lib.hid hwx
  clear hx hwx hzs
  clear hws hT hm
  go_enter Tryz.func5, Tryz.ntmps5
  go_wp2_with fail
  refine C.out.mono ?_
  rintro e w1 ⟨rfl, b1⟩
  have I1 := Lib.hid (bxS_next I0.out b1)
  have B1 := Lib.hid (below_trans B0.out b1 B0.out.size)
  clear b1 C
  by_cases hv : checkE V8 s = 0
  case neg =>
    have hv' : ((checkE V8 s : Int) != 0) = true := by simp; omega
    have C := Lib.hid (svNew_bad s aj an al cj cn cl HS.out hv w1 (HT.out.below B1.out) I1.out.2)
    obtain ⟨k, hk⟩ : ∃ k, checkE V8 s = k := ⟨_, rfl⟩
    rw [hk] at hv' C
    clear hv hk
    obtain ⟨z0, z1, z2, z3⟩ := bxS_cells I1.out
    go_wp2_with fail
    refine C.out.mono ?_
    rintro e w2 ⟨rfl, b2⟩
    have B2 := Lib.hid (below_trans B1.out b2 B1.out.size)
    clear b2 C z0 z1 z2 z3
    go_wp2
    go_ret
    exact ⟨rfl, B2.out⟩
  have C := Lib.hid (svNew_ok s aj an al cj cn cl hv w1 (HT.out.below B1.out) I1.out.2)
  have HV := Lib.hid hv
  clear hv
  obtain ⟨z0, z1, z2, z3⟩ := bxS_cells I1.out
  go_wp2_with fail
  refine C.out.mono ?_
  rintro e w2 ⟨b, rfl, hb, sv, b2⟩
  have I2 := Lib.hid (bxS_next I1.out b2)
  have hwb : w.heap.size ≤ b := Nat.le_trans B1.out.size hb
  have sv2 := svIn_new HV.out sv (below_trans B1.out b2 B1.out.size) HT.out hwb
  clear b2 C z0 z1 z2 z3 sv hb B1 I1 hwb
  go_wp2
  go_loopw [31] (fun iv wr => ∃ (i : Nat) (v : SvD), iv = .int .i64 (i : Int) ∧ i ≤ xs.length ∧ SvIn w b v wr) (fun iv _ => xs.length - (intOf iv).toNat)
  case atStart => exact ⟨0, ⟨s, 0⟩, rfl, by omega, sv2⟩
  case round =>
    obtain ⟨i, v, rfl, hi, svr⟩ := hrel
    by_cases hlt : (i : Int) < (xs.length : Int)
    case neg =>
      have B9 := Lib.hid svr.2.2.2.1
      clear svr sv2
      go_wp2
      go_ret
      exact ⟨rfl, B9.out⟩
    have hin : i < xs.length := by omega
    obtain ⟨a, rfl, hal, k0, k1, k2, k3, k4, k5, k6, k7, k8, k9, k10, k11, k12, k13⟩ := reqsAt_next HX.out svr.2.2.2.1 i hin
    have hwq := HWX.out _ (List.getElem_mem hin)
    obtain ⟨q, hq⟩ : ∃ q, xs[i] = q := ⟨_, rfl⟩
    rw [hq] at k0 k1 k2 k3 k4 k5 k6 k7 k8 k9 k10 k11 k12 k13 hwq
    have HQ := Lib.hid hwq
    have hix : a.block < wr.heap.size := hal
    clear hq hwq sv2
    have bq := below_one wr (.cells #[.int .i64 q.kind, .string q.job.name, .int .i64 q.job.prio, .int .i64 q.job.need, .int .i64 q.job.tries, .string q.job.tag, .string q.node.name, .int .i64 q.node.room, .string q.node.zone, .string q.lease.job, .string q.lease.node, .int .i64 q.lease.til, .string q.name, .int .i64 q.n] 44)
    have oq := objAt_new wr #[.int .i64 q.kind, .string q.job.name, .int .i64 q.job.prio, .int .i64 q.job.need, .int .i64 q.job.tries, .string q.job.tag, .string q.node.name, .int .i64 q.node.room, .string q.node.zone, .string q.lease.job, .string q.lease.node, .int .i64 q.lease.til, .string q.name, .int .i64 q.n] 44
    have svq := svIn_next svr bq
    obtain ⟨X0, hX0⟩ : ∃ X, wr.alloc (.cells #[.int .i64 q.kind, .string q.job.name, .int .i64 q.job.prio, .int .i64 q.job.need, .int .i64 q.job.tries, .string q.job.tag, .string q.node.name, .int .i64 q.node.room, .string q.node.zone, .string q.lease.job, .string q.lease.node, .int .i64 q.lease.til, .string q.name, .int .i64 q.n] 44) = X := ⟨_, rfl⟩
    rw [hX0] at bq oq svq
    have C1 := Lib.hid (svState_is b v svq.2.1 X0 svq.1)
    have SQ := Lib.hid svq
    have OQ := Lib.hid oq
    have SR := Lib.hid svr
    have HN0 := Lib.hid hX0
    clear svq svr oq bq hX0
    go_wp2_with fail
    rw [HN0.out]
    refine C1.out.mono ?_
    rintro e w3 ⟨bj, bn, bl, dj, dn, dl, rfl, ow, b3⟩
    have S3 := svIn_next SQ.out b3
    have o3 := objAt_next OQ.out b3
    have C2 := Lib.hid (svNow_is b v w3 S3.1)
    go_wp2_with fail
    refine C2.out.mono ?_
    rintro e w4 ⟨rfl, h4⟩
    obtain rfl : w3 = w4 := h4.symm
    clear h4
    have bB := below_one w3 (.cells #[.int .i64 v.s.rev, .slice bj v.s.jobs.length dj, .slice bn v.s.nodes.length dn, .slice bl v.s.leases.length dl] 26)
    have oB := objAt_new w3 #[.int .i64 v.s.rev, .slice bj v.s.jobs.length dj, .slice bn v.s.nodes.length dn, .slice bl v.s.leases.length dl] 26
    obtain ⟨X1, hX1⟩ : ∃ X, w3.alloc (.cells #[.int .i64 v.s.rev, .slice bj v.s.jobs.length dj, .slice bn v.s.nodes.length dn, .slice bl v.s.leases.length dl] 26) = X := ⟨_, rfl⟩
    rw [hX1] at bB oB
    have S4 := svIn_next S3 bB
    have o4 := objAt_next o3 bB
    have ow4 := ownS_next ow bB
    have C3 := Lib.hid (do_is v S4.2.1 S4.2.2.1 q HQ.out b X1 S4.2.2.2.2.2.2 S4.1)
    have k40 := objAt_cell o4 0 rfl
    have k41 := objAt_cell o4 1 rfl
    have k42 := objAt_cell o4 2 rfl
    have k43 := objAt_cell o4 3 rfl
    have k44 := objAt_cell o4 4 rfl
    have k45 := objAt_cell o4 5 rfl
    have k46 := objAt_cell o4 6 rfl
    have k47 := objAt_cell o4 7 rfl
    have k48 := objAt_cell o4 8 rfl
    have k49 := objAt_cell o4 9 rfl
    have k50 := objAt_cell o4 10 rfl
    have k51 := objAt_cell o4 11 rfl
    have k52 := objAt_cell o4 12 rfl
    have k53 := objAt_cell o4 13 rfl
    have S4' := Lib.hid S4
    have O4 := Lib.hid (And.intro o4 (And.intro oB ow4))
    have lt4 := objAt_lt o4
    clear S4 S3 o4 o3 oB bB ow ow4 b3 C1 C2 SQ OQ
    go_wp2_with fail
    refine C3.out.mono ?_
    clear k40 k41 k42 k43 k44 k45 k46 k47 k48 k49 k50 k51 k52 k53 C3 hX1
    rintro e w5 ⟨MD, rfl, sv5, ow5, g5⟩
    have hc := sv_refused (U := V8) (s := v.s) v.now q
    have S5 := svIn_do S4'.out sv5 g5
    have oq5 := objAt_gN O4.out.1 (svNe S4'.out.1 O4.out.1 (by decide)) g5
    have ob5 := objAt_gN O4.out.2.1 (svNe S4'.out.1 O4.out.2.1 (by decide)) g5
    have ow5' := svOwn_do O4.out.2.2 S4'.out.1 g5
    have SV := Lib.hid S4'.out.2.1
    clear O4 S4' g5 sv5 ow5
    obtain ⟨r, hr⟩ : ∃ r, doR V8 v.s v.now q = r := ⟨_, rfl⟩
    rw [hr] at S5 hc
    rw [hr]
    obtain ⟨D, hD⟩ : ∃ D, told v.s r = D := ⟨_, rfl⟩
    rw [hD]
    have bx1 := below_one w5 (.cells #[.int .i64 (r.2.1 : Nat), .int .i64 r.1.s.rev] 46)
    have oR := objAt_new w5 #[.int .i64 (r.2.1 : Nat), .int .i64 r.1.s.rev] 46
    have bx2 := below_one (w5.alloc (.cells #[.int .i64 (r.2.1 : Nat), .int .i64 r.1.s.rev] 46)) (.cells #[.int .i64 D.frm, .int .i64 D.til, .slice MD.aj D.jobs.length MD.cj, .slice MD.an D.nodes.length MD.cn, .slice MD.al D.leases.length MD.cl, .slice MD.gj D.gj.length MD.hj, .slice MD.gn D.gn.length MD.hn, .slice MD.gl D.gl.length MD.hl] 49)
    have oR := objAt_next oR bx2
    have bx := below_trans bx1 bx2 (by simp)
    obtain ⟨X2, hX2⟩ : ∃ X, (w5.alloc (.cells #[.int .i64 (r.2.1 : Nat), .int .i64 r.1.s.rev] 46)).alloc (.cells #[.int .i64 D.frm, .int .i64 D.til, .slice MD.aj D.jobs.length MD.cj, .slice MD.an D.nodes.length MD.cn, .slice MD.al D.leases.length MD.cl, .slice MD.gj D.gj.length MD.hj, .slice MD.gn D.gn.length MD.hn, .slice MD.gl D.gl.length MD.hl] 49) = X := ⟨_, rfl⟩
    rw [hX2] at oR bx
    clear bx1 bx2 hr hD
    have S6 := svIn_next S5 bx
    have oq6 := objAt_next oq5 bx
    have ob6 := objAt_next ob5 bx
    have ow6 := ownS_next ow5' bx
    clear S5 oq5 ob5 ow5' bx
    have SX := Lib.hid S6
    have OX := Lib.hid ow6
    have kc := objAt_cell oR 0 rfl
    have kk := objAt_cell oq6 0 rfl
    obtain ⟨y0, y1, y2, y3⟩ : X2.cell? ⟨w3.heap.size, 0, none⟩ = some (.int .i64 v.s.rev) ∧ X2.cell? ⟨w3.heap.size, 1, none⟩ = some (.slice bj v.s.jobs.length dj) ∧ X2.cell? ⟨w3.heap.size, 2, none⟩ = some (.slice bn v.s.nodes.length dn) ∧ X2.cell? ⟨w3.heap.size, 3, none⟩ = some (.slice bl v.s.leases.length dl) := ⟨objAt_cell ob6 0 rfl, objAt_cell ob6 1 rfl, objAt_cell ob6 2 rfl, objAt_cell ob6 3 rfl⟩
    have l1 := objAt_lt oR
    have l2 := objAt_lt oq6
    have l3 := objAt_lt ob6
    clear S6 oq6 ob6 ow6 oR
    obtain ⟨r1, rc, rb⟩ := r
    simp only at hX2 SX kc hc
    have HC := Lib.hid hc
    clear hc
    by_cases g1 : rc = 0
    case neg =>
      have c1 : ((rc : Int) != 0) = true := by simp; omega
      obtain ⟨e1, e2⟩ := HC.out (Or.inl g1)
      clear g1
      obtain rfl : v = r1 := e1.symm
      obtain rfl : rb = false := e2
      have HR := Lib.hid (fun W' (h : (W'.cell? ⟨w5.heap.size, 0, none⟩ = some (.int .i64 (rc : Nat)) ∧ W'.cell? ⟨wr.heap.size, 0, none⟩ = some (.int .i64 q.kind) ∧ W'.cell? ⟨w3.heap.size, 0, none⟩ = some (.int .i64 v.s.rev) ∧ W'.cell? ⟨w3.heap.size, 1, none⟩ = some (.slice bj v.s.jobs.length dj) ∧ W'.cell? ⟨w3.heap.size, 2, none⟩ = some (.slice bn v.s.nodes.length dn) ∧ W'.cell? ⟨w3.heap.size, 3, none⟩ = some (.slice bl v.s.leases.length dl)) ∧ Below X2.heap.size X2 W') => svState_is b v SX.out.2.1 W' (svAt_next SX.out.1 h.2))
      have HW := Lib.hid (fun W' (h : (W'.cell? ⟨w5.heap.size, 0, none⟩ = some (.int .i64 (rc : Nat)) ∧ W'.cell? ⟨wr.heap.size, 0, none⟩ = some (.int .i64 q.kind) ∧ W'.cell? ⟨w3.heap.size, 0, none⟩ = some (.int .i64 v.s.rev) ∧ W'.cell? ⟨w3.heap.size, 1, none⟩ = some (.slice bj v.s.jobs.length dj) ∧ W'.cell? ⟨w3.heap.size, 2, none⟩ = some (.slice bn v.s.nodes.length dn) ∧ W'.cell? ⟨w3.heap.size, 3, none⟩ = some (.slice bl v.s.leases.length dl)) ∧ Below X2.heap.size X2 W') => svNow_is b v W' (svAt_next SX.out.1 h.2))
      have HM := Lib.hid (fun W' (h : (W'.cell? ⟨w5.heap.size, 0, none⟩ = some (.int .i64 (rc : Nat)) ∧ W'.cell? ⟨wr.heap.size, 0, none⟩ = some (.int .i64 q.kind) ∧ W'.cell? ⟨w3.heap.size, 0, none⟩ = some (.int .i64 v.s.rev) ∧ W'.cell? ⟨w3.heap.size, 1, none⟩ = some (.slice bj v.s.jobs.length dj) ∧ W'.cell? ⟨w3.heap.size, 2, none⟩ = some (.slice bn v.s.nodes.length dn) ∧ W'.cell? ⟨w3.heap.size, 3, none⟩ = some (.slice bl v.s.leases.length dl)) ∧ Below X2.heap.size X2 W') (B : Nat) (ej en el : Option Addr) (fj fn fl : Nat) (o : OwnS B ej en el fj fn fl v.s W') => same_is v.s v.s bj bn bl ej en el dj dn dl fj fn fl (small3 SX.out.2.1) W' (jobsAt_next (ownS_at OX.out).1 h.2) (nodesAt_next (ownS_at OX.out).2.1 h.2) (leasesAt_next (ownS_at OX.out).2.2 h.2) (ownS_at o).1 (ownS_at o).2.1 (ownS_at o).2.2)
      have s0 : (X2.drew.cell? ⟨w5.heap.size, 0, none⟩ = some (.int .i64 (rc : Nat)) ∧ X2.drew.cell? ⟨wr.heap.size, 0, none⟩ = some (.int .i64 q.kind) ∧ X2.drew.cell? ⟨w3.heap.size, 0, none⟩ = some (.int .i64 v.s.rev) ∧ X2.drew.cell? ⟨w3.heap.size, 1, none⟩ = some (.slice bj v.s.jobs.length dj) ∧ X2.drew.cell? ⟨w3.heap.size, 2, none⟩ = some (.slice bn v.s.nodes.length dn) ∧ X2.drew.cell? ⟨w3.heap.size, 3, none⟩ = some (.slice bl v.s.leases.length dl)) ∧ Below X2.heap.size X2 X2.drew := ⟨⟨kc, kk, y0, y1, y2, y3⟩, (Below.refl _ _).drew⟩
      go_wp2_with fail
      first
      | go_region_with (first
            | (go_at_call 19; (with_reducible refine (HR.out _ s0).mono ?_); rintro e w6 ⟨ej, en, el, fj, fn, fl, rfl, ow7, b6⟩; have o6 := held6 l1 l2 l3 s0 b6; obtain ⟨_, _, m0, m1, m2, m3⟩ := o6.1)
            | (go_at_call 18; (with_reducible refine (HM.out _ o6 _ _ _ _ _ _ _ ow7).mono ?_); rintro e w7 ⟨c7, rfl, hc7, b7⟩; obtain rfl : c7 = true := (by simpa using hc7); have o7 := held6 l1 l2 l3 o6 b7)
            | (go_at_call 20; (with_reducible refine (HW.out _ o7).mono ?_); rintro e w8 ⟨rfl, h8⟩; obtain rfl : w7 = w8 := h8.symm))
      | fail "with"
      all_goals
        have SE := Lib.hid (svIn_next SX.out o7.2)
        clear s0
        go_wp2
        go_roundw
        case rel => exact ⟨i + 1, v, by simp, by omega, SE.out⟩
        case measure => simp [intOf]; omega
    have c1 : ((rc : Int) != 0) = false := by simp; omega
    clear g1
    by_cases g2 : q.kind = 8
    · have c2 : (q.kind == 8) = true := by simpa using g2
      obtain ⟨e1, e2⟩ := HC.out (Or.inr (Or.inl g2))
      clear g2
      obtain rfl : v = r1 := e1.symm
      obtain rfl : rb = false := e2
      have HR := Lib.hid (fun W' (h : (W'.cell? ⟨w5.heap.size, 0, none⟩ = some (.int .i64 (rc : Nat)) ∧ W'.cell? ⟨wr.heap.size, 0, none⟩ = some (.int .i64 q.kind) ∧ W'.cell? ⟨w3.heap.size, 0, none⟩ = some (.int .i64 v.s.rev) ∧ W'.cell? ⟨w3.heap.size, 1, none⟩ = some (.slice bj v.s.jobs.length dj) ∧ W'.cell? ⟨w3.heap.size, 2, none⟩ = some (.slice bn v.s.nodes.length dn) ∧ W'.cell? ⟨w3.heap.size, 3, none⟩ = some (.slice bl v.s.leases.length dl)) ∧ Below X2.heap.size X2 W') => svState_is b v SX.out.2.1 W' (svAt_next SX.out.1 h.2))
      have HW := Lib.hid (fun W' (h : (W'.cell? ⟨w5.heap.size, 0, none⟩ = some (.int .i64 (rc : Nat)) ∧ W'.cell? ⟨wr.heap.size, 0, none⟩ = some (.int .i64 q.kind) ∧ W'.cell? ⟨w3.heap.size, 0, none⟩ = some (.int .i64 v.s.rev) ∧ W'.cell? ⟨w3.heap.size, 1, none⟩ = some (.slice bj v.s.jobs.length dj) ∧ W'.cell? ⟨w3.heap.size, 2, none⟩ = some (.slice bn v.s.nodes.length dn) ∧ W'.cell? ⟨w3.heap.size, 3, none⟩ = some (.slice bl v.s.leases.length dl)) ∧ Below X2.heap.size X2 W') => svNow_is b v W' (svAt_next SX.out.1 h.2))
      have HM := Lib.hid (fun W' (h : (W'.cell? ⟨w5.heap.size, 0, none⟩ = some (.int .i64 (rc : Nat)) ∧ W'.cell? ⟨wr.heap.size, 0, none⟩ = some (.int .i64 q.kind) ∧ W'.cell? ⟨w3.heap.size, 0, none⟩ = some (.int .i64 v.s.rev) ∧ W'.cell? ⟨w3.heap.size, 1, none⟩ = some (.slice bj v.s.jobs.length dj) ∧ W'.cell? ⟨w3.heap.size, 2, none⟩ = some (.slice bn v.s.nodes.length dn) ∧ W'.cell? ⟨w3.heap.size, 3, none⟩ = some (.slice bl v.s.leases.length dl)) ∧ Below X2.heap.size X2 W') (B : Nat) (ej en el : Option Addr) (fj fn fl : Nat) (o : OwnS B ej en el fj fn fl v.s W') => same_is v.s v.s bj bn bl ej en el dj dn dl fj fn fl (small3 SX.out.2.1) W' (jobsAt_next (ownS_at OX.out).1 h.2) (nodesAt_next (ownS_at OX.out).2.1 h.2) (leasesAt_next (ownS_at OX.out).2.2 h.2) (ownS_at o).1 (ownS_at o).2.1 (ownS_at o).2.2)
      have s0 : (X2.drew.cell? ⟨w5.heap.size, 0, none⟩ = some (.int .i64 (rc : Nat)) ∧ X2.drew.cell? ⟨wr.heap.size, 0, none⟩ = some (.int .i64 q.kind) ∧ X2.drew.cell? ⟨w3.heap.size, 0, none⟩ = some (.int .i64 v.s.rev) ∧ X2.drew.cell? ⟨w3.heap.size, 1, none⟩ = some (.slice bj v.s.jobs.length dj) ∧ X2.drew.cell? ⟨w3.heap.size, 2, none⟩ = some (.slice bn v.s.nodes.length dn) ∧ X2.drew.cell? ⟨w3.heap.size, 3, none⟩ = some (.slice bl v.s.leases.length dl)) ∧ Below X2.heap.size X2 X2.drew := ⟨⟨kc, kk, y0, y1, y2, y3⟩, (Below.refl _ _).drew⟩
      go_wp2_with fail
      first
      | go_region_with (first
            | (go_at_call 19; (with_reducible refine (HR.out _ s0).mono ?_); rintro e w6 ⟨ej, en, el, fj, fn, fl, rfl, ow7, b6⟩; have o6 := held6 l1 l2 l3 s0 b6; obtain ⟨_, _, m0, m1, m2, m3⟩ := o6.1)
            | (go_at_call 18; (with_reducible refine (HM.out _ o6 _ _ _ _ _ _ _ ow7).mono ?_); rintro e w7 ⟨c7, rfl, hc7, b7⟩; obtain rfl : c7 = true := (by simpa using hc7); have o7 := held6 l1 l2 l3 o6 b7)
            | (go_at_call 20; (with_reducible refine (HW.out _ o7).mono ?_); rintro e w8 ⟨rfl, h8⟩; obtain rfl : w7 = w8 := h8.symm))
      | fail "with"
      all_goals
        have SE := Lib.hid (svIn_next SX.out o7.2)
        clear s0
        go_wp2
        go_roundw
        case rel => exact ⟨i + 1, v, by simp, by omega, SE.out⟩
        case measure => simp [intOf]; omega
    have c2 : (q.kind == 8) = false := by simpa using g2
    clear g2
    by_cases g3 : q.kind = 9
    · have c3 : (q.kind == 9) = true := by simpa using g3
      obtain ⟨e1, e2⟩ := HC.out (Or.inr (Or.inr g3))
      clear g3
      obtain rfl : v = r1 := e1.symm
      obtain rfl : rb = false := e2
      have HR := Lib.hid (fun W' (h : (W'.cell? ⟨w5.heap.size, 0, none⟩ = some (.int .i64 (rc : Nat)) ∧ W'.cell? ⟨wr.heap.size, 0, none⟩ = some (.int .i64 q.kind) ∧ W'.cell? ⟨w3.heap.size, 0, none⟩ = some (.int .i64 v.s.rev) ∧ W'.cell? ⟨w3.heap.size, 1, none⟩ = some (.slice bj v.s.jobs.length dj) ∧ W'.cell? ⟨w3.heap.size, 2, none⟩ = some (.slice bn v.s.nodes.length dn) ∧ W'.cell? ⟨w3.heap.size, 3, none⟩ = some (.slice bl v.s.leases.length dl)) ∧ Below X2.heap.size X2 W') => svState_is b v SX.out.2.1 W' (svAt_next SX.out.1 h.2))
      have HW := Lib.hid (fun W' (h : (W'.cell? ⟨w5.heap.size, 0, none⟩ = some (.int .i64 (rc : Nat)) ∧ W'.cell? ⟨wr.heap.size, 0, none⟩ = some (.int .i64 q.kind) ∧ W'.cell? ⟨w3.heap.size, 0, none⟩ = some (.int .i64 v.s.rev) ∧ W'.cell? ⟨w3.heap.size, 1, none⟩ = some (.slice bj v.s.jobs.length dj) ∧ W'.cell? ⟨w3.heap.size, 2, none⟩ = some (.slice bn v.s.nodes.length dn) ∧ W'.cell? ⟨w3.heap.size, 3, none⟩ = some (.slice bl v.s.leases.length dl)) ∧ Below X2.heap.size X2 W') => svNow_is b v W' (svAt_next SX.out.1 h.2))
      have HM := Lib.hid (fun W' (h : (W'.cell? ⟨w5.heap.size, 0, none⟩ = some (.int .i64 (rc : Nat)) ∧ W'.cell? ⟨wr.heap.size, 0, none⟩ = some (.int .i64 q.kind) ∧ W'.cell? ⟨w3.heap.size, 0, none⟩ = some (.int .i64 v.s.rev) ∧ W'.cell? ⟨w3.heap.size, 1, none⟩ = some (.slice bj v.s.jobs.length dj) ∧ W'.cell? ⟨w3.heap.size, 2, none⟩ = some (.slice bn v.s.nodes.length dn) ∧ W'.cell? ⟨w3.heap.size, 3, none⟩ = some (.slice bl v.s.leases.length dl)) ∧ Below X2.heap.size X2 W') (B : Nat) (ej en el : Option Addr) (fj fn fl : Nat) (o : OwnS B ej en el fj fn fl v.s W') => same_is v.s v.s bj bn bl ej en el dj dn dl fj fn fl (small3 SX.out.2.1) W' (jobsAt_next (ownS_at OX.out).1 h.2) (nodesAt_next (ownS_at OX.out).2.1 h.2) (leasesAt_next (ownS_at OX.out).2.2 h.2) (ownS_at o).1 (ownS_at o).2.1 (ownS_at o).2.2)
      have s0 : (X2.drew.cell? ⟨w5.heap.size, 0, none⟩ = some (.int .i64 (rc : Nat)) ∧ X2.drew.cell? ⟨wr.heap.size, 0, none⟩ = some (.int .i64 q.kind) ∧ X2.drew.cell? ⟨w3.heap.size, 0, none⟩ = some (.int .i64 v.s.rev) ∧ X2.drew.cell? ⟨w3.heap.size, 1, none⟩ = some (.slice bj v.s.jobs.length dj) ∧ X2.drew.cell? ⟨w3.heap.size, 2, none⟩ = some (.slice bn v.s.nodes.length dn) ∧ X2.drew.cell? ⟨w3.heap.size, 3, none⟩ = some (.slice bl v.s.leases.length dl)) ∧ Below X2.heap.size X2 X2.drew := ⟨⟨kc, kk, y0, y1, y2, y3⟩, (Below.refl _ _).drew⟩
      go_wp2_with fail
      go_region_held3 (fun w' => (w'.cell? ⟨w5.heap.size, 0, none⟩ = some (.int .i64 (rc : Nat)) ∧ w'.cell? ⟨wr.heap.size, 0, none⟩ = some (.int .i64 q.kind) ∧ w'.cell? ⟨w3.heap.size, 0, none⟩ = some (.int .i64 v.s.rev) ∧ w'.cell? ⟨w3.heap.size, 1, none⟩ = some (.slice bj v.s.jobs.length dj) ∧ w'.cell? ⟨w3.heap.size, 2, none⟩ = some (.slice bn v.s.nodes.length dn) ∧ w'.cell? ⟨w3.heap.size, 3, none⟩ = some (.slice bl v.s.leases.length dl)) ∧ Below X2.heap.size X2 w')
        (first | assumption | exact s0)
        (first
          | (go_at_call 19; (with_reducible refine (HR.out _ (by assumption)).mono ?_); rintro e w6 ⟨ej, en, el, fj, fn, fl, rfl, ow7, b6⟩; have o6 := held6 l1 l2 l3 (by assumption) b6)
          | (go_at_call 18; (with_reducible refine (HM.out _ (by assumption) _ _ _ _ _ _ _ (by assumption)).mono ?_); rintro e w7 ⟨c7, rfl, hc7, b7⟩; obtain rfl : c7 = true := (by simpa using hc7); have o7 := held6 l1 l2 l3 (by assumption) b7)
          | (go_at_call 20; (with_reducible refine (HW.out _ (by assumption)).mono ?_); rintro e w8 ⟨rfl, h8⟩; obtain rfl := h8))
      rename_i oL
      have SE := Lib.hid (svIn_next SX.out oL.2)
      clear oL s0
      go_wp2
      go_roundw
      case rel => exact ⟨i + 1, v, by simp, by omega, SE.out⟩
      case measure => simp [intOf]; omega
    have c3 : (q.kind == 9) = false := by simpa using g3
    clear g3 OX y0 y1 y2 y3
    go_wp2_with fail
    go_quiet (fail)
    have SE := Lib.hid (svIn_next (w' := X2.drewN nq) SX.out ⟨rfl, rfl, rfl, Nat.le_refl _, fun _ _ => rfl⟩)
    clear kc kk
    obtain ⟨X3, hX3⟩ : ∃ W, X2.drewN nq = W := ⟨_, rfl⟩
    rw [hX3] at SE ⊢
    go_wp2
    go_roundw
    case rel => exact ⟨i + 1, r1, by simp, by omega, SE.out⟩
    case measure => simp [intOf]; omega

theorem own : ownKnob Tryz.prog.godebug = none := by kernel_rfl
theorem laidOut : laidOutB Tryz.prog = true := by kernel_rfl
theorem laid_met (os : Os) : laidMet Tryz.prog Rows.serveRefusedRow.laid ((laidWorld os).forCall (fun _ _ => 0) ⟨#[], #[.agg #[.int .i64 0, .slice none 0 0, .slice none 0 0, .slice none 0 0], .slice none 0 0], []⟩).memory :=
  laidMet_of_run' 8 (by kernel_rfl) (by kernel_rfl)
theorem reads (os : Os) {H : Type} (enc : TypeId × Value → H) : ∃ places, DataW.whole enc Tryz.prog ((laidWorld os).forCall (fun _ _ => 0) ⟨#[], #[.agg #[.int .i64 0, .slice none 0 0, .slice none 0 0, .slice none 0 0], .slice none 0 0], []⟩).memory Tryz.f5.params.toList Rows.serveRefusedSpec.vars false #[Value.agg #[.int .i64 0, .slice none 0 0, .slice none 0 0, .slice none 0 0], Value.slice none 0 0].toList 8 = some ([.agg [.lit (.int .i64 0), .nil, .nil, .nil], .nil], [], places) :=
  ⟨[], by kernel_rfl⟩
set_option maxRecDepth 100000 in
set_option maxHeartbeats 2000000 in
theorem lifted (os : Os) (started : os.Started) (H : Type) (enc : TypeId × Value → H) (F : Stop.Interp) :
    ReturnsInHanded {} Tryz.checked os 5 .any ((OpenSpec.ofChange Rows.serveRefusedSpec).preRow enc Tryz.prog Tryz.f5 Rows.serveRefusedRow.domain false Rows.serveRefusedRow.laid) (((OpenSpec.ofChange Rows.serveRefusedSpec).at F).post enc Tryz.prog Tryz.f5 false true false false) := by
  obtain ⟨places, hx⟩ := reads os enc
  refine returnsInHanded_of_row (C := Tryz.checked) (s := (OpenSpec.ofChange Rows.serveRefusedSpec)) own started (by kernel_rfl) Tryz.func5
    (witness_row_atRef (enc := enc) (C := Tryz.checked) false (laidWorld os) #[.agg #[.int .i64 0, .slice none 0 0, .slice none 0 0, .slice none 0 0], .slice none 0 0] rfl (by kernel_rfl) (by kernel_rfl) (by kernel_rfl)
      (OpenSpec.preRow_of_cond 8 hx (by kernel_rfl) (fun k hk => by cases hk) (by kernel_rfl) (laid_met os))) ?_
  intro W base args ds gs before hval0 hW _ _ hsz0 hL _ _
  have hval : ∀ (j : Nat) t v, Tryz.f5.params[j]? = some t → args[j]? = some v → Value.okWide Tryz.prog W .any base t v := hval0
  have hW' := hW
  obtain ⟨p, q, hA0, hV, rfl, hfz, hnd⟩ := hW
  have hA : DataW.TrodAll enc Tryz.prog W 0 (fun _ => true) true Tryz.f5.params.toList args.toList ds p := hA0
  have hsz : (DataW.weightsEach Tryz.prog (Tryz.f5.params.toList ++ Rows.serveRefusedSpec.plain.varTypes Tryz.prog) (ds ++ gs)).all (· ≤ reachBytes) = true := hsz0
  rw [Tryz.params5] at hA hval hsz
  obtain ⟨v0, vs0, d0, ds0, p0, q0, hargs, rfl, rfl, h0, r0⟩ := trodAll_cons hA
  obtain ⟨v1, vs1, d1, ds1, p1, q1, rfl, rfl, rfl, h1, r1⟩ := trodAll_cons r0
  obtain ⟨rfl, rfl, rfl⟩ := trodAll_nil r1
  obtain rfl : args = #[v0, v1] := by cases args; simp_all
  obtain ⟨rfl, rfl⟩ := trodVars_none hV
  obtain ⟨M0, st0, rfl, m0, x0, w0⟩ := open_state (hval 0 26 v0 rfl rfl) h0
  obtain ⟨ad1, cap1, xs1, rfl, m1, x1, w1⟩ := open_requests (hval 1 27 v1 rfl rfl) h1
  have s0 := sized_state hsz rfl (j := 0) rfl x0
  have s1 := sized_requests hsz rfl (j := 1) rfl x1
  clear hA0 hval0
  refine (walk M0 st0 ad1 cap1 xs1 w0 w1 s0 s1 W m0 m1 (tabs_of hL)).mono fun e W' ⟨he, bel⟩ => ?_
  subst he
  exact ⟨_, rfl, _, _, _, [], _, [], hW', trodAll_mk1 (shut_bool Tryz.underlying4 _), (trodAll_cons_mk (Below.trod laidOut (by kernel_rfl) (of_decide_eq_true (by kernel_rfl)) h0 bel (fun x hx => by simpa using hW'.lt x (by simp [hx]))) (trodAll_cons_mk (Below.trod laidOut (by kernel_rfl) (of_decide_eq_true (by kernel_rfl)) h1 bel (fun x hx => by simpa using hW'.lt x (by simp [hx]))) trodAll_mk0)), rfl, bel.frame _, fun h => by cases h⟩
theorem said : Rows.ServeRefusedSaid :=
  OpenClaim.holds_of_cond 5 Tryz.f5 rfl rfl rfl rfl rfl rfl rfl ⟨rfl, rfl, rfl, rfl, rfl⟩ rfl rfl rfl rfl rfl (by kernel_rfl) Tryz.func5 (by kernel_rfl)
    (of_decide_eq_true (by kernel_rfl)) (by unfold Func.isWrapper; first | (rw [if_pos (by decide +kernel)]; kernel_rfl) | (rw [if_neg (by decide +kernel)]; exact ⟨rfl, rfl⟩))
    (fun os started H enc _ F => by rw [OpenClaim.pre_eq_preRow]; exact lifted os started H enc F)
theorem plain (f : FuncId) (fn : Func) (hf : Tryz.pinned.checked.prog.funcNamed Rows.serveRefusedRow.func = some f) (hfn : Tryz.pinned.checked.prog.funcs[f]? = some fn) :
    false = Tryz.pinned.checked.prog.looks [] ∧ ∀ (j : Nat) t, fn.params[j]? = some t → Tryz.pinned.checked.prog.wantsStandIn t = false := by
  obtain rfl : f = 5 := Option.some.inj ((show Tryz.prog.funcNamed Rows.serveRefusedRow.func = some 5 by kernel_rfl).symm.trans hf) |>.symm
  obtain rfl : fn = Tryz.f5 := (Option.some.inj (Tryz.func5.symm.trans hfn)).symm
  refine ⟨by kernel_rfl, fun j t ht => ?_⟩
  rw [Tryz.params5] at ht
  have hm : t = 26 ∨ t = 27 := by simpa using Array.mem_of_getElem? ht
  rcases hm with rfl | rfl
  · exact (show Tryz.prog.wantsStandIn 26 = false by kernel_rfl)
  · exact (show Tryz.prog.wantsStandIn 27 = false by kernel_rfl)
theorem proved : Rows.ServeRefusedCardSaid :=
  Claim7.holds_tied_plain_at .later [] _ _ _ _ said (fun _ h => by cases h) (by kernel_rfl) (fun _ h => by cases h) serveRefused_row_tie rfl ⟨rfl, rfl⟩ (by kernel_rfl) rfl plain (by kernel_rfl)
#print axioms proved
end Go.Proofs.YtiilagmmgpnpdaaGreatDoor.serveRefused
