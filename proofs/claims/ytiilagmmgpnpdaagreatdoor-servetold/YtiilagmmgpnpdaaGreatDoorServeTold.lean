/- For every state and all requests the law ServeTold of the package brackenkeep returns true, as a tied card: each change is told; where nothing is told nothing has changed. -/
import Derived.Test.YtiilagmmgpnpdaaGreatDoorPkSv5
import Derived.Test.YtiilagmmgpnpdaaGreatDoorPkSv2
import Derived.Test.YtiilagmmgpnpdaaGreatDoorUpEq
import Derived.Test.YtiilagmmgpnpdaaGreatDoorPkWi5
import Derived.Test.YtiilagmmgpnpdaaGreatDoorDlApp
namespace Go.Proofs.YtiilagmmgpnpdaaGreatDoor.serveTold
open Go.ChangeShapes Go.WideShapes Go.ChangeAt Go.RowKit Go.Lib
set_option linter.unusedVariables false
/-- Rows that stay whatever the server does: the argument's, or one's own. -/
def Rows1 (w0 : World) (aj an al : Option Addr) (cj cn cl : Nat) (s : StD) (w : World) : Prop := (JobsAt w0 aj s.jobs ∧ NodesAt w0 an s.nodes ∧ LeasesAt w0 al s.leases) ∨ OwnS w0.heap.size aj an al cj cn cl s w
theorem rows_at {w0 w : World} {aj an al : Option Addr} {cj cn cl : Nat} {s : StD} (h : Rows1 w0 aj an al cj cn cl s w) (b : Below w0.heap.size w0 w) : JobsAt w aj s.jobs ∧ NodesAt w an s.nodes ∧ LeasesAt w al s.leases := by
  rcases h with h | h
  · exact ⟨jobsAt_next h.1 b, nodesAt_next h.2.1 b, leasesAt_next h.2.2 b⟩
  · exact ownS_at h
theorem rows_next {w0 w w' : World} {aj an al : Option Addr} {cj cn cl : Nat} {s : StD} (h : Rows1 w0 aj an al cj cn cl s w) (b : Below w.heap.size w w') : Rows1 w0 aj an al cj cn cl s w' := h.imp id (fun h => ownS_next h b)
theorem rows_do {w0 w w' : World} {b : Nat} {v : SvD} {aj an al : Option Addr} {cj cn cl : Nat} {s : StD} (h : Rows1 w0 aj an al cj cn cl s w) (k : SvAt b v w) (g : w.grownBy w' (some b)) : Rows1 w0 aj an al cj cn cl s w' := h.imp id (fun h => svOwn_do h k g)
theorem wDelta_told {a b : StD} (ha : wState a) (hb : wState b) : wDelta (diffS a b) := by
  refine ⟨⟨ha.1, hb.1⟩, ⟨fun x hx => hb.2.1 x ((new_mem _ _ _).1 hx).1, fun x hx => hb.2.2.1 x ((new_mem _ _ _).1 hx).1, fun x hx => hb.2.2.2 x ((new_mem _ _ _).1 hx).1⟩, fun x hx => ?_, fun x hx => ?_, fun x hx => ?_⟩
  · obtain ⟨j, hj, e, _⟩ := (gone_mem _ _ _).1 hx; rw [← e]; exact (ha.2.1 j hj).1
  · obtain ⟨j, hj, e, _⟩ := (gone_mem _ _ _).1 hx; rw [← e]; exact (ha.2.2.1 j hj).1
  · obtain ⟨j, hj, e, _⟩ := (gone_mem _ _ _).1 hx; rw [← e]; exact (ha.2.2.2 j hj).1
theorem told_apply {s Y : StD} {d : DelD} {c : Nat} {M : DlM} {aj an al : Option Addr} {cj cn cl : Nat} (hws : wState s) (hwd : wDelta d) (e : applyR V8 s d = (Y, c)) {w : World} (hT : Tabs w) (hms : JobsAt w aj s.jobs ∧ NodesAt w an s.nodes ∧ LeasesAt w al s.leases) (hmd : DeltaAt w M d) :
    Calls Tryz.prog 22 #[.agg #[.int .i64 s.rev, .slice aj s.jobs.length cj, .slice an s.nodes.length cn, .slice al s.leases.length cl], .agg #[.int .i64 d.frm, .int .i64 d.til, .slice M.aj d.jobs.length M.cj, .slice M.an d.nodes.length M.cn, .slice M.al d.leases.length M.cl, .slice M.gj d.gj.length M.hj, .slice M.gn d.gn.length M.hn, .slice M.gl d.gl.length M.hl]] w fun e w' => ∃ aj' an' al' cj' cn' cl', e = .returned (.tuple #[.agg #[.int .i64 Y.rev, .slice aj' Y.jobs.length cj', .slice an' Y.nodes.length cn', .slice al' Y.leases.length cl'], .int .i64 (c : Nat)]) ∧ OwnS w.heap.size aj' an' al' cj' cn' cl' Y w' ∧ Below w.heap.size w w' := by
  have h := dapply_any s aj an al cj cn cl M d hws hwd w hT hms hmd
  rw [e] at h
  exact h
theorem svIn_box {w0 w w' : World} {b n : Nat} {v : SvD} {vs : Array Value} (h : SvIn w0 b v w) (ho : ObjAt n vs 26 w) (hne : b ≠ n) (hn : w0.heap.size ≤ n) (hT : Tabs w0) (g : w.grownBy w' (some n)) : SvIn w0 b v w' :=
  ⟨svAt_gN h.1 hne ho rowT_st g, h.2.1, h.2.2.1, gN_below h.2.2.2.1 h.2.2.2.2.2.1 hn g, h.2.2.2.2.1, Nat.le_trans h.2.2.2.2.2.1 g.size, hT.below (gN_below h.2.2.2.1 h.2.2.2.2.2.1 hn g)⟩
theorem ownS_lower {B C : Nat} {aj an al : Option Addr} {cj cn cl : Nat} {s : StD} {w : World} (h : OwnS B aj an al cj cn cl s w) (hC : C ≤ B) : OwnS C aj an al cj cn cl s w := ⟨ownsRow_low h.1 hC, ownsRow_low h.2.1 hC, ownsRow_low h.2.2 hC⟩
set_option maxRecDepth 100000 in
set_option maxHeartbeats 4000000 in
theorem walk (M : StM) (s : StD) (ad : Option Addr) (cap : Nat) (xs : List ReqD) (hws : wState s) (hwx : ∀ x ∈ xs, wReq x) (hzs : SzState s) (hzx : xs.length ≤ 140737488351232) (w : World) (hm : StateAt w M s) (hx : ReqsAt w ad xs) (hT : Tabs w) :
    Calls Tryz.prog 4 #[stV M s, .slice ad xs.length cap] w fun e w' => e = .returned (.bool true) ∧ Below w.heap.size w w' := by
  obtain ⟨aj, cj, an, cn, al, cl⟩ := M
  have hm : JobsAt w aj s.jobs ∧ NodesAt w an s.nodes ∧ LeasesAt w al s.leases := hm
  show Calls _ _ #[.agg #[.int .i64 s.rev, .slice aj s.jobs.length cj, .slice an s.nodes.length cn, .slice al s.leases.length cl], .slice ad xs.length cap] _ _
  have B0 := below_one w (.cells #[.int .i64 s.rev, .slice aj s.jobs.length cj, .slice an s.nodes.length cn, .slice al s.leases.length cl] 26)
  have I0 := bxS_new (cj := cj) (cn := cn) (cl := cl) (w := w) hm
  obtain ⟨W0, hW0⟩ : ∃ W0, w.alloc (.cells #[.int .i64 s.rev, .slice aj s.jobs.length cj, .slice an s.nodes.length cn, .slice al s.leases.length cl] 26) = W0 := ⟨_, rfl⟩
  rw [hW0] at B0 I0
  have C := Lib.hid (served_is W0 (hT.below B0))
  have HS := Lib.hid hws
  have HT := Lib.hid hT
  have HM0 := Lib.hid hm
  have I0 := Lib.hid I0
  have B0 := Lib.hid B0
  have HX := Lib.hid hx
  have HWX := Lib.hid hwx
  clear hx hwx hzs
  clear hws hT hm
  go_enter Tryz.func4, Tryz.ntmps4
  go_wp2_with fail
  refine C.out.mono ?_
  rintro e w1 ⟨rfl, b1⟩
  have I1 := Lib.hid (bxS_next I0.out b1)
  have B1 := Lib.hid (below_trans B0.out b1 B0.out.size)
  clear b1 C
  by_cases hv : checkE V8 s = 0
  case neg =>
    have hv' : ((checkE V8 s : Int) != 0) = true := by simp; omega
    have C := Lib.hid (svNew_bad s aj an al cj cn cl HS.out hv w1 (HT.out.below B1.out) I1.out.2)
    obtain ⟨k, hk⟩ : ∃ k, checkE V8 s = k := ⟨_, rfl⟩
    rw [hk] at hv' C
    clear hv hk
    obtain ⟨z0, z1, z2, z3⟩ := bxS_cells I1.out
    go_wp2_with fail
    refine C.out.mono ?_
    rintro e w2 ⟨rfl, b2⟩
    have B2 := Lib.hid (below_trans B1.out b2 B1.out.size)
    clear b2 C z0 z1 z2 z3
    go_wp2
    go_ret
    exact ⟨rfl, B2.out⟩
  have C := Lib.hid (svNew_ok s aj an al cj cn cl hv w1 (HT.out.below B1.out) I1.out.2)
  have HV := Lib.hid hv
  clear hv
  obtain ⟨z0, z1, z2, z3⟩ := bxS_cells I1.out
  go_wp2_with fail
  refine C.out.mono ?_
  rintro e w2 ⟨b, rfl, hb, sv, b2⟩
  have I2 := Lib.hid (bxS_next I1.out b2)
  have hwb : w.heap.size ≤ b := Nat.le_trans B1.out.size hb
  have sv2 := svIn_new HV.out sv (below_trans B1.out b2 B1.out.size) HT.out hwb
  clear b2 C z0 z1 z2 z3 sv hb B1 I1 hwb
  obtain ⟨z0, z1, z2, z3⟩ := bxS_cells I2.out
  have bA := below_one w2 (.cells #[.int .i64 s.rev, .slice aj s.jobs.length cj, .slice an s.nodes.length cn, .slice al s.leases.length cl] 26)
  have oA := objAt_new w2 #[.int .i64 s.rev, .slice aj s.jobs.length cj, .slice an s.nodes.length cn, .slice al s.leases.length cl] 26
  obtain ⟨n, hn⟩ : ∃ n, w2.heap.size = n := ⟨_, rfl⟩
  obtain ⟨W2, hW2⟩ : ∃ X, w2.alloc (.cells #[.int .i64 s.rev, .slice aj s.jobs.length cj, .slice an s.nodes.length cn, .slice al s.leases.length cl] 26) = X := ⟨_, rfl⟩
  rw [hW2] at bA oA
  rw [hn] at oA
  have sv3 := svIn_next sv2 bA
  have HNW : Hid (w.heap.size ≤ n) := hn ▸ sv2.2.2.2.2.2.1
  clear bA sv2
  go_wp2_with fail
  clear z0 z1 z2 z3
  go_loopw [34] (fun iv wr => ∃ (i : Nat) (v : SvD) (bj bn bl : Option Addr) (dj dn dl : Nat), iv = .int .i64 (i : Int) ∧ i ≤ xs.length ∧ SvIn w b v wr ∧ ObjAt n #[.int .i64 v.s.rev, .slice bj v.s.jobs.length dj, .slice bn v.s.nodes.length dn, .slice bl v.s.leases.length dl] 26 wr ∧ Rows1 w bj bn bl dj dn dl v.s wr) (fun iv _ => xs.length - (intOf iv).toNat)
  case atStart => exact ⟨0, ⟨s, 0⟩, aj, an, al, cj, cn, cl, rfl, by omega, sv3, oA, Or.inl HM0.out⟩
  case round =>
    obtain ⟨i, v, bj, bn, bl, dj, dn, dl, rfl, hi, svr, on, hR⟩ := hrel
    by_cases hlt : (i : Int) < (xs.length : Int)
    case neg =>
      have B9 := Lib.hid svr.2.2.2.1
      clear svr on hR sv3 oA
      go_wp2
      go_ret
      exact ⟨rfl, B9.out⟩
    have hin : i < xs.length := by omega
    obtain ⟨a, rfl, hal, k0, k1, k2, k3, k4, k5, k6, k7, k8, k9, k10, k11, k12, k13⟩ := reqsAt_next HX.out svr.2.2.2.1 i hin
    have hwq := HWX.out _ (List.getElem_mem hin)
    obtain ⟨q, hq⟩ : ∃ q, xs[i] = q := ⟨_, rfl⟩
    rw [hq] at k0 k1 k2 k3 k4 k5 k6 k7 k8 k9 k10 k11 k12 k13 hwq
    have HQ := Lib.hid hwq
    have hix : a.block < wr.heap.size := hal
    clear hq hwq sv3 oA
    have bq := below_one wr (.cells #[.int .i64 q.kind, .string q.job.name, .int .i64 q.job.prio, .int .i64 q.job.need, .int .i64 q.job.tries, .string q.job.tag, .string q.node.name, .int .i64 q.node.room, .string q.node.zone, .string q.lease.job, .string q.lease.node, .int .i64 q.lease.til, .string q.name, .int .i64 q.n] 44)
    have oq := objAt_new wr #[.int .i64 q.kind, .string q.job.name, .int .i64 q.job.prio, .int .i64 q.job.need, .int .i64 q.job.tries, .string q.job.tag, .string q.node.name, .int .i64 q.node.room, .string q.node.zone, .string q.lease.job, .string q.lease.node, .int .i64 q.lease.til, .string q.name, .int .i64 q.n] 44
    have svq := svIn_next svr bq
    obtain ⟨X0, hX0⟩ : ∃ X, wr.alloc (.cells #[.int .i64 q.kind, .string q.job.name, .int .i64 q.job.prio, .int .i64 q.job.need, .int .i64 q.job.tries, .string q.job.tag, .string q.node.name, .int .i64 q.node.room, .string q.node.zone, .string q.lease.job, .string q.lease.node, .int .i64 q.lease.til, .string q.name, .int .i64 q.n] 44) = X := ⟨_, rfl⟩
    rw [hX0] at bq oq svq
    have on0 := objAt_next on bq
    have hR0 := rows_next hR bq
    have C3 := Lib.hid (do_is v svq.2.1 svq.2.2.1 q HQ.out b X0 svq.2.2.2.2.2.2 svq.1)
    have c0 := objAt_cell oq 0 rfl
    have c1 := objAt_cell oq 1 rfl
    have c2 := objAt_cell oq 2 rfl
    have c3 := objAt_cell oq 3 rfl
    have c4 := objAt_cell oq 4 rfl
    have c5 := objAt_cell oq 5 rfl
    have c6 := objAt_cell oq 6 rfl
    have c7 := objAt_cell oq 7 rfl
    have c8 := objAt_cell oq 8 rfl
    have c9 := objAt_cell oq 9 rfl
    have c10 := objAt_cell oq 10 rfl
    have c11 := objAt_cell oq 11 rfl
    have c12 := objAt_cell oq 12 rfl
    have c13 := objAt_cell oq 13 rfl
    have SQ := Lib.hid svq
    have SR := Lib.hid svr
    have N0 := Lib.hid (And.intro on0 hR0)
    clear svr bq oq on hR on0 hR0 svq
    go_wp2_with fail
    refine C3.out.mono ?_
    clear C3 c0 c1 c2 c3 c4 c5 c6 c7 c8 c9 c10 c11 c12 c13
    rintro e w5 ⟨MD, rfl, sv5, ow5, g5⟩
    have S5 := svIn_do SQ.out sv5 g5
    have on5 := objAt_gN N0.out.1 (svNe SQ.out.1 N0.out.1 (by decide)) g5
    have hR5 := rows_do N0.out.2 SQ.out.1 g5
    have htold := sv_told (U := V8) ((check_zero V8 _).1 SQ.out.2.1) v.now q
    have hquiet := sv_quiet (U := V8) (s := v.s) v.now q
    have SV := Lib.hid SQ.out.2.1
    clear sv5 g5 SQ N0
    obtain ⟨r, hr⟩ : ∃ r, doR V8 v.s v.now q = r := ⟨_, rfl⟩
    rw [hr] at S5 htold hquiet
    rw [hr] at ow5 ⊢
    obtain ⟨D, hD⟩ : ∃ D, told v.s r = D := ⟨_, rfl⟩
    rw [hD] at ow5 ⊢
    obtain ⟨r1, rc, rb⟩ := r
    simp only at S5 htold hquiet
    have bx1 := below_one w5 (.cells #[.int .i64 (rc : Nat), .int .i64 r1.s.rev] 46)
    have oR := objAt_new w5 #[.int .i64 (rc : Nat), .int .i64 r1.s.rev] 46
    have bx2 := below_one (w5.alloc (.cells #[.int .i64 (rc : Nat), .int .i64 r1.s.rev] 46)) (.cells #[.int .i64 D.frm, .int .i64 D.til, .slice MD.aj D.jobs.length MD.cj, .slice MD.an D.nodes.length MD.cn, .slice MD.al D.leases.length MD.cl, .slice MD.gj D.gj.length MD.hj, .slice MD.gn D.gn.length MD.hn, .slice MD.gl D.gl.length MD.hl] 49)
    have oD := objAt_new (w5.alloc (.cells #[.int .i64 (rc : Nat), .int .i64 r1.s.rev] 46)) #[.int .i64 D.frm, .int .i64 D.til, .slice MD.aj D.jobs.length MD.cj, .slice MD.an D.nodes.length MD.cn, .slice MD.al D.leases.length MD.cl, .slice MD.gj D.gj.length MD.hj, .slice MD.gn D.gn.length MD.hn, .slice MD.gl D.gl.length MD.hl] 49
    rw [World.size_alloc] at oD
    have oR := objAt_next oR bx2
    have bx := below_trans bx1 bx2 (by simp)
    obtain ⟨X1, hX1⟩ : ∃ X, (w5.alloc (.cells #[.int .i64 (rc : Nat), .int .i64 r1.s.rev] 46)).alloc (.cells #[.int .i64 D.frm, .int .i64 D.til, .slice MD.aj D.jobs.length MD.cj, .slice MD.an D.nodes.length MD.cn, .slice MD.al D.leases.length MD.cl, .slice MD.gj D.gj.length MD.hj, .slice MD.gn D.gn.length MD.hn, .slice MD.gl D.gl.length MD.hl] 49) = X := ⟨_, rfl⟩
    rw [hX1] at oR oD bx
    have S6 := Lib.hid (svIn_next S5 bx)
    have P6 := Lib.hid (And.intro oR (And.intro oD (And.intro (objAt_next on5 bx) (And.intro (rows_next hR5 bx) (ownD_next ow5 bx)))))
    have C4 := Lib.hid (svState_is b r1 S6.out.2.1 X1 S6.out.1)
    clear S5 oR oD on5 hR5 ow5 bx bx1 bx2 hr
    have HD := Lib.hid hD
    have HTD := Lib.hid htold
    have HQU := Lib.hid hquiet
    clear hD htold hquiet
    go_wp2_with fail
    refine C4.out.mono ?_
    rintro e w6 ⟨ej, en, el, fj, fn, fl, rfl, ow, b6⟩
    have bB := below_one w6 (.cells #[.int .i64 r1.s.rev, .slice ej r1.s.jobs.length fj, .slice en r1.s.nodes.length fn, .slice el r1.s.leases.length fl] 26)
    have oB := objAt_new w6 #[.int .i64 r1.s.rev, .slice ej r1.s.jobs.length fj, .slice en r1.s.nodes.length fn, .slice el r1.s.leases.length fl] 26
    obtain ⟨X2, hX2⟩ : ∃ X, w6.alloc (.cells #[.int .i64 r1.s.rev, .slice ej r1.s.jobs.length fj, .slice en r1.s.nodes.length fn, .slice el r1.s.leases.length fl] 26) = X := ⟨_, rfl⟩
    rw [hX2] at bB oB
    have S7 := Lib.hid (svIn_next (svIn_next S6.out b6) bB)
    have bb := below_trans b6 bB b6.size
    have P7 := Lib.hid (And.intro (objAt_next P6.out.1 bb) (And.intro (objAt_next P6.out.2.1 bb) (And.intro (objAt_next P6.out.2.2.1 bb) (And.intro (rows_next P6.out.2.2.2.1 bb) (ownD_next P6.out.2.2.2.2 bb)))))
    have T7 := Lib.hid (And.intro oB (ownS_next ow bB))
    have B6 := Lib.hid (Nat.le_trans S6.out.2.2.2.2.2.1 (Nat.le_refl X1.heap.size))
    clear b6 bB oB ow bb P6 S6 C4
    cases rb with
    | true =>
      obtain ⟨E1, E2, E3⟩ := HTD.out rfl
      obtain rfl : 0 = rc := E2.symm
      have hDt : D = diffS v.s r1.s := HD.out.symm.trans (by unfold told; rfl)
      have EA : applyR V8 v.s D = (r1.s, 0) := by rw [hDt]; exact E1
      have wD : wDelta D := by rw [hDt]; exact wDelta_told (wState_sv SV.out) (wState_sv S7.out.2.1)
      have C5 := Lib.hid (told_apply (cj := dj) (cn := dn) (cl := dl) (wState_sv SV.out) wD EA S7.out.2.2.2.2.2.2 (rows_at P7.out.2.2.2.1 S7.out.2.2.2.1) (ownD_at P7.out.2.2.2.2))
      obtain ⟨y0, y1, y2, y3⟩ : X2.cell? ⟨n, 0, none⟩ = some (.int .i64 v.s.rev) ∧ X2.cell? ⟨n, 1, none⟩ = some (.slice bj v.s.jobs.length dj) ∧ X2.cell? ⟨n, 2, none⟩ = some (.slice bn v.s.nodes.length dn) ∧ X2.cell? ⟨n, 3, none⟩ = some (.slice bl v.s.leases.length dl) := ⟨objAt_cell P7.out.2.2.1 0 rfl, objAt_cell P7.out.2.2.1 1 rfl, objAt_cell P7.out.2.2.1 2 rfl, objAt_cell P7.out.2.2.1 3 rfl⟩
      have x0 := objAt_cell P7.out.2.1 0 rfl
      have x1 := objAt_cell P7.out.2.1 1 rfl
      have x2 := objAt_cell P7.out.2.1 2 rfl
      have x3 := objAt_cell P7.out.2.1 3 rfl
      have x4 := objAt_cell P7.out.2.1 4 rfl
      have x5 := objAt_cell P7.out.2.1 5 rfl
      have x6 := objAt_cell P7.out.2.1 6 rfl
      have x7 := objAt_cell P7.out.2.1 7 rfl
      clear E1 E2 E3 hDt EA wD
      go_wp2_with fail
      refine C5.out.mono ?_
      clear y0 y1 y2 y3 x0 x1 x2 x3 x4 x5 x6 x7 C5
      rintro e w7 ⟨uj, un, ul, pj, pn, pl, rfl, ou, b7⟩
      have bU := below_one w7 (.cells #[.int .i64 r1.s.rev, .slice uj r1.s.jobs.length pj, .slice un r1.s.nodes.length pn, .slice ul r1.s.leases.length pl] 26)
      have oU := objAt_new w7 #[.int .i64 r1.s.rev, .slice uj r1.s.jobs.length pj, .slice un r1.s.nodes.length pn, .slice ul r1.s.leases.length pl] 26
      obtain ⟨X3, hX3⟩ : ∃ X, w7.alloc (.cells #[.int .i64 r1.s.rev, .slice uj r1.s.jobs.length pj, .slice un r1.s.nodes.length pn, .slice ul r1.s.leases.length pl] 26) = X := ⟨_, rfl⟩
      rw [hX3] at bU oU
      have bb := below_trans b7 bU b7.size
      have S9 := Lib.hid (svIn_next S7.out bb)
      have N9 := Lib.hid (And.intro (objAt_next P7.out.2.2.1 bb) (objAt_next P7.out.1 bb))
      have T9 := Lib.hid (And.intro (objAt_next T7.out.1 bb) (ownS_next T7.out.2 bb))
      have ou9 := ownS_at (ownS_next ou bU)
      have ot9 := ownS_at T9.out.2
      have C6 := Lib.hid (same_is r1.s r1.s uj un ul ej en el pj pn pl fj fn fl (by have := (small_sv S7.out.2.1).1; omega) X3 ou9.1 ou9.2.1 ou9.2.2 ot9.1 ot9.2.1 ot9.2.2)
      obtain ⟨y0, y1, y2, y3⟩ : X3.cell? ⟨w7.heap.size, 0, none⟩ = some (.int .i64 r1.s.rev) ∧ X3.cell? ⟨w7.heap.size, 1, none⟩ = some (.slice uj r1.s.jobs.length pj) ∧ X3.cell? ⟨w7.heap.size, 2, none⟩ = some (.slice un r1.s.nodes.length pn) ∧ X3.cell? ⟨w7.heap.size, 3, none⟩ = some (.slice ul r1.s.leases.length pl) := ⟨objAt_cell oU 0 rfl, objAt_cell oU 1 rfl, objAt_cell oU 2 rfl, objAt_cell oU 3 rfl⟩
      have t0 := objAt_cell T9.out.1 0 rfl
      have t1 := objAt_cell T9.out.1 1 rfl
      have t2 := objAt_cell T9.out.1 2 rfl
      have t3 := objAt_cell T9.out.1 3 rfl
      have x0 := objAt_cell N9.out.2 0 rfl
      clear b7 bU bb oU ou ou9 ot9
      go_wp2_with fail
      refine C6.out.mono ?_
      clear y0 y1 y2 y3 t0 t1 t2 t3 x0 C6
      rintro e w8 ⟨c6, rfl, hc6, b8⟩
      obtain rfl : c6 = true := by simpa using hc6
      clear hc6
      have S10 := svIn_next S9.out b8
      have oN := objAt_next N9.out.1 b8
      have oT := objAt_next T9.out.1 b8
      have ow := ownS_next T9.out.2 b8
      have t0 := objAt_cell oT 0 rfl
      have t1 := objAt_cell oT 1 rfl
      have t2 := objAt_cell oT 2 rfl
      have t3 := objAt_cell oT 3 rfl
      have y0 := objAt_cell oN 0 rfl
      have y1 := objAt_cell oN 1 rfl
      have y2 := objAt_cell oN 2 rfl
      have y3 := objAt_cell oN 3 rfl
      have f0 := objAt_free oN 0
      have f1 := objAt_free oN 1
      have f2 := objAt_free oN 2
      have f3 := objAt_free oN 3
      obtain ⟨U, hU⟩ : ∃ U, (((w8.setCell ⟨n, 0, none⟩ (.int .i64 r1.s.rev)).setCell ⟨n, 1, none⟩ (.slice ej r1.s.jobs.length fj)).setCell ⟨n, 2, none⟩ (.slice en r1.s.nodes.length fn)).setCell ⟨n, 3, none⟩ (.slice el r1.s.leases.length fl) = U := ⟨_, rfl⟩
      have oU := obj_put4 oN (.int .i64 r1.s.rev) (.slice ej r1.s.jobs.length fj) (.slice en r1.s.nodes.length fn) (.slice el r1.s.leases.length fl)
      have gU := gN_set (gN_set (gN_set (gN_set (gN_refl n w8) 0 (.int .i64 r1.s.rev)) 1 (.slice ej r1.s.jobs.length fj)) 2 (.slice en r1.s.nodes.length fn)) 3 (.slice el r1.s.leases.length fl)
      rw [hU] at oU gU
      have P11 := Lib.hid (And.intro (svIn_box S10 oN (svNe S10.1 oN (by decide)).symm HNW.out HT.out gU) (And.intro oU (ownS_lower (ownS_gN ow oN rowT_st gU) B6.out)))
      clear S10 oN oT ow oU gU b8
      go_wp2
      go_roundw
      case rel => exact ⟨i + 1, r1, ej, en, el, fj, fn, fl, by simp, by omega, P11.out.1, P11.out.2.1, Or.inr P11.out.2.2⟩
      case measure => simp [intOf]; omega
    | false =>
      have e1 : v.s = r1.s := (HQU.out rfl).symm
      have hz : D = zeroDel := HD.out.symm.trans (by unfold told; rfl)
      have hA := rows_at P7.out.2.2.2.1 S7.out.2.2.2.1
      have hB := ownS_at T7.out.2
      have C5 := Lib.hid (same_is v.s r1.s bj bn bl ej en el dj dn dl fj fn fl (by have := (small_sv SV.out).1; omega) X2 hA.1 hA.2.1 hA.2.2 hB.1 hB.2.1 hB.2.2)
      have E1 := Lib.hid e1
      have HZ := Lib.hid hz
      have lD : LenD D := by rw [hz]; exact ⟨⟨Nat.zero_le _, Nat.zero_le _, Nat.zero_le _⟩, Nat.zero_le _, Nat.zero_le _, Nat.zero_le _⟩
      have LD := Lib.hid lD
      obtain ⟨y0, y1, y2, y3⟩ : X2.cell? ⟨n, 0, none⟩ = some (.int .i64 v.s.rev) ∧ X2.cell? ⟨n, 1, none⟩ = some (.slice bj v.s.jobs.length dj) ∧ X2.cell? ⟨n, 2, none⟩ = some (.slice bn v.s.nodes.length dn) ∧ X2.cell? ⟨n, 3, none⟩ = some (.slice bl v.s.leases.length dl) := ⟨objAt_cell P7.out.2.2.1 0 rfl, objAt_cell P7.out.2.2.1 1 rfl, objAt_cell P7.out.2.2.1 2 rfl, objAt_cell P7.out.2.2.1 3 rfl⟩
      have t0 := objAt_cell T7.out.1 0 rfl
      have t1 := objAt_cell T7.out.1 1 rfl
      have t2 := objAt_cell T7.out.1 2 rfl
      have t3 := objAt_cell T7.out.1 3 rfl
      clear e1 hz lD hA hB
      go_wp2_with fail
      refine C5.out.mono ?_
      clear y0 y1 y2 y3 t0 t1 t2 t3 C5 hX1 hX2
      rintro e w7 ⟨c5, rfl, hc5, b7⟩
      obtain rfl : c5 = true := hc5.2 E1.out
      clear hc5
      have S9 := Lib.hid (svIn_next S7.out b7)
      have N9 := Lib.hid (objAt_next P7.out.2.2.1 b7)
      have T9 := Lib.hid (And.intro (objAt_next T7.out.1 b7) (ownS_next T7.out.2 b7))
      have oD := objAt_next P7.out.2.1 b7
      have C6 := Lib.hid (deltaEq_zero LD.out (ownD_at (ownD_next P7.out.2.2.2.2 b7)))
      have x0 := objAt_cell oD 0 rfl
      have x1 := objAt_cell oD 1 rfl
      have x2 := objAt_cell oD 2 rfl
      have x3 := objAt_cell oD 3 rfl
      have x4 := objAt_cell oD 4 rfl
      have x5 := objAt_cell oD 5 rfl
      have x6 := objAt_cell oD 6 rfl
      have x7 := objAt_cell oD 7 rfl
      clear oD b7
      go_wp2_with fail
      refine C6.out.mono ?_
      clear x0 x1 x2 x3 x4 x5 x6 x7 C6
      rintro e w8 ⟨c6, rfl, hc6, b8⟩
      obtain rfl : c6 = true := hc6.2 HZ.out
      clear hc6
      have S10 := svIn_next S9.out b8
      have oN := objAt_next N9.out b8
      have oT := objAt_next T9.out.1 b8
      have ow := ownS_next T9.out.2 b8
      have t0 := objAt_cell oT 0 rfl
      have t1 := objAt_cell oT 1 rfl
      have t2 := objAt_cell oT 2 rfl
      have t3 := objAt_cell oT 3 rfl
      have y0 := objAt_cell oN 0 rfl
      have y1 := objAt_cell oN 1 rfl
      have y2 := objAt_cell oN 2 rfl
      have y3 := objAt_cell oN 3 rfl
      have f0 := objAt_free oN 0
      have f1 := objAt_free oN 1
      have f2 := objAt_free oN 2
      have f3 := objAt_free oN 3
      obtain ⟨U, hU⟩ : ∃ U, (((w8.setCell ⟨n, 0, none⟩ (.int .i64 r1.s.rev)).setCell ⟨n, 1, none⟩ (.slice ej r1.s.jobs.length fj)).setCell ⟨n, 2, none⟩ (.slice en r1.s.nodes.length fn)).setCell ⟨n, 3, none⟩ (.slice el r1.s.leases.length fl) = U := ⟨_, rfl⟩
      have oU := obj_put4 oN (.int .i64 r1.s.rev) (.slice ej r1.s.jobs.length fj) (.slice en r1.s.nodes.length fn) (.slice el r1.s.leases.length fl)
      have gU := gN_set (gN_set (gN_set (gN_set (gN_refl n w8) 0 (.int .i64 r1.s.rev)) 1 (.slice ej r1.s.jobs.length fj)) 2 (.slice en r1.s.nodes.length fn)) 3 (.slice el r1.s.leases.length fl)
      rw [hU] at oU gU
      have P11 := Lib.hid (And.intro (svIn_box S10 oN (svNe S10.1 oN (by decide)).symm HNW.out HT.out gU) (And.intro oU (ownS_lower (ownS_gN ow oN rowT_st gU) B6.out)))
      clear S10 oN oT ow oU gU b8
      go_wp2
      go_roundw
      case rel => exact ⟨i + 1, r1, ej, en, el, fj, fn, fl, by simp, by omega, P11.out.1, P11.out.2.1, Or.inr P11.out.2.2⟩
      case measure => simp [intOf]; omega

theorem own : ownKnob Tryz.prog.godebug = none := by kernel_rfl
theorem laidOut : laidOutB Tryz.prog = true := by kernel_rfl
theorem laid_met (os : Os) : laidMet Tryz.prog Rows.serveToldRow.laid ((laidWorld os).forCall (fun _ _ => 0) ⟨#[], #[.agg #[.int .i64 0, .slice none 0 0, .slice none 0 0, .slice none 0 0], .slice none 0 0], []⟩).memory :=
  laidMet_of_run' 8 (by kernel_rfl) (by kernel_rfl)
theorem reads (os : Os) {H : Type} (enc : TypeId × Value → H) : ∃ places, DataW.whole enc Tryz.prog ((laidWorld os).forCall (fun _ _ => 0) ⟨#[], #[.agg #[.int .i64 0, .slice none 0 0, .slice none 0 0, .slice none 0 0], .slice none 0 0], []⟩).memory Tryz.f4.params.toList Rows.serveToldSpec.vars false #[Value.agg #[.int .i64 0, .slice none 0 0, .slice none 0 0, .slice none 0 0], Value.slice none 0 0].toList 8 = some ([.agg [.lit (.int .i64 0), .nil, .nil, .nil], .nil], [], places) :=
  ⟨[], by kernel_rfl⟩
set_option maxRecDepth 100000 in
set_option maxHeartbeats 2000000 in
theorem lifted (os : Os) (started : os.Started) (H : Type) (enc : TypeId × Value → H) (F : Stop.Interp) :
    ReturnsInHanded {} Tryz.checked os 4 .any ((OpenSpec.ofChange Rows.serveToldSpec).preRow enc Tryz.prog Tryz.f4 Rows.serveToldRow.domain false Rows.serveToldRow.laid) (((OpenSpec.ofChange Rows.serveToldSpec).at F).post enc Tryz.prog Tryz.f4 false true false false) := by
  obtain ⟨places, hx⟩ := reads os enc
  refine returnsInHanded_of_row (C := Tryz.checked) (s := (OpenSpec.ofChange Rows.serveToldSpec)) own started (by kernel_rfl) Tryz.func4
    (witness_row_atRef (enc := enc) (C := Tryz.checked) false (laidWorld os) #[.agg #[.int .i64 0, .slice none 0 0, .slice none 0 0, .slice none 0 0], .slice none 0 0] rfl (by kernel_rfl) (by kernel_rfl) (by kernel_rfl)
      (OpenSpec.preRow_of_cond 8 hx (by kernel_rfl) (fun k hk => by cases hk) (by kernel_rfl) (laid_met os))) ?_
  intro W base args ds gs before hval0 hW _ _ hsz0 hL _ _
  have hval : ∀ (j : Nat) t v, Tryz.f4.params[j]? = some t → args[j]? = some v → Value.okWide Tryz.prog W .any base t v := hval0
  have hW' := hW
  obtain ⟨p, q, hA0, hV, rfl, hfz, hnd⟩ := hW
  have hA : DataW.TrodAll enc Tryz.prog W 0 (fun _ => true) true Tryz.f4.params.toList args.toList ds p := hA0
  have hsz : (DataW.weightsEach Tryz.prog (Tryz.f4.params.toList ++ Rows.serveToldSpec.plain.varTypes Tryz.prog) (ds ++ gs)).all (· ≤ reachBytes) = true := hsz0
  rw [Tryz.params4] at hA hval hsz
  obtain ⟨v0, vs0, d0, ds0, p0, q0, hargs, rfl, rfl, h0, r0⟩ := trodAll_cons hA
  obtain ⟨v1, vs1, d1, ds1, p1, q1, rfl, rfl, rfl, h1, r1⟩ := trodAll_cons r0
  obtain ⟨rfl, rfl, rfl⟩ := trodAll_nil r1
  obtain rfl : args = #[v0, v1] := by cases args; simp_all
  obtain ⟨rfl, rfl⟩ := trodVars_none hV
  obtain ⟨M0, st0, rfl, m0, x0, w0⟩ := open_state (hval 0 26 v0 rfl rfl) h0
  obtain ⟨ad1, cap1, xs1, rfl, m1, x1, w1⟩ := open_requests (hval 1 27 v1 rfl rfl) h1
  have s0 := sized_state hsz rfl (j := 0) rfl x0
  have s1 := sized_requests hsz rfl (j := 1) rfl x1
  clear hA0 hval0
  refine (walk M0 st0 ad1 cap1 xs1 w0 w1 s0 s1 W m0 m1 (tabs_of hL)).mono fun e W' ⟨he, bel⟩ => ?_
  subst he
  exact ⟨_, rfl, _, _, _, [], _, [], hW', trodAll_mk1 (shut_bool Tryz.underlying4 _), (trodAll_cons_mk (Below.trod laidOut (by kernel_rfl) (of_decide_eq_true (by kernel_rfl)) h0 bel (fun x hx => by simpa using hW'.lt x (by simp [hx]))) (trodAll_cons_mk (Below.trod laidOut (by kernel_rfl) (of_decide_eq_true (by kernel_rfl)) h1 bel (fun x hx => by simpa using hW'.lt x (by simp [hx]))) trodAll_mk0)), rfl, bel.frame _, fun h => by cases h⟩
theorem said : Rows.ServeToldSaid :=
  OpenClaim.holds_of_cond 4 Tryz.f4 rfl rfl rfl rfl rfl rfl rfl ⟨rfl, rfl, rfl, rfl, rfl⟩ rfl rfl rfl rfl rfl (by kernel_rfl) Tryz.func4 (by kernel_rfl)
    (of_decide_eq_true (by kernel_rfl)) (by unfold Func.isWrapper; first | (rw [if_pos (by decide +kernel)]; kernel_rfl) | (rw [if_neg (by decide +kernel)]; exact ⟨rfl, rfl⟩))
    (fun os started H enc _ F => by rw [OpenClaim.pre_eq_preRow]; exact lifted os started H enc F)
theorem plain (f : FuncId) (fn : Func) (hf : Tryz.pinned.checked.prog.funcNamed Rows.serveToldRow.func = some f) (hfn : Tryz.pinned.checked.prog.funcs[f]? = some fn) :
    false = Tryz.pinned.checked.prog.looks [] ∧ ∀ (j : Nat) t, fn.params[j]? = some t → Tryz.pinned.checked.prog.wantsStandIn t = false := by
  obtain rfl : f = 4 := Option.some.inj ((show Tryz.prog.funcNamed Rows.serveToldRow.func = some 4 by kernel_rfl).symm.trans hf) |>.symm
  obtain rfl : fn = Tryz.f4 := (Option.some.inj (Tryz.func4.symm.trans hfn)).symm
  refine ⟨by kernel_rfl, fun j t ht => ?_⟩
  rw [Tryz.params4] at ht
  have hm : t = 26 ∨ t = 27 := by simpa using Array.mem_of_getElem? ht
  rcases hm with rfl | rfl
  · exact (show Tryz.prog.wantsStandIn 26 = false by kernel_rfl)
  · exact (show Tryz.prog.wantsStandIn 27 = false by kernel_rfl)
theorem proved : Rows.ServeToldCardSaid :=
  Claim7.holds_tied_plain_at .later [] _ _ _ _ said (fun _ h => by cases h) (by kernel_rfl) (fun _ h => by cases h) serveTold_row_tie rfl ⟨rfl, rfl⟩ (by kernel_rfl) rfl plain (by kernel_rfl)
#print axioms proved
end Go.Proofs.YtiilagmmgpnpdaaGreatDoor.serveTold
