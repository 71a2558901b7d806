/- For every state and all requests the law ServeMay of the package brackenkeep returns true, as a tied card: whatever is asked, the state may be; its revision never falls, nor does time. -/
import Derived.Test.YtiekgafopalfmaaGreatDoorPkSv5
import Derived.Test.YtiekgafopalfmaaGreatDoorPkSv2
import Derived.Test.YtiekgafopalfmaaGreatDoorUpEq
import Derived.Test.YtiekgafopalfmaaGreatDoorPkWi5
namespace Go.Proofs.YtiekgafopalfmaaGreatDoor.serveMay
open Go.ChangeShapes Go.WideShapes Go.ChangeAt Go.RowKit Go.Lib
set_option linter.unusedVariables false
set_option maxRecDepth 100000 in
set_option maxHeartbeats 4000000 in
theorem walk (M : StM) (s : StD) (ad : Option Addr) (cap : Nat) (xs : List ReqD) (hws : wState s) (hwx : ∀ x ∈ xs, wReq x) (hzs : SzState s) (hzx : xs.length ≤ 140737488351232) (w : World) (hm : StateAt w M s) (hx : ReqsAt w ad xs) (hT : Tabs w) :
    Calls Tryz.prog 4 #[stV M s, .slice ad xs.length cap] w fun e w' => e = .returned (.bool true) ∧ Below w.heap.size w w' := by
  obtain ⟨aj, cj, an, cn, al, cl⟩ := M
  have hm : JobsAt w aj s.jobs ∧ NodesAt w an s.nodes ∧ LeasesAt w al s.leases := hm
  show Calls _ _ #[.agg #[.int .i64 s.rev, .slice aj s.jobs.length cj, .slice an s.nodes.length cn, .slice al s.leases.length cl], .slice ad xs.length cap] _ _
  have B0 := below_one w (.cells #[.int .i64 s.rev, .slice aj s.jobs.length cj, .slice an s.nodes.length cn, .slice al s.leases.length cl] 26)
  have I0 := bxS_new (cj := cj) (cn := cn) (cl := cl) (w := w) hm
  obtain ⟨W0, hW0⟩ : ∃ W0, w.alloc (.cells #[.int .i64 s.rev, .slice aj s.jobs.length cj, .slice an s.nodes.length cn, .slice al s.leases.length cl] 26) = W0 := ⟨_, rfl⟩
  rw [hW0] at B0 I0
  have C := Lib.hid (served_is W0 (hT.below B0))
  have HS := Lib.hid hws
  have HT := Lib.hid hT
  have HM0 := Lib.hid hm
  have I0 := Lib.hid I0
  have B0 := Lib.hid B0
  have HX := Lib.hid hx
  have HWX := Lib.hid hwx
  clear hx hwx hzs
  clear hws hT hm
  go_enter Tryz.func4, Tryz.ntmps4
  go_wp2_with fail
  refine C.out.mono ?_
  rintro e w1 ⟨rfl, b1⟩
  have I1 := Lib.hid (bxS_next I0.out b1)
  have B1 := Lib.hid (below_trans B0.out b1 B0.out.size)
  clear b1 C
  by_cases hv : checkE V8 s = 0
  case neg =>
    have hv' : ((checkE V8 s : Int) != 0) = true := by simp; omega
    have C := Lib.hid (svNew_bad s aj an al cj cn cl HS.out hv w1 (HT.out.below B1.out) I1.out.2)
    obtain ⟨k, hk⟩ : ∃ k, checkE V8 s = k := ⟨_, rfl⟩
    rw [hk] at hv' C
    clear hv hk
    obtain ⟨z0, z1, z2, z3⟩ := bxS_cells I1.out
    go_wp2_with fail
    refine C.out.mono ?_
    rintro e w2 ⟨rfl, b2⟩
    have B2 := Lib.hid (below_trans B1.out b2 B1.out.size)
    clear b2 C z0 z1 z2 z3
    go_wp2
    go_ret
    exact ⟨rfl, B2.out⟩
  have C := Lib.hid (svNew_ok s aj an al cj cn cl hv w1 (HT.out.below B1.out) I1.out.2)
  have HV := Lib.hid hv
  clear hv
  obtain ⟨z0, z1, z2, z3⟩ := bxS_cells I1.out
  go_wp2_with fail
  refine C.out.mono ?_
  rintro e w2 ⟨b, rfl, hb, sv, b2⟩
  have I2 := Lib.hid (bxS_next I1.out b2)
  have hwb : w.heap.size ≤ b := Nat.le_trans B1.out.size hb
  have sv2 := svIn_new HV.out sv (below_trans B1.out b2 B1.out.size) HT.out hwb
  clear b2 C z0 z1 z2 z3 sv hb B1 I1 hwb
  obtain ⟨z0, z1, z2, z3⟩ := bxS_cells I2.out
  go_wp2_with fail
  clear z0 z1 z2 z3
  go_loopw [7, 8, 38] (fun rv nv iv wr => ∃ (i : Nat) (v : SvD), rv = .int .i64 v.s.rev ∧ nv = .int .i64 v.now ∧ iv = .int .i64 (i : Int) ∧ i ≤ xs.length ∧ SvIn w b v wr) (fun _ _ iv _ => xs.length - (intOf iv).toNat)
  case atStart => exact ⟨0, ⟨s, 0⟩, rfl, rfl, rfl, by omega, sv2⟩
  case round =>
    obtain ⟨i, v, rfl, rfl, rfl, hi, svr⟩ := hrel
    by_cases hlt : (i : Int) < (xs.length : Int)
    case neg =>
      have B9 := Lib.hid svr.2.2.2.1
      clear svr sv2
      go_wp2
      go_ret
      exact ⟨rfl, B9.out⟩
    have hin : i < xs.length := by omega
    obtain ⟨a, rfl, hal, k0, k1, k2, k3, k4, k5, k6, k7, k8, k9, k10, k11, k12, k13⟩ := reqsAt_next HX.out svr.2.2.2.1 i hin
    have hwq := HWX.out _ (List.getElem_mem hin)
    obtain ⟨q, hq⟩ : ∃ q, xs[i] = q := ⟨_, rfl⟩
    rw [hq] at k0 k1 k2 k3 k4 k5 k6 k7 k8 k9 k10 k11 k12 k13 hwq
    have HQ := Lib.hid hwq
    have hix : a.block < wr.heap.size := hal
    clear hq hwq sv2
    have bq := below_one wr (.cells #[.int .i64 q.kind, .string q.job.name, .int .i64 q.job.prio, .int .i64 q.job.need, .int .i64 q.job.tries, .string q.job.tag, .string q.node.name, .int .i64 q.node.room, .string q.node.zone, .string q.lease.job, .string q.lease.node, .int .i64 q.lease.til, .string q.name, .int .i64 q.n] 44)
    have oq := objAt_new wr #[.int .i64 q.kind, .string q.job.name, .int .i64 q.job.prio, .int .i64 q.job.need, .int .i64 q.job.tries, .string q.job.tag, .string q.node.name, .int .i64 q.node.room, .string q.node.zone, .string q.lease.job, .string q.lease.node, .int .i64 q.lease.til, .string q.name, .int .i64 q.n] 44
    have svq := svIn_next svr bq
    obtain ⟨X0, hX0⟩ : ∃ X, wr.alloc (.cells #[.int .i64 q.kind, .string q.job.name, .int .i64 q.job.prio, .int .i64 q.job.need, .int .i64 q.job.tries, .string q.job.tag, .string q.node.name, .int .i64 q.node.room, .string q.node.zone, .string q.lease.job, .string q.lease.node, .int .i64 q.lease.til, .string q.name, .int .i64 q.n] 44) = X := ⟨_, rfl⟩
    rw [hX0] at bq oq svq
    have C3 := Lib.hid (do_is v svq.2.1 svq.2.2.1 q HQ.out b X0 svq.2.2.2.2.2.2 svq.1)
    have c0 := objAt_cell oq 0 rfl
    have c1 := objAt_cell oq 1 rfl
    have c2 := objAt_cell oq 2 rfl
    have c3 := objAt_cell oq 3 rfl
    have c4 := objAt_cell oq 4 rfl
    have c5 := objAt_cell oq 5 rfl
    have c6 := objAt_cell oq 6 rfl
    have c7 := objAt_cell oq 7 rfl
    have c8 := objAt_cell oq 8 rfl
    have c9 := objAt_cell oq 9 rfl
    have c10 := objAt_cell oq 10 rfl
    have c11 := objAt_cell oq 11 rfl
    have c12 := objAt_cell oq 12 rfl
    have c13 := objAt_cell oq 13 rfl
    have SQ := Lib.hid svq
    have SR := Lib.hid svr
    clear svq svr bq oq
    go_wp2_with fail
    refine C3.out.mono ?_
    clear C3 c0 c1 c2 c3 c4 c5 c6 c7 c8 c9 c10 c11 c12 c13
    rintro e w5 ⟨MD, rfl, sv5, ow5, g5⟩
    have S5 := svIn_do SQ.out sv5 g5
    have hrev := doR_rev (U := V8) ((check_zero V8 _).1 SQ.out.2.1) v.now q
    have hnow := (doR_now (s := v.s) (U := V8) v.now q SQ.out.2.2.1).1
    have h40 : 0 ≤ v.s.rev ∧ v.s.rev ≤ 1099511627776 := ((check_zero V8 _).1 SQ.out.2.1).1
    clear sv5 ow5 g5 SQ
    obtain ⟨r, hr⟩ : ∃ r, doR V8 v.s v.now q = r := ⟨_, rfl⟩
    rw [hr] at S5 hrev hnow
    rw [hr]
    obtain ⟨D, hD⟩ : ∃ D, told v.s r = D := ⟨_, rfl⟩
    rw [hD]
    clear hr hD
    obtain ⟨r1, rc, rb⟩ := r
    simp only at S5 hrev hnow
    have n1 : ¬ r1.s.rev < v.s.rev := by split at hrev <;> omega
    have n2 : ¬ v.s.rev + 1 < r1.s.rev := by split at hrev <;> omega
    have n3 : ¬ r1.now < v.now := by omega
    have n4 : IntKind.i64.wrap (v.s.rev + 1) = v.s.rev + 1 := IntWalk.i64_in _ (by omega)
    clear hrev hnow h40
    have bx1 := below_one w5 (.cells #[.int .i64 (rc : Nat), .int .i64 r1.s.rev] 46)
    have oR := objAt_new w5 #[.int .i64 (rc : Nat), .int .i64 r1.s.rev] 46
    have bx2 := below_one (w5.alloc (.cells #[.int .i64 (rc : Nat), .int .i64 r1.s.rev] 46)) (.cells #[.int .i64 D.frm, .int .i64 D.til, .slice MD.aj D.jobs.length MD.cj, .slice MD.an D.nodes.length MD.cn, .slice MD.al D.leases.length MD.cl, .slice MD.gj D.gj.length MD.hj, .slice MD.gn D.gn.length MD.hn, .slice MD.gl D.gl.length MD.hl] 49)
    have oR := objAt_next oR bx2
    have bx := below_trans bx1 bx2 (by simp)
    obtain ⟨X1, hX1⟩ : ∃ X, (w5.alloc (.cells #[.int .i64 (rc : Nat), .int .i64 r1.s.rev] 46)).alloc (.cells #[.int .i64 D.frm, .int .i64 D.til, .slice MD.aj D.jobs.length MD.cj, .slice MD.an D.nodes.length MD.cn, .slice MD.al D.leases.length MD.cl, .slice MD.gj D.gj.length MD.hj, .slice MD.gn D.gn.length MD.hn, .slice MD.gl D.gl.length MD.hl] 49) = X := ⟨_, rfl⟩
    rw [hX1] at oR bx
    clear bx1 bx2
    have S6 := Lib.hid (svIn_next S5 bx)
    have oR1 := Lib.hid oR
    have C4 := Lib.hid (svState_is b r1 S6.out.2.1 X1 S6.out.1)
    clear S5 oR bx
    go_wp2_with fail
    refine C4.out.mono ?_
    rintro e w6 ⟨ej, en, el, fj, fn, fl, rfl, ow, b6⟩
    have bB := below_one w6 (.cells #[.int .i64 r1.s.rev, .slice ej r1.s.jobs.length fj, .slice en r1.s.nodes.length fn, .slice el r1.s.leases.length fl] 26)
    have oB := objAt_new w6 #[.int .i64 r1.s.rev, .slice ej r1.s.jobs.length fj, .slice en r1.s.nodes.length fn, .slice el r1.s.leases.length fl] 26
    obtain ⟨X2, hX2⟩ : ∃ X, w6.alloc (.cells #[.int .i64 r1.s.rev, .slice ej r1.s.jobs.length fj, .slice en r1.s.nodes.length fn, .slice el r1.s.leases.length fl] 26) = X := ⟨_, rfl⟩
    rw [hX2] at bB oB
    have S7 := Lib.hid (svIn_next (svIn_next S6.out b6) bB)
    have oR7 := Lib.hid (objAt_next (objAt_next oR1.out b6) bB)
    have oB7 := Lib.hid oB
    have ow7 := ownS_at (ownS_next ow bB)
    have C5 := Lib.hid ((by have h := check_any r1.s.rev ej en el fj fn fl r1.s.jobs r1.s.nodes r1.s.leases (wState_sv S7.out.2.1) X2 S7.out.2.2.2.2.2.2 ow7.1 ow7.2.1 ow7.2.2; rw [show (⟨r1.s.rev, r1.s.jobs, r1.s.nodes, r1.s.leases⟩ : StD) = r1.s from rfl, S7.out.2.1] at h; exact h : Calls Tryz.prog 15 #[.agg #[.int .i64 r1.s.rev, .slice ej r1.s.jobs.length fj, .slice en r1.s.nodes.length fn, .slice el r1.s.leases.length fl]] X2 fun e w' => e = .returned (.int .i64 ((0 : Nat) : Int)) ∧ Below X2.heap.size X2 w'))
    obtain ⟨y0, y1, y2, y3⟩ : X2.cell? ⟨w6.heap.size, 0, none⟩ = some (.int .i64 r1.s.rev) ∧ X2.cell? ⟨w6.heap.size, 1, none⟩ = some (.slice ej r1.s.jobs.length fj) ∧ X2.cell? ⟨w6.heap.size, 2, none⟩ = some (.slice en r1.s.nodes.length fn) ∧ X2.cell? ⟨w6.heap.size, 3, none⟩ = some (.slice el r1.s.leases.length fl) := ⟨objAt_cell oB 0 rfl, objAt_cell oB 1 rfl, objAt_cell oB 2 rfl, objAt_cell oB 3 rfl⟩
    clear b6 bB oB ow ow7 S6 oR1 C4
    go_wp2_with fail
    refine C5.out.mono ?_
    clear y0 y1 y2 y3 C5 hX1 hX2
    rintro e w7 ⟨rfl, b7⟩
    have S8 := Lib.hid (svIn_next S7.out b7)
    have oR8 := objAt_next oR7.out b7
    have oB8 := objAt_next oB7.out b7
    have y0 := objAt_cell oB8 0 rfl
    have x1 := objAt_cell oR8 1 rfl
    have C6 := Lib.hid (svNow_is b r1 w7 S8.out.1)
    have HW := Lib.hid (fun W' (h : W'.cell? ⟨w6.heap.size, 0, none⟩ = some (.int .i64 r1.s.rev) ∧ Below w7.heap.size w7 W') => svNow_is b r1 W' (svAt_next S8.out.1 h.2))
    have s0 : w7.drew.cell? ⟨w6.heap.size, 0, none⟩ = some (.int .i64 r1.s.rev) ∧ Below w7.heap.size w7 w7.drew := ⟨y0, (Below.refl _ _).drew⟩
    clear oR8 oB8 oR7 oB7 S7 b7
    go_wp2_with fail
    refine C6.out.mono ?_
    rintro e w8 ⟨rfl, h8⟩
    obtain rfl : w7 = w8 := h8.symm
    clear h8 C6
    go_wp2_with fail
    go_region_held3 (fun w' => w'.cell? ⟨w6.heap.size, 0, none⟩ = some (.int .i64 r1.s.rev) ∧ Below w7.heap.size w7 w')
      (first | assumption | exact s0)
      (first
        | (go_at_call 13; (with_reducible refine (HW.out _ (by assumption)).mono ?_); rintro e w9 ⟨rfl, h9⟩; obtain rfl := h9))
    rename_i oL
    have SE := Lib.hid (svIn_next S8.out oL.2)
    clear oL s0 y0 x1
    go_wp2
    go_roundw
    case rel => exact ⟨i + 1, r1, rfl, rfl, by simp, by omega, SE.out⟩
    case measure => simp [intOf]; omega

theorem own : ownKnob Tryz.prog.godebug = none := by kernel_rfl
theorem laidOut : laidOutB Tryz.prog = true := by kernel_rfl
theorem laid_met (os : Os) : laidMet Tryz.prog Rows.serveMayRow.laid ((laidWorld os).forCall (fun _ _ => 0) ⟨#[], #[.agg #[.int .i64 0, .slice none 0 0, .slice none 0 0, .slice none 0 0], .slice none 0 0], []⟩).memory :=
  laidMet_of_run' 8 (by kernel_rfl) (by kernel_rfl)
theorem reads (os : Os) {H : Type} (enc : TypeId × Value → H) : ∃ places, DataW.whole enc Tryz.prog ((laidWorld os).forCall (fun _ _ => 0) ⟨#[], #[.agg #[.int .i64 0, .slice none 0 0, .slice none 0 0, .slice none 0 0], .slice none 0 0], []⟩).memory Tryz.f4.params.toList Rows.serveMaySpec.vars false #[Value.agg #[.int .i64 0, .slice none 0 0, .slice none 0 0, .slice none 0 0], Value.slice none 0 0].toList 8 = some ([.agg [.lit (.int .i64 0), .nil, .nil, .nil], .nil], [], places) :=
  ⟨[], by kernel_rfl⟩
set_option maxRecDepth 100000 in
set_option maxHeartbeats 2000000 in
theorem lifted (os : Os) (started : os.Started) (H : Type) (enc : TypeId × Value → H) (F : Stop.Interp) :
    ReturnsInHanded {} Tryz.checked os 4 .any ((OpenSpec.ofChange Rows.serveMaySpec).preRow enc Tryz.prog Tryz.f4 Rows.serveMayRow.domain false Rows.serveMayRow.laid) (((OpenSpec.ofChange Rows.serveMaySpec).at F).post enc Tryz.prog Tryz.f4 false true false false) := by
  obtain ⟨places, hx⟩ := reads os enc
  refine returnsInHanded_of_row (C := Tryz.checked) (s := (OpenSpec.ofChange Rows.serveMaySpec)) own started (by kernel_rfl) Tryz.func4
    (witness_row_atRef (enc := enc) (C := Tryz.checked) false (laidWorld os) #[.agg #[.int .i64 0, .slice none 0 0, .slice none 0 0, .slice none 0 0], .slice none 0 0] rfl (by kernel_rfl) (by kernel_rfl) (by kernel_rfl)
      (OpenSpec.preRow_of_cond 8 hx (by kernel_rfl) (fun k hk => by cases hk) (by kernel_rfl) (laid_met os))) ?_
  intro W base args ds gs before hval0 hW _ _ hsz0 hL _ _
  have hval : ∀ (j : Nat) t v, Tryz.f4.params[j]? = some t → args[j]? = some v → Value.okWide Tryz.prog W .any base t v := hval0
  have hW' := hW
  obtain ⟨p, q, hA0, hV, rfl, hfz, hnd⟩ := hW
  have hA : DataW.TrodAll enc Tryz.prog W 0 (fun _ => true) true Tryz.f4.params.toList args.toList ds p := hA0
  have hsz : (DataW.weightsEach Tryz.prog (Tryz.f4.params.toList ++ Rows.serveMaySpec.plain.varTypes Tryz.prog) (ds ++ gs)).all (· ≤ reachBytes) = true := hsz0
  rw [Tryz.params4] at hA hval hsz
  obtain ⟨v0, vs0, d0, ds0, p0, q0, hargs, rfl, rfl, h0, r0⟩ := trodAll_cons hA
  obtain ⟨v1, vs1, d1, ds1, p1, q1, rfl, rfl, rfl, h1, r1⟩ := trodAll_cons r0
  obtain ⟨rfl, rfl, rfl⟩ := trodAll_nil r1
  obtain rfl : args = #[v0, v1] := by cases args; simp_all
  obtain ⟨rfl, rfl⟩ := trodVars_none hV
  obtain ⟨M0, st0, rfl, m0, x0, w0⟩ := open_state (hval 0 26 v0 rfl rfl) h0
  obtain ⟨ad1, cap1, xs1, rfl, m1, x1, w1⟩ := open_requests (hval 1 27 v1 rfl rfl) h1
  have s0 := sized_state hsz rfl (j := 0) rfl x0
  have s1 := sized_requests hsz rfl (j := 1) rfl x1
  clear hA0 hval0
  refine (walk M0 st0 ad1 cap1 xs1 w0 w1 s0 s1 W m0 m1 (tabs_of hL)).mono fun e W' ⟨he, bel⟩ => ?_
  subst he
  exact ⟨_, rfl, _, _, _, [], _, [], hW', trodAll_mk1 (shut_bool Tryz.underlying4 _), (trodAll_cons_mk (Below.trod laidOut (by kernel_rfl) (of_decide_eq_true (by kernel_rfl)) h0 bel (fun x hx => by simpa using hW'.lt x (by simp [hx]))) (trodAll_cons_mk (Below.trod laidOut (by kernel_rfl) (of_decide_eq_true (by kernel_rfl)) h1 bel (fun x hx => by simpa using hW'.lt x (by simp [hx]))) trodAll_mk0)), rfl, bel.frame _, fun h => by cases h⟩
theorem said : Rows.ServeMaySaid :=
  OpenClaim.holds_of_cond 4 Tryz.f4 rfl rfl rfl rfl rfl rfl rfl ⟨rfl, rfl, rfl, rfl, rfl⟩ rfl rfl rfl rfl rfl (by kernel_rfl) Tryz.func4 (by kernel_rfl)
    (of_decide_eq_true (by kernel_rfl)) (by unfold Func.isWrapper; first | (rw [if_pos (by decide +kernel)]; kernel_rfl) | (rw [if_neg (by decide +kernel)]; exact ⟨rfl, rfl⟩))
    (fun os started H enc _ F => by rw [OpenClaim.pre_eq_preRow]; exact lifted os started H enc F)
theorem plain (f : FuncId) (fn : Func) (hf : Tryz.pinned.checked.prog.funcNamed Rows.serveMayRow.func = some f) (hfn : Tryz.pinned.checked.prog.funcs[f]? = some fn) :
    false = Tryz.pinned.checked.prog.looks [] ∧ ∀ (j : Nat) t, fn.params[j]? = some t → Tryz.pinned.checked.prog.wantsStandIn t = false := by
  obtain rfl : f = 4 := Option.some.inj ((show Tryz.prog.funcNamed Rows.serveMayRow.func = some 4 by kernel_rfl).symm.trans hf) |>.symm
  obtain rfl : fn = Tryz.f4 := (Option.some.inj (Tryz.func4.symm.trans hfn)).symm
  refine ⟨by kernel_rfl, fun j t ht => ?_⟩
  rw [Tryz.params4] at ht
  have hm : t = 26 ∨ t = 27 := by simpa using Array.mem_of_getElem? ht
  rcases hm with rfl | rfl
  · exact (show Tryz.prog.wantsStandIn 26 = false by kernel_rfl)
  · exact (show Tryz.prog.wantsStandIn 27 = false by kernel_rfl)
theorem proved : Rows.ServeMayCardSaid :=
  Claim7.holds_tied_plain_at .later [] _ _ _ _ said (fun _ h => by cases h) (by kernel_rfl) (fun _ h => by cases h) serveMay_row_tie rfl ⟨rfl, rfl⟩ (by kernel_rfl) rfl plain (by kernel_rfl)
#print axioms proved
end Go.Proofs.YtiekgafopalfmaaGreatDoor.serveMay
