/- For every state and all other arguments the law ServeLeases of the package brackenkeep returns true, as a tied card: no lease is older than the time, once time went by; and each job has one at most. -/
import Derived.Test.YtiilagmmgpnpdaaGreatDoorSvLaw2
import Derived.Test.YtiilagmmgpnpdaaGreatDoorRest
namespace Go.Proofs.YtiilagmmgpnpdaaGreatDoor.serveLeases
open Go.ChangeShapes Go.WideShapes Go.ChangeAt Go.RowKit Go.Lib
set_option linter.unusedVariables false
set_option maxRecDepth 100000 in
set_option maxHeartbeats 16000000 in
theorem walk (M : StM) (s : StD) (ad : Option Addr) (cap : Nat) (xs : List ReqD) (n : Int) (hws : wState s) (hwx : ∀ x ∈ xs, wReq x) (hwn : (Lit.int .i64 n).wf = true) (hzs : SzState s) (hzx : xs.length ≤ 140737488351232) (w : World) (hm : StateAt w M s) (hx : ReqsAt w ad xs) (hT : Tabs w) :
    Calls Tryz.prog 6 #[stV M s, .slice ad xs.length cap, .int .i64 n] w fun e w' => e = .returned (.bool true) ∧ Below w.heap.size w w' := by
  obtain ⟨aj, cj, an, cn, al, cl⟩ := M
  have hm : JobsAt w aj s.jobs ∧ NodesAt w an s.nodes ∧ LeasesAt w al s.leases := hm
  show Calls _ _ #[.agg #[.int .i64 s.rev, .slice aj s.jobs.length cj, .slice an s.nodes.length cn, .slice al s.leases.length cl], .slice ad xs.length cap, .int .i64 n] _ _
  have bb0 := below_one w (.cells #[.int .i64 s.rev, .slice aj s.jobs.length cj, .slice an s.nodes.length cn, .slice al s.leases.length cl] 26)
  have I0 := bxS_new (cj := cj) (cn := cn) (cl := cl) (w := w) hm
  obtain ⟨W0, hW0⟩ : ∃ W0, w.alloc (.cells #[.int .i64 s.rev, .slice aj s.jobs.length cj, .slice an s.nodes.length cn, .slice al s.leases.length cl] 26) = W0 := ⟨_, rfl⟩
  rw [hW0] at bb0 I0
  have C := Lib.hid (served_is W0 (hT.below bb0))
  have HS := Lib.hid hws
  have HT := Lib.hid hT
  have HM0 := Lib.hid hm
  have I0 := Lib.hid I0
  have B0 := Lib.hid bb0
  have HX := Lib.hid hx
  have HWX := Lib.hid hwx
  clear hx hwx hzs hwn
  clear hws hT hm bb0
  go_enter Tryz.func6, Tryz.ntmps6
  go_wp2_with fail
  refine C.out.mono ?_
  rintro e w1 ⟨rfl, b1⟩
  have I1 := Lib.hid (bxS_next I0.out b1)
  have B1 := Lib.hid (below_trans B0.out b1 B0.out.size)
  clear b1 C I0 B0
  by_cases hv : checkE V8 s = 0
  case neg =>
    have hv' : ((checkE V8 s : Int) != 0) = true := by simp; omega
    have C := Lib.hid (svNew_bad s aj an al cj cn cl HS.out hv w1 (HT.out.below B1.out) I1.out.2)
    obtain ⟨k, hk⟩ : ∃ k, checkE V8 s = k := ⟨_, rfl⟩
    rw [hk] at hv' C
    clear hv hk
    obtain ⟨z0, z1, z2, z3⟩ := bxS_cells I1.out
    go_wp2_with fail
    refine C.out.mono ?_
    rintro e w2 ⟨rfl, b2⟩
    have B2 := Lib.hid (below_trans B1.out b2 B1.out.size)
    clear b2 C z0 z1 z2 z3
    go_wp2
    go_ret
    exact ⟨rfl, B2.out⟩
  have C := Lib.hid (svNew_ok s aj an al cj cn cl hv w1 (HT.out.below B1.out) I1.out.2)
  have HV := Lib.hid hv
  clear hv
  obtain ⟨z0, z1, z2, z3⟩ := bxS_cells I1.out
  go_wp2_with fail
  refine C.out.mono ?_
  rintro e w2 ⟨b, rfl, hb, sv, b2⟩
  have I2 := Lib.hid (bxS_next I1.out b2)
  have sv2 := svIn_new HV.out sv (below_trans B1.out b2 B1.out.size) HT.out (Nat.le_trans B1.out.size hb)
  obtain ⟨v0, hv0⟩ : ∃ v, (⟨s, 0⟩ : SvD) = v := ⟨_, rfl⟩
  rw [hv0] at sv2
  have S0 := Lib.hid sv2
  have E0 := Lib.hid hv0
  clear b2 C z0 z1 z2 z3 sv hb B1 I1 sv2 hv0
  have hv0b := S0.out
  go_wp2
  go_loopw [34] (fun iv wr => ∃ (i : Nat) (v : SvD), iv = .int .i64 (i : Int) ∧ i ≤ xs.length ∧ SvIn w b v wr) (fun iv _ => xs.length - (intOf iv).toNat)
  case atStart => exact ⟨0, v0, rfl, by omega, hv0b⟩
  case round =>
    clear hv0b S0 E0
    obtain ⟨i, v, rfl, hi, svr⟩ := hrel
    by_cases hlt : (i : Int) < (xs.length : Int)
    case pos =>
      have hin : i < xs.length := by omega
      obtain ⟨a, rfl, hal, k0, k1, k2, k3, k4, k5, k6, k7, k8, k9, k10, k11, k12, k13⟩ := reqsAt_next HX.out svr.2.2.2.1 i hin
      have hwq := HWX.out _ (List.getElem_mem hin)
      obtain ⟨q, hq⟩ : ∃ q, xs[i] = q := ⟨_, rfl⟩
      rw [hq] at k0 k1 k2 k3 k4 k5 k6 k7 k8 k9 k10 k11 k12 k13 hwq
      have HQ := Lib.hid hwq
      have hix : a.block < wr.heap.size := hal
      clear hq hwq
      have bq := below_one wr (.cells #[.int .i64 q.kind, .string q.job.name, .int .i64 q.job.prio, .int .i64 q.job.need, .int .i64 q.job.tries, .string q.job.tag, .string q.node.name, .int .i64 q.node.room, .string q.node.zone, .string q.lease.job, .string q.lease.node, .int .i64 q.lease.til, .string q.name, .int .i64 q.n] 44)
      have oq := objAt_new wr #[.int .i64 q.kind, .string q.job.name, .int .i64 q.job.prio, .int .i64 q.job.need, .int .i64 q.job.tries, .string q.job.tag, .string q.node.name, .int .i64 q.node.room, .string q.node.zone, .string q.lease.job, .string q.lease.node, .int .i64 q.lease.til, .string q.name, .int .i64 q.n] 44
      have svq := svIn_next svr bq
      obtain ⟨X0, hX0⟩ : ∃ X, wr.alloc (.cells #[.int .i64 q.kind, .string q.job.name, .int .i64 q.job.prio, .int .i64 q.job.need, .int .i64 q.job.tries, .string q.job.tag, .string q.node.name, .int .i64 q.node.room, .string q.node.zone, .string q.lease.job, .string q.lease.node, .int .i64 q.lease.til, .string q.name, .int .i64 q.n] 44) = X := ⟨_, rfl⟩
      rw [hX0] at bq oq svq
      have c0 := objAt_cell oq 0 rfl
      have c1 := objAt_cell oq 1 rfl
      have c2 := objAt_cell oq 2 rfl
      have c3 := objAt_cell oq 3 rfl
      have c4 := objAt_cell oq 4 rfl
      have c5 := objAt_cell oq 5 rfl
      have c6 := objAt_cell oq 6 rfl
      have c7 := objAt_cell oq 7 rfl
      have c8 := objAt_cell oq 8 rfl
      have c9 := objAt_cell oq 9 rfl
      have c10 := objAt_cell oq 10 rfl
      have c11 := objAt_cell oq 11 rfl
      have c12 := objAt_cell oq 12 rfl
      have c13 := objAt_cell oq 13 rfl
      have C3 := Lib.hid (do_is v svq.2.1 svq.2.2.1 q HQ.out b X0 svq.2.2.2.2.2.2 svq.1)
      have SQ := Lib.hid svq
      have SR := Lib.hid svr
      clear svr bq oq svq
      go_wp2_with fail
      refine C3.out.mono ?_
      clear C3 c0 c1 c2 c3 c4 c5 c6 c7 c8 c9 c10 c11 c12 c13
      rintro e w5 ⟨MD, rfl, sv5, ow5, g5⟩
      have S5 := svIn_do SQ.out sv5 g5
      obtain ⟨r, hr⟩ : ∃ r, doR V8 v.s v.now q = r := ⟨_, rfl⟩
      rw [hr] at S5 ⊢
      obtain ⟨D, hD⟩ : ∃ D, told v.s r = D := ⟨_, rfl⟩
      rw [hD]
      clear hr hD sv5 ow5 g5 SQ SR
      go_wp2
      go_roundw
      case rel => exact ⟨i + 1, r.1, by simp, by omega, S5⟩
      case measure => simp [intOf]; omega
    have SR := Lib.hid svr
    clear svr HX HWX
    have C1 := rest_is n 1000 (by decide) (by decide) wr
    obtain ⟨m, hm⟩ : ∃ m, n % 1000 = m := ⟨_, rfl⟩
    rw [hm] at C1
    have hm2 : 0 ≤ m ∧ m ≤ 1099511627776 := by omega
    have HMM := Lib.hid hm2
    have C1 := Lib.hid C1
    clear hm hm2
    go_wp2_with fail
    refine C1.out.mono ?_
    clear C1
    rintro e w3 ⟨rfl, rfl⟩
    have C := Lib.hid (do_is v SR.out.2.1 SR.out.2.2.1 (tickQ m) (wReq_tick HMM.out) b wr SR.out.2.2.2.2.2.2 SR.out.1 : Calls Tryz.prog 15 #[.pointer (some ⟨b, 0, none⟩), .agg #[.int .i64 7, .string ⟨#[]⟩, .int .i64 0, .int .i64 0, .int .i64 0, .string ⟨#[]⟩, .string ⟨#[]⟩, .int .i64 0, .string ⟨#[]⟩, .string ⟨#[]⟩, .string ⟨#[]⟩, .int .i64 0, .string ⟨#[]⟩, .int .i64 m]] wr (DoPost b v.s (doR V8 v.s v.now (tickQ m)) wr))
    go_wp2_with fail
    refine C.out.mono ?_
    clear C 
    rintro e w5a ⟨MD, rfl, sv5, -, g5⟩
    have P5 := do_done SR.out sv5 g5 #[.int .i64 ((doR V8 v.s v.now (tickQ m)).2.1 : Nat), .int .i64 (doR V8 v.s v.now (tickQ m)).1.s.rev] #[.int .i64 (told v.s (doR V8 v.s v.now (tickQ m))).frm, .int .i64 (told v.s (doR V8 v.s v.now (tickQ m))).til, .slice MD.aj (told v.s (doR V8 v.s v.now (tickQ m))).jobs.length MD.cj, .slice MD.an (told v.s (doR V8 v.s v.now (tickQ m))).nodes.length MD.cn, .slice MD.al (told v.s (doR V8 v.s v.now (tickQ m))).leases.length MD.cl, .slice MD.gj (told v.s (doR V8 v.s v.now (tickQ m))).gj.length MD.hj, .slice MD.gn (told v.s (doR V8 v.s v.now (tickQ m))).gn.length MD.hn, .slice MD.gl (told v.s (doR V8 v.s v.now (tickQ m))).gl.length MD.hl]
    obtain ⟨r, hr⟩ : ∃ r, doR V8 v.s v.now (tickQ m) = r := ⟨_, rfl⟩
    rw [hr] at P5 ⊢
    obtain ⟨D, hD⟩ : ∃ D, told v.s r = D := ⟨_, rfl⟩
    rw [hD] at P5 ⊢
    clear hD sv5 g5
    obtain ⟨va, ca, ba⟩ := r
    simp only at P5
    have HRa := Lib.hid hr
    clear hr
    obtain ⟨Xa, hXa⟩ : ∃ X, (w5a.alloc (.cells #[.int .i64 (ca : Nat), .int .i64 va.s.rev] 46)).alloc (.cells #[.int .i64 D.frm, .int .i64 D.til, .slice MD.aj D.jobs.length MD.cj, .slice MD.an D.nodes.length MD.cn, .slice MD.al D.leases.length MD.cl, .slice MD.gj D.gj.length MD.hj, .slice MD.gn D.gn.length MD.hn, .slice MD.gl D.gl.length MD.hl] 49) = X := ⟨_, rfl⟩
    rw [hXa] at P5
    have Sa := Lib.hid P5.1
    have Ta := Lib.hid P5.2.1
    have Ra := Lib.hid P5.2.2
    clear P5
    have x0 := objAt_cell Ra.out 0 rfl
    by_cases hc : ca = 0
    case neg =>
      have c1 : ((ca : Int) != 0) = true := by simp; omega
      have B9 := Lib.hid Sa.out.2.2.2.1
      clear hc
      go_wp2
      go_ret
      exact ⟨rfl, B9.out⟩
    have HL := Lib.hid (by have h := sv_leases (U := V8) (s := v.s) (now := v.now) HMM.out (by rw [HRa.out]; exact hc); rw [HRa.out] at h; exact h : ∀ l ∈ va.s.leases, va.now < l.til)
    have c1 : ((ca : Int) != 0) = false := by simp; omega
    clear hc
    have C := Lib.hid (svState_in Sa.out)
    go_wp2_with fail
    refine C.out.mono ?_
    clear C
    rintro e w6b ⟨ej, en, el, fj, fn, fl, rfl, ow, b6⟩
    have bB := below_one w6b (.cells #[.int .i64 va.s.rev, .slice ej va.s.jobs.length fj, .slice en va.s.nodes.length fn, .slice el va.s.leases.length fl] 26)
    have oB := objAt_new w6b #[.int .i64 va.s.rev, .slice ej va.s.jobs.length fj, .slice en va.s.nodes.length fn, .slice el va.s.leases.length fl] 26
    obtain ⟨Xb, hXb⟩ : ∃ X, w6b.alloc (.cells #[.int .i64 va.s.rev, .slice ej va.s.jobs.length fj, .slice en va.s.nodes.length fn, .slice el va.s.leases.length fl] 26) = X := ⟨_, rfl⟩
    rw [hXb] at bB oB
    have bb := below_trans b6 bB b6.size
    have Sb := Lib.hid (svIn_next Sa.out bb)
    have OTb := Lib.hid (And.intro oB (ownS_next ow bB))
    have BTb := Lib.hid bb
    clear b6 bB oB ow bb
    have t3 := objAt_cell OTb.out.1 3 rfl
    have LA := Lib.hid (ownS_at OTb.out.2).2.2
    have hL : va.s.leases.length ≤ 40 := (small_sv Sa.out.2.1).1.2.2
    have HA := Lib.hid ((check_zero V8 va.s).1 Sa.out.2.1).2.2.2.2.1.2
    clear x0 c1
    go_wp2
    go_loopw [59] (fun iv wr => ∃ (i : Nat), iv = .int .i64 (i : Int) ∧ i ≤ va.s.leases.length ∧ Below Xb.heap.size Xb wr) (fun iv _ => va.s.leases.length - (intOf iv).toNat)
    case atStart => exact ⟨0, rfl, by omega, Below.refl _ _⟩
    case round =>
      clear t3
      obtain ⟨i, rfl, hi, hbr⟩ := hrel
      by_cases h : (i : Int) < (va.s.leases.length : Int)
      case neg =>
        have B9 := Lib.hid (svIn_next Sb.out hbr).2.2.2.1
        clear hbr
        go_wp2
        go_ret
        exact ⟨rfl, B9.out⟩
      have hil : i < va.s.leases.length := by omega
      obtain ⟨a, ha, hal, k0, k1, k2⟩ := leasesAt_next LA.out hbr i hil
      have hU := HL.out _ (List.getElem_mem hil)
      obtain ⟨x, hxi⟩ : ∃ x, va.s.leases[i] = x := ⟨_, rfl⟩
      rw [hxi] at k0 k1 k2 hU
      have Hxi := Lib.hid hxi
      have Ha := Lib.hid ha
      clear hxi
      have bx := below_one wr (.cells #[.string x.job, .string x.node, .int .i64 x.til] 42)
      have ox := objAt_new wr #[.string x.job, .string x.node, .int .i64 x.til] 42
      obtain ⟨XB, hXB⟩ : ∃ X, wr.alloc (.cells #[.string x.job, .string x.node, .int .i64 x.til] 42) = X := ⟨_, rfl⟩
      rw [hXB] at bx ox
      have hbx := below_trans hbr bx hbr.size
      have SX := Lib.hid (svIn_next Sb.out hbx)
      have HN := Lib.hid (svNow_drew SX.out)
      have d1 : decide (x.til ≤ va.now) = false := by simp; omega
      have d2 : ¬ x.til ≤ va.now := by omega
      have BX := Lib.hid hbx
      have y0 := objAt_cell ox 0 rfl
      have y2 := objAt_cell ox 2 rfl
      have g3 := objAt_cell (objAt_next OTb.out.1 hbx) 3 rfl
      have gl := objAt_lt (objAt_next OTb.out.1 hbx)
      have yl := objAt_lt ox
      rw [Ha.out] at g3
      cases i with
      | zero =>
        clear hU bx ox hbr hbx
        have e0 : a.add (0 * 3) = a := rfl
        rw [e0] at k0 k1 k2
        clear e0
        rw [ha]
        go_wp2_with fail
        go_quiet (first | (go_at_call 20; refine Calls.quiet_of_same (HN.out _)))
        go_wp2
        go_roundw
        case rel => exact ⟨1, by simp, by omega, below_trans BX.out (drewN_below XB _) BX.out.size⟩
        case measure => simp [intOf]; omega
      | succ m' =>
        obtain ⟨a', ha', hal', p0, p1, p2⟩ := leasesAt_next LA.out hbx m' (by omega)
        obtain rfl : a = a' := by rw [ha] at ha'; simpa using ha'
        obtain ⟨y, hy⟩ : ∃ y, va.s.leases[m'] = y := ⟨_, rfl⟩
        rw [hy] at p0
        have hlt : lt y.job x.job := by
          have := List.pairwise_iff_getElem.1 HA.out m' (m' + 1) (by omega) hil (by omega)
          rw [hy, Hxi.out] at this; exact this
        have hwr : IntKind.i64.wrap (m' : Int) = (m' : Int) := IntWalk.i64_in _ (by omega)
        have hm0 : (0 : Int) ≤ (m' : Int) := by omega
        have hm1 : (m' : Int) < (va.s.leases.length : Int) := by omega
        have hl := less_toList y.job x.job
        rw [decide_eq_true hlt] at hl
        clear hy hlt hU bx ox hbr hbx p1 p2
        rw [ha]
        go_wp2_with fail
        go_quiet (first | (go_at_call 20; refine Calls.quiet_of_same (HN.out _)))
        go_wp2
        go_roundw
        case rel => exact ⟨m' + 1 + 1, by simp, by omega, below_trans BX.out (drewN_below XB _) BX.out.size⟩
        case measure => simp [intOf]; omega

theorem own : ownKnob Tryz.prog.godebug = none := by kernel_rfl
theorem laidOut : laidOutB Tryz.prog = true := by kernel_rfl
theorem laid_met (os : Os) : laidMet Tryz.prog Rows.serveLeasesRow.laid ((laidWorld os).forCall (fun _ _ => 0) ⟨#[], #[.agg #[.int .i64 0, .slice none 0 0, .slice none 0 0, .slice none 0 0], .slice none 0 0, .int .i64 0], []⟩).memory :=
  laidMet_of_run' 8 (by kernel_rfl) (by kernel_rfl)
theorem reads (os : Os) {H : Type} (enc : TypeId × Value → H) : ∃ places, DataW.whole enc Tryz.prog ((laidWorld os).forCall (fun _ _ => 0) ⟨#[], #[.agg #[.int .i64 0, .slice none 0 0, .slice none 0 0, .slice none 0 0], .slice none 0 0, .int .i64 0], []⟩).memory Tryz.f6.params.toList Rows.serveLeasesSpec.vars false #[Value.agg #[.int .i64 0, .slice none 0 0, .slice none 0 0, .slice none 0 0], Value.slice none 0 0, Value.int .i64 0].toList 8 = some ([.agg [.lit (.int .i64 0), .nil, .nil, .nil], .nil, .lit (.int .i64 0)], [], places) :=
  ⟨[], by kernel_rfl⟩
set_option maxRecDepth 100000 in
set_option maxHeartbeats 2000000 in
theorem lifted (os : Os) (started : os.Started) (H : Type) (enc : TypeId × Value → H) (F : Stop.Interp) :
    ReturnsInHanded {} Tryz.checked os 6 .any ((OpenSpec.ofChange Rows.serveLeasesSpec).preRow enc Tryz.prog Tryz.f6 Rows.serveLeasesRow.domain false Rows.serveLeasesRow.laid) (((OpenSpec.ofChange Rows.serveLeasesSpec).at F).post enc Tryz.prog Tryz.f6 false true false false) := by
  obtain ⟨places, hx⟩ := reads os enc
  refine returnsInHanded_of_row (C := Tryz.checked) (s := (OpenSpec.ofChange Rows.serveLeasesSpec)) own started (by kernel_rfl) Tryz.func6
    (witness_row_atRef (enc := enc) (C := Tryz.checked) false (laidWorld os) #[.agg #[.int .i64 0, .slice none 0 0, .slice none 0 0, .slice none 0 0], .slice none 0 0, .int .i64 0] rfl (by kernel_rfl) (by kernel_rfl) (by kernel_rfl)
      (OpenSpec.preRow_of_cond 8 hx (by kernel_rfl) (fun k hk => by cases hk) (by kernel_rfl) (laid_met os))) ?_
  intro W base args ds gs before hval0 hW _ _ hsz0 hL _ _
  have hval : ∀ (j : Nat) t v, Tryz.f6.params[j]? = some t → args[j]? = some v → Value.okWide Tryz.prog W .any base t v := hval0
  have hW' := hW
  obtain ⟨p, q, hA0, hV, rfl, hfz, hnd⟩ := hW
  have hA : DataW.TrodAll enc Tryz.prog W 0 (fun _ => true) true Tryz.f6.params.toList args.toList ds p := hA0
  have hsz : (DataW.weightsEach Tryz.prog (Tryz.f6.params.toList ++ Rows.serveLeasesSpec.plain.varTypes Tryz.prog) (ds ++ gs)).all (· ≤ reachBytes) = true := hsz0
  rw [Tryz.params6] at hA hval hsz
  obtain ⟨v0, vs0, d0, ds0, p0, q0, hargs, rfl, rfl, h0, r0⟩ := trodAll_cons hA
  obtain ⟨v1, vs1, d1, ds1, p1, q1, rfl, rfl, rfl, h1, r1⟩ := trodAll_cons r0
  obtain ⟨v2, vs2, d2, ds2, p2, q2, rfl, rfl, rfl, h2, r2⟩ := trodAll_cons r1
  obtain ⟨rfl, rfl, rfl⟩ := trodAll_nil r2
  obtain rfl : args = #[v0, v1, v2] := by cases args; simp_all
  obtain ⟨rfl, rfl⟩ := trodVars_none hV
  obtain ⟨M0, st0, rfl, m0, x0, w0⟩ := open_state (hval 0 26 v0 rfl rfl) h0
  obtain ⟨ad1, cap1, xs1, rfl, m1, x1, w1⟩ := open_requests (hval 1 27 v1 rfl rfl) h1
  obtain ⟨a2, rfl, rfl, rfl, w2⟩ := open_int Tryz.underlying3 (hval 2 3 v2 rfl rfl) h2
  have s0 := sized_state hsz rfl (j := 0) rfl x0
  have s1 := sized_requests hsz rfl (j := 1) rfl x1
  clear hA0 hval0
  refine (walk M0 st0 ad1 cap1 xs1 a2 w0 w1 w2 s0 s1 W m0 m1 (tabs_of hL)).mono fun e W' ⟨he, bel⟩ => ?_
  subst he
  exact ⟨_, rfl, _, _, _, [], _, [], hW', trodAll_mk1 (shut_bool Tryz.underlying4 _), (trodAll_cons_mk (Below.trod laidOut (by kernel_rfl) (of_decide_eq_true (by kernel_rfl)) h0 bel (fun x hx => by simpa using hW'.lt x (by simp [hx]))) (trodAll_cons_mk (Below.trod laidOut (by kernel_rfl) (of_decide_eq_true (by kernel_rfl)) h1 bel (fun x hx => by simpa using hW'.lt x (by simp [hx]))) (trodAll_cons_mk (shut_int Tryz.underlying3 w2) trodAll_mk0))), rfl, bel.frame _, fun h => by cases h⟩
theorem said : Rows.ServeLeasesSaid :=
  OpenClaim.holds_of_cond 6 Tryz.f6 rfl rfl rfl rfl rfl rfl rfl ⟨rfl, rfl, rfl, rfl, rfl⟩ rfl rfl rfl rfl rfl (by kernel_rfl) Tryz.func6 (by kernel_rfl)
    (of_decide_eq_true (by kernel_rfl)) (by unfold Func.isWrapper; first | (rw [if_pos (by decide +kernel)]; kernel_rfl) | (rw [if_neg (by decide +kernel)]; exact ⟨rfl, rfl⟩))
    (fun os started H enc _ F => by rw [OpenClaim.pre_eq_preRow]; exact lifted os started H enc F)
theorem plain (f : FuncId) (fn : Func) (hf : Tryz.pinned.checked.prog.funcNamed Rows.serveLeasesRow.func = some f) (hfn : Tryz.pinned.checked.prog.funcs[f]? = some fn) :
    false = Tryz.pinned.checked.prog.looks [] ∧ ∀ (j : Nat) t, fn.params[j]? = some t → Tryz.pinned.checked.prog.wantsStandIn t = false := by
  obtain rfl : f = 6 := Option.some.inj ((show Tryz.prog.funcNamed Rows.serveLeasesRow.func = some 6 by kernel_rfl).symm.trans hf) |>.symm
  obtain rfl : fn = Tryz.f6 := (Option.some.inj (Tryz.func6.symm.trans hfn)).symm
  refine ⟨by kernel_rfl, fun j t ht => ?_⟩
  rw [Tryz.params6] at ht
  have hm : t = 26 ∨ t = 27 ∨ t = 3 := by simpa using Array.mem_of_getElem? ht
  rcases hm with rfl | rfl | rfl
  · exact (show Tryz.prog.wantsStandIn 26 = false by kernel_rfl)
  · exact (show Tryz.prog.wantsStandIn 27 = false by kernel_rfl)
  · exact (show Tryz.prog.wantsStandIn 3 = false by kernel_rfl)
theorem proved : Rows.ServeLeasesCardSaid :=
  Claim7.holds_tied_plain_at .later [] _ _ _ _ said (fun _ h => by cases h) (by kernel_rfl) (fun _ h => by cases h) serveLeases_row_tie rfl ⟨rfl, rfl⟩ (by kernel_rfl) rfl plain (by kernel_rfl)
#print axioms proved
end Go.Proofs.YtiilagmmgpnpdaaGreatDoor.serveLeases
