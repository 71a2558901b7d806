/- For every state and every number the law DeltaNone of the package brackenkeep returns true, as a tied card: of what is the same nothing is told but the revisions. Condition: the library's two tables unicode/utf8.first and acceptRanges start as their text lays them (the card ties them; first is pinned). -/
import Derived.Test.YtfbakobmlbjncaaGreatDoorDlNone
namespace Go.Proofs.YtfbakobmlbjncaaGreatDoor.deltaNone
open Go.ChangeShapes Go.WideShapes Go.ChangeAt Go.RowKit
set_option linter.unusedVariables false

set_option maxRecDepth 100000 in
set_option maxHeartbeats 4000000 in
theorem walk (Ms : StM) (s : StD) (v0 : Int) (hws : wState s) (hv0 : (Lit.int .i64 v0).wf = true) (hzs : SzState s) (w : World) (hms : StateAt w Ms s) (hT : Tabs w) :
    Calls Tryz.prog 7 #[stV Ms s, .int .i64 v0] w fun e w' => e = .returned (.bool true) ∧ Below w.heap.size w w' := by
  obtain ⟨ajs, cjs, ans, cns, als, cls⟩ := Ms
  have hms : JobsAt w ajs s.jobs ∧ NodesAt w ans s.nodes ∧ LeasesAt w als s.leases := hms
  show Calls _ _ #[.agg #[.int .i64 s.rev, .slice ajs s.jobs.length cjs, .slice ans s.nodes.length cns, .slice als s.leases.length cls], .int .i64 v0] _ _
  have B0 : Below w.heap.size w w := Below.refl _ _
  have bA := below_one w (.cells #[.int .i64 s.rev, .slice ajs s.jobs.length cjs, .slice ans s.nodes.length cns, .slice als s.leases.length cls] 26)
  have iN := bxS_new (cj := cjs) (cn := cns) (cl := cls) (w := w) (And.intro (jobsAt_next hms.1 B0) (And.intro (nodesAt_next hms.2.1 B0) (leasesAt_next hms.2.2 B0)))
  have Is0 := iN
  have B0 := below_trans B0 bA B0.size
  clear bA iN
  obtain ⟨W0, hW0⟩ : ∃ W0, (w.alloc (.cells #[.int .i64 s.rev, .slice ajs s.jobs.length cjs, .slice ans s.nodes.length cns, .slice als s.leases.length cls] 26)) = W0 := ⟨_, rfl⟩
  rw [hW0] at B0 Is0
  have HT := Lib.hid hT
  have HWs := Lib.hid hws
  have HMs := Lib.hid hms
  try simp only [World.size_alloc] at Is0
  have B0 := Lib.hid B0
  have Is0 := Lib.hid Is0
  clear hT hms hws hzs
  obtain ⟨ec, hec⟩ : ∃ e, checkE V8 s = e := ⟨_, rfl⟩
  have HC := Lib.hid hec
  by_cases hc : ec ≠ 0
  · have hc' : ((ec : Int) != 0) = true := by simp; omega
    clear hc hec
    have C := Lib.hid (differed_is W0 (HT.out.below B0.out))
    go_enter Tryz.func7, Tryz.ntmps7
    go_wp2_with fail
    refine C.out.mono ?_
    rintro e W1 ⟨rfl, b⟩
    have Is1 := Lib.hid (bxS_next Is0.out b)
    have B1 := Lib.hid (below_trans B0.out b B0.out.size)
    clear b C
    have C := Lib.hid ((by have h := check_any s.rev ajs ans als cjs cns cls s.jobs s.nodes s.leases HWs.out W1 (HT.out.below B1.out) Is1.out.2.1 Is1.out.2.2.1 Is1.out.2.2.2; rw [show (⟨s.rev, s.jobs, s.nodes, s.leases⟩ : StD) = s from rfl, HC.out] at h; exact h : Calls Tryz.prog 25 #[.agg #[.int .i64 s.rev, .slice ajs s.jobs.length cjs, .slice ans s.nodes.length cns, .slice als s.leases.length cls]] W1 fun e w' => e = .returned (.int .i64 (ec : Nat)) ∧ Below W1.heap.size W1 w'))
    obtain ⟨zs0, zs1, zs2, zs3⟩ := bxS_cells Is1.out
    go_wp2_with fail
    refine C.out.mono ?_
    rintro e W2 ⟨rfl, b⟩
    clear zs0 zs1 zs2 zs3
    have Is2 := Lib.hid (bxS_next Is1.out b)
    have B2 := Lib.hid (below_trans B1.out b B1.out.size)
    clear b C
    go_wp2
    go_ret
    exact ⟨rfl, B2.out⟩
  obtain rfl : ec = 0 := by simpa using hc
  clear hc
  have hv := ((check_zero V8 s).1 hec).1
  clear hec
  by_cases hr : 1099511627776 ≤ s.rev
  · skip
    have C := Lib.hid (differed_is W0 (HT.out.below B0.out))
    go_enter Tryz.func7, Tryz.ntmps7
    go_wp2_with fail
    refine C.out.mono ?_
    rintro e W1 ⟨rfl, b⟩
    have Is1 := Lib.hid (bxS_next Is0.out b)
    have B1 := Lib.hid (below_trans B0.out b B0.out.size)
    clear b C
    have C := Lib.hid ((by have h := check_any s.rev ajs ans als cjs cns cls s.jobs s.nodes s.leases HWs.out W1 (HT.out.below B1.out) Is1.out.2.1 Is1.out.2.2.1 Is1.out.2.2.2; rw [show (⟨s.rev, s.jobs, s.nodes, s.leases⟩ : StD) = s from rfl, HC.out] at h; exact h : Calls Tryz.prog 25 #[.agg #[.int .i64 s.rev, .slice ajs s.jobs.length cjs, .slice ans s.nodes.length cns, .slice als s.leases.length cls]] W1 fun e w' => e = .returned (.int .i64 (0 : Nat)) ∧ Below W1.heap.size W1 w'))
    obtain ⟨zs0, zs1, zs2, zs3⟩ := bxS_cells Is1.out
    go_wp2_with fail
    refine C.out.mono ?_
    rintro e W2 ⟨rfl, b⟩
    clear zs0 zs1 zs2 zs3
    have Is2 := Lib.hid (bxS_next Is1.out b)
    have B2 := Lib.hid (below_trans B1.out b B1.out.size)
    clear b C
    obtain ⟨zs0, zs1, zs2, zs3⟩ := bxS_cells Is2.out
    go_wp2
    go_ret
    exact ⟨rfl, B2.out⟩
  have hr2 : s.rev < 1099511627776 := by omega
  obtain ⟨q, hq⟩ : ∃ q, v0 % (1099511627776 - s.rev) = q := ⟨_, rfl⟩
  have hq0 : 0 ≤ q ∧ q < 1099511627776 - s.rev := by rw [← hq]; exact ⟨Int.emod_nonneg _ (by omega), Int.emod_lt_of_pos _ (by omega)⟩
  have HR := Lib.hid (fun W' => rest_is v0 (1099511627776 - s.rev) (by omega) (by omega) W')
  rw [hq] at HR
  obtain ⟨k, hk⟩ : ∃ k, s.rev + 1 + q = k := ⟨_, rfl⟩
  have HK : Hid (s.rev < k ∧ k ≤ 1099511627776) := by show _ ∧ _; omega
  have u1 : IntKind.i64.wrap (s.rev + 1) = s.rev + 1 := IntWalk.i64_in _ (by omega)
  have u2 : IntKind.i64.wrap (1099511627776 - s.rev) = 1099511627776 - s.rev := IntWalk.i64_in _ (by omega)
  have u3 : IntKind.i64.wrap (s.rev + 1 + q) = k := by rw [← hk]; exact IntWalk.i64_in _ (by omega)
  have u4 : ¬ (1099511627776 ≤ s.rev) := by omega
  clear hk hq hq0 hr hv hv0
  have C := Lib.hid (differed_is W0 (HT.out.below B0.out))
  go_enter Tryz.func7, Tryz.ntmps7
  go_wp2_with fail
  refine C.out.mono ?_
  rintro e W1 ⟨rfl, b⟩
  have Is1 := Lib.hid (bxS_next Is0.out b)
  have B1 := Lib.hid (below_trans B0.out b B0.out.size)
  clear b C
  have C := Lib.hid ((by have h := check_any s.rev ajs ans als cjs cns cls s.jobs s.nodes s.leases HWs.out W1 (HT.out.below B1.out) Is1.out.2.1 Is1.out.2.2.1 Is1.out.2.2.2; rw [show (⟨s.rev, s.jobs, s.nodes, s.leases⟩ : StD) = s from rfl, HC.out] at h; exact h : Calls Tryz.prog 25 #[.agg #[.int .i64 s.rev, .slice ajs s.jobs.length cjs, .slice ans s.nodes.length cns, .slice als s.leases.length cls]] W1 fun e w' => e = .returned (.int .i64 (0 : Nat)) ∧ Below W1.heap.size W1 w'))
  obtain ⟨zs0, zs1, zs2, zs3⟩ := bxS_cells Is1.out
  go_wp2_with fail
  refine C.out.mono ?_
  rintro e W2 ⟨rfl, b⟩
  clear zs0 zs1 zs2 zs3
  have Is2 := Lib.hid (bxS_next Is1.out b)
  have B2 := Lib.hid (below_trans B1.out b B1.out.size)
  clear b C
  obtain ⟨Lt, hLt⟩ : ∃ L, W2.heap.size = L := ⟨_, rfl⟩
  obtain ⟨V, hV⟩ : ∃ V, W2.alloc (.cells #[.int .i64 s.rev, .slice ajs s.jobs.length cjs, .slice ans s.nodes.length cns, .slice als s.leases.length cls] 26) = V := ⟨_, rfl⟩
  have bA := below_one W2 (.cells #[.int .i64 s.rev, .slice ajs s.jobs.length cjs, .slice ans s.nodes.length cns, .slice als s.leases.length cls] 26)
  have oT := objAt_new W2 #[.int .i64 s.rev, .slice ajs s.jobs.length cjs, .slice ans s.nodes.length cns, .slice als s.leases.length cls] 26
  have oS := objAt_next Is2.out.1 bA
  rw [hV] at bA oT oS
  rw [hLt] at oT
  have BV := below_trans B2.out bA B2.out.size
  have hne : w.heap.size < Lt := by have := objAt_lt Is2.out.1; omega
  have y0 := objAt_cell Is2.out.1 0 rfl
  have y1 := objAt_cell Is2.out.1 1 rfl
  have y2 := objAt_cell Is2.out.1 2 rfl
  have y3 := objAt_cell Is2.out.1 3 rfl
  have yl := objAt_lt Is2.out.1
  have z0 := objAt_cell oS 0 rfl
  have zl := objAt_lt oS
  have t0 := objAt_cell oT 0 rfl
  have f0 := objAt_free oT 0
  have tl := objAt_lt oT
  have PP := Lib.hid (And.intro oS (And.intro oT (And.intro BV hne)))
  have HV := Lib.hid hV
  have KK := Lib.hid hLt
  clear oS oT BV hne bA hV
  go_upto_region 6 with fail
  rw [HV.out]
  clear y0 y1 y2 y3 yl
  go_cut [] from 29 (fun wc => ObjAt w.heap.size #[.int .i64 s.rev, .slice ajs s.jobs.length cjs, .slice ans s.nodes.length cns, .slice als s.leases.length cls] 26 wc ∧ ObjAt Lt #[.int .i64 k, .slice ajs s.jobs.length cjs, .slice ans s.nodes.length cns, .slice als s.leases.length cls] 26 wc ∧ Below w.heap.size w wc)
  case first =>
    go_region_law (first | (go_simp; go_at_call 26; (with_reducible refine (HR.out _).mono ?_); rintro e w' ⟨rfl, rfl⟩))
    all_goals
      go_wp2_with fail
      go_meet
      case rel =>
        obtain ⟨oS, oT, BV, hne⟩ := PP.out
        have R1 := objAt_other oS (Nat.ne_of_lt hne) 0 (.int .i64 k)
        have R2 : ObjAt Lt #[.int .i64 k, .slice ajs s.jobs.length cjs, .slice ans s.nodes.length cns, .slice als s.leases.length cls] 26 _ := objAt_set oT 0 (.int .i64 k)
        have R3 := BV.setCell (p := ⟨Lt, 0, none⟩) (Nat.le_of_lt hne) (.int .i64 k)
        exact ⟨objAt_drew R1, objAt_drew R2, R3.drew⟩
  case rest =>
    obtain ⟨oS, oT, BC⟩ := hcut
    clear z0 zl t0 f0 tl PP u1 u2 u3 u4
    have y0 := objAt_cell oS 0 rfl
    have t0 := objAt_cell oT 0 rfl
    have y1 := objAt_cell oS 1 rfl
    have t1 := objAt_cell oT 1 rfl
    have y2 := objAt_cell oS 2 rfl
    have t2 := objAt_cell oT 2 rfl
    have y3 := objAt_cell oS 3 rfl
    have t3 := objAt_cell oT 3 rfl
    have yl := objAt_lt oS
    have tl := objAt_lt oT
    have C := Lib.hid (ddiff_none (cj := cjs) (cn := cns) (cl := cls) HWs.out HC.out HK.out (HT.out.below BC) ⟨jobsAt_next HMs.out.1 BC, nodesAt_next HMs.out.2.1 BC, leasesAt_next HMs.out.2.2 BC⟩)
    have PP := Lib.hid (And.intro oS (And.intro oT BC))
    clear oS oT BC
    go_wp2_with fail
    refine C.out.mono ?_
    rintro e w5 ⟨M, rfl, ow, b⟩
    obtain ⟨oS, oT, BC⟩ := PP.out
    obtain ⟨Ld, hLd⟩ : ∃ L, w5.heap.size = L := ⟨_, rfl⟩
    obtain ⟨W5, hW5⟩ : ∃ W, w5.alloc (.cells #[.int .i64 s.rev, .int .i64 k, .slice M.aj 0 M.cj, .slice M.an 0 M.cn, .slice M.al 0 M.cl, .slice M.gj 0 M.hj, .slice M.gn 0 M.hn, .slice M.gl 0 M.hl] 29) = W := ⟨_, rfl⟩
    have bA := below_one w5 (.cells #[.int .i64 s.rev, .int .i64 k, .slice M.aj 0 M.cj, .slice M.an 0 M.cn, .slice M.al 0 M.cl, .slice M.gj 0 M.hj, .slice M.gn 0 M.hn, .slice M.gl 0 M.hl] 29)
    have oD := objAt_new w5 #[.int .i64 s.rev, .int .i64 k, .slice M.aj 0 M.cj, .slice M.an 0 M.cn, .slice M.al 0 M.cl, .slice M.gj 0 M.hj, .slice M.gn 0 M.hn, .slice M.gl 0 M.hl] 29
    rw [hW5] at bA oD
    rw [hLd] at oD
    have oS5 := objAt_next (objAt_next oS b) bA
    have oT5 := objAt_next (objAt_next oT b) bA
    have DA := deltaAt_next (ownD_at ow) bA
    have B5 := below_trans (below_trans BC b BC.size) bA (Nat.le_trans BC.size b.size)
    have C2 := Lib.hid (deltaEq_none DA)
    clear y0 y1 y2 y3 t0 t1 t2 t3 yl tl
    have y0 := objAt_cell oS5 0 rfl
    have t0 := objAt_cell oT5 0 rfl
    have m0 := objAt_cell oD 0 rfl
    have m1 := objAt_cell oD 1 rfl
    have m2 := objAt_cell oD 2 rfl
    have m3 := objAt_cell oD 3 rfl
    have m4 := objAt_cell oD 4 rfl
    have m5 := objAt_cell oD 5 rfl
    have m6 := objAt_cell oD 6 rfl
    have m7 := objAt_cell oD 7 rfl
    have BB := Lib.hid B5
    clear oS oT BC b bA oD oS5 oT5 DA B5 ow C PP
    go_wp2_with fail
    refine C2.out.mono ?_
    rintro e W6 ⟨rfl, b⟩
    have BF := Lib.hid (below_trans BB.out b BB.out.size)
    clear b
    go_wp2
    go_ret
    exact ⟨rfl, BF.out⟩

theorem own : ownKnob Tryz.prog.godebug = none := by kernel_rfl
theorem laidOut : laidOutB Tryz.prog = true := by kernel_rfl
theorem laid_met (os : Os) : laidMet Tryz.prog Rows.deltaNoneRow.laid ((laidWorld os).forCall (fun _ _ => 0) ⟨#[], #[.agg #[.int .i64 0, .slice none 0 0, .slice none 0 0, .slice none 0 0], .int .i64 0], []⟩).memory :=
  laidMet_of_run' 8 (by kernel_rfl) (by kernel_rfl)
theorem reads (os : Os) {H : Type} (enc : TypeId × Value → H) : ∃ places, DataW.whole enc Tryz.prog ((laidWorld os).forCall (fun _ _ => 0) ⟨#[], #[.agg #[.int .i64 0, .slice none 0 0, .slice none 0 0, .slice none 0 0], .int .i64 0], []⟩).memory Tryz.f7.params.toList Rows.deltaNoneSpec.vars false #[Value.agg #[.int .i64 0, .slice none 0 0, .slice none 0 0, .slice none 0 0], Value.int .i64 0].toList 8 = some ([.agg [.lit (.int .i64 0), .nil, .nil, .nil], .lit (.int .i64 0)], [], places) :=
  ⟨[], by kernel_rfl⟩
set_option maxRecDepth 100000 in
set_option maxHeartbeats 2000000 in
theorem lifted (os : Os) (started : os.Started) (H : Type) (enc : TypeId × Value → H) (F : Stop.Interp) :
    ReturnsInHanded {} Tryz.checked os 7 .any ((OpenSpec.ofChange Rows.deltaNoneSpec).preRow enc Tryz.prog Tryz.f7 Rows.deltaNoneRow.domain false Rows.deltaNoneRow.laid) (((OpenSpec.ofChange Rows.deltaNoneSpec).at F).post enc Tryz.prog Tryz.f7 false true false false) := by
  obtain ⟨places, hx⟩ := reads os enc
  refine returnsInHanded_of_row (C := Tryz.checked) (s := (OpenSpec.ofChange Rows.deltaNoneSpec)) own started (by kernel_rfl) Tryz.func7
    (witness_row_atRef (enc := enc) (C := Tryz.checked) false (laidWorld os) #[.agg #[.int .i64 0, .slice none 0 0, .slice none 0 0, .slice none 0 0], .int .i64 0] rfl (by kernel_rfl) (by kernel_rfl) (by kernel_rfl)
      (OpenSpec.preRow_of_cond 8 hx (by kernel_rfl) (fun k hk => by cases hk) (by kernel_rfl) (laid_met os))) ?_
  intro W base args ds gs before hval0 hW _ _ hsz0 hL _ _
  have hval : ∀ (j : Nat) t v, Tryz.f7.params[j]? = some t → args[j]? = some v → Value.okWide Tryz.prog W .any base t v := hval0
  have hW' := hW
  obtain ⟨p, q, hA0, hV, rfl, hfz, hnd⟩ := hW
  have hA : DataW.TrodAll enc Tryz.prog W 0 (fun _ => true) true Tryz.f7.params.toList args.toList ds p := hA0
  have hsz : (DataW.weightsEach Tryz.prog (Tryz.f7.params.toList ++ Rows.deltaNoneSpec.plain.varTypes Tryz.prog) (ds ++ gs)).all (· ≤ reachBytes) = true := hsz0
  rw [Tryz.params7] at hA hval hsz
  obtain ⟨v0, vs0, d0, ds0, p0, q0, hargs, rfl, rfl, h0, r0⟩ := trodAll_cons hA
  obtain ⟨v1, vs1, d1, ds1, p1, q1, rfl, rfl, rfl, h1, r1⟩ := trodAll_cons r0
  obtain ⟨rfl, rfl, rfl⟩ := trodAll_nil r1
  obtain rfl : args = #[v0, v1] := by cases args; simp_all
  obtain ⟨rfl, rfl⟩ := trodVars_none hV
  obtain ⟨M0, st0, rfl, m0, x0, w0⟩ := open_state (hval 0 26 v0 rfl rfl) h0
  obtain ⟨a1, rfl, rfl, rfl, w1⟩ := open_int Tryz.underlying3 (hval 1 3 v1 rfl rfl) h1
  have s0 := sized_state hsz rfl (j := 0) rfl x0
  clear hA0 hval0
  refine (walk M0 st0 a1 w0 w1 s0 W m0 (tabs_of hL)).mono fun e W' ⟨he, bel⟩ => ?_
  subst he
  exact ⟨_, rfl, _, _, _, [], _, [], hW', trodAll_mk1 (shut_bool Tryz.underlying4 _), (trodAll_cons_mk (Below.trod laidOut (by kernel_rfl) (of_decide_eq_true (by kernel_rfl)) h0 bel (fun x hx => by simpa using hW'.lt x (by simp [hx]))) (trodAll_cons_mk (shut_int Tryz.underlying3 w1) trodAll_mk0)), rfl, bel.frame _, fun h => by cases h⟩
theorem said : Rows.DeltaNoneSaid :=
  OpenClaim.holds_of_cond 7 Tryz.f7 rfl rfl rfl rfl rfl rfl rfl ⟨rfl, rfl, rfl, rfl, rfl⟩ rfl rfl rfl rfl rfl (by kernel_rfl) Tryz.func7 (by kernel_rfl)
    (of_decide_eq_true (by kernel_rfl)) (by unfold Func.isWrapper; first | (rw [if_pos (by decide +kernel)]; kernel_rfl) | (rw [if_neg (by decide +kernel)]; exact ⟨rfl, rfl⟩))
    (fun os started H enc _ F => by rw [OpenClaim.pre_eq_preRow]; exact lifted os started H enc F)
theorem plain (f : FuncId) (fn : Func) (hf : Tryz.pinned.checked.prog.funcNamed Rows.deltaNoneRow.func = some f) (hfn : Tryz.pinned.checked.prog.funcs[f]? = some fn) :
    false = Tryz.pinned.checked.prog.looks [] ∧ ∀ (j : Nat) t, fn.params[j]? = some t → Tryz.pinned.checked.prog.wantsStandIn t = false := by
  obtain rfl : f = 7 := Option.some.inj ((show Tryz.prog.funcNamed Rows.deltaNoneRow.func = some 7 by kernel_rfl).symm.trans hf) |>.symm
  obtain rfl : fn = Tryz.f7 := (Option.some.inj (Tryz.func7.symm.trans hfn)).symm
  refine ⟨by kernel_rfl, fun j t ht => ?_⟩
  rw [Tryz.params7] at ht
  have hm : t = 26 ∨ t = 3 := by simpa using Array.mem_of_getElem? ht
  rcases hm with rfl | rfl
  · exact (show Tryz.prog.wantsStandIn 26 = false by kernel_rfl)
  · exact (show Tryz.prog.wantsStandIn 3 = false by kernel_rfl)
theorem proved : Rows.DeltaNoneCardSaid :=
  Claim7.holds_tied_plain_at .later [] _ _ _ _ said (fun _ h => by cases h) (by kernel_rfl) (fun _ h => by cases h) deltaNone_row_tie rfl ⟨rfl, rfl⟩ (by kernel_rfl) rfl plain (by kernel_rfl)
#print axioms proved
end Go.Proofs.YtfbakobmlbjncaaGreatDoor.deltaNone
