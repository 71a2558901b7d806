/- For every two states the law DeltaDiffs of the package brackenlaw returns true, as a tied card: Diff returns what the reference returns. Condition: the library's two tables unicode/utf8.first and acceptRanges start as their text lays them (the card ties them; first is pinned). -/
import Derived.Test.YthfbjmjohmkfjaaGreatDoorDlUse
import Derived.Test.YthfbjmjohmkfjaaGreatDoorDlRDiff
namespace Go.Proofs.YthfbjmjohmkfjaaGreatDoor.deltaDiffs
open Go.ChangeShapes Go.WideShapes Go.ChangeAt Go.RowKit
set_option linter.unusedVariables false

set_option maxRecDepth 100000 in
set_option maxHeartbeats 4000000 in
theorem walk (Ms : StM) (s : StD) (Mt : StM) (t : StD) (hws : wState s) (hwt : wState t) (hzs : SzState s) (hzt : SzState t) (w : World) (hms : StateAt w Ms s) (hmt : StateAt w Mt t) (hT : Tabs w) :
    Calls Tryz.prog 3 #[stV Ms s, stV Mt t] w fun e w' => e = .returned (.bool true) ∧ Below w.heap.size w w' := by
  obtain ⟨ajs, cjs, ans, cns, als, cls⟩ := Ms
  have hms : JobsAt w ajs s.jobs ∧ NodesAt w ans s.nodes ∧ LeasesAt w als s.leases := hms
  obtain ⟨ajt, cjt, ant, cnt, alt, clt⟩ := Mt
  have hmt : JobsAt w ajt t.jobs ∧ NodesAt w ant t.nodes ∧ LeasesAt w alt t.leases := hmt
  show Calls _ _ #[.agg #[.int .i64 s.rev, .slice ajs s.jobs.length cjs, .slice ans s.nodes.length cns, .slice als s.leases.length cls], .agg #[.int .i64 t.rev, .slice ajt t.jobs.length cjt, .slice ant t.nodes.length cnt, .slice alt t.leases.length clt]] _ _
  have B0 : Below w.heap.size w w := Below.refl _ _
  have bA := below_one w (.cells #[.int .i64 s.rev, .slice ajs s.jobs.length cjs, .slice ans s.nodes.length cns, .slice als s.leases.length cls] 26)
  have iN := bxS_new (cj := cjs) (cn := cns) (cl := cls) (w := w) (And.intro (jobsAt_next hms.1 B0) (And.intro (nodesAt_next hms.2.1 B0) (leasesAt_next hms.2.2 B0)))
  have Is0 := iN
  have B0 := below_trans B0 bA B0.size
  clear bA iN
  have bA := below_one (w.alloc (.cells #[.int .i64 s.rev, .slice ajs s.jobs.length cjs, .slice ans s.nodes.length cns, .slice als s.leases.length cls] 26)) (.cells #[.int .i64 t.rev, .slice ajt t.jobs.length cjt, .slice ant t.nodes.length cnt, .slice alt t.leases.length clt] 26)
  have iN := bxS_new (cj := cjt) (cn := cnt) (cl := clt) (w := (w.alloc (.cells #[.int .i64 s.rev, .slice ajs s.jobs.length cjs, .slice ans s.nodes.length cns, .slice als s.leases.length cls] 26))) (And.intro (jobsAt_next hmt.1 B0) (And.intro (nodesAt_next hmt.2.1 B0) (leasesAt_next hmt.2.2 B0)))
  have Is0 := bxS_next Is0 bA
  have It0 := iN
  have B0 := below_trans B0 bA B0.size
  clear bA iN
  obtain ⟨W0, hW0⟩ : ∃ W0, ((w.alloc (.cells #[.int .i64 s.rev, .slice ajs s.jobs.length cjs, .slice ans s.nodes.length cns, .slice als s.leases.length cls] 26)).alloc (.cells #[.int .i64 t.rev, .slice ajt t.jobs.length cjt, .slice ant t.nodes.length cnt, .slice alt t.leases.length clt] 26)) = W0 := ⟨_, rfl⟩
  rw [hW0] at B0 Is0 It0
  have HT := Lib.hid hT
  have HWs := Lib.hid hws
  have HWt := Lib.hid hwt
  try simp only [World.size_alloc] at Is0 It0
  have B0 := Lib.hid B0
  have Is0 := Lib.hid Is0
  have It0 := Lib.hid It0
  clear hT hms hws hzs hmt hwt hzt
  obtain ⟨⟨D, c⟩, e1⟩ : ∃ Q, diffR V8 s t = Q := ⟨_, rfl⟩
  have HLD : Hid (LenD D) := by
    show LenD D
    rcases diff_cases s t with ⟨c', hc, e2⟩ | ⟨e2, h1, h2, h3⟩
    · rw [e1] at e2; simp only [Prod.mk.injEq] at e2; rw [e2.1]; exact lenD_zero
    · rw [e1] at e2; simp only [Prod.mk.injEq] at e2; rw [e2.1]; exact lenD_valid (dcheck_diff h1 h2 h3)
  have E1 := Lib.hid e1
  clear e1
  have C := Lib.hid (ddiff_at (cj := cjs) (cn := cns) (cl := cls) (dj := cjt) (dn := cnt) (dl := clt) HWs.out HWt.out E1.out (HT.out.below B0.out) Is0.out.2 It0.out.2)
  obtain ⟨zs0, zs1, zs2, zs3⟩ := bxS_cells Is0.out
  obtain ⟨zt0, zt1, zt2, zt3⟩ := bxS_cells It0.out
  go_enter Tryz.func3, Tryz.ntmps3
  go_wp2_with fail
  refine C.out.mono ?_
  rintro e w1 ⟨Mx, rfl, ow, b⟩
  clear zs0 zs1 zs2 zs3 zt0 zt1 zt2 zt3
  obtain ⟨Lx, hLx⟩ : ∃ L, w1.heap.size = L := ⟨_, rfl⟩
  obtain ⟨W1, hW1⟩ : ∃ W, w1.alloc (.cells #[.int .i64 D.frm, .int .i64 D.til, .slice Mx.aj D.jobs.length Mx.cj, .slice Mx.an D.nodes.length Mx.cn, .slice Mx.al D.leases.length Mx.cl, .slice Mx.gj D.gj.length Mx.hj, .slice Mx.gn D.gn.length Mx.hn, .slice Mx.gl D.gl.length Mx.hl] 29) = W := ⟨_, rfl⟩
  have bA := below_one w1 (.cells #[.int .i64 D.frm, .int .i64 D.til, .slice Mx.aj D.jobs.length Mx.cj, .slice Mx.an D.nodes.length Mx.cn, .slice Mx.al D.leases.length Mx.cl, .slice Mx.gj D.gj.length Mx.hj, .slice Mx.gn D.gn.length Mx.hn, .slice Mx.gl D.gl.length Mx.hl] 29)
  have iN := bxD_new (ownD_at ow)
  rw [hW1] at bA iN
  rw [hLx] at iN
  have Is1 := Lib.hid (bxS_next (bxS_next Is0.out b) bA)
  have It1 := Lib.hid (bxS_next (bxS_next It0.out b) bA)
  have Ix1 := Lib.hid iN
  have B1 := Lib.hid (below_trans (below_trans B0.out b B0.out.size) bA (Nat.le_trans B0.out.size b.size))
  clear bA iN ow b C
  have C := Lib.hid (rdiff_at (cj := cjs) (cn := cns) (cl := cls) (dj := cjt) (dn := cnt) (dl := clt) E1.out Is1.out.2 It1.out.2)
  obtain ⟨zs0, zs1, zs2, zs3⟩ := bxS_cells Is1.out
  obtain ⟨zt0, zt1, zt2, zt3⟩ := bxS_cells It1.out
  go_wp2_with fail
  refine C.out.mono ?_
  rintro e w2 ⟨My, rfl, ow, b⟩
  clear zs0 zs1 zs2 zs3 zt0 zt1 zt2 zt3
  obtain ⟨Ly, hLy⟩ : ∃ L, w2.heap.size = L := ⟨_, rfl⟩
  obtain ⟨W2, hW2⟩ : ∃ W, w2.alloc (.cells #[.int .i64 D.frm, .int .i64 D.til, .slice My.aj D.jobs.length My.cj, .slice My.an D.nodes.length My.cn, .slice My.al D.leases.length My.cl, .slice My.gj D.gj.length My.hj, .slice My.gn D.gn.length My.hn, .slice My.gl D.gl.length My.hl] 29) = W := ⟨_, rfl⟩
  have bA := below_one w2 (.cells #[.int .i64 D.frm, .int .i64 D.til, .slice My.aj D.jobs.length My.cj, .slice My.an D.nodes.length My.cn, .slice My.al D.leases.length My.cl, .slice My.gj D.gj.length My.hj, .slice My.gn D.gn.length My.hn, .slice My.gl D.gl.length My.hl] 29)
  have iN := bxD_new (ownD_at ow)
  rw [hW2] at bA iN
  rw [hLy] at iN
  have Is2 := Lib.hid (bxS_next (bxS_next Is1.out b) bA)
  have It2 := Lib.hid (bxS_next (bxS_next It1.out b) bA)
  have Ix2 := Lib.hid (bxD_next (bxD_next Ix1.out b) bA)
  have Iy2 := Lib.hid iN
  have B2 := Lib.hid (below_trans (below_trans B1.out b B1.out.size) bA (Nat.le_trans B1.out.size b.size))
  clear bA iN ow b C
  have C := Lib.hid (deltaEq_at HLD.out Ix2.out.2 Iy2.out.2)
  obtain ⟨zx0, zx1, zx2, zx3, zx4, zx5, zx6, zx7⟩ := bxD_cells Ix2.out
  obtain ⟨zy0, zy1, zy2, zy3, zy4, zy5, zy6, zy7⟩ := bxD_cells Iy2.out
  go_wp2_with fail
  refine C.out.mono ?_
  rintro e W3 ⟨c0, rfl, hc, b⟩
  clear zx0 zx1 zx2 zx3 zx4 zx5 zx6 zx7 zy0 zy1 zy2 zy3 zy4 zy5 zy6 zy7
  obtain rfl : c0 = true := hc.2 (by first | rfl | trivial)
  clear hc
  have Is3 := Lib.hid (bxS_next Is2.out b)
  have It3 := Lib.hid (bxS_next It2.out b)
  have Ix3 := Lib.hid (bxD_next Ix2.out b)
  have Iy3 := Lib.hid (bxD_next Iy2.out b)
  have B3 := Lib.hid (below_trans B2.out b B2.out.size)
  clear b C
  have hcc : ((c : Int) == (c : Int)) = true := by simp
  have C := Lib.hid (dcheck_none W3 (HT.out.below B3.out))
  go_wp2_with fail
  refine C.out.mono ?_
  rintro e W4 ⟨rfl, b⟩
  have Is4 := Lib.hid (bxS_next Is3.out b)
  have It4 := Lib.hid (bxS_next It3.out b)
  have Ix4 := Lib.hid (bxD_next Ix3.out b)
  have Iy4 := Lib.hid (bxD_next Iy3.out b)
  have B4 := Lib.hid (below_trans B3.out b B3.out.size)
  clear b C
  go_wp2
  go_ret
  exact ⟨rfl, B4.out⟩

theorem own : ownKnob Tryz.prog.godebug = none := by kernel_rfl
theorem laidOut : laidOutB Tryz.prog = true := by kernel_rfl
theorem laid_met (os : Os) : laidMet Tryz.prog Rows.deltaDiffsRow.laid ((laidWorld os).forCall (fun _ _ => 0) ⟨#[], #[.agg #[.int .i64 0, .slice none 0 0, .slice none 0 0, .slice none 0 0], .agg #[.int .i64 0, .slice none 0 0, .slice none 0 0, .slice none 0 0]], []⟩).memory :=
  laidMet_of_run' 8 (by kernel_rfl) (by kernel_rfl)
theorem reads (os : Os) {H : Type} (enc : TypeId × Value → H) : ∃ places, DataW.whole enc Tryz.prog ((laidWorld os).forCall (fun _ _ => 0) ⟨#[], #[.agg #[.int .i64 0, .slice none 0 0, .slice none 0 0, .slice none 0 0], .agg #[.int .i64 0, .slice none 0 0, .slice none 0 0, .slice none 0 0]], []⟩).memory Tryz.f3.params.toList Rows.deltaDiffsSpec.vars false #[Value.agg #[.int .i64 0, .slice none 0 0, .slice none 0 0, .slice none 0 0], Value.agg #[.int .i64 0, .slice none 0 0, .slice none 0 0, .slice none 0 0]].toList 8 = some ([.agg [.lit (.int .i64 0), .nil, .nil, .nil], .agg [.lit (.int .i64 0), .nil, .nil, .nil]], [], places) :=
  ⟨[], by kernel_rfl⟩
set_option maxRecDepth 100000 in
set_option maxHeartbeats 2000000 in
theorem lifted (os : Os) (started : os.Started) (H : Type) (enc : TypeId × Value → H) (F : Stop.Interp) :
    ReturnsInHanded {} Tryz.checked os 3 .any ((OpenSpec.ofChange Rows.deltaDiffsSpec).preRow enc Tryz.prog Tryz.f3 Rows.deltaDiffsRow.domain false Rows.deltaDiffsRow.laid) (((OpenSpec.ofChange Rows.deltaDiffsSpec).at F).post enc Tryz.prog Tryz.f3 false true false false) := by
  obtain ⟨places, hx⟩ := reads os enc
  refine returnsInHanded_of_row (C := Tryz.checked) (s := (OpenSpec.ofChange Rows.deltaDiffsSpec)) own started (by kernel_rfl) Tryz.func3
    (witness_row_atRef (enc := enc) (C := Tryz.checked) false (laidWorld os) #[.agg #[.int .i64 0, .slice none 0 0, .slice none 0 0, .slice none 0 0], .agg #[.int .i64 0, .slice none 0 0, .slice none 0 0, .slice none 0 0]] rfl (by kernel_rfl) (by kernel_rfl) (by kernel_rfl)
      (OpenSpec.preRow_of_cond 8 hx (by kernel_rfl) (fun k hk => by cases hk) (by kernel_rfl) (laid_met os))) ?_
  intro W base args ds gs before hval0 hW _ _ hsz0 hL _ _
  have hval : ∀ (j : Nat) t v, Tryz.f3.params[j]? = some t → args[j]? = some v → Value.okWide Tryz.prog W .any base t v := hval0
  have hW' := hW
  obtain ⟨p, q, hA0, hV, rfl, hfz, hnd⟩ := hW
  have hA : DataW.TrodAll enc Tryz.prog W 0 (fun _ => true) true Tryz.f3.params.toList args.toList ds p := hA0
  have hsz : (DataW.weightsEach Tryz.prog (Tryz.f3.params.toList ++ Rows.deltaDiffsSpec.plain.varTypes Tryz.prog) (ds ++ gs)).all (· ≤ reachBytes) = true := hsz0
  rw [Tryz.params3] at hA hval hsz
  obtain ⟨v0, vs0, d0, ds0, p0, q0, hargs, rfl, rfl, h0, r0⟩ := trodAll_cons hA
  obtain ⟨v1, vs1, d1, ds1, p1, q1, rfl, rfl, rfl, h1, r1⟩ := trodAll_cons r0
  obtain ⟨rfl, rfl, rfl⟩ := trodAll_nil r1
  obtain rfl : args = #[v0, v1] := by cases args; simp_all
  obtain ⟨rfl, rfl⟩ := trodVars_none hV
  obtain ⟨M0, st0, rfl, m0, x0, w0⟩ := open_state (hval 0 26 v0 rfl rfl) h0
  obtain ⟨M1, st1, rfl, m1, x1, w1⟩ := open_state (hval 1 26 v1 rfl rfl) h1
  have s0 := sized_state hsz rfl (j := 0) rfl x0
  have s1 := sized_state hsz rfl (j := 1) rfl x1
  clear hA0 hval0
  refine (walk M0 st0 M1 st1 w0 w1 s0 s1 W m0 m1 (tabs_of hL)).mono fun e W' ⟨he, bel⟩ => ?_
  subst he
  exact ⟨_, rfl, _, _, _, [], _, [], hW', trodAll_mk1 (shut_bool Tryz.underlying4 _), (trodAll_cons_mk (Below.trod laidOut (by kernel_rfl) (of_decide_eq_true (by kernel_rfl)) h0 bel (fun x hx => by simpa using hW'.lt x (by simp [hx]))) (trodAll_cons_mk (Below.trod laidOut (by kernel_rfl) (of_decide_eq_true (by kernel_rfl)) h1 bel (fun x hx => by simpa using hW'.lt x (by simp [hx]))) trodAll_mk0)), rfl, bel.frame _, fun h => by cases h⟩
theorem said : Rows.DeltaDiffsSaid :=
  OpenClaim.holds_of_cond 3 Tryz.f3 rfl rfl rfl rfl rfl rfl rfl ⟨rfl, rfl, rfl, rfl, rfl⟩ rfl rfl rfl rfl rfl (by kernel_rfl) Tryz.func3 (by kernel_rfl)
    (of_decide_eq_true (by kernel_rfl)) (by unfold Func.isWrapper; first | (rw [if_pos (by decide +kernel)]; kernel_rfl) | (rw [if_neg (by decide +kernel)]; exact ⟨rfl, rfl⟩))
    (fun os started H enc _ F => by rw [OpenClaim.pre_eq_preRow]; exact lifted os started H enc F)
theorem plain (f : FuncId) (fn : Func) (hf : Tryz.pinned.checked.prog.funcNamed Rows.deltaDiffsRow.func = some f) (hfn : Tryz.pinned.checked.prog.funcs[f]? = some fn) :
    false = Tryz.pinned.checked.prog.looks [] ∧ ∀ (j : Nat) t, fn.params[j]? = some t → Tryz.pinned.checked.prog.wantsStandIn t = false := by
  obtain rfl : f = 3 := Option.some.inj ((show Tryz.prog.funcNamed Rows.deltaDiffsRow.func = some 3 by kernel_rfl).symm.trans hf) |>.symm
  obtain rfl : fn = Tryz.f3 := (Option.some.inj (Tryz.func3.symm.trans hfn)).symm
  refine ⟨by kernel_rfl, fun j t ht => ?_⟩
  rw [Tryz.params3] at ht
  obtain rfl : t = 26 := by simpa using Array.mem_of_getElem? ht
  exact (show Tryz.prog.wantsStandIn 26 = false by kernel_rfl)
theorem proved : Rows.DeltaDiffsCardSaid :=
  Claim7.holds_tied_plain_at .later [] _ _ _ _ said (fun _ h => by cases h) (by kernel_rfl) (fun _ h => by cases h) deltaDiffs_row_tie rfl ⟨rfl, rfl⟩ (by kernel_rfl) rfl plain (by kernel_rfl)
#print axioms proved
end Go.Proofs.YthfbjmjohmkfjaaGreatDoor.deltaDiffs
