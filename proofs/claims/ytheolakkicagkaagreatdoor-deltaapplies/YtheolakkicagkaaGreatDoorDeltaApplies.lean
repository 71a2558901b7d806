/- For every state and every delta the law DeltaApplies of the package brackenlaw returns true, as a tied card: Apply returns what the reference returns. Condition: the library's two tables unicode/utf8.first and acceptRanges start as their text lays them (the card ties them; first is pinned). -/
import Derived.Test.YtheolakkicagkaaGreatDoorDlUse
import Derived.Test.YtheolakkicagkaaGreatDoorDlRApp
namespace Go.Proofs.YtheolakkicagkaaGreatDoor.deltaApplies
open Go.ChangeShapes Go.WideShapes Go.ChangeAt Go.RowKit
set_option linter.unusedVariables false

theorem apply_len {s Y : StD} {d : DelD} {c : Nat} (e : applyR V8 s d = (Y, c)) : Y.jobs.length ≤ 140737488355328 ∧ Y.nodes.length ≤ 140737488355328 ∧ Y.leases.length ≤ 140737488355328 := by
  have hz : zeroSt.jobs.length ≤ 140737488355328 ∧ zeroSt.nodes.length ≤ 140737488355328 ∧ zeroSt.leases.length ≤ 140737488355328 := by simp [zeroSt]
  by_cases h1 : checkE V8 s ≠ 0
  · rw [applyR_s h1] at e; simp only [Prod.mk.injEq] at e; rw [← e.1]; exact hz
  have h1 : checkE V8 s = 0 := by simpa using h1
  by_cases h2 : dcheckE V8 d ≠ 0
  · rw [applyR_d h1 h2] at e; simp only [Prod.mk.injEq] at e; rw [← e.1]; exact hz
  have h2 : dcheckE V8 d = 0 := by simpa using h2
  by_cases h3 : d.frm ≠ s.rev
  · rw [applyR_old h1 h2 h3] at e; simp only [Prod.mk.injEq] at e; rw [← e.1]; exact hz
  have h3 : d.frm = s.rev := by simpa using h3
  cases h4 : goneIn s d
  · rw [applyR_gone h1 h2 h3 h4] at e; simp only [Prod.mk.injEq] at e; rw [← e.1]; exact hz
  by_cases h5 : checkE V8 (applyS s d) ≠ 0
  · rw [applyR_next h1 h2 h3 h4 h5] at e; simp only [Prod.mk.injEq] at e; rw [← e.1]; exact hz
  have h5 : checkE V8 (applyS s d) = 0 := by simpa using h5
  rw [applyR_ok h1 h2 h3 h4 h5] at e; simp only [Prod.mk.injEq] at e; rw [← e.1]; exact lenS_valid h5
theorem rapply_at {s Y : StD} {d : DelD} {c : Nat} {M : DlM} {aj an al : Option Addr} {cj cn cl : Nat} (e : applyR V8 s d = (Y, c)) {w : World} (hms : JobsAt w aj s.jobs ∧ NodesAt w an s.nodes ∧ LeasesAt w al s.leases) (hmd : DeltaAt w M d) :
    Calls Tryz.prog 5 #[.agg #[.int .i64 s.rev, .slice aj s.jobs.length cj, .slice an s.nodes.length cn, .slice al s.leases.length cl], .agg #[.int .i64 d.frm, .int .i64 d.til, .slice M.aj d.jobs.length M.cj, .slice M.an d.nodes.length M.cn, .slice M.al d.leases.length M.cl, .slice M.gj d.gj.length M.hj, .slice M.gn d.gn.length M.hn, .slice M.gl d.gl.length M.hl]] w fun e w' => ∃ aj' an' al' cj' cn' cl', e = .returned (.tuple #[.agg #[.int .i64 Y.rev, .slice aj' Y.jobs.length cj', .slice an' Y.nodes.length cn', .slice al' Y.leases.length cl'], .int .i64 (c : Nat)]) ∧ OwnS w.heap.size aj' an' al' cj' cn' cl' Y w' ∧ Below w.heap.size w w' := by
  have h := rapply_any s aj an al cj cn cl M d w hms hmd
  rw [e] at h
  exact h
set_option maxRecDepth 100000 in
set_option maxHeartbeats 4000000 in
theorem walk (Ms : StM) (s : StD) (Md : DlM) (d : DelD) (hws : wState s) (hwd : wDelta d) (hzs : SzState s) (w : World) (hms : StateAt w Ms s) (hmd : DeltaAt w Md d) (hT : Tabs w) :
    Calls Tryz.prog 3 #[stV Ms s, .agg (dlC Md d)] w fun e w' => e = .returned (.bool true) ∧ Below w.heap.size w w' := by
  obtain ⟨ajs, cjs, ans, cns, als, cls⟩ := Ms
  have hms : JobsAt w ajs s.jobs ∧ NodesAt w ans s.nodes ∧ LeasesAt w als s.leases := hms
  show Calls _ _ #[.agg #[.int .i64 s.rev, .slice ajs s.jobs.length cjs, .slice ans s.nodes.length cns, .slice als s.leases.length cls], .agg #[.int .i64 d.frm, .int .i64 d.til, .slice Md.aj d.jobs.length Md.cj, .slice Md.an d.nodes.length Md.cn, .slice Md.al d.leases.length Md.cl, .slice Md.gj d.gj.length Md.hj, .slice Md.gn d.gn.length Md.hn, .slice Md.gl d.gl.length Md.hl]] _ _
  have B0 : Below w.heap.size w w := Below.refl _ _
  have bA := below_one w (.cells #[.int .i64 s.rev, .slice ajs s.jobs.length cjs, .slice ans s.nodes.length cns, .slice als s.leases.length cls] 26)
  have Is0 := bxS_new (cj := cjs) (cn := cns) (cl := cls) (w := w) (And.intro (jobsAt_next hms.1 B0) (And.intro (nodesAt_next hms.2.1 B0) (leasesAt_next hms.2.2 B0)))
  have B0 := below_trans B0 bA B0.size
  clear bA
  have bA := below_one (w.alloc (.cells #[.int .i64 s.rev, .slice ajs s.jobs.length cjs, .slice ans s.nodes.length cns, .slice als s.leases.length cls] 26)) (.cells #[.int .i64 d.frm, .int .i64 d.til, .slice Md.aj d.jobs.length Md.cj, .slice Md.an d.nodes.length Md.cn, .slice Md.al d.leases.length Md.cl, .slice Md.gj d.gj.length Md.hj, .slice Md.gn d.gn.length Md.hn, .slice Md.gl d.gl.length Md.hl] 29)
  have Id0 := bxD_new (deltaAt_next hmd B0)
  have Is0 := bxS_next Is0 bA
  have B0 := below_trans B0 bA B0.size
  clear bA
  obtain ⟨W0, hW0⟩ : ∃ W0, ((w.alloc (.cells #[.int .i64 s.rev, .slice ajs s.jobs.length cjs, .slice ans s.nodes.length cns, .slice als s.leases.length cls] 26)).alloc (.cells #[.int .i64 d.frm, .int .i64 d.til, .slice Md.aj d.jobs.length Md.cj, .slice Md.an d.nodes.length Md.cn, .slice Md.al d.leases.length Md.cl, .slice Md.gj d.gj.length Md.hj, .slice Md.gn d.gn.length Md.hn, .slice Md.gl d.gl.length Md.hl] 29)) = W0 := ⟨_, rfl⟩
  rw [hW0] at B0 Is0 Id0
  have HT := Lib.hid hT
  have HWs := Lib.hid hws
  have HWd := Lib.hid hwd
  try simp only [World.size_alloc] at Is0 Id0
  have B0 := Lib.hid B0
  have Is0 := Lib.hid Is0
  have Id0 := Lib.hid Id0
  clear hT hms hws hzs hmd hwd
  obtain ⟨⟨Y, kk⟩, e1⟩ : ∃ Q, applyR V8 s d = Q := ⟨_, rfl⟩
  have HLY := Lib.hid (apply_len e1)
  have E1 := Lib.hid e1
  clear e1
  have C := Lib.hid (dapply_at (cj := cjs) (cn := cns) (cl := cls) HWs.out HWd.out E1.out (HT.out.below B0.out) Is0.out.2 Id0.out.2)
  obtain ⟨zs0, zs1, zs2, zs3⟩ := bxS_cells Is0.out
  obtain ⟨zd0, zd1, zd2, zd3, zd4, zd5, zd6, zd7⟩ := bxD_cells Id0.out
  go_enter Tryz.func3, Tryz.ntmps3
  go_wp2_with fail
  refine C.out.mono ?_
  rintro e w1 ⟨xj, xn, xl, xp, xq, xr, rfl, ow, b⟩
  clear zs0 zs1 zs2 zs3 zd0 zd1 zd2 zd3 zd4 zd5 zd6 zd7
  obtain ⟨Lx, hLx⟩ : ∃ L, w1.heap.size = L := ⟨_, rfl⟩
  obtain ⟨W1, hW1⟩ : ∃ W, w1.alloc (.cells #[.int .i64 Y.rev, .slice xj Y.jobs.length xp, .slice xn Y.nodes.length xq, .slice xl Y.leases.length xr] 26) = W := ⟨_, rfl⟩
  have bA := below_one w1 (.cells #[.int .i64 Y.rev, .slice xj Y.jobs.length xp, .slice xn Y.nodes.length xq, .slice xl Y.leases.length xr] 26)
  have iN := bxS_new (cj := xp) (cn := xq) (cl := xr) (ownS_at ow)
  rw [hW1] at bA iN
  rw [hLx] at iN
  have Is1 := Lib.hid (bxS_next (bxS_next Is0.out b) bA)
  have Id1 := Lib.hid (bxD_next (bxD_next Id0.out b) bA)
  have Ix1 := Lib.hid iN
  have B1 := Lib.hid (below_trans (below_trans B0.out b B0.out.size) bA (Nat.le_trans B0.out.size b.size))
  clear bA iN ow b C
  have C := Lib.hid (rapply_at (cj := cjs) (cn := cns) (cl := cls) E1.out Is1.out.2 Id1.out.2)
  obtain ⟨zs0, zs1, zs2, zs3⟩ := bxS_cells Is1.out
  obtain ⟨zd0, zd1, zd2, zd3, zd4, zd5, zd6, zd7⟩ := bxD_cells Id1.out
  go_wp2_with fail
  refine C.out.mono ?_
  rintro e w2 ⟨yj, yn, yl, yp, yq, yr, rfl, ow, b⟩
  clear zs0 zs1 zs2 zs3 zd0 zd1 zd2 zd3 zd4 zd5 zd6 zd7
  obtain ⟨Ly, hLy⟩ : ∃ L, w2.heap.size = L := ⟨_, rfl⟩
  obtain ⟨W2, hW2⟩ : ∃ W, w2.alloc (.cells #[.int .i64 Y.rev, .slice yj Y.jobs.length yp, .slice yn Y.nodes.length yq, .slice yl Y.leases.length yr] 26) = W := ⟨_, rfl⟩
  have bA := below_one w2 (.cells #[.int .i64 Y.rev, .slice yj Y.jobs.length yp, .slice yn Y.nodes.length yq, .slice yl Y.leases.length yr] 26)
  have iN := bxS_new (cj := yp) (cn := yq) (cl := yr) (ownS_at ow)
  rw [hW2] at bA iN
  rw [hLy] at iN
  have Is2 := Lib.hid (bxS_next (bxS_next Is1.out b) bA)
  have Id2 := Lib.hid (bxD_next (bxD_next Id1.out b) bA)
  have Ix2 := Lib.hid (bxS_next (bxS_next Ix1.out b) bA)
  have Iy2 := Lib.hid iN
  have B2 := Lib.hid (below_trans (below_trans B1.out b B1.out.size) bA (Nat.le_trans B1.out.size b.size))
  clear bA iN ow b C
  have C := Lib.hid (same_is Y Y xj xn xl yj yn yl xp xq xr yp yq yr HLY.out W2 Ix2.out.2.1 Ix2.out.2.2.1 Ix2.out.2.2.2 Iy2.out.2.1 Iy2.out.2.2.1 Iy2.out.2.2.2)
  obtain ⟨zx0, zx1, zx2, zx3⟩ := bxS_cells Ix2.out
  obtain ⟨zy0, zy1, zy2, zy3⟩ := bxS_cells Iy2.out
  go_wp2_with fail
  refine C.out.mono ?_
  rintro e W3 ⟨c, rfl, hc, b⟩
  clear zx0 zx1 zx2 zx3 zy0 zy1 zy2 zy3
  obtain rfl : c = true := hc.2 (by first | rfl | trivial)
  clear hc
  have Is3 := Lib.hid (bxS_next Is2.out b)
  have Id3 := Lib.hid (bxD_next Id2.out b)
  have Ix3 := Lib.hid (bxS_next Ix2.out b)
  have Iy3 := Lib.hid (bxS_next Iy2.out b)
  have B3 := Lib.hid (below_trans B2.out b B2.out.size)
  clear b C
  have hcc : ((kk : Int) == (kk : Int)) = true := by simp
  have C := Lib.hid (dcheck_none W3 (HT.out.below B3.out))
  go_wp2_with fail
  refine C.out.mono ?_
  rintro e W4 ⟨rfl, b⟩
  have Is4 := Lib.hid (bxS_next Is3.out b)
  have Id4 := Lib.hid (bxD_next Id3.out b)
  have Ix4 := Lib.hid (bxS_next Ix3.out b)
  have Iy4 := Lib.hid (bxS_next Iy3.out b)
  have B4 := Lib.hid (below_trans B3.out b B3.out.size)
  clear b C
  go_wp2
  go_ret
  exact ⟨rfl, B4.out⟩

theorem own : ownKnob Tryz.prog.godebug = none := by kernel_rfl
theorem laidOut : laidOutB Tryz.prog = true := by kernel_rfl
theorem laid_met (os : Os) : laidMet Tryz.prog Rows.deltaAppliesRow.laid ((laidWorld os).forCall (fun _ _ => 0) ⟨#[], #[.agg #[.int .i64 0, .slice none 0 0, .slice none 0 0, .slice none 0 0], .agg #[.int .i64 0, .int .i64 0, .slice none 0 0, .slice none 0 0, .slice none 0 0, .slice none 0 0, .slice none 0 0, .slice none 0 0]], []⟩).memory :=
  laidMet_of_run' 8 (by kernel_rfl) (by kernel_rfl)
theorem reads (os : Os) {H : Type} (enc : TypeId × Value → H) : ∃ places, DataW.whole enc Tryz.prog ((laidWorld os).forCall (fun _ _ => 0) ⟨#[], #[.agg #[.int .i64 0, .slice none 0 0, .slice none 0 0, .slice none 0 0], .agg #[.int .i64 0, .int .i64 0, .slice none 0 0, .slice none 0 0, .slice none 0 0, .slice none 0 0, .slice none 0 0, .slice none 0 0]], []⟩).memory Tryz.f3.params.toList Rows.deltaAppliesSpec.vars false #[Value.agg #[.int .i64 0, .slice none 0 0, .slice none 0 0, .slice none 0 0], Value.agg #[.int .i64 0, .int .i64 0, .slice none 0 0, .slice none 0 0, .slice none 0 0, .slice none 0 0, .slice none 0 0, .slice none 0 0]].toList 8 = some ([.agg [.lit (.int .i64 0), .nil, .nil, .nil], .agg [.lit (.int .i64 0), .lit (.int .i64 0), .nil, .nil, .nil, .nil, .nil, .nil]], [], places) :=
  ⟨[], by kernel_rfl⟩
set_option maxRecDepth 100000 in
set_option maxHeartbeats 2000000 in
theorem lifted (os : Os) (started : os.Started) (H : Type) (enc : TypeId × Value → H) (F : Stop.Interp) :
    ReturnsInHanded {} Tryz.checked os 3 .any ((OpenSpec.ofChange Rows.deltaAppliesSpec).preRow enc Tryz.prog Tryz.f3 Rows.deltaAppliesRow.domain false Rows.deltaAppliesRow.laid) (((OpenSpec.ofChange Rows.deltaAppliesSpec).at F).post enc Tryz.prog Tryz.f3 false true false false) := by
  obtain ⟨places, hx⟩ := reads os enc
  refine returnsInHanded_of_row (C := Tryz.checked) (s := (OpenSpec.ofChange Rows.deltaAppliesSpec)) own started (by kernel_rfl) Tryz.func3
    (witness_row_atRef (enc := enc) (C := Tryz.checked) false (laidWorld os) #[.agg #[.int .i64 0, .slice none 0 0, .slice none 0 0, .slice none 0 0], .agg #[.int .i64 0, .int .i64 0, .slice none 0 0, .slice none 0 0, .slice none 0 0, .slice none 0 0, .slice none 0 0, .slice none 0 0]] rfl (by kernel_rfl) (by kernel_rfl) (by kernel_rfl)
      (OpenSpec.preRow_of_cond 8 hx (by kernel_rfl) (fun k hk => by cases hk) (by kernel_rfl) (laid_met os))) ?_
  intro W base args ds gs before hval0 hW _ _ hsz0 hL _ _
  have hval : ∀ (j : Nat) t v, Tryz.f3.params[j]? = some t → args[j]? = some v → Value.okWide Tryz.prog W .any base t v := hval0
  have hW' := hW
  obtain ⟨p, q, hA0, hV, rfl, hfz, hnd⟩ := hW
  have hA : DataW.TrodAll enc Tryz.prog W 0 (fun _ => true) true Tryz.f3.params.toList args.toList ds p := hA0
  have hsz : (DataW.weightsEach Tryz.prog (Tryz.f3.params.toList ++ Rows.deltaAppliesSpec.plain.varTypes Tryz.prog) (ds ++ gs)).all (· ≤ reachBytes) = true := hsz0
  rw [Tryz.params3] at hA hval hsz
  obtain ⟨v0, vs0, d0, ds0, p0, q0, hargs, rfl, rfl, h0, r0⟩ := trodAll_cons hA
  obtain ⟨v1, vs1, d1, ds1, p1, q1, rfl, rfl, rfl, h1, r1⟩ := trodAll_cons r0
  obtain ⟨rfl, rfl, rfl⟩ := trodAll_nil r1
  obtain rfl : args = #[v0, v1] := by cases args; simp_all
  obtain ⟨rfl, rfl⟩ := trodVars_none hV
  obtain ⟨M0, st0, rfl, m0, x0, w0⟩ := open_state (hval 0 26 v0 rfl rfl) h0
  obtain ⟨M1, dl1, rfl, m1, w1⟩ := open_delta (hval 1 29 v1 rfl rfl) h1
  have s0 := sized_state hsz rfl (j := 0) rfl x0
  clear hA0 hval0
  refine (walk M0 st0 M1 dl1 w0 w1 s0 W m0 m1 (tabs_of hL)).mono fun e W' ⟨he, bel⟩ => ?_
  subst he
  exact ⟨_, rfl, _, _, _, [], _, [], hW', trodAll_mk1 (shut_bool Tryz.underlying4 _), (trodAll_cons_mk (Below.trod laidOut (by kernel_rfl) (of_decide_eq_true (by kernel_rfl)) h0 bel (fun x hx => by simpa using hW'.lt x (by simp [hx]))) (trodAll_cons_mk (Below.trod laidOut (by kernel_rfl) (of_decide_eq_true (by kernel_rfl)) h1 bel (fun x hx => by simpa using hW'.lt x (by simp [hx]))) trodAll_mk0)), rfl, bel.frame _, fun h => by cases h⟩
theorem said : Rows.DeltaAppliesSaid :=
  OpenClaim.holds_of_cond 3 Tryz.f3 rfl rfl rfl rfl rfl rfl rfl ⟨rfl, rfl, rfl, rfl, rfl⟩ rfl rfl rfl rfl rfl (by kernel_rfl) Tryz.func3 (by kernel_rfl)
    (of_decide_eq_true (by kernel_rfl)) (by unfold Func.isWrapper; first | (rw [if_pos (by decide +kernel)]; kernel_rfl) | (rw [if_neg (by decide +kernel)]; exact ⟨rfl, rfl⟩))
    (fun os started H enc _ F => by rw [OpenClaim.pre_eq_preRow]; exact lifted os started H enc F)
theorem plain (f : FuncId) (fn : Func) (hf : Tryz.pinned.checked.prog.funcNamed Rows.deltaAppliesRow.func = some f) (hfn : Tryz.pinned.checked.prog.funcs[f]? = some fn) :
    false = Tryz.pinned.checked.prog.looks [] ∧ ∀ (j : Nat) t, fn.params[j]? = some t → Tryz.pinned.checked.prog.wantsStandIn t = false := by
  obtain rfl : f = 3 := Option.some.inj ((show Tryz.prog.funcNamed Rows.deltaAppliesRow.func = some 3 by kernel_rfl).symm.trans hf) |>.symm
  obtain rfl : fn = Tryz.f3 := (Option.some.inj (Tryz.func3.symm.trans hfn)).symm
  refine ⟨by kernel_rfl, fun j t ht => ?_⟩
  rw [Tryz.params3] at ht
  have hm : t = 26 ∨ t = 29 := by simpa using Array.mem_of_getElem? ht
  rcases hm with rfl | rfl
  · exact (show Tryz.prog.wantsStandIn 26 = false by kernel_rfl)
  · exact (show Tryz.prog.wantsStandIn 29 = false by kernel_rfl)
theorem proved : Rows.DeltaAppliesCardSaid :=
  Claim7.holds_tied_plain_at .later [] _ _ _ _ said (fun _ h => by cases h) (by kernel_rfl) (fun _ h => by cases h) deltaApplies_row_tie rfl ⟨rfl, rfl⟩ (by kernel_rfl) rfl plain (by kernel_rfl)
#print axioms proved
end Go.Proofs.YtheolakkicagkaaGreatDoor.deltaApplies
