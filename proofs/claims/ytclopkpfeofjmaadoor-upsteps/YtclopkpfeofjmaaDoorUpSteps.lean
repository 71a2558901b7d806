/- For every state the law UpSteps of the package brackenkeep returns true, as a tied card: the upgrade from 1 to 3 is the upgrade from 1 to 2 and then from 2 to 3. Condition: the library's two tables unicode/utf8.first and acceptRanges start as their text lays them (the card ties them; first is pinned). -/
import Derived.Test.YtclopkpfeofjmaaDoorUpLaw
namespace Go.Proofs.YtclopkpfeofjmaaDoor.upSteps
open Go.ChangeShapes Go.WideShapes Go.ChangeAt Go.RowKit
set_option linter.unusedVariables false

set_option maxRecDepth 100000 in
set_option maxHeartbeats 4000000 in
theorem walk (M : StM) (s : StD) (hw : wState s) (hz : SzState s) (w : World) (hm : StateAt w M s) (hT : Tabs w) :
    Calls Tryd.prog 4 #[stV M s] w fun e w' => e = .returned (.bool true) ∧ Below w.heap.size w w' := by
  obtain ⟨aj, cj, an, cn, al, cl⟩ := M
  obtain ⟨hmj, hmn, hml⟩ := hm
  show Calls _ _ #[.agg #[.int .i64 s.rev, .slice aj s.jobs.length cj, .slice an s.nodes.length cn, .slice al s.leases.length cl]] _ _
  simp only at hmj hmn hml
  obtain ⟨W0, hW0⟩ : ∃ W0, w.alloc (.cells #[.int .i64 s.rev, .slice aj s.jobs.length cj, .slice an s.nodes.length cn, .slice al s.leases.length cl] 26) = W0 := ⟨_, rfl⟩
  have B0 := below_one w (.cells #[.int .i64 s.rev, .slice aj s.jobs.length cj, .slice an s.nodes.length cn, .slice al s.leases.length cl] 26)
  have Is0 := inBox_new (cj := cj) (cn := cn) (cl := cl) (And.intro hmj (And.intro hmn hml))
  rw [hW0] at B0 Is0
  have HT := Lib.hid hT
  have HWs := Lib.hid hw
  have HZ := Lib.hid (size3 hz)
  have B0 := Lib.hid B0
  have Is0 := Lib.hid Is0
  clear hmj hmn hml hT hz hw
  rcases up13_cases s with ⟨c, hc, e1, e2⟩ | ⟨e1, e2, e3⟩
  · have hc' : ((c : Int) != 0) = true := by simp; omega
    clear hc
    have h := upped_is W0 (HT.out.below B0.out)
    have C := Lib.hid h
    clear h
    go_enter Tryd.func4, Tryd.ntmps4
    go_wp2_with fail
    refine C.out.mono ?_
    rintro e W1 ⟨rfl, b⟩
    have Is1 := Lib.hid (inBox_next Is0.out b)
    have B1 := Lib.hid (below_trans B0.out b B0.out.size)
    clear b C
    have h := ustate_any s aj an al cj cn cl 1 3 HWs.out W1 (HT.out.below B1.out) Is1.out.2.1 Is1.out.2.2.1 Is1.out.2.2.2
    rw [e1] at h
    have C := Lib.hid h
    clear h
    obtain ⟨zs0, zs1, zs2, zs3⟩ := inBox_cells Is1.out
    go_wp2_with fail
    refine C.out.mono ?_
    rintro e w2 ⟨pj, pn, pl, pp, pq, pr, rfl, ow, b⟩
    clear zs0 zs1 zs2 zs3
    obtain ⟨Lp, hLp⟩ : ∃ L, w2.heap.size = L := ⟨_, rfl⟩
    obtain ⟨W2, hW2⟩ : ∃ W, w2.alloc (.cells #[.int .i64 zeroSt.rev, .slice pj zeroSt.jobs.length pp, .slice pn zeroSt.nodes.length pq, .slice pl zeroSt.leases.length pr] 26) = W := ⟨_, rfl⟩
    have bA := below_one w2 (.cells #[.int .i64 zeroSt.rev, .slice pj zeroSt.jobs.length pp, .slice pn zeroSt.nodes.length pq, .slice pl zeroSt.leases.length pr] 26)
    have iN := inBox_new (cj := pp) (cn := pq) (cl := pr) (ownS_at ow)
    rw [hW2] at bA iN
    rw [hLp] at iN
    have Is2 := Lib.hid (inBox_next (inBox_next Is1.out b) bA)
    have Ip2 := Lib.hid iN
    have B2 := Lib.hid (below_trans (below_trans B1.out b B1.out.size) bA (Nat.le_trans B1.out.size b.size))
    clear bA iN ow b C
    have h := ustate_any s aj an al cj cn cl 1 2 HWs.out W2 (HT.out.below B2.out) Is2.out.2.1 Is2.out.2.2.1 Is2.out.2.2.2
    rw [e2] at h
    have C := Lib.hid h
    clear h
    obtain ⟨zs0, zs1, zs2, zs3⟩ := inBox_cells Is2.out
    go_wp2_with fail
    refine C.out.mono ?_
    rintro e w3 ⟨qj, qn, ql, qp, qq, qr, rfl, ow, b⟩
    clear zs0 zs1 zs2 zs3
    obtain ⟨Lq, hLq⟩ : ∃ L, w3.heap.size = L := ⟨_, rfl⟩
    obtain ⟨W3, hW3⟩ : ∃ W, w3.alloc (.cells #[.int .i64 zeroSt.rev, .slice qj zeroSt.jobs.length qp, .slice qn zeroSt.nodes.length qq, .slice ql zeroSt.leases.length qr] 26) = W := ⟨_, rfl⟩
    have bA := below_one w3 (.cells #[.int .i64 zeroSt.rev, .slice qj zeroSt.jobs.length qp, .slice qn zeroSt.nodes.length qq, .slice ql zeroSt.leases.length qr] 26)
    have iN := inBox_new (cj := qp) (cn := qq) (cl := qr) (ownS_at ow)
    rw [hW3] at bA iN
    rw [hLq] at iN
    have Is3 := Lib.hid (inBox_next (inBox_next Is2.out b) bA)
    have Ip3 := Lib.hid (inBox_next (inBox_next Ip2.out b) bA)
    have Iq3 := Lib.hid iN
    have B3 := Lib.hid (below_trans (below_trans B2.out b B2.out.size) bA (Nat.le_trans B2.out.size b.size))
    clear bA iN ow b C
    go_wp2
    go_ret
    exact ⟨rfl, B3.out⟩
  · have HC : checkE V8 s = 0 := by
      rcases upR_cases s (a := 1) (b := 3) (by omega) with ⟨c, hc, h⟩ | ⟨_, h, _⟩
      · rw [e1] at h; simp only [Prod.mk.injEq] at h; exact absurd h.2.symm hc
      · exact h
    have HWD := Lib.hid (wState_valid (valid8_up HC 1 2))
    have HLA := Lib.hid (size3_valid (valid8_up HC 1 3))
    obtain ⟨A, hA⟩ : ∃ A, upS 1 3 s = A := ⟨_, rfl⟩
    obtain ⟨D, hD⟩ : ∃ D, upS 1 2 s = D := ⟨_, rfl⟩
    rw [hA] at e1 e3 HLA
    rw [hD] at e2 e3 HWD
    clear hA hD HC
    have h := upped_is W0 (HT.out.below B0.out)
    have C := Lib.hid h
    clear h
    go_enter Tryd.func4, Tryd.ntmps4
    go_wp2_with fail
    refine C.out.mono ?_
    rintro e W1 ⟨rfl, b⟩
    have Is1 := Lib.hid (inBox_next Is0.out b)
    have B1 := Lib.hid (below_trans B0.out b B0.out.size)
    clear b C
    have h := ustate_any s aj an al cj cn cl 1 3 HWs.out W1 (HT.out.below B1.out) Is1.out.2.1 Is1.out.2.2.1 Is1.out.2.2.2
    rw [e1] at h
    have C := Lib.hid h
    clear h
    obtain ⟨zs0, zs1, zs2, zs3⟩ := inBox_cells Is1.out
    go_wp2_with fail
    refine C.out.mono ?_
    rintro e w2 ⟨pj, pn, pl, pp, pq, pr, rfl, ow, b⟩
    clear zs0 zs1 zs2 zs3
    obtain ⟨Lp, hLp⟩ : ∃ L, w2.heap.size = L := ⟨_, rfl⟩
    obtain ⟨W2, hW2⟩ : ∃ W, w2.alloc (.cells #[.int .i64 A.rev, .slice pj A.jobs.length pp, .slice pn A.nodes.length pq, .slice pl A.leases.length pr] 26) = W := ⟨_, rfl⟩
    have bA := below_one w2 (.cells #[.int .i64 A.rev, .slice pj A.jobs.length pp, .slice pn A.nodes.length pq, .slice pl A.leases.length pr] 26)
    have iN := inBox_new (cj := pp) (cn := pq) (cl := pr) (ownS_at ow)
    rw [hW2] at bA iN
    rw [hLp] at iN
    have Is2 := Lib.hid (inBox_next (inBox_next Is1.out b) bA)
    have Ip2 := Lib.hid iN
    have B2 := Lib.hid (below_trans (below_trans B1.out b B1.out.size) bA (Nat.le_trans B1.out.size b.size))
    clear bA iN ow b C
    have h := ustate_any s aj an al cj cn cl 1 2 HWs.out W2 (HT.out.below B2.out) Is2.out.2.1 Is2.out.2.2.1 Is2.out.2.2.2
    rw [e2] at h
    have C := Lib.hid h
    clear h
    obtain ⟨zs0, zs1, zs2, zs3⟩ := inBox_cells Is2.out
    go_wp2_with fail
    refine C.out.mono ?_
    rintro e w3 ⟨qj, qn, ql, qp, qq, qr, rfl, ow, b⟩
    clear zs0 zs1 zs2 zs3
    obtain ⟨Lq, hLq⟩ : ∃ L, w3.heap.size = L := ⟨_, rfl⟩
    obtain ⟨W3, hW3⟩ : ∃ W, w3.alloc (.cells #[.int .i64 D.rev, .slice qj D.jobs.length qp, .slice qn D.nodes.length qq, .slice ql D.leases.length qr] 26) = W := ⟨_, rfl⟩
    have bA := below_one w3 (.cells #[.int .i64 D.rev, .slice qj D.jobs.length qp, .slice qn D.nodes.length qq, .slice ql D.leases.length qr] 26)
    have iN := inBox_new (cj := qp) (cn := qq) (cl := qr) (ownS_at ow)
    rw [hW3] at bA iN
    rw [hLq] at iN
    have Is3 := Lib.hid (inBox_next (inBox_next Is2.out b) bA)
    have Ip3 := Lib.hid (inBox_next (inBox_next Ip2.out b) bA)
    have Iq3 := Lib.hid iN
    have B3 := Lib.hid (below_trans (below_trans B2.out b B2.out.size) bA (Nat.le_trans B2.out.size b.size))
    clear bA iN ow b C
    have h := ustate_any D qj qn ql qp qq qr 2 3 HWD.out W3 (HT.out.below B3.out) Iq3.out.2.1 Iq3.out.2.2.1 Iq3.out.2.2.2
    rw [e3] at h
    have C := Lib.hid h
    clear h
    obtain ⟨zq0, zq1, zq2, zq3⟩ := inBox_cells Iq3.out
    go_wp2_with fail
    refine C.out.mono ?_
    rintro e w4 ⟨rj, rn, rl, rp, rq, rr, rfl, ow, b⟩
    clear zq0 zq1 zq2 zq3
    obtain ⟨Lr, hLr⟩ : ∃ L, w4.heap.size = L := ⟨_, rfl⟩
    obtain ⟨W4, hW4⟩ : ∃ W, w4.alloc (.cells #[.int .i64 A.rev, .slice rj A.jobs.length rp, .slice rn A.nodes.length rq, .slice rl A.leases.length rr] 26) = W := ⟨_, rfl⟩
    have bA := below_one w4 (.cells #[.int .i64 A.rev, .slice rj A.jobs.length rp, .slice rn A.nodes.length rq, .slice rl A.leases.length rr] 26)
    have iN := inBox_new (cj := rp) (cn := rq) (cl := rr) (ownS_at ow)
    rw [hW4] at bA iN
    rw [hLr] at iN
    have Is4 := Lib.hid (inBox_next (inBox_next Is3.out b) bA)
    have Ip4 := Lib.hid (inBox_next (inBox_next Ip3.out b) bA)
    have Iq4 := Lib.hid (inBox_next (inBox_next Iq3.out b) bA)
    have Ir4 := Lib.hid iN
    have B4 := Lib.hid (below_trans (below_trans B3.out b B3.out.size) bA (Nat.le_trans B3.out.size b.size))
    clear bA iN ow b C
    have h := same_is A A pj pn pl rj rn rl pp pq pr rp rq rr HLA.out W4 Ip4.out.2.1 Ip4.out.2.2.1 Ip4.out.2.2.2 Ir4.out.2.1 Ir4.out.2.2.1 Ir4.out.2.2.2
    have C := Lib.hid h
    clear h
    obtain ⟨zp0, zp1, zp2, zp3⟩ := inBox_cells Ip4.out
    obtain ⟨zr0, zr1, zr2, zr3⟩ := inBox_cells Ir4.out
    go_wp2_with fail
    refine C.out.mono ?_
    rintro e W5 ⟨c, rfl, hc, b⟩
    clear zp0 zp1 zp2 zp3 zr0 zr1 zr2 zr3
    obtain rfl : c = true := hc.2 (by first | rfl | trivial)
    clear hc
    have Is5 := Lib.hid (inBox_next Is4.out b)
    have Ip5 := Lib.hid (inBox_next Ip4.out b)
    have Iq5 := Lib.hid (inBox_next Iq4.out b)
    have Ir5 := Lib.hid (inBox_next Ir4.out b)
    have B5 := Lib.hid (below_trans B4.out b B4.out.size)
    clear b C
    go_wp2
    go_ret
    exact ⟨rfl, B5.out⟩

theorem own : ownKnob Tryd.prog.godebug = none := by kernel_rfl
theorem laidOut : laidOutB Tryd.prog = true := by kernel_rfl
theorem laid_met (os : Os) : laidMet Tryd.prog Rows.upStepsRow.laid ((laidWorld os).forCall (fun _ _ => 0) ⟨#[], #[.agg #[.int .i64 0, .slice none 0 0, .slice none 0 0, .slice none 0 0]], []⟩).memory :=
  laidMet_of_run' 8 (by kernel_rfl) (by kernel_rfl)
theorem reads (os : Os) {H : Type} (enc : TypeId × Value → H) : ∃ places, DataW.whole enc Tryd.prog ((laidWorld os).forCall (fun _ _ => 0) ⟨#[], #[.agg #[.int .i64 0, .slice none 0 0, .slice none 0 0, .slice none 0 0]], []⟩).memory Tryd.f4.params.toList Rows.upStepsSpec.vars false #[Value.agg #[.int .i64 0, .slice none 0 0, .slice none 0 0, .slice none 0 0]].toList 8 = some ([.agg [.lit (.int .i64 0), .nil, .nil, .nil]], [], places) :=
  ⟨[], by kernel_rfl⟩
set_option maxRecDepth 100000 in
set_option maxHeartbeats 2000000 in
theorem lifted (os : Os) (started : os.Started) (H : Type) (enc : TypeId × Value → H) (F : Stop.Interp) :
    ReturnsInHanded {} Tryd.checked os 4 .any ((OpenSpec.ofChange Rows.upStepsSpec).preRow enc Tryd.prog Tryd.f4 Rows.upStepsRow.domain false Rows.upStepsRow.laid) (((OpenSpec.ofChange Rows.upStepsSpec).at F).post enc Tryd.prog Tryd.f4 false true false false) := by
  obtain ⟨places, hx⟩ := reads os enc
  refine returnsInHanded_of_row (C := Tryd.checked) (s := (OpenSpec.ofChange Rows.upStepsSpec)) own started (by kernel_rfl) Tryd.func4
    (witness_row_atRef (enc := enc) (C := Tryd.checked) false (laidWorld os) #[.agg #[.int .i64 0, .slice none 0 0, .slice none 0 0, .slice none 0 0]] rfl (by kernel_rfl) (by kernel_rfl) (by kernel_rfl)
      (OpenSpec.preRow_of_cond 8 hx (by kernel_rfl) (fun k hk => by cases hk) (by kernel_rfl) (laid_met os))) ?_
  intro W base args ds gs before hval0 hW _ _ hsz0 hL _ _
  have hval : ∀ (j : Nat) t v, Tryd.f4.params[j]? = some t → args[j]? = some v → Value.okWide Tryd.prog W .any base t v := hval0
  have hW' := hW
  obtain ⟨p, q, hA0, hV, rfl, hfz, hnd⟩ := hW
  have hA : DataW.TrodAll enc Tryd.prog W 0 (fun _ => true) true Tryd.f4.params.toList args.toList ds p := hA0
  have hsz : (DataW.weightsEach Tryd.prog (Tryd.f4.params.toList ++ Rows.upStepsSpec.plain.varTypes Tryd.prog) (ds ++ gs)).all (· ≤ reachBytes) = true := hsz0
  rw [Tryd.params4] at hA hval hsz
  obtain ⟨v0, vs0, d0, ds0, p0, q0, hargs, rfl, rfl, h0, r0⟩ := trodAll_cons hA
  obtain ⟨rfl, rfl, rfl⟩ := trodAll_nil r0
  obtain rfl : args = #[v0] := by cases args; simp_all
  obtain ⟨rfl, rfl⟩ := trodVars_none hV
  obtain ⟨M0, st0, rfl, m0, x0, w0⟩ := open_state (hval 0 26 v0 rfl rfl) h0
  have s0 := sized_state hsz rfl (j := 0) rfl x0
  clear hA0 hval0
  refine (walk M0 st0 w0 s0 W m0 (tabs_of hL)).mono fun e W' ⟨he, bel⟩ => ?_
  subst he
  exact ⟨_, rfl, _, _, _, [], _, [], hW', trodAll_mk1 (shut_bool Tryd.underlying4 _), (trodAll_cons_mk (Below.trod laidOut (by kernel_rfl) (of_decide_eq_true (by kernel_rfl)) h0 bel (fun x hx => by simpa using hW'.lt x (by simp [hx]))) trodAll_mk0), rfl, bel.frame _, fun h => by cases h⟩
theorem said : Rows.UpStepsSaid :=
  OpenClaim.holds_of_cond 4 Tryd.f4 rfl rfl rfl rfl rfl rfl rfl ⟨rfl, rfl, rfl, rfl, rfl⟩ rfl rfl rfl rfl rfl (by kernel_rfl) Tryd.func4 (by kernel_rfl)
    (of_decide_eq_true (by kernel_rfl)) (by unfold Func.isWrapper; first | (rw [if_pos (by decide +kernel)]; kernel_rfl) | (rw [if_neg (by decide +kernel)]; exact ⟨rfl, rfl⟩))
    (fun os started H enc _ F => by rw [OpenClaim.pre_eq_preRow]; exact lifted os started H enc F)
theorem plain (f : FuncId) (fn : Func) (hf : Tryd.pinned.checked.prog.funcNamed Rows.upStepsRow.func = some f) (hfn : Tryd.pinned.checked.prog.funcs[f]? = some fn) :
    false = Tryd.pinned.checked.prog.looks [] ∧ ∀ (j : Nat) t, fn.params[j]? = some t → Tryd.pinned.checked.prog.wantsStandIn t = false := by
  obtain rfl : f = 4 := Option.some.inj ((show Tryd.prog.funcNamed Rows.upStepsRow.func = some 4 by kernel_rfl).symm.trans hf) |>.symm
  obtain rfl : fn = Tryd.f4 := (Option.some.inj (Tryd.func4.symm.trans hfn)).symm
  refine ⟨by kernel_rfl, fun j t ht => ?_⟩
  rw [Tryd.params4] at ht
  obtain rfl : t = 26 := by simpa using Array.mem_of_getElem? ht
  exact (show Tryd.prog.wantsStandIn 26 = false by kernel_rfl)
theorem proved : Rows.UpStepsCardSaid :=
  Claim7.holds_tied_plain_at .later [] _ _ _ _ said (fun _ h => by cases h) (by kernel_rfl) (fun _ h => by cases h) upSteps_row_tie rfl ⟨rfl, rfl⟩ (by kernel_rfl) rfl plain (by kernel_rfl)
#print axioms proved
end Go.Proofs.YtclopkpfeofjmaaDoor.upSteps
