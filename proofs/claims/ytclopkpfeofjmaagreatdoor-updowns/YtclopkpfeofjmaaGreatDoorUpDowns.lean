/- For every state and every number the law UpDowns of the package brackenlaw returns true, as a tied card: Down answers as the reference does. Condition: the library's two tables unicode/utf8.first and acceptRanges start as their text lays them (the card ties them; first is pinned). -/
import Derived.Test.YtclopkpfeofjmaaGreatDoorUpRefDn
namespace Go.Proofs.YtclopkpfeofjmaaGreatDoor.upDowns
open Go.ChangeShapes Go.WideShapes Go.ChangeAt Go.RowKit
set_option linter.unusedVariables false

set_option maxRecDepth 100000 in
set_option maxHeartbeats 4000000 in
theorem walk (M : StM) (s : StD) (v0 : Int) (hw : wState s) (hv0 : (Lit.int .i64 v0).wf = true) (hz : SzState s) (w : World) (hm : StateAt w M s) (hT : Tabs w) :
    Calls Tryz.prog 4 #[stV M s, .int .i64 v0] w fun e w' => e = .returned (.bool true) ∧ Below w.heap.size w w' := by
  obtain ⟨aj, cj, an, cn, al, cl⟩ := M
  obtain ⟨hmj, hmn, hml⟩ := hm
  show Calls _ _ #[.agg #[.int .i64 s.rev, .slice aj s.jobs.length cj, .slice an s.nodes.length cn, .slice al s.leases.length cl], .int .i64 v0] _ _
  simp only at hmj hmn hml
  obtain ⟨W0, hW0⟩ : ∃ W0, w.alloc (.cells #[.int .i64 s.rev, .slice aj s.jobs.length cj, .slice an s.nodes.length cn, .slice al s.leases.length cl] 30) = W0 := ⟨_, rfl⟩
  have B0 := below_one w (.cells #[.int .i64 s.rev, .slice aj s.jobs.length cj, .slice an s.nodes.length cn, .slice al s.leases.length cl] 30)
  have Is0 := inBox_new (cj := cj) (cn := cn) (cl := cl) (And.intro hmj (And.intro hmn hml))
  rw [hW0] at B0 Is0
  have HT := Lib.hid hT
  have HWs := Lib.hid hw
  have HZ := Lib.hid (size3 hz)
  have B0 := Lib.hid B0
  have Is0 := Lib.hid Is0
  clear hmj hmn hml hT hz hw
  have HLU := Lib.hid (dnR_size s v0 HZ.out)
  obtain ⟨Q, hQ⟩ : ∃ Q, dnR s v0 = Q := ⟨_, rfl⟩
  rw [hQ] at HLU
  obtain ⟨U, ec⟩ := Q
  simp only at HLU
  have h21 := ub_bad (⟨#[]⟩ : ByteArray).data.toList
  have h := down_any s aj an al cj cn cl v0 HWs.out W0 (HT.out.below B0.out) Is0.out.2.1 Is0.out.2.2.1 Is0.out.2.2.2
  rw [hQ] at h
  have C := Lib.hid h
  clear h
  obtain ⟨zs0, zs1, zs2, zs3⟩ := inBox_cells Is0.out
  go_enter Tryz.func4, Tryz.ntmps4
  go_wp2_with fail
  refine C.out.mono ?_
  rintro e w1 ⟨pj, pn, pl, pp, pq, pr, c1, rfl, hi1, ow, b⟩
  clear zs0 zs1 zs2 zs3
  obtain ⟨Lp, hLp⟩ : ∃ L, w1.heap.size = L := ⟨_, rfl⟩
  obtain ⟨W1, hW1⟩ : ∃ W, w1.alloc (.cells #[.int .i64 U.rev, .slice pj U.jobs.length pp, .slice pn U.nodes.length pq, .slice pl U.leases.length pr] 30) = W := ⟨_, rfl⟩
  have bA := below_one w1 (.cells #[.int .i64 U.rev, .slice pj U.jobs.length pp, .slice pn U.nodes.length pq, .slice pl U.leases.length pr] 30)
  have iN := inBox_new (cj := pp) (cn := pq) (cl := pr) (ownS_at ow)
  rw [hW1] at bA iN
  rw [hLp] at iN
  have Is1 := Lib.hid (inBox_next (inBox_next Is0.out b) bA)
  have Ip1 := Lib.hid iN
  have B1 := Lib.hid (below_trans (below_trans B0.out b B0.out.size) bA (Nat.le_trans B0.out.size b.size))
  clear bA iN ow b C
  have HI1 := Lib.hid hi1
  clear hi1
  have h := rdown_any s aj an al cj cn cl v0 W1 Is1.out.2.1 Is1.out.2.2.1 Is1.out.2.2.2
  rw [hQ] at h
  have C := Lib.hid h
  clear h
  obtain ⟨zs0, zs1, zs2, zs3⟩ := inBox_cells Is1.out
  go_wp2_with fail
  refine C.out.mono ?_
  rintro e w2 ⟨qj, qn, ql, qp, qq, qr, c2, rfl, hi2, ow, b⟩
  clear zs0 zs1 zs2 zs3
  have hb1 : (c1 == c2) = true := by
    have h1 := HI1.out
    rw [← hi2] at h1
    cases c1 <;> cases c2 <;> simp_all
  clear hi2 HI1
  obtain ⟨Lq, hLq⟩ : ∃ L, w2.heap.size = L := ⟨_, rfl⟩
  obtain ⟨W2, hW2⟩ : ∃ W, w2.alloc (.cells #[.int .i64 U.rev, .slice qj U.jobs.length qp, .slice qn U.nodes.length qq, .slice ql U.leases.length qr] 30) = W := ⟨_, rfl⟩
  have bA := below_one w2 (.cells #[.int .i64 U.rev, .slice qj U.jobs.length qp, .slice qn U.nodes.length qq, .slice ql U.leases.length qr] 30)
  have iN := inBox_new (cj := qp) (cn := qq) (cl := qr) (ownS_at ow)
  rw [hW2] at bA iN
  rw [hLq] at iN
  have Is2 := Lib.hid (inBox_next (inBox_next Is1.out b) bA)
  have Ip2 := Lib.hid (inBox_next (inBox_next Ip1.out b) bA)
  have Iq2 := Lib.hid iN
  have B2 := Lib.hid (below_trans (below_trans B1.out b B1.out.size) bA (Nat.le_trans B1.out.size b.size))
  clear bA iN ow b C
  have h := ubytes_any ⟨#[]⟩ (by decide) 2 1 W2 (HT.out.below B2.out)
  rw [h21] at h
  have C := Lib.hid h
  clear h
  go_wp2_with fail
  refine C.out.mono ?_
  rintro e W3 ⟨rfl, b⟩
  have Is3 := Lib.hid (inBox_next Is2.out b)
  have Ip3 := Lib.hid (inBox_next Ip2.out b)
  have Iq3 := Lib.hid (inBox_next Iq2.out b)
  have B3 := Lib.hid (below_trans B2.out b B2.out.size)
  clear b C
  have h := same_is U U pj pn pl qj qn ql pp pq pr qp qq qr HLU.out W3 Ip3.out.2.1 Ip3.out.2.2.1 Ip3.out.2.2.2 Iq3.out.2.1 Iq3.out.2.2.1 Iq3.out.2.2.2
  have C := Lib.hid h
  clear h
  obtain ⟨zp0, zp1, zp2, zp3⟩ := inBox_cells Ip3.out
  obtain ⟨zq0, zq1, zq2, zq3⟩ := inBox_cells Iq3.out
  go_wp2_with fail
  refine C.out.mono ?_
  rintro e W4 ⟨c, rfl, hc, b⟩
  clear zp0 zp1 zp2 zp3 zq0 zq1 zq2 zq3
  obtain rfl : c = true := hc.2 (by first | rfl | trivial)
  clear hc
  have Is4 := Lib.hid (inBox_next Is3.out b)
  have Ip4 := Lib.hid (inBox_next Ip3.out b)
  have Iq4 := Lib.hid (inBox_next Iq3.out b)
  have B4 := Lib.hid (below_trans B3.out b B3.out.size)
  clear b C
  go_wp2
  go_ret
  exact ⟨rfl, B4.out⟩

theorem own : ownKnob Tryz.prog.godebug = none := by kernel_rfl
theorem laidOut : laidOutB Tryz.prog = true := by kernel_rfl
theorem laid_met (os : Os) : laidMet Tryz.prog Rows.upDownsRow.laid ((laidWorld os).forCall (fun _ _ => 0) ⟨#[], #[.agg #[.int .i64 0, .slice none 0 0, .slice none 0 0, .slice none 0 0], .int .i64 0], []⟩).memory :=
  laidMet_of_run' 8 (by kernel_rfl) (by kernel_rfl)
theorem reads (os : Os) {H : Type} (enc : TypeId × Value → H) : ∃ places, DataW.whole enc Tryz.prog ((laidWorld os).forCall (fun _ _ => 0) ⟨#[], #[.agg #[.int .i64 0, .slice none 0 0, .slice none 0 0, .slice none 0 0], .int .i64 0], []⟩).memory Tryz.f4.params.toList Rows.upDownsSpec.vars false #[Value.agg #[.int .i64 0, .slice none 0 0, .slice none 0 0, .slice none 0 0], Value.int .i64 0].toList 8 = some ([.agg [.lit (.int .i64 0), .nil, .nil, .nil], .lit (.int .i64 0)], [], places) :=
  ⟨[], by kernel_rfl⟩
set_option maxRecDepth 100000 in
set_option maxHeartbeats 2000000 in
theorem lifted (os : Os) (started : os.Started) (H : Type) (enc : TypeId × Value → H) (F : Stop.Interp) :
    ReturnsInHanded {} Tryz.checked os 4 .any ((OpenSpec.ofChange Rows.upDownsSpec).preRow enc Tryz.prog Tryz.f4 Rows.upDownsRow.domain false Rows.upDownsRow.laid) (((OpenSpec.ofChange Rows.upDownsSpec).at F).post enc Tryz.prog Tryz.f4 false true false false) := by
  obtain ⟨places, hx⟩ := reads os enc
  refine returnsInHanded_of_row (C := Tryz.checked) (s := (OpenSpec.ofChange Rows.upDownsSpec)) own started (by kernel_rfl) Tryz.func4
    (witness_row_atRef (enc := enc) (C := Tryz.checked) false (laidWorld os) #[.agg #[.int .i64 0, .slice none 0 0, .slice none 0 0, .slice none 0 0], .int .i64 0] rfl (by kernel_rfl) (by kernel_rfl) (by kernel_rfl)
      (OpenSpec.preRow_of_cond 8 hx (by kernel_rfl) (fun k hk => by cases hk) (by kernel_rfl) (laid_met os))) ?_
  intro W base args ds gs before hval0 hW _ _ hsz0 hL _ _
  have hval : ∀ (j : Nat) t v, Tryz.f4.params[j]? = some t → args[j]? = some v → Value.okWide Tryz.prog W .any base t v := hval0
  have hW' := hW
  obtain ⟨p, q, hA0, hV, rfl, hfz, hnd⟩ := hW
  have hA : DataW.TrodAll enc Tryz.prog W 0 (fun _ => true) true Tryz.f4.params.toList args.toList ds p := hA0
  have hsz : (DataW.weightsEach Tryz.prog (Tryz.f4.params.toList ++ Rows.upDownsSpec.plain.varTypes Tryz.prog) (ds ++ gs)).all (· ≤ reachBytes) = true := hsz0
  rw [Tryz.params4] at hA hval hsz
  obtain ⟨v0, vs0, d0, ds0, p0, q0, hargs, rfl, rfl, h0, r0⟩ := trodAll_cons hA
  obtain ⟨v1, vs1, d1, ds1, p1, q1, rfl, rfl, rfl, h1, r1⟩ := trodAll_cons r0
  obtain ⟨rfl, rfl, rfl⟩ := trodAll_nil r1
  obtain rfl : args = #[v0, v1] := by cases args; simp_all
  obtain ⟨rfl, rfl⟩ := trodVars_none hV
  obtain ⟨M0, st0, rfl, m0, x0, w0⟩ := open_state (hval 0 30 v0 rfl rfl) h0
  obtain ⟨a1, rfl, rfl, rfl, w1⟩ := open_int Tryz.underlying3 (hval 1 3 v1 rfl rfl) h1
  have s0 := sized_state hsz rfl (j := 0) rfl x0
  clear hA0 hval0
  refine (walk M0 st0 a1 w0 w1 s0 W m0 (tabs_of hL)).mono fun e W' ⟨he, bel⟩ => ?_
  subst he
  exact ⟨_, rfl, _, _, _, [], _, [], hW', trodAll_mk1 (shut_bool Tryz.underlying4 _), (trodAll_cons_mk (Below.trod laidOut (by kernel_rfl) (of_decide_eq_true (by kernel_rfl)) h0 bel (fun x hx => by simpa using hW'.lt x (by simp [hx]))) (trodAll_cons_mk (shut_int Tryz.underlying3 w1) trodAll_mk0)), rfl, bel.frame _, fun h => by cases h⟩
theorem said : Rows.UpDownsSaid :=
  OpenClaim.holds_of_cond 4 Tryz.f4 rfl rfl rfl rfl rfl rfl rfl ⟨rfl, rfl, rfl, rfl, rfl⟩ rfl rfl rfl rfl rfl (by kernel_rfl) Tryz.func4 (by kernel_rfl)
    (of_decide_eq_true (by kernel_rfl)) (by unfold Func.isWrapper; first | (rw [if_pos (by decide +kernel)]; kernel_rfl) | (rw [if_neg (by decide +kernel)]; exact ⟨rfl, rfl⟩))
    (fun os started H enc _ F => by rw [OpenClaim.pre_eq_preRow]; exact lifted os started H enc F)
theorem plain (f : FuncId) (fn : Func) (hf : Tryz.pinned.checked.prog.funcNamed Rows.upDownsRow.func = some f) (hfn : Tryz.pinned.checked.prog.funcs[f]? = some fn) :
    true = Tryz.pinned.checked.prog.looks [] ∧ ∀ (j : Nat) t, fn.params[j]? = some t → Tryz.pinned.checked.prog.wantsStandIn t = false := by
  obtain rfl : f = 4 := Option.some.inj ((show Tryz.prog.funcNamed Rows.upDownsRow.func = some 4 by kernel_rfl).symm.trans hf) |>.symm
  obtain rfl : fn = Tryz.f4 := (Option.some.inj (Tryz.func4.symm.trans hfn)).symm
  refine ⟨by kernel_rfl, fun j t ht => ?_⟩
  rw [Tryz.params4] at ht
  have hm : t = 30 ∨ t = 3 := by simpa using Array.mem_of_getElem? ht
  rcases hm with rfl | rfl
  · exact (show Tryz.prog.wantsStandIn 30 = false by kernel_rfl)
  · exact (show Tryz.prog.wantsStandIn 3 = false by kernel_rfl)
theorem proved : Rows.UpDownsCardSaid :=
  Claim7.holds_tied_plain_at .later [] _ _ _ _ said (fun _ h => by cases h) (by kernel_rfl) (fun _ h => by cases h) upDowns_row_tie rfl ⟨rfl, rfl⟩ (by kernel_rfl) rfl plain (by kernel_rfl)
#print axioms proved
end Go.Proofs.YtclopkpfeofjmaaGreatDoor.upDowns
