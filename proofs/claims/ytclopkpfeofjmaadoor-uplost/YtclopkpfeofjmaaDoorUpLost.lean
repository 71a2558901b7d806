/- For every state and every number the law UpLost of the package brackenkeep returns true, as a tied card: what is down fits, and goes up to what it was just if nothing was lost. Condition: the library's two tables unicode/utf8.first and acceptRanges start as their text lays them (the card ties them; first is pinned). -/
import Derived.Test.YtclopkpfeofjmaaDoorUpLaw
namespace Go.Proofs.YtclopkpfeofjmaaDoor.upLost
open Go.ChangeShapes Go.WideShapes Go.ChangeAt Go.RowKit
set_option linter.unusedVariables false

set_option maxRecDepth 100000 in
set_option maxHeartbeats 4000000 in
theorem walk (M : StM) (s : StD) (v0 : Int) (hw : wState s) (hv0 : (Lit.int .i64 v0).wf = true) (hz : SzState s) (w : World) (hm : StateAt w M s) (hT : Tabs w) :
    Calls Tryd.prog 7 #[stV M s, .int .i64 v0] w fun e w' => e = .returned (.bool true) ∧ Below w.heap.size w w' := by
  obtain ⟨aj, cj, an, cn, al, cl⟩ := M
  obtain ⟨hmj, hmn, hml⟩ := hm
  show Calls _ _ #[.agg #[.int .i64 s.rev, .slice aj s.jobs.length cj, .slice an s.nodes.length cn, .slice al s.leases.length cl], .int .i64 v0] _ _
  simp only at hmj hmn hml
  obtain ⟨W0, hW0⟩ : ∃ W0, w.alloc (.cells #[.int .i64 s.rev, .slice aj s.jobs.length cj, .slice an s.nodes.length cn, .slice al s.leases.length cl] 26) = W0 := ⟨_, rfl⟩
  have B0 := below_one w (.cells #[.int .i64 s.rev, .slice aj s.jobs.length cj, .slice an s.nodes.length cn, .slice al s.leases.length cl] 26)
  have Is0 := inBox_new (cj := cj) (cn := cn) (cl := cl) (And.intro hmj (And.intro hmn hml))
  rw [hW0] at B0 Is0
  have HT := Lib.hid hT
  have HWs := Lib.hid hw
  have HZ := Lib.hid (size3 hz)
  have B0 := Lib.hid B0
  have Is0 := Lib.hid Is0
  clear hmj hmn hml hT hz hw
  obtain ⟨k0, hk0, hk00, hk03⟩ := mod3 v0
  have HR0 := Lib.hid (fun W' => rest_is v0 3 (by omega) (by omega) W')
  rw [hk0] at HR0
  have wk0 : IntKind.i64.wrap (k0 + 1) = k0 + 1 := IntWalk.i64_in _ (by omega)
  clear hk0 hv0
  have hb : 1 ≤ k0 + 1 ∧ k0 + 1 ≤ 3 := by omega
  rcases dnR_cases s hb with ⟨c, hc, e1⟩ | ⟨e1, hck⟩
  · have hc' : ((c : Int) != 0) = true := by simp; omega
    have HC := Lib.hid hc
    clear hc hb
    have h := upped_is W0 (HT.out.below B0.out)
    have C := Lib.hid h
    clear h
    go_enter Tryd.func7, Tryd.ntmps7
    go_wp2_with fail
    refine C.out.mono ?_
    rintro e W1 ⟨rfl, b⟩
    have Is1 := Lib.hid (inBox_next Is0.out b)
    have B1 := Lib.hid (below_trans B0.out b B0.out.size)
    clear b C
    go_wp2_with fail
    refine (HR0.out _).mono ?_
    rintro e w' ⟨rfl, rfl⟩
    have h := down_any s aj an al cj cn cl (k0 + 1) HWs.out W1 (HT.out.below B1.out) Is1.out.2.1 Is1.out.2.2.1 Is1.out.2.2.2
    rw [e1] at h
    have C := Lib.hid h
    clear h
    obtain ⟨zs0, zs1, zs2, zs3⟩ := inBox_cells Is1.out
    go_wp2_with fail
    refine C.out.mono ?_
    rintro e w2 ⟨pj, pn, pl, pp, pq, pr, d, rfl, hcc, ow, b⟩
    clear zs0 zs1 zs2 zs3
    obtain ⟨Lp, hLp⟩ : ∃ L, w2.heap.size = L := ⟨_, rfl⟩
    obtain ⟨W2, hW2⟩ : ∃ W, w2.alloc (.cells #[.int .i64 zeroSt.rev, .slice pj zeroSt.jobs.length pp, .slice pn zeroSt.nodes.length pq, .slice pl zeroSt.leases.length pr] 26) = W := ⟨_, rfl⟩
    have bA := below_one w2 (.cells #[.int .i64 zeroSt.rev, .slice pj zeroSt.jobs.length pp, .slice pn zeroSt.nodes.length pq, .slice pl zeroSt.leases.length pr] 26)
    have iN := inBox_new (cj := pp) (cn := pq) (cl := pr) (ownS_at ow)
    rw [hW2] at bA iN
    rw [hLp] at iN
    have Is2 := Lib.hid (inBox_next (inBox_next Is1.out b) bA)
    have Ip2 := Lib.hid iN
    have B2 := Lib.hid (below_trans (below_trans B1.out b B1.out.size) bA (Nat.le_trans B1.out.size b.size))
    clear bA iN ow b C
    obtain rfl : d = false := by
      cases d with
      | false => rfl
      | true => exact absurd (hcc.1 (by first | rfl | trivial)).1 HC.out
    clear hcc
    have h := same_is zeroSt zeroSt pj pn pl none none none pp pq pr 0 0 0 (by decide) W2 Ip2.out.2.1 Ip2.out.2.2.1 Ip2.out.2.2.2 (fun i hi => absurd hi (by simp [zeroSt])) (fun i hi => absurd hi (by simp [zeroSt])) (fun i hi => absurd hi (by simp [zeroSt]))
    have C := Lib.hid h
    clear h
    obtain ⟨zp0, zp1, zp2, zp3⟩ := inBox_cells Ip2.out
    go_wp2_with fail
    refine C.out.mono ?_
    rintro e W3 ⟨c, rfl, hc, b⟩
    clear zp0 zp1 zp2 zp3
    obtain rfl : c = true := hc.2 (by first | rfl | trivial)
    clear hc
    have Is3 := Lib.hid (inBox_next Is2.out b)
    have Ip3 := Lib.hid (inBox_next Ip2.out b)
    have B3 := Lib.hid (below_trans B2.out b B2.out.size)
    clear b C
    go_wp2
    go_ret
    exact ⟨rfl, B3.out⟩
  · have e2 := upR_dn hck hb
    have e3 : dnR (dnS (k0 + 1) s) (k0 + 1) = (dnS (k0 + 1) s, 0) := by rw [dnR_ok (valid8_dn hck _) hb, dn_dn]
    have e4 := fitsR_true (valid8_dn hck (k0 + 1)) hb (fits_dn s (k0 + 1))
    have HWD := Lib.hid (wState_valid (valid8_dn hck (k0 + 1)))
    have HLD := Lib.hid (size3_valid (valid8_dn hck (k0 + 1)))
    have HLU := Lib.hid (size3_valid (valid8_up (valid8_dn hck (k0 + 1)) (k0 + 1) 3))
    obtain ⟨D, hD⟩ : ∃ D, dnS (k0 + 1) s = D := ⟨_, rfl⟩
    rw [hD] at e1 e2 e3 e4 HWD HLD HLU
    obtain ⟨U, hU⟩ : ∃ U, upS (k0 + 1) 3 D = U := ⟨_, rfl⟩
    rw [hU] at e2 HLU
    have HDU := Lib.hid (And.intro hD hU)
    clear hU hb hck hD
    have h := upped_is W0 (HT.out.below B0.out)
    have C := Lib.hid h
    clear h
    go_enter Tryd.func7, Tryd.ntmps7
    go_wp2_with fail
    refine C.out.mono ?_
    rintro e W1 ⟨rfl, b⟩
    have Is1 := Lib.hid (inBox_next Is0.out b)
    have B1 := Lib.hid (below_trans B0.out b B0.out.size)
    clear b C
    go_wp2_with fail
    refine (HR0.out _).mono ?_
    rintro e w' ⟨rfl, rfl⟩
    have h := down_any s aj an al cj cn cl (k0 + 1) HWs.out W1 (HT.out.below B1.out) Is1.out.2.1 Is1.out.2.2.1 Is1.out.2.2.2
    rw [e1] at h
    have C := Lib.hid h
    clear h
    obtain ⟨zs0, zs1, zs2, zs3⟩ := inBox_cells Is1.out
    go_wp2_with fail
    refine C.out.mono ?_
    rintro e w2 ⟨pj, pn, pl, pp, pq, pr, d, rfl, hcc, ow, b⟩
    clear zs0 zs1 zs2 zs3
    obtain ⟨Lp, hLp⟩ : ∃ L, w2.heap.size = L := ⟨_, rfl⟩
    obtain ⟨W2, hW2⟩ : ∃ W, w2.alloc (.cells #[.int .i64 D.rev, .slice pj D.jobs.length pp, .slice pn D.nodes.length pq, .slice pl D.leases.length pr] 26) = W := ⟨_, rfl⟩
    have bA := below_one w2 (.cells #[.int .i64 D.rev, .slice pj D.jobs.length pp, .slice pn D.nodes.length pq, .slice pl D.leases.length pr] 26)
    have iN := inBox_new (cj := pp) (cn := pq) (cl := pr) (ownS_at ow)
    rw [hW2] at bA iN
    rw [hLp] at iN
    have Is2 := Lib.hid (inBox_next (inBox_next Is1.out b) bA)
    have Ip2 := Lib.hid iN
    have B2 := Lib.hid (below_trans (below_trans B1.out b B1.out.size) bA (Nat.le_trans B1.out.size b.size))
    clear bA iN ow b C
    have HI := Lib.hid (show d = true ↔ U = s by rw [hcc, HDU.out.1, HDU.out.2]; simp)
    clear hcc
    have h := fits_any D.rev pj pn pl pp pq pr D.jobs D.nodes D.leases (k0 + 1) HWD.out W2 (HT.out.below B2.out) Ip2.out.2.1 Ip2.out.2.2.1 Ip2.out.2.2.2
    rw [show (⟨D.rev, D.jobs, D.nodes, D.leases⟩ : StD) = D from rfl, e4] at h
    have C := Lib.hid h
    clear h
    obtain ⟨zp0, zp1, zp2, zp3⟩ := inBox_cells Ip2.out
    go_wp2_with fail
    refine C.out.mono ?_
    rintro e W3 ⟨rfl, b⟩
    clear zp0 zp1 zp2 zp3
    have Is3 := Lib.hid (inBox_next Is2.out b)
    have Ip3 := Lib.hid (inBox_next Ip2.out b)
    have B3 := Lib.hid (below_trans B2.out b B2.out.size)
    clear b C
    have h := ustate_any D pj pn pl pp pq pr (k0 + 1) 3 HWD.out W3 (HT.out.below B3.out) Ip3.out.2.1 Ip3.out.2.2.1 Ip3.out.2.2.2
    rw [e2] at h
    have C := Lib.hid h
    clear h
    obtain ⟨zp0, zp1, zp2, zp3⟩ := inBox_cells Ip3.out
    go_wp2_with fail
    refine C.out.mono ?_
    rintro e w4 ⟨qj, qn, ql, qp, qq, qr, rfl, ow, b⟩
    clear zp0 zp1 zp2 zp3
    obtain ⟨Lq, hLq⟩ : ∃ L, w4.heap.size = L := ⟨_, rfl⟩
    obtain ⟨W4, hW4⟩ : ∃ W, w4.alloc (.cells #[.int .i64 U.rev, .slice qj U.jobs.length qp, .slice qn U.nodes.length qq, .slice ql U.leases.length qr] 26) = W := ⟨_, rfl⟩
    have bA := below_one w4 (.cells #[.int .i64 U.rev, .slice qj U.jobs.length qp, .slice qn U.nodes.length qq, .slice ql U.leases.length qr] 26)
    have iN := inBox_new (cj := qp) (cn := qq) (cl := qr) (ownS_at ow)
    rw [hW4] at bA iN
    rw [hLq] at iN
    have Is4 := Lib.hid (inBox_next (inBox_next Is3.out b) bA)
    have Ip4 := Lib.hid (inBox_next (inBox_next Ip3.out b) bA)
    have Iq4 := Lib.hid iN
    have B4 := Lib.hid (below_trans (below_trans B3.out b B3.out.size) bA (Nat.le_trans B3.out.size b.size))
    clear bA iN ow b C
    have h := down_any D pj pn pl pp pq pr (k0 + 1) HWD.out W4 (HT.out.below B4.out) Ip4.out.2.1 Ip4.out.2.2.1 Ip4.out.2.2.2
    rw [e3] at h
    have C := Lib.hid h
    clear h
    obtain ⟨zp0, zp1, zp2, zp3⟩ := inBox_cells Ip4.out
    go_wp2_with fail
    refine C.out.mono ?_
    rintro e w5 ⟨rj, rn, rl, rp, rq, rr, d2, rfl, hcc, ow, b⟩
    clear zp0 zp1 zp2 zp3
    obtain ⟨Lr, hLr⟩ : ∃ L, w5.heap.size = L := ⟨_, rfl⟩
    obtain ⟨W5, hW5⟩ : ∃ W, w5.alloc (.cells #[.int .i64 D.rev, .slice rj D.jobs.length rp, .slice rn D.nodes.length rq, .slice rl D.leases.length rr] 26) = W := ⟨_, rfl⟩
    have bA := below_one w5 (.cells #[.int .i64 D.rev, .slice rj D.jobs.length rp, .slice rn D.nodes.length rq, .slice rl D.leases.length rr] 26)
    have iN := inBox_new (cj := rp) (cn := rq) (cl := rr) (ownS_at ow)
    rw [hW5] at bA iN
    rw [hLr] at iN
    have Is5 := Lib.hid (inBox_next (inBox_next Is4.out b) bA)
    have Ip5 := Lib.hid (inBox_next (inBox_next Ip4.out b) bA)
    have Iq5 := Lib.hid (inBox_next (inBox_next Iq4.out b) bA)
    have Ir5 := Lib.hid iN
    have B5 := Lib.hid (below_trans (below_trans B4.out b B4.out.size) bA (Nat.le_trans B4.out.size b.size))
    clear bA iN ow b C
    clear hcc
    have h := same_is U s qj qn ql aj an al qp qq qr cj cn cl HLU.out W5 Iq5.out.2.1 Iq5.out.2.2.1 Iq5.out.2.2.2 Is5.out.2.1 Is5.out.2.2.1 Is5.out.2.2.2
    have C := Lib.hid h
    clear h
    obtain ⟨zq0, zq1, zq2, zq3⟩ := inBox_cells Iq5.out
    obtain ⟨zs0, zs1, zs2, zs3⟩ := inBox_cells Is5.out
    go_wp2_with fail
    refine C.out.mono ?_
    rintro e W6 ⟨c, rfl, hc, b⟩
    clear zq0 zq1 zq2 zq3 zs0 zs1 zs2 zs3
    have hb1 : (c == d) = true := by
      have h1 := HI.out
      cases c <;> cases d <;> simp_all
    clear hc
    have Is6 := Lib.hid (inBox_next Is5.out b)
    have Ip6 := Lib.hid (inBox_next Ip5.out b)
    have Iq6 := Lib.hid (inBox_next Iq5.out b)
    have Ir6 := Lib.hid (inBox_next Ir5.out b)
    have B6 := Lib.hid (below_trans B5.out b B5.out.size)
    clear b C
    have h := same_is D D rj rn rl pj pn pl rp rq rr pp pq pr HLD.out W6 Ir6.out.2.1 Ir6.out.2.2.1 Ir6.out.2.2.2 Ip6.out.2.1 Ip6.out.2.2.1 Ip6.out.2.2.2
    have C := Lib.hid h
    clear h
    obtain ⟨zr0, zr1, zr2, zr3⟩ := inBox_cells Ir6.out
    obtain ⟨zp0, zp1, zp2, zp3⟩ := inBox_cells Ip6.out
    go_wp2_with fail
    refine C.out.mono ?_
    rintro e W7 ⟨c2, rfl, hc, b⟩
    clear zr0 zr1 zr2 zr3 zp0 zp1 zp2 zp3
    obtain rfl : c2 = true := hc.2 (by first | rfl | trivial)
    clear hc
    have Is7 := Lib.hid (inBox_next Is6.out b)
    have Ip7 := Lib.hid (inBox_next Ip6.out b)
    have Iq7 := Lib.hid (inBox_next Iq6.out b)
    have Ir7 := Lib.hid (inBox_next Ir6.out b)
    have B7 := Lib.hid (below_trans B6.out b B6.out.size)
    clear b C
    go_wp2
    go_ret
    exact ⟨rfl, B7.out⟩

theorem own : ownKnob Tryd.prog.godebug = none := by kernel_rfl
theorem laidOut : laidOutB Tryd.prog = true := by kernel_rfl
theorem laid_met (os : Os) : laidMet Tryd.prog Rows.upLostRow.laid ((laidWorld os).forCall (fun _ _ => 0) ⟨#[], #[.agg #[.int .i64 0, .slice none 0 0, .slice none 0 0, .slice none 0 0], .int .i64 0], []⟩).memory :=
  laidMet_of_run' 8 (by kernel_rfl) (by kernel_rfl)
theorem reads (os : Os) {H : Type} (enc : TypeId × Value → H) : ∃ places, DataW.whole enc Tryd.prog ((laidWorld os).forCall (fun _ _ => 0) ⟨#[], #[.agg #[.int .i64 0, .slice none 0 0, .slice none 0 0, .slice none 0 0], .int .i64 0], []⟩).memory Tryd.f7.params.toList Rows.upLostSpec.vars false #[Value.agg #[.int .i64 0, .slice none 0 0, .slice none 0 0, .slice none 0 0], Value.int .i64 0].toList 8 = some ([.agg [.lit (.int .i64 0), .nil, .nil, .nil], .lit (.int .i64 0)], [], places) :=
  ⟨[], by kernel_rfl⟩
set_option maxRecDepth 100000 in
set_option maxHeartbeats 2000000 in
theorem lifted (os : Os) (started : os.Started) (H : Type) (enc : TypeId × Value → H) (F : Stop.Interp) :
    ReturnsInHanded {} Tryd.checked os 7 .any ((OpenSpec.ofChange Rows.upLostSpec).preRow enc Tryd.prog Tryd.f7 Rows.upLostRow.domain false Rows.upLostRow.laid) (((OpenSpec.ofChange Rows.upLostSpec).at F).post enc Tryd.prog Tryd.f7 false true false false) := by
  obtain ⟨places, hx⟩ := reads os enc
  refine returnsInHanded_of_row (C := Tryd.checked) (s := (OpenSpec.ofChange Rows.upLostSpec)) own started (by kernel_rfl) Tryd.func7
    (witness_row_atRef (enc := enc) (C := Tryd.checked) false (laidWorld os) #[.agg #[.int .i64 0, .slice none 0 0, .slice none 0 0, .slice none 0 0], .int .i64 0] rfl (by kernel_rfl) (by kernel_rfl) (by kernel_rfl)
      (OpenSpec.preRow_of_cond 8 hx (by kernel_rfl) (fun k hk => by cases hk) (by kernel_rfl) (laid_met os))) ?_
  intro W base args ds gs before hval0 hW _ _ hsz0 hL _ _
  have hval : ∀ (j : Nat) t v, Tryd.f7.params[j]? = some t → args[j]? = some v → Value.okWide Tryd.prog W .any base t v := hval0
  have hW' := hW
  obtain ⟨p, q, hA0, hV, rfl, hfz, hnd⟩ := hW
  have hA : DataW.TrodAll enc Tryd.prog W 0 (fun _ => true) true Tryd.f7.params.toList args.toList ds p := hA0
  have hsz : (DataW.weightsEach Tryd.prog (Tryd.f7.params.toList ++ Rows.upLostSpec.plain.varTypes Tryd.prog) (ds ++ gs)).all (· ≤ reachBytes) = true := hsz0
  rw [Tryd.params7] at hA hval hsz
  obtain ⟨v0, vs0, d0, ds0, p0, q0, hargs, rfl, rfl, h0, r0⟩ := trodAll_cons hA
  obtain ⟨v1, vs1, d1, ds1, p1, q1, rfl, rfl, rfl, h1, r1⟩ := trodAll_cons r0
  obtain ⟨rfl, rfl, rfl⟩ := trodAll_nil r1
  obtain rfl : args = #[v0, v1] := by cases args; simp_all
  obtain ⟨rfl, rfl⟩ := trodVars_none hV
  obtain ⟨M0, st0, rfl, m0, x0, w0⟩ := open_state (hval 0 26 v0 rfl rfl) h0
  obtain ⟨a1, rfl, rfl, rfl, w1⟩ := open_int Tryd.underlying3 (hval 1 3 v1 rfl rfl) h1
  have s0 := sized_state hsz rfl (j := 0) rfl x0
  clear hA0 hval0
  refine (walk M0 st0 a1 w0 w1 s0 W m0 (tabs_of hL)).mono fun e W' ⟨he, bel⟩ => ?_
  subst he
  exact ⟨_, rfl, _, _, _, [], _, [], hW', trodAll_mk1 (shut_bool Tryd.underlying4 _), (trodAll_cons_mk (Below.trod laidOut (by kernel_rfl) (of_decide_eq_true (by kernel_rfl)) h0 bel (fun x hx => by simpa using hW'.lt x (by simp [hx]))) (trodAll_cons_mk (shut_int Tryd.underlying3 w1) trodAll_mk0)), rfl, bel.frame _, fun h => by cases h⟩
theorem said : Rows.UpLostSaid :=
  OpenClaim.holds_of_cond 7 Tryd.f7 rfl rfl rfl rfl rfl rfl rfl ⟨rfl, rfl, rfl, rfl, rfl⟩ rfl rfl rfl rfl rfl (by kernel_rfl) Tryd.func7 (by kernel_rfl)
    (of_decide_eq_true (by kernel_rfl)) (by unfold Func.isWrapper; first | (rw [if_pos (by decide +kernel)]; kernel_rfl) | (rw [if_neg (by decide +kernel)]; exact ⟨rfl, rfl⟩))
    (fun os started H enc _ F => by rw [OpenClaim.pre_eq_preRow]; exact lifted os started H enc F)
theorem plain (f : FuncId) (fn : Func) (hf : Tryd.pinned.checked.prog.funcNamed Rows.upLostRow.func = some f) (hfn : Tryd.pinned.checked.prog.funcs[f]? = some fn) :
    false = Tryd.pinned.checked.prog.looks [] ∧ ∀ (j : Nat) t, fn.params[j]? = some t → Tryd.pinned.checked.prog.wantsStandIn t = false := by
  obtain rfl : f = 7 := Option.some.inj ((show Tryd.prog.funcNamed Rows.upLostRow.func = some 7 by kernel_rfl).symm.trans hf) |>.symm
  obtain rfl : fn = Tryd.f7 := (Option.some.inj (Tryd.func7.symm.trans hfn)).symm
  refine ⟨by kernel_rfl, fun j t ht => ?_⟩
  rw [Tryd.params7] at ht
  have hm : t = 26 ∨ t = 3 := by simpa using Array.mem_of_getElem? ht
  rcases hm with rfl | rfl
  · exact (show Tryd.prog.wantsStandIn 26 = false by kernel_rfl)
  · exact (show Tryd.prog.wantsStandIn 3 = false by kernel_rfl)
theorem proved : Rows.UpLostCardSaid :=
  Claim7.holds_tied_plain_at .later [] _ _ _ _ said (fun _ h => by cases h) (by kernel_rfl) (fun _ h => by cases h) upLost_row_tie rfl ⟨rfl, rfl⟩ (by kernel_rfl) rfl plain (by kernel_rfl)
#print axioms proved
end Go.Proofs.YtclopkpfeofjmaaDoor.upLost
