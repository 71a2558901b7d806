/- For every state and every two numbers the law UpKeeps of the package brackenkeep returns true, as a tied card: names, needs and leases stay. Condition: the library's two tables unicode/utf8.first and acceptRanges start as their text lays them (the card ties them; first is pinned). -/
import Derived.Test.YtclopkpfeofjmaaDoorUpLaw
namespace Go.Proofs.YtclopkpfeofjmaaDoor.upKeeps
open Go.ChangeShapes Go.WideShapes Go.ChangeAt Go.RowKit
set_option linter.unusedVariables false

set_option maxRecDepth 100000 in
set_option maxHeartbeats 4000000 in
theorem walk (M : StM) (s : StD) (v0 : Int) (v1 : Int) (hw : wState s) (hv0 : (Lit.int .i64 v0).wf = true) (hv1 : (Lit.int .i64 v1).wf = true) (hz : SzState s) (w : World) (hm : StateAt w M s) (hT : Tabs w) :
    Calls Tryd.prog 8 #[stV M s, .int .i64 v0, .int .i64 v1] w fun e w' => e = .returned (.bool true) ∧ Below w.heap.size w w' := by
  obtain ⟨aj, cj, an, cn, al, cl⟩ := M
  obtain ⟨hmj, hmn, hml⟩ := hm
  show Calls _ _ #[.agg #[.int .i64 s.rev, .slice aj s.jobs.length cj, .slice an s.nodes.length cn, .slice al s.leases.length cl], .int .i64 v0, .int .i64 v1] _ _
  simp only at hmj hmn hml
  obtain ⟨W0, hW0⟩ : ∃ W0, w.alloc (.cells #[.int .i64 s.rev, .slice aj s.jobs.length cj, .slice an s.nodes.length cn, .slice al s.leases.length cl] 26) = W0 := ⟨_, rfl⟩
  have B0 := below_one w (.cells #[.int .i64 s.rev, .slice aj s.jobs.length cj, .slice an s.nodes.length cn, .slice al s.leases.length cl] 26)
  have Is0 := inBox_new (cj := cj) (cn := cn) (cl := cl) (And.intro hmj (And.intro hmn hml))
  rw [hW0] at B0 Is0
  have HT := Lib.hid hT
  have HWs := Lib.hid hw
  have HZ := Lib.hid (size3 hz)
  have B0 := Lib.hid B0
  have Is0 := Lib.hid Is0
  clear hmj hmn hml hT hz hw
  obtain ⟨k0, hk0, hk00, hk03⟩ := mod3 v0
  have HR0 := Lib.hid (fun W' => rest_is v0 3 (by omega) (by omega) W')
  rw [hk0] at HR0
  have wk0 : IntKind.i64.wrap (k0 + 1) = k0 + 1 := IntWalk.i64_in _ (by omega)
  clear hk0 hv0
  obtain ⟨k1, hk1, hk10, hk13⟩ := mod3 v1
  have HR1 := Lib.hid (fun W' => rest_is v1 3 (by omega) (by omega) W')
  rw [hk1] at HR1
  have wk1 : IntKind.i64.wrap (k1 + 1) = k1 + 1 := IntWalk.i64_in _ (by omega)
  clear hk1 hv1
  by_cases hok : (upR s (k0 + 1) (k1 + 1)).2 ≠ 0
  · obtain ⟨Q, hQ⟩ : ∃ Q, upR s (k0 + 1) (k1 + 1) = Q := ⟨_, rfl⟩
    rw [hQ] at hok
    obtain ⟨U, c⟩ := Q
    simp only at hok
    have hc' : ((c : Int) != 0) = true := by simp; omega
    clear hok
    have h := upped_is W0 (HT.out.below B0.out)
    have C := Lib.hid h
    clear h
    go_enter Tryd.func8, Tryd.ntmps8
    go_wp2_with fail
    refine C.out.mono ?_
    rintro e W1 ⟨rfl, b⟩
    have Is1 := Lib.hid (inBox_next Is0.out b)
    have B1 := Lib.hid (below_trans B0.out b B0.out.size)
    clear b C
    go_wp2_with fail
    refine (HR0.out _).mono ?_
    rintro e w' ⟨rfl, rfl⟩
    go_wp2_with fail
    refine (HR1.out _).mono ?_
    rintro e w' ⟨rfl, rfl⟩
    have h := ustate_any s aj an al cj cn cl (k0 + 1) (k1 + 1) HWs.out W1 (HT.out.below B1.out) Is1.out.2.1 Is1.out.2.2.1 Is1.out.2.2.2
    rw [hQ] at h
    have C := Lib.hid h
    clear h
    obtain ⟨zs0, zs1, zs2, zs3⟩ := inBox_cells Is1.out
    go_wp2_with fail
    refine C.out.mono ?_
    rintro e w2 ⟨pj, pn, pl, pp, pq, pr, rfl, ow, b⟩
    clear zs0 zs1 zs2 zs3
    obtain ⟨Lp, hLp⟩ : ∃ L, w2.heap.size = L := ⟨_, rfl⟩
    obtain ⟨W2, hW2⟩ : ∃ W, w2.alloc (.cells #[.int .i64 U.rev, .slice pj U.jobs.length pp, .slice pn U.nodes.length pq, .slice pl U.leases.length pr] 26) = W := ⟨_, rfl⟩
    have bA := below_one w2 (.cells #[.int .i64 U.rev, .slice pj U.jobs.length pp, .slice pn U.nodes.length pq, .slice pl U.leases.length pr] 26)
    have iN := inBox_new (cj := pp) (cn := pq) (cl := pr) (ownS_at ow)
    rw [hW2] at bA iN
    rw [hLp] at iN
    have Is2 := Lib.hid (inBox_next (inBox_next Is1.out b) bA)
    have Ip2 := Lib.hid iN
    have B2 := Lib.hid (below_trans (below_trans B1.out b B1.out.size) bA (Nat.le_trans B1.out.size b.size))
    clear bA iN ow b C
    go_wp2
    go_ret
    exact ⟨rfl, B2.out⟩
  · have key : upR s (k0 + 1) (k1 + 1) = (upS (k0 + 1) (k1 + 1) s, 0) ∧ checkE V8 s = 0 := by
      have h0 : (upR s (k0 + 1) (k1 + 1)).2 = 0 := by simpa using hok
      cases hu : okUp (k0 + 1) (k1 + 1) with
      | false => rw [upR_bad hu] at h0; simp at h0
      | true =>
        rcases upR_cases s ((okUp_iff _ _).1 hu) with ⟨c, hc, h⟩ | ⟨h, hc, _⟩
        · rw [h] at h0; exact absurd h0 hc
        · exact ⟨h, hc⟩
    obtain ⟨e1, hck⟩ := key
    have e2 := valid8_up hck (k0 + 1) (k1 + 1)
    have HWU := Lib.hid (wState_valid e2)
    have HLU := Lib.hid (up_lens (k0 + 1) (k1 + 1) s)
    have HJ := Lib.hid (fun (i : Nat) (hi : i < s.jobs.length) (hi' : i < (upS (k0 + 1) (k1 + 1) s).jobs.length) => up_job (k0 + 1) (k1 + 1) s i hi hi')
    have hsm := (small_valid hck).1
    obtain ⟨U, hU⟩ : ∃ U, upS (k0 + 1) (k1 + 1) s = U := ⟨_, rfl⟩
    rw [hU] at e1 e2 HWU HLU HJ
    have hl1 : ((s.jobs.length : Int) != (U.jobs.length : Int)) = false := by rw [HLU.out.1]; simp
    have hl2 : ((s.nodes.length : Int) != (U.nodes.length : Int)) = false := by rw [HLU.out.2.1]; simp
    clear hU hck hok
    have h := upped_is W0 (HT.out.below B0.out)
    have C := Lib.hid h
    clear h
    go_enter Tryd.func8, Tryd.ntmps8
    go_wp2_with fail
    refine C.out.mono ?_
    rintro e W1 ⟨rfl, b⟩
    have Is1 := Lib.hid (inBox_next Is0.out b)
    have B1 := Lib.hid (below_trans B0.out b B0.out.size)
    clear b C
    go_wp2_with fail
    refine (HR0.out _).mono ?_
    rintro e w' ⟨rfl, rfl⟩
    go_wp2_with fail
    refine (HR1.out _).mono ?_
    rintro e w' ⟨rfl, rfl⟩
    have h := ustate_any s aj an al cj cn cl (k0 + 1) (k1 + 1) HWs.out W1 (HT.out.below B1.out) Is1.out.2.1 Is1.out.2.2.1 Is1.out.2.2.2
    rw [e1] at h
    have C := Lib.hid h
    clear h
    obtain ⟨zs0, zs1, zs2, zs3⟩ := inBox_cells Is1.out
    go_wp2_with fail
    refine C.out.mono ?_
    rintro e w2 ⟨pj, pn, pl, pp, pq, pr, rfl, ow, b⟩
    clear zs0 zs1 zs2 zs3
    obtain ⟨Lp, hLp⟩ : ∃ L, w2.heap.size = L := ⟨_, rfl⟩
    obtain ⟨W2, hW2⟩ : ∃ W, w2.alloc (.cells #[.int .i64 U.rev, .slice pj U.jobs.length pp, .slice pn U.nodes.length pq, .slice pl U.leases.length pr] 26) = W := ⟨_, rfl⟩
    have bA := below_one w2 (.cells #[.int .i64 U.rev, .slice pj U.jobs.length pp, .slice pn U.nodes.length pq, .slice pl U.leases.length pr] 26)
    have iN := inBox_new (cj := pp) (cn := pq) (cl := pr) (ownS_at ow)
    rw [hW2] at bA iN
    rw [hLp] at iN
    have Is2 := Lib.hid (inBox_next (inBox_next Is1.out b) bA)
    have Ip2 := Lib.hid iN
    have B2 := Lib.hid (below_trans (below_trans B1.out b B1.out.size) bA (Nat.le_trans B1.out.size b.size))
    clear bA iN ow b C
    have h := eqLeases_is s.leases U.leases al pl cl pr HZ.out.2.2 W2 Is2.out.2.2.2 Ip2.out.2.2.2
    have C := Lib.hid h
    clear h
    obtain ⟨zs0, zs1, zs2, zs3⟩ := inBox_cells Is2.out
    obtain ⟨zp0, zp1, zp2, zp3⟩ := inBox_cells Ip2.out
    go_wp2_with fail
    refine C.out.mono ?_
    rintro e W3 ⟨c, rfl, hc, b⟩
    clear zs0 zs1 zs2 zs3 zp0 zp1 zp2 zp3
    obtain rfl : c = true := hc.2 HLU.out.2.2.symm
    clear hc
    have Is3 := Lib.hid (inBox_next Is2.out b)
    have Ip3 := Lib.hid (inBox_next Ip2.out b)
    have B3 := Lib.hid (below_trans B2.out b B2.out.size)
    clear b C
    obtain ⟨zs0, zs1, zs2, zs3⟩ := inBox_cells Is3.out
    obtain ⟨zp0, zp1, zp2, zp3⟩ := inBox_cells Ip3.out
    go_wp2
    clear zs0 zs1 zs2 zs3 zp0 zp1 zp2 zp3
    go_loopw [56] (fun iv wr => ∃ (i : Nat), iv = .int .i64 (i : Int) ∧ i ≤ s.jobs.length ∧ Below W3.heap.size W3 wr) (fun iv _ => s.jobs.length - (intOf iv).toNat)
    case atStart => exact ⟨0, rfl, Nat.zero_le _, Below.refl _ _⟩
    case round =>
      obtain ⟨i, rfl, hi, hbr⟩ := hrel
      have ip := inBox_next Ip3.out hbr
      have is := inBox_next Is3.out hbr
      by_cases h : (i : Int) < (s.jobs.length : Int)
      · have hil : i < s.jobs.length := by omega
        have hil' : i < U.jobs.length := by rw [HLU.out.1]; exact hil
        have hiU : (i : Int) < (U.jobs.length : Int) := by omega
        obtain ⟨x, hxi⟩ : ∃ x, s.jobs[i] = x := ⟨_, rfl⟩
        obtain ⟨y, hyi⟩ : ∃ y, U.jobs[i] = y := ⟨_, rfl⟩
        have hj := HJ.out i hil hil'
        rw [hxi, hyi] at hj
        obtain ⟨a, rfl, hal, m0, m1, m2, m3, m4⟩ := is.2.1 i hil
        rw [hxi] at m0 m1 m2 m3 m4
        have bA := below_one wr (.cells #[.string x.name, .int .i64 x.prio, .int .i64 x.need, .int .i64 x.tries, .string x.tag] 47)
        have ip2 := inBox_next ip bA
        obtain ⟨a', rfl, hal', q0, q1, q2, q3, q4⟩ := ip2.2.1 i hil'
        rw [hyi] at q0 q1 q2 q3 q4
        have zp1 := objAt_cell ip2.1 1 rfl
        have g0 : (y.name.toList == x.name.toList) = true := by rw [hj.1]; exact lists_eq _
        have g1 : (y.need != x.need) = false := by simp [hj.2.1]
        have g2 : (y.prio != x.prio) = false := by simp [hj.2.2]
        have bB := below_one (wr.alloc (.cells #[.string x.name, .int .i64 x.prio, .int .i64 x.need, .int .i64 x.tries, .string x.tag] 47)) (.cells #[.string y.name, .int .i64 y.prio, .int .i64 y.need, .int .i64 y.tries, .string y.tag] 47)
        have BB := Lib.hid (below_trans (below_trans hbr bA hbr.size) bB (Nat.le_trans hbr.size bA.size))
        clear ip is ip2 bA bB hj hxi hyi
        go_wp2
        go_roundw
        case rel => exact ⟨i + 1, by simp, by omega, BB.out⟩
        case measure => simp [intOf]; omega
      · obtain rfl : i = s.jobs.length := by omega
        have HC := check_any U.rev pj pn pl pp pq pr U.jobs U.nodes U.leases HWU.out wr (HT.out.below (below_trans B3.out hbr B3.out.size)) ip.2.1 ip.2.2.1 ip.2.2.2
        rw [show (⟨U.rev, U.jobs, U.nodes, U.leases⟩ : StD) = U from rfl, e2] at HC
        have HC := Lib.hid HC
        obtain ⟨z0, z1, z2, z3⟩ := inBox_cells ip
        have BR := Lib.hid (below_trans B3.out hbr B3.out.size)
        clear ip is hbr
        go_wp2_with fail
        refine HC.out.mono ?_
        rintro e w9 ⟨rfl, b9⟩
        have BF := Lib.hid (below_trans BR.out b9 BR.out.size)
        clear b9
        go_wp2
        go_ret
        exact ⟨rfl, BF.out⟩

theorem own : ownKnob Tryd.prog.godebug = none := by kernel_rfl
theorem laidOut : laidOutB Tryd.prog = true := by kernel_rfl
theorem laid_met (os : Os) : laidMet Tryd.prog Rows.upKeepsRow.laid ((laidWorld os).forCall (fun _ _ => 0) ⟨#[], #[.agg #[.int .i64 0, .slice none 0 0, .slice none 0 0, .slice none 0 0], .int .i64 0, .int .i64 0], []⟩).memory :=
  laidMet_of_run' 8 (by kernel_rfl) (by kernel_rfl)
theorem reads (os : Os) {H : Type} (enc : TypeId × Value → H) : ∃ places, DataW.whole enc Tryd.prog ((laidWorld os).forCall (fun _ _ => 0) ⟨#[], #[.agg #[.int .i64 0, .slice none 0 0, .slice none 0 0, .slice none 0 0], .int .i64 0, .int .i64 0], []⟩).memory Tryd.f8.params.toList Rows.upKeepsSpec.vars false #[Value.agg #[.int .i64 0, .slice none 0 0, .slice none 0 0, .slice none 0 0], Value.int .i64 0, Value.int .i64 0].toList 8 = some ([.agg [.lit (.int .i64 0), .nil, .nil, .nil], .lit (.int .i64 0), .lit (.int .i64 0)], [], places) :=
  ⟨[], by kernel_rfl⟩
set_option maxRecDepth 100000 in
set_option maxHeartbeats 2000000 in
theorem lifted (os : Os) (started : os.Started) (H : Type) (enc : TypeId × Value → H) (F : Stop.Interp) :
    ReturnsInHanded {} Tryd.checked os 8 .any ((OpenSpec.ofChange Rows.upKeepsSpec).preRow enc Tryd.prog Tryd.f8 Rows.upKeepsRow.domain false Rows.upKeepsRow.laid) (((OpenSpec.ofChange Rows.upKeepsSpec).at F).post enc Tryd.prog Tryd.f8 false true false false) := by
  obtain ⟨places, hx⟩ := reads os enc
  refine returnsInHanded_of_row (C := Tryd.checked) (s := (OpenSpec.ofChange Rows.upKeepsSpec)) own started (by kernel_rfl) Tryd.func8
    (witness_row_atRef (enc := enc) (C := Tryd.checked) false (laidWorld os) #[.agg #[.int .i64 0, .slice none 0 0, .slice none 0 0, .slice none 0 0], .int .i64 0, .int .i64 0] rfl (by kernel_rfl) (by kernel_rfl) (by kernel_rfl)
      (OpenSpec.preRow_of_cond 8 hx (by kernel_rfl) (fun k hk => by cases hk) (by kernel_rfl) (laid_met os))) ?_
  intro W base args ds gs before hval0 hW _ _ hsz0 hL _ _
  have hval : ∀ (j : Nat) t v, Tryd.f8.params[j]? = some t → args[j]? = some v → Value.okWide Tryd.prog W .any base t v := hval0
  have hW' := hW
  obtain ⟨p, q, hA0, hV, rfl, hfz, hnd⟩ := hW
  have hA : DataW.TrodAll enc Tryd.prog W 0 (fun _ => true) true Tryd.f8.params.toList args.toList ds p := hA0
  have hsz : (DataW.weightsEach Tryd.prog (Tryd.f8.params.toList ++ Rows.upKeepsSpec.plain.varTypes Tryd.prog) (ds ++ gs)).all (· ≤ reachBytes) = true := hsz0
  rw [Tryd.params8] at hA hval hsz
  obtain ⟨v0, vs0, d0, ds0, p0, q0, hargs, rfl, rfl, h0, r0⟩ := trodAll_cons hA
  obtain ⟨v1, vs1, d1, ds1, p1, q1, rfl, rfl, rfl, h1, r1⟩ := trodAll_cons r0
  obtain ⟨v2, vs2, d2, ds2, p2, q2, rfl, rfl, rfl, h2, r2⟩ := trodAll_cons r1
  obtain ⟨rfl, rfl, rfl⟩ := trodAll_nil r2
  obtain rfl : args = #[v0, v1, v2] := by cases args; simp_all
  obtain ⟨rfl, rfl⟩ := trodVars_none hV
  obtain ⟨M0, st0, rfl, m0, x0, w0⟩ := open_state (hval 0 26 v0 rfl rfl) h0
  obtain ⟨a1, rfl, rfl, rfl, w1⟩ := open_int Tryd.underlying3 (hval 1 3 v1 rfl rfl) h1
  obtain ⟨a2, rfl, rfl, rfl, w2⟩ := open_int Tryd.underlying3 (hval 2 3 v2 rfl rfl) h2
  have s0 := sized_state hsz rfl (j := 0) rfl x0
  clear hA0 hval0
  refine (walk M0 st0 a1 a2 w0 w1 w2 s0 W m0 (tabs_of hL)).mono fun e W' ⟨he, bel⟩ => ?_
  subst he
  exact ⟨_, rfl, _, _, _, [], _, [], hW', trodAll_mk1 (shut_bool Tryd.underlying4 _), (trodAll_cons_mk (Below.trod laidOut (by kernel_rfl) (of_decide_eq_true (by kernel_rfl)) h0 bel (fun x hx => by simpa using hW'.lt x (by simp [hx]))) (trodAll_cons_mk (shut_int Tryd.underlying3 w1) (trodAll_cons_mk (shut_int Tryd.underlying3 w2) trodAll_mk0))), rfl, bel.frame _, fun h => by cases h⟩
theorem said : Rows.UpKeepsSaid :=
  OpenClaim.holds_of_cond 8 Tryd.f8 rfl rfl rfl rfl rfl rfl rfl ⟨rfl, rfl, rfl, rfl, rfl⟩ rfl rfl rfl rfl rfl (by kernel_rfl) Tryd.func8 (by kernel_rfl)
    (of_decide_eq_true (by kernel_rfl)) (by unfold Func.isWrapper; first | (rw [if_pos (by decide +kernel)]; kernel_rfl) | (rw [if_neg (by decide +kernel)]; exact ⟨rfl, rfl⟩))
    (fun os started H enc _ F => by rw [OpenClaim.pre_eq_preRow]; exact lifted os started H enc F)
theorem plain (f : FuncId) (fn : Func) (hf : Tryd.pinned.checked.prog.funcNamed Rows.upKeepsRow.func = some f) (hfn : Tryd.pinned.checked.prog.funcs[f]? = some fn) :
    false = Tryd.pinned.checked.prog.looks [] ∧ ∀ (j : Nat) t, fn.params[j]? = some t → Tryd.pinned.checked.prog.wantsStandIn t = false := by
  obtain rfl : f = 8 := Option.some.inj ((show Tryd.prog.funcNamed Rows.upKeepsRow.func = some 8 by kernel_rfl).symm.trans hf) |>.symm
  obtain rfl : fn = Tryd.f8 := (Option.some.inj (Tryd.func8.symm.trans hfn)).symm
  refine ⟨by kernel_rfl, fun j t ht => ?_⟩
  rw [Tryd.params8] at ht
  have hm : t = 26 ∨ t = 3 ∨ t = 3 := by simpa using Array.mem_of_getElem? ht
  rcases hm with rfl | rfl | rfl
  · exact (show Tryd.prog.wantsStandIn 26 = false by kernel_rfl)
  · exact (show Tryd.prog.wantsStandIn 3 = false by kernel_rfl)
  · exact (show Tryd.prog.wantsStandIn 3 = false by kernel_rfl)
theorem proved : Rows.UpKeepsCardSaid :=
  Claim7.holds_tied_plain_at .later [] _ _ _ _ said (fun _ h => by cases h) (by kernel_rfl) (fun _ h => by cases h) upKeeps_row_tie rfl ⟨rfl, rfl⟩ (by kernel_rfl) rfl plain (by kernel_rfl)
#print axioms proved
end Go.Proofs.YtclopkpfeofjmaaDoor.upKeeps
