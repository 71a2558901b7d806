/- For every state and every two numbers the law UpWires of the package brackenkeep returns true, as a tied card: bytes go up as their states do. Condition: the library's two tables unicode/utf8.first and acceptRanges start as their text lays them (the card ties them; first is pinned). -/
import Derived.Test.YtclopkpfeofjmaaDoorUpLaw
namespace Go.Proofs.YtclopkpfeofjmaaDoor.upWires
open Go.ChangeShapes Go.WideShapes Go.ChangeAt Go.RowKit
set_option linter.unusedVariables false

set_option maxRecDepth 100000 in
set_option maxHeartbeats 4000000 in
theorem walk (M : StM) (s : StD) (v0 : Int) (v1 : Int) (hw : wState s) (hv0 : (Lit.int .i64 v0).wf = true) (hv1 : (Lit.int .i64 v1).wf = true) (hz : SzState s) (w : World) (hm : StateAt w M s) (hT : Tabs w) :
    Calls Tryd.prog 5 #[stV M s, .int .i64 v0, .int .i64 v1] w fun e w' => e = .returned (.bool true) ∧ Below w.heap.size w w' := by
  obtain ⟨aj, cj, an, cn, al, cl⟩ := M
  obtain ⟨hmj, hmn, hml⟩ := hm
  show Calls _ _ #[.agg #[.int .i64 s.rev, .slice aj s.jobs.length cj, .slice an s.nodes.length cn, .slice al s.leases.length cl], .int .i64 v0, .int .i64 v1] _ _
  simp only at hmj hmn hml
  obtain ⟨W0, hW0⟩ : ∃ W0, w.alloc (.cells #[.int .i64 s.rev, .slice aj s.jobs.length cj, .slice an s.nodes.length cn, .slice al s.leases.length cl] 26) = W0 := ⟨_, rfl⟩
  have B0 := below_one w (.cells #[.int .i64 s.rev, .slice aj s.jobs.length cj, .slice an s.nodes.length cn, .slice al s.leases.length cl] 26)
  have Is0 := inBox_new (cj := cj) (cn := cn) (cl := cl) (And.intro hmj (And.intro hmn hml))
  rw [hW0] at B0 Is0
  have HT := Lib.hid hT
  have HWs := Lib.hid hw
  have HZ := Lib.hid (size3 hz)
  have B0 := Lib.hid B0
  have Is0 := Lib.hid Is0
  clear hmj hmn hml hT hz hw
  obtain ⟨k0, hk0, hk00, hk03⟩ := mod3 v0
  have HR0 := Lib.hid (fun W' => rest_is v0 3 (by omega) (by omega) W')
  rw [hk0] at HR0
  have wk0 : IntKind.i64.wrap (k0 + 1) = k0 + 1 := IntWalk.i64_in _ (by omega)
  clear hk0 hv0
  obtain ⟨k1, hk1, hk10, hk13⟩ := mod3 v1
  have HR1 := Lib.hid (fun W' => rest_is v1 3 (by omega) (by omega) W')
  rw [hk1] at HR1
  have wk1 : IntKind.i64.wrap (k1 + 1) = k1 + 1 := IntWalk.i64_in _ (by omega)
  clear hk1 hv1
  have key : ∀ a b : Int, 1 ≤ a ∧ a ≤ b ∧ b ≤ 3 → (∃ c, c ≠ 0 ∧ wencR s a = (⟨#[]⟩, c)) ∨ ∃ X Y U, wencR s a = (X, 0) ∧ X.size ≤ 1152921504606846976 ∧ ubR X.data.toList a b = (Y, 0) ∧ upR s a b = (U, 0) ∧ wState U ∧ wencR U b = (Y, 0) := by
    intro a b h
    rcases wenc_cases s a with ⟨c, hc, e⟩ | ⟨e, hc, hf, hok, _⟩
    · exact .inl ⟨c, hc, e⟩
    · refine .inr ⟨_, _, _, e, ?_, ub_ok hc hf h, upR_fit hc h hf, wState_valid (valid8_up hc a b), wenc_ok (valid8_up hc a b) (fits_up hf h.2.1 h.2.2) (by omega)⟩
      have := st_len hok
      rw [bytes_size]; omega
  have KEY := Lib.hid key
  clear key
  by_cases hgt : k1 + 1 < k0 + 1
  · skip
    have hab : 1 ≤ (k1 + 1) ∧ (k1 + 1) ≤ (k0 + 1) ∧ (k0 + 1) ≤ 3 := by omega
    rcases KEY.out _ _ hab with ⟨c, hc, e1⟩ | ⟨X, Y, U, e1, hX, e2, e3, hU, e4⟩
    · have hc' : ((c : Int) != 0) = true := by simp; omega
      clear hc hab KEY
      have h := upped_is W0 (HT.out.below B0.out)
      have C := Lib.hid h
      clear h
      go_enter Tryd.func5, Tryd.ntmps5
      go_wp2_with fail
      refine C.out.mono ?_
      rintro e W1 ⟨rfl, b⟩
      have Is1 := Lib.hid (inBox_next Is0.out b)
      have B1 := Lib.hid (below_trans B0.out b B0.out.size)
      clear b C
      go_wp2_with fail
      refine (HR0.out _).mono ?_
      rintro e w' ⟨rfl, rfl⟩
      go_wp2_with fail
      refine (HR1.out _).mono ?_
      rintro e w' ⟨rfl, rfl⟩
      have h := wencode_any s aj an al cj cn cl (k1 + 1) HWs.out W1 (HT.out.below B1.out) Is1.out.2.1 Is1.out.2.2.1 Is1.out.2.2.2
      rw [e1] at h
      have C := Lib.hid h
      clear h
      obtain ⟨zs0, zs1, zs2, zs3⟩ := inBox_cells Is1.out
      go_wp2_with fail
      refine C.out.mono ?_
      rintro e W2 ⟨rfl, b⟩
      clear zs0 zs1 zs2 zs3
      have Is2 := Lib.hid (inBox_next Is1.out b)
      have B2 := Lib.hid (below_trans B1.out b B1.out.size)
      clear b C
      go_wp2
      go_ret
      exact ⟨rfl, B2.out⟩
    · have HU := Lib.hid hU
      have HX := Lib.hid hX
      have hxy := lists_eq Y
      clear hU hX hab KEY
      have h := upped_is W0 (HT.out.below B0.out)
      have C := Lib.hid h
      clear h
      go_enter Tryd.func5, Tryd.ntmps5
      go_wp2_with fail
      refine C.out.mono ?_
      rintro e W1 ⟨rfl, b⟩
      have Is1 := Lib.hid (inBox_next Is0.out b)
      have B1 := Lib.hid (below_trans B0.out b B0.out.size)
      clear b C
      go_wp2_with fail
      refine (HR0.out _).mono ?_
      rintro e w' ⟨rfl, rfl⟩
      go_wp2_with fail
      refine (HR1.out _).mono ?_
      rintro e w' ⟨rfl, rfl⟩
      have h := wencode_any s aj an al cj cn cl (k1 + 1) HWs.out W1 (HT.out.below B1.out) Is1.out.2.1 Is1.out.2.2.1 Is1.out.2.2.2
      rw [e1] at h
      have C := Lib.hid h
      clear h
      obtain ⟨zs0, zs1, zs2, zs3⟩ := inBox_cells Is1.out
      go_wp2_with fail
      refine C.out.mono ?_
      rintro e W2 ⟨rfl, b⟩
      clear zs0 zs1 zs2 zs3
      have Is2 := Lib.hid (inBox_next Is1.out b)
      have B2 := Lib.hid (below_trans B1.out b B1.out.size)
      clear b C
      have h := ubytes_any X HX.out (k1 + 1) (k0 + 1) W2 (HT.out.below B2.out)
      rw [e2] at h
      have C := Lib.hid h
      clear h
      go_wp2_with fail
      refine C.out.mono ?_
      rintro e W3 ⟨rfl, b⟩
      have Is3 := Lib.hid (inBox_next Is2.out b)
      have B3 := Lib.hid (below_trans B2.out b B2.out.size)
      clear b C
      have h := ustate_any s aj an al cj cn cl (k1 + 1) (k0 + 1) HWs.out W3 (HT.out.below B3.out) Is3.out.2.1 Is3.out.2.2.1 Is3.out.2.2.2
      rw [e3] at h
      have C := Lib.hid h
      clear h
      obtain ⟨zs0, zs1, zs2, zs3⟩ := inBox_cells Is3.out
      go_wp2_with fail
      refine C.out.mono ?_
      rintro e w4 ⟨pj, pn, pl, pp, pq, pr, rfl, ow, b⟩
      clear zs0 zs1 zs2 zs3
      obtain ⟨Lp, hLp⟩ : ∃ L, w4.heap.size = L := ⟨_, rfl⟩
      obtain ⟨W4, hW4⟩ : ∃ W, w4.alloc (.cells #[.int .i64 U.rev, .slice pj U.jobs.length pp, .slice pn U.nodes.length pq, .slice pl U.leases.length pr] 26) = W := ⟨_, rfl⟩
      have bA := below_one w4 (.cells #[.int .i64 U.rev, .slice pj U.jobs.length pp, .slice pn U.nodes.length pq, .slice pl U.leases.length pr] 26)
      have iN := inBox_new (cj := pp) (cn := pq) (cl := pr) (ownS_at ow)
      rw [hW4] at bA iN
      rw [hLp] at iN
      have Is4 := Lib.hid (inBox_next (inBox_next Is3.out b) bA)
      have Ip4 := Lib.hid iN
      have B4 := Lib.hid (below_trans (below_trans B3.out b B3.out.size) bA (Nat.le_trans B3.out.size b.size))
      clear bA iN ow b C
      have h := wencode_any U pj pn pl pp pq pr (k0 + 1) HU.out W4 (HT.out.below B4.out) Ip4.out.2.1 Ip4.out.2.2.1 Ip4.out.2.2.2
      rw [e4] at h
      have C := Lib.hid h
      clear h
      obtain ⟨zp0, zp1, zp2, zp3⟩ := inBox_cells Ip4.out
      go_wp2_with fail
      refine C.out.mono ?_
      rintro e W5 ⟨rfl, b⟩
      clear zp0 zp1 zp2 zp3
      have Is5 := Lib.hid (inBox_next Is4.out b)
      have Ip5 := Lib.hid (inBox_next Ip4.out b)
      have B5 := Lib.hid (below_trans B4.out b B4.out.size)
      clear b C
      go_wp2
      go_ret
      exact ⟨rfl, B5.out⟩
  · skip
    have hab : 1 ≤ (k0 + 1) ∧ (k0 + 1) ≤ (k1 + 1) ∧ (k1 + 1) ≤ 3 := by omega
    rcases KEY.out _ _ hab with ⟨c, hc, e1⟩ | ⟨X, Y, U, e1, hX, e2, e3, hU, e4⟩
    · have hc' : ((c : Int) != 0) = true := by simp; omega
      clear hc hab KEY
      have h := upped_is W0 (HT.out.below B0.out)
      have C := Lib.hid h
      clear h
      go_enter Tryd.func5, Tryd.ntmps5
      go_wp2_with fail
      refine C.out.mono ?_
      rintro e W1 ⟨rfl, b⟩
      have Is1 := Lib.hid (inBox_next Is0.out b)
      have B1 := Lib.hid (below_trans B0.out b B0.out.size)
      clear b C
      go_wp2_with fail
      refine (HR0.out _).mono ?_
      rintro e w' ⟨rfl, rfl⟩
      go_wp2_with fail
      refine (HR1.out _).mono ?_
      rintro e w' ⟨rfl, rfl⟩
      have h := wencode_any s aj an al cj cn cl (k0 + 1) HWs.out W1 (HT.out.below B1.out) Is1.out.2.1 Is1.out.2.2.1 Is1.out.2.2.2
      rw [e1] at h
      have C := Lib.hid h
      clear h
      obtain ⟨zs0, zs1, zs2, zs3⟩ := inBox_cells Is1.out
      go_wp2_with fail
      refine C.out.mono ?_
      rintro e W2 ⟨rfl, b⟩
      clear zs0 zs1 zs2 zs3
      have Is2 := Lib.hid (inBox_next Is1.out b)
      have B2 := Lib.hid (below_trans B1.out b B1.out.size)
      clear b C
      go_wp2
      go_ret
      exact ⟨rfl, B2.out⟩
    · have HU := Lib.hid hU
      have HX := Lib.hid hX
      have hxy := lists_eq Y
      clear hU hX hab KEY
      have h := upped_is W0 (HT.out.below B0.out)
      have C := Lib.hid h
      clear h
      go_enter Tryd.func5, Tryd.ntmps5
      go_wp2_with fail
      refine C.out.mono ?_
      rintro e W1 ⟨rfl, b⟩
      have Is1 := Lib.hid (inBox_next Is0.out b)
      have B1 := Lib.hid (below_trans B0.out b B0.out.size)
      clear b C
      go_wp2_with fail
      refine (HR0.out _).mono ?_
      rintro e w' ⟨rfl, rfl⟩
      go_wp2_with fail
      refine (HR1.out _).mono ?_
      rintro e w' ⟨rfl, rfl⟩
      have h := wencode_any s aj an al cj cn cl (k0 + 1) HWs.out W1 (HT.out.below B1.out) Is1.out.2.1 Is1.out.2.2.1 Is1.out.2.2.2
      rw [e1] at h
      have C := Lib.hid h
      clear h
      obtain ⟨zs0, zs1, zs2, zs3⟩ := inBox_cells Is1.out
      go_wp2_with fail
      refine C.out.mono ?_
      rintro e W2 ⟨rfl, b⟩
      clear zs0 zs1 zs2 zs3
      have Is2 := Lib.hid (inBox_next Is1.out b)
      have B2 := Lib.hid (below_trans B1.out b B1.out.size)
      clear b C
      have h := ubytes_any X HX.out (k0 + 1) (k1 + 1) W2 (HT.out.below B2.out)
      rw [e2] at h
      have C := Lib.hid h
      clear h
      go_wp2_with fail
      refine C.out.mono ?_
      rintro e W3 ⟨rfl, b⟩
      have Is3 := Lib.hid (inBox_next Is2.out b)
      have B3 := Lib.hid (below_trans B2.out b B2.out.size)
      clear b C
      have h := ustate_any s aj an al cj cn cl (k0 + 1) (k1 + 1) HWs.out W3 (HT.out.below B3.out) Is3.out.2.1 Is3.out.2.2.1 Is3.out.2.2.2
      rw [e3] at h
      have C := Lib.hid h
      clear h
      obtain ⟨zs0, zs1, zs2, zs3⟩ := inBox_cells Is3.out
      go_wp2_with fail
      refine C.out.mono ?_
      rintro e w4 ⟨pj, pn, pl, pp, pq, pr, rfl, ow, b⟩
      clear zs0 zs1 zs2 zs3
      obtain ⟨Lp, hLp⟩ : ∃ L, w4.heap.size = L := ⟨_, rfl⟩
      obtain ⟨W4, hW4⟩ : ∃ W, w4.alloc (.cells #[.int .i64 U.rev, .slice pj U.jobs.length pp, .slice pn U.nodes.length pq, .slice pl U.leases.length pr] 26) = W := ⟨_, rfl⟩
      have bA := below_one w4 (.cells #[.int .i64 U.rev, .slice pj U.jobs.length pp, .slice pn U.nodes.length pq, .slice pl U.leases.length pr] 26)
      have iN := inBox_new (cj := pp) (cn := pq) (cl := pr) (ownS_at ow)
      rw [hW4] at bA iN
      rw [hLp] at iN
      have Is4 := Lib.hid (inBox_next (inBox_next Is3.out b) bA)
      have Ip4 := Lib.hid iN
      have B4 := Lib.hid (below_trans (below_trans B3.out b B3.out.size) bA (Nat.le_trans B3.out.size b.size))
      clear bA iN ow b C
      have h := wencode_any U pj pn pl pp pq pr (k1 + 1) HU.out W4 (HT.out.below B4.out) Ip4.out.2.1 Ip4.out.2.2.1 Ip4.out.2.2.2
      rw [e4] at h
      have C := Lib.hid h
      clear h
      obtain ⟨zp0, zp1, zp2, zp3⟩ := inBox_cells Ip4.out
      go_wp2_with fail
      refine C.out.mono ?_
      rintro e W5 ⟨rfl, b⟩
      clear zp0 zp1 zp2 zp3
      have Is5 := Lib.hid (inBox_next Is4.out b)
      have Ip5 := Lib.hid (inBox_next Ip4.out b)
      have B5 := Lib.hid (below_trans B4.out b B4.out.size)
      clear b C
      go_wp2
      go_ret
      exact ⟨rfl, B5.out⟩

theorem own : ownKnob Tryd.prog.godebug = none := by kernel_rfl
theorem laidOut : laidOutB Tryd.prog = true := by kernel_rfl
theorem laid_met (os : Os) : laidMet Tryd.prog Rows.upWiresRow.laid ((laidWorld os).forCall (fun _ _ => 0) ⟨#[], #[.agg #[.int .i64 0, .slice none 0 0, .slice none 0 0, .slice none 0 0], .int .i64 0, .int .i64 0], []⟩).memory :=
  laidMet_of_run' 8 (by kernel_rfl) (by kernel_rfl)
theorem reads (os : Os) {H : Type} (enc : TypeId × Value → H) : ∃ places, DataW.whole enc Tryd.prog ((laidWorld os).forCall (fun _ _ => 0) ⟨#[], #[.agg #[.int .i64 0, .slice none 0 0, .slice none 0 0, .slice none 0 0], .int .i64 0, .int .i64 0], []⟩).memory Tryd.f5.params.toList Rows.upWiresSpec.vars false #[Value.agg #[.int .i64 0, .slice none 0 0, .slice none 0 0, .slice none 0 0], Value.int .i64 0, Value.int .i64 0].toList 8 = some ([.agg [.lit (.int .i64 0), .nil, .nil, .nil], .lit (.int .i64 0), .lit (.int .i64 0)], [], places) :=
  ⟨[], by kernel_rfl⟩
set_option maxRecDepth 100000 in
set_option maxHeartbeats 2000000 in
theorem lifted (os : Os) (started : os.Started) (H : Type) (enc : TypeId × Value → H) (F : Stop.Interp) :
    ReturnsInHanded {} Tryd.checked os 5 .any ((OpenSpec.ofChange Rows.upWiresSpec).preRow enc Tryd.prog Tryd.f5 Rows.upWiresRow.domain false Rows.upWiresRow.laid) (((OpenSpec.ofChange Rows.upWiresSpec).at F).post enc Tryd.prog Tryd.f5 false true false false) := by
  obtain ⟨places, hx⟩ := reads os enc
  refine returnsInHanded_of_row (C := Tryd.checked) (s := (OpenSpec.ofChange Rows.upWiresSpec)) own started (by kernel_rfl) Tryd.func5
    (witness_row_atRef (enc := enc) (C := Tryd.checked) false (laidWorld os) #[.agg #[.int .i64 0, .slice none 0 0, .slice none 0 0, .slice none 0 0], .int .i64 0, .int .i64 0] rfl (by kernel_rfl) (by kernel_rfl) (by kernel_rfl)
      (OpenSpec.preRow_of_cond 8 hx (by kernel_rfl) (fun k hk => by cases hk) (by kernel_rfl) (laid_met os))) ?_
  intro W base args ds gs before hval0 hW _ _ hsz0 hL _ _
  have hval : ∀ (j : Nat) t v, Tryd.f5.params[j]? = some t → args[j]? = some v → Value.okWide Tryd.prog W .any base t v := hval0
  have hW' := hW
  obtain ⟨p, q, hA0, hV, rfl, hfz, hnd⟩ := hW
  have hA : DataW.TrodAll enc Tryd.prog W 0 (fun _ => true) true Tryd.f5.params.toList args.toList ds p := hA0
  have hsz : (DataW.weightsEach Tryd.prog (Tryd.f5.params.toList ++ Rows.upWiresSpec.plain.varTypes Tryd.prog) (ds ++ gs)).all (· ≤ reachBytes) = true := hsz0
  rw [Tryd.params5] at hA hval hsz
  obtain ⟨v0, vs0, d0, ds0, p0, q0, hargs, rfl, rfl, h0, r0⟩ := trodAll_cons hA
  obtain ⟨v1, vs1, d1, ds1, p1, q1, rfl, rfl, rfl, h1, r1⟩ := trodAll_cons r0
  obtain ⟨v2, vs2, d2, ds2, p2, q2, rfl, rfl, rfl, h2, r2⟩ := trodAll_cons r1
  obtain ⟨rfl, rfl, rfl⟩ := trodAll_nil r2
  obtain rfl : args = #[v0, v1, v2] := by cases args; simp_all
  obtain ⟨rfl, rfl⟩ := trodVars_none hV
  obtain ⟨M0, st0, rfl, m0, x0, w0⟩ := open_state (hval 0 26 v0 rfl rfl) h0
  obtain ⟨a1, rfl, rfl, rfl, w1⟩ := open_int Tryd.underlying3 (hval 1 3 v1 rfl rfl) h1
  obtain ⟨a2, rfl, rfl, rfl, w2⟩ := open_int Tryd.underlying3 (hval 2 3 v2 rfl rfl) h2
  have s0 := sized_state hsz rfl (j := 0) rfl x0
  clear hA0 hval0
  refine (walk M0 st0 a1 a2 w0 w1 w2 s0 W m0 (tabs_of hL)).mono fun e W' ⟨he, bel⟩ => ?_
  subst he
  exact ⟨_, rfl, _, _, _, [], _, [], hW', trodAll_mk1 (shut_bool Tryd.underlying4 _), (trodAll_cons_mk (Below.trod laidOut (by kernel_rfl) (of_decide_eq_true (by kernel_rfl)) h0 bel (fun x hx => by simpa using hW'.lt x (by simp [hx]))) (trodAll_cons_mk (shut_int Tryd.underlying3 w1) (trodAll_cons_mk (shut_int Tryd.underlying3 w2) trodAll_mk0))), rfl, bel.frame _, fun h => by cases h⟩
theorem said : Rows.UpWiresSaid :=
  OpenClaim.holds_of_cond 5 Tryd.f5 rfl rfl rfl rfl rfl rfl rfl ⟨rfl, rfl, rfl, rfl, rfl⟩ rfl rfl rfl rfl rfl (by kernel_rfl) Tryd.func5 (by kernel_rfl)
    (of_decide_eq_true (by kernel_rfl)) (by unfold Func.isWrapper; first | (rw [if_pos (by decide +kernel)]; kernel_rfl) | (rw [if_neg (by decide +kernel)]; exact ⟨rfl, rfl⟩))
    (fun os started H enc _ F => by rw [OpenClaim.pre_eq_preRow]; exact lifted os started H enc F)
theorem plain (f : FuncId) (fn : Func) (hf : Tryd.pinned.checked.prog.funcNamed Rows.upWiresRow.func = some f) (hfn : Tryd.pinned.checked.prog.funcs[f]? = some fn) :
    false = Tryd.pinned.checked.prog.looks [] ∧ ∀ (j : Nat) t, fn.params[j]? = some t → Tryd.pinned.checked.prog.wantsStandIn t = false := by
  obtain rfl : f = 5 := Option.some.inj ((show Tryd.prog.funcNamed Rows.upWiresRow.func = some 5 by kernel_rfl).symm.trans hf) |>.symm
  obtain rfl : fn = Tryd.f5 := (Option.some.inj (Tryd.func5.symm.trans hfn)).symm
  refine ⟨by kernel_rfl, fun j t ht => ?_⟩
  rw [Tryd.params5] at ht
  have hm : t = 26 ∨ t = 3 ∨ t = 3 := by simpa using Array.mem_of_getElem? ht
  rcases hm with rfl | rfl | rfl
  · exact (show Tryd.prog.wantsStandIn 26 = false by kernel_rfl)
  · exact (show Tryd.prog.wantsStandIn 3 = false by kernel_rfl)
  · exact (show Tryd.prog.wantsStandIn 3 = false by kernel_rfl)
theorem proved : Rows.UpWiresCardSaid :=
  Claim7.holds_tied_plain_at .later [] _ _ _ _ said (fun _ h => by cases h) (by kernel_rfl) (fun _ h => by cases h) upWires_row_tie rfl ⟨rfl, rfl⟩ (by kernel_rfl) rfl plain (by kernel_rfl)
#print axioms proved
end Go.Proofs.YtclopkpfeofjmaaDoor.upWires
