/- For every state and every number the law WireFramed of the package brackenkeep returns true, as a tied card: a state frame contains exactly the encoding of the state and its version. Condition: the library's two tables unicode/utf8.first and acceptRanges start as their text lays them (the card ties them; first is pinned). -/
import Derived.Test.YtdbopgmckndmeaaDoorWiFrame
namespace Go.Proofs.YtdbopgmckndmeaaDoor.wireFramed
open Go.ChangeShapes Go.WideShapes Go.ChangeAt Go.RowKit
set_option linter.unusedVariables false

set_option maxRecDepth 100000 in
set_option maxHeartbeats 4000000 in
theorem walk (M : StM) (s : StD) (v0 : Int) (hw : wState s) (hv0 : (Lit.int .i64 v0).wf = true) (hz : SzState s) (w : World) (hm : StateAt w M s) (hT : Tabs w) :
    Calls Tryd.prog 9 #[stV M s, .int .i64 v0] w fun e w' => e = .returned (.bool true) ∧ Below w.heap.size w w' := by
  obtain ⟨aj, cj, an, cn, al, cl⟩ := M
  obtain ⟨hmj, hmn, hml⟩ := hm
  show Calls _ _ #[.agg #[.int .i64 s.rev, .slice aj s.jobs.length cj, .slice an s.nodes.length cn, .slice al s.leases.length cl], .int .i64 v0] _ _
  simp only at hmj hmn hml
  obtain ⟨W, hW⟩ : ∃ W, w.alloc (.cells #[.int .i64 s.rev, .slice aj s.jobs.length cj, .slice an s.nodes.length cn, .slice al s.leases.length cl] 26) = W := ⟨_, rfl⟩
  have q1 := box_new4 w (.int .i64 s.rev) (.slice aj s.jobs.length cj) (.slice an s.nodes.length cn) (.slice al s.leases.length cl) 26
  have bW : Below w.heap.size w W := by rw [← hW]; exact below_one _ _
  rw [hW] at q1
  have HWi := Lib.hid (wired_is W (hT.below bW))
  obtain ⟨k, hk, hk0, hk3⟩ := mod3 v0
  have HR := Lib.hid (fun W' => rest_is v0 3 (by omega) (by omega) W')
  rw [hk] at HR
  have wk : IntKind.i64.wrap (k + 1) = k + 1 := IntWalk.i64_in _ (by omega)
  have HF := Lib.hid (fun W' (hb : Below w.heap.size w W') => wframe_any s aj an al cj cn cl (k + 1) hw W' (hT.below hb) (jobsAt_next hmj hb) (nodesAt_next hmn hb) (leasesAt_next hml hb))
  have HE := Lib.hid (fun W' (hb : Below w.heap.size w W') => wencode_any s aj an al cj cn cl (k + 1) hw W' (hT.below hb) (jobsAt_next hmj hb) (nodesAt_next hmn hb) (leasesAt_next hml hb))
  have HW := Lib.hid hW
  clear hmj hmn hml hT hw hz hW hk hv0
  go_enter Tryd.func9, Tryd.ntmps9
  go_wp2_with fail
  rw [HW.out]
  refine HWi.out.mono ?_
  rintro e w1 ⟨rfl, b1⟩
  have B1 := below_trans bW b1 bW.size
  have p1 := box_next q1 b1
  have k0 := p1.1 0 _ rfl
  have k1 := p1.1 1 _ rfl
  have k2 := p1.1 2 _ rfl
  have k3 := p1.1 3 _ rfl
  clear HW q1 b1 bW HWi
  go_wp2_with fail
  refine (HR.out _).mono ?_
  rintro e w' ⟨rfl, rfl⟩
  have HF' := HF.out w1 B1
  rcases wenc_cases s (k + 1) with ⟨c, hc, e1⟩ | ⟨e1, hc1, hf1, hok, hv⟩
  · have e2 : wfrR s (k + 1) = (⟨#[]⟩, c) := by unfold wfrR; rw [e1, if_pos hc]
    rw [e2] at HF'
    have HF' := Lib.hid HF'
    rw [e1] at HE
    have hc' : ((c : Int) != 0) = true := by simp; omega
    have hcc : ((c : Int) == (c : Int)) = true := by simp
    clear e1 e2 hc
    go_wp2_with fail
    refine HF'.out.mono ?_
    rintro e w2 ⟨rfl, b2⟩
    have B2 := below_trans B1 b2 B1.size
    have p2 := box_next p1 b2
    have HE' := Lib.hid (HE.out w2 B2)
    clear k0 k1 k2 k3 HF' p1 b2 B1
    have k0 := p2.1 0 _ rfl
    have k1 := p2.1 1 _ rfl
    have k2 := p2.1 2 _ rfl
    have k3 := p2.1 3 _ rfl
    go_wp2_with fail
    refine HE'.out.mono ?_
    rintro e w3 ⟨rfl, b3⟩
    go_wp2
    go_ret
    exact ⟨rfl, below_trans B2 b3 B2.size⟩
  · obtain ⟨hg, e2⟩ := wfr_good e1 hok hv
    rw [e2] at HF'
    have HF' := Lib.hid HF'
    rw [e1] at HE
    have hd := decode_enc (a := (k + 1).toNat) (b := 1) (p := ⟨(stB (k + 1) s).toArray⟩) hg ⟨#[]⟩
    have h3 : encB (k + 1).toNat 1 ⟨(stB (k + 1) s).toArray⟩ ++ ⟨#[]⟩ = encB (k + 1).toNat 1 ⟨(stB (k + 1) s).toArray⟩ := bytes_of (by rw [app_data]; simp)
    rw [h3] at hd
    have hbd := (enc_bd (a := (k + 1).toNat) (b := 1) (p := ⟨(stB (k + 1) s).toArray⟩) hg).1
    have HD := Lib.hid (decode_is _ (by omega) _ _ _ _ _ hd)
    have ek : (((k + 1).toNat : Nat) : Int) = k + 1 := by omega
    rw [ek] at HD
    generalize encB (k + 1).toNat 1 ⟨(stB (k + 1) s).toArray⟩ = T at HF' HD
    generalize (⟨(stB (k + 1) s).toArray⟩ : ByteArray) = X at HE HD
    have hx := eq_lists X
    clear e1 e2 hc1 hf1 hok hg hd h3 hbd ek
    go_wp2_with fail
    refine HF'.out.mono ?_
    rintro e w2 ⟨rfl, b2⟩
    have B2 := below_trans B1 b2 B1.size
    have p2 := box_next p1 b2
    have HE' := Lib.hid (HE.out w2 B2)
    clear k0 k1 k2 k3 HF' p1 b2 B1
    have k0 := p2.1 0 _ rfl
    have k1 := p2.1 1 _ rfl
    have k2 := p2.1 2 _ rfl
    have k3 := p2.1 3 _ rfl
    go_wp2_with fail
    refine HE'.out.mono ?_
    rintro e w3 ⟨rfl, b3⟩
    have B3 := below_trans B2 b3 B2.size
    clear k0 k1 k2 k3 HE' p2 b3 B2
    go_wp2_with fail
    refine (HD.out _).mono ?_
    rintro e w4 ⟨rfl, b4⟩
    have B4 := below_trans B3 b4 B3.size
    have b5 := below_one w4 (.cells #[.int .i64 (k + 1), .int .i64 1, .string X] 41)
    have B5 := Lib.hid (below_trans B4 b5 B4.size)
    have hq := three_new w4 (.int .i64 (k + 1)) (.int .i64 1) (.string X) 41
    obtain ⟨⟨c0, c1, c2⟩, _, _⟩ := hq
    clear B4 b5 b4 B3
    go_wp2
    go_ret
    exact ⟨rfl, B5.out⟩

theorem own : ownKnob Tryd.prog.godebug = none := by kernel_rfl
theorem laidOut : laidOutB Tryd.prog = true := by kernel_rfl
theorem laid_met (os : Os) : laidMet Tryd.prog Rows.wireFramedRow.laid ((laidWorld os).forCall (fun _ _ => 0) ⟨#[], #[.agg #[.int .i64 0, .slice none 0 0, .slice none 0 0, .slice none 0 0], .int .i64 0], []⟩).memory :=
  laidMet_of_run' 8 (by kernel_rfl) (by kernel_rfl)
theorem reads (os : Os) {H : Type} (enc : TypeId × Value → H) : ∃ places, DataW.whole enc Tryd.prog ((laidWorld os).forCall (fun _ _ => 0) ⟨#[], #[.agg #[.int .i64 0, .slice none 0 0, .slice none 0 0, .slice none 0 0], .int .i64 0], []⟩).memory Tryd.f9.params.toList Rows.wireFramedSpec.vars false #[Value.agg #[.int .i64 0, .slice none 0 0, .slice none 0 0, .slice none 0 0], Value.int .i64 0].toList 8 = some ([.agg [.lit (.int .i64 0), .nil, .nil, .nil], .lit (.int .i64 0)], [], places) :=
  ⟨[], by kernel_rfl⟩
set_option maxRecDepth 100000 in
set_option maxHeartbeats 2000000 in
theorem lifted (os : Os) (started : os.Started) (H : Type) (enc : TypeId × Value → H) (F : Stop.Interp) :
    ReturnsInHanded {} Tryd.checked os 9 .any ((OpenSpec.ofChange Rows.wireFramedSpec).preRow enc Tryd.prog Tryd.f9 Rows.wireFramedRow.domain false Rows.wireFramedRow.laid) (((OpenSpec.ofChange Rows.wireFramedSpec).at F).post enc Tryd.prog Tryd.f9 false true false false) := by
  obtain ⟨places, hx⟩ := reads os enc
  refine returnsInHanded_of_row (C := Tryd.checked) (s := (OpenSpec.ofChange Rows.wireFramedSpec)) own started (by kernel_rfl) Tryd.func9
    (witness_row_atRef (enc := enc) (C := Tryd.checked) false (laidWorld os) #[.agg #[.int .i64 0, .slice none 0 0, .slice none 0 0, .slice none 0 0], .int .i64 0] rfl (by kernel_rfl) (by kernel_rfl) (by kernel_rfl)
      (OpenSpec.preRow_of_cond 8 hx (by kernel_rfl) (fun k hk => by cases hk) (by kernel_rfl) (laid_met os))) ?_
  intro W base args ds gs before hval0 hW _ _ hsz0 hL _ _
  have hval : ∀ (j : Nat) t v, Tryd.f9.params[j]? = some t → args[j]? = some v → Value.okWide Tryd.prog W .any base t v := hval0
  have hW' := hW
  obtain ⟨p, q, hA0, hV, rfl, hfz, hnd⟩ := hW
  have hA : DataW.TrodAll enc Tryd.prog W 0 (fun _ => true) true Tryd.f9.params.toList args.toList ds p := hA0
  have hsz : (DataW.weightsEach Tryd.prog (Tryd.f9.params.toList ++ Rows.wireFramedSpec.plain.varTypes Tryd.prog) (ds ++ gs)).all (· ≤ reachBytes) = true := hsz0
  rw [Tryd.params9] at hA hval hsz
  obtain ⟨v0, vs0, d0, ds0, p0, q0, hargs, rfl, rfl, h0, r0⟩ := trodAll_cons hA
  obtain ⟨v1, vs1, d1, ds1, p1, q1, rfl, rfl, rfl, h1, r1⟩ := trodAll_cons r0
  obtain ⟨rfl, rfl, rfl⟩ := trodAll_nil r1
  obtain rfl : args = #[v0, v1] := by cases args; simp_all
  obtain ⟨rfl, rfl⟩ := trodVars_none hV
  obtain ⟨M0, st0, rfl, m0, x0, w0⟩ := open_state (hval 0 26 v0 rfl rfl) h0
  obtain ⟨a1, rfl, rfl, rfl, w1⟩ := open_int Tryd.underlying3 (hval 1 3 v1 rfl rfl) h1
  have s0 := sized_state hsz rfl (j := 0) rfl x0
  clear hA0 hval0
  refine (walk M0 st0 a1 w0 w1 s0 W m0 (tabs_of hL)).mono fun e W' ⟨he, bel⟩ => ?_
  subst he
  exact ⟨_, rfl, _, _, _, [], _, [], hW', trodAll_mk1 (shut_bool Tryd.underlying4 _), (trodAll_cons_mk (Below.trod laidOut (by kernel_rfl) (of_decide_eq_true (by kernel_rfl)) h0 bel (fun x hx => by simpa using hW'.lt x (by simp [hx]))) (trodAll_cons_mk (shut_int Tryd.underlying3 w1) trodAll_mk0)), rfl, bel.frame _, fun h => by cases h⟩
theorem said : Rows.WireFramedSaid :=
  OpenClaim.holds_of_cond 9 Tryd.f9 rfl rfl rfl rfl rfl rfl rfl ⟨rfl, rfl, rfl, rfl, rfl⟩ rfl rfl rfl rfl rfl (by kernel_rfl) Tryd.func9 (by kernel_rfl)
    (of_decide_eq_true (by kernel_rfl)) (by unfold Func.isWrapper; first | (rw [if_pos (by decide +kernel)]; kernel_rfl) | (rw [if_neg (by decide +kernel)]; exact ⟨rfl, rfl⟩))
    (fun os started H enc _ F => by rw [OpenClaim.pre_eq_preRow]; exact lifted os started H enc F)
theorem plain (f : FuncId) (fn : Func) (hf : Tryd.pinned.checked.prog.funcNamed Rows.wireFramedRow.func = some f) (hfn : Tryd.pinned.checked.prog.funcs[f]? = some fn) :
    true = Tryd.pinned.checked.prog.looks [] ∧ ∀ (j : Nat) t, fn.params[j]? = some t → Tryd.pinned.checked.prog.wantsStandIn t = false := by
  obtain rfl : f = 9 := Option.some.inj ((show Tryd.prog.funcNamed Rows.wireFramedRow.func = some 9 by kernel_rfl).symm.trans hf) |>.symm
  obtain rfl : fn = Tryd.f9 := (Option.some.inj (Tryd.func9.symm.trans hfn)).symm
  refine ⟨by kernel_rfl, fun j t ht => ?_⟩
  rw [Tryd.params9] at ht
  have hm : t = 26 ∨ t = 3 := by simpa using Array.mem_of_getElem? ht
  rcases hm with rfl | rfl
  · exact (show Tryd.prog.wantsStandIn 26 = false by kernel_rfl)
  · exact (show Tryd.prog.wantsStandIn 3 = false by kernel_rfl)
theorem proved : Rows.WireFramedCardSaid :=
  Claim7.holds_tied_plain_at .later [] _ _ _ _ said (fun _ h => by cases h) (by kernel_rfl) (fun _ h => by cases h) wireFramed_row_tie rfl ⟨rfl, rfl⟩ (by kernel_rfl) rfl plain (by kernel_rfl)
#print axioms proved
end Go.Proofs.YtdbopgmckndmeaaDoor.wireFramed
