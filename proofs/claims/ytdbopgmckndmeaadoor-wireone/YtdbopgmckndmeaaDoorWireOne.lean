/- For all states a and b and every number the law WireOne of the package brackenkeep returns true, as a tied card: two states have the same bytes in a version just if they are the same. Condition: the library's two tables unicode/utf8.first and acceptRanges start as their text lays them (the card ties them; first is pinned). -/
import Derived.Test.YtdbopgmckndmeaaDoorPkWi5
namespace Go.Proofs.YtdbopgmckndmeaaDoor.wireOne
open Go.ChangeShapes Go.WideShapes Go.ChangeAt Go.RowKit
set_option linter.unusedVariables false

set_option maxRecDepth 100000 in
set_option maxHeartbeats 4000000 in
theorem walk (M : StM) (s : StD) (N : StM) (t : StD) (v0 : Int) (hw : wState s) (hw' : wState t) (hv0 : (Lit.int .i64 v0).wf = true) (hz : SzState s) (hz' : SzState t) (w : World) (hm : StateAt w M s) (hm' : StateAt w N t) (hT : Tabs w) :
    Calls Tryd.prog 8 #[stV M s, stV N t, .int .i64 v0] w fun e w' => e = .returned (.bool true) ∧ Below w.heap.size w w' := by
  obtain ⟨aj, cj, an, cn, al, cl⟩ := M
  obtain ⟨bj, dj, bn, dn, bl, dl⟩ := N
  obtain ⟨hmj, hmn, hml⟩ := hm
  obtain ⟨hmj', hmn', hml'⟩ := hm'
  show Calls _ _ #[.agg #[.int .i64 s.rev, .slice aj s.jobs.length cj, .slice an s.nodes.length cn, .slice al s.leases.length cl], .agg #[.int .i64 t.rev, .slice bj t.jobs.length dj, .slice bn t.nodes.length dn, .slice bl t.leases.length dl], .int .i64 v0] _ _
  simp only at hmj hmn hml hmj' hmn' hml'
  obtain ⟨W, hW⟩ : ∃ W, (w.alloc (.cells #[.int .i64 s.rev, .slice aj s.jobs.length cj, .slice an s.nodes.length cn, .slice al s.leases.length cl] 26)).alloc (.cells #[.int .i64 t.rev, .slice bj t.jobs.length dj, .slice bn t.nodes.length dn, .slice bl t.leases.length dl] 26) = W := ⟨_, rfl⟩
  have q1 := box_alloc (box_new4 w (.int .i64 s.rev) (.slice aj s.jobs.length cj) (.slice an s.nodes.length cn) (.slice al s.leases.length cl) 26) (.cells #[.int .i64 t.rev, .slice bj t.jobs.length dj, .slice bn t.nodes.length dn, .slice bl t.leases.length dl] 26)
  have q2 := box_new4 (w.alloc (.cells #[.int .i64 s.rev, .slice aj s.jobs.length cj, .slice an s.nodes.length cn, .slice al s.leases.length cl] 26)) (.int .i64 t.rev) (.slice bj t.jobs.length dj) (.slice bn t.nodes.length dn) (.slice bl t.leases.length dl) 26
  have bW : Below w.heap.size w W := by rw [← hW]; exact below_trans (below_one _ _) (below_one _ _) (by simp)
  rw [hW] at q1 q2
  rw [World.size_alloc] at q2
  have HWi := Lib.hid (wired_is W (hT.below bW))
  have HE1 := Lib.hid (fun v W' (hb : Below w.heap.size w W') => wencode_any s aj an al cj cn cl v hw W' (hT.below hb) (jobsAt_next hmj hb) (nodesAt_next hmn hb) (leasesAt_next hml hb))
  have HE2 := Lib.hid (fun v W' (hb : Below w.heap.size w W') => wencode_any t bj bn bl dj dn dl v hw' W' (hT.below hb) (jobsAt_next hmj' hb) (nodesAt_next hmn' hb) (leasesAt_next hml' hb))
  have HS := Lib.hid (fun W' (hb : Below w.heap.size w W') => same_is s t aj an al bj bn bl cj cn cl dj dn dl (size3 hz) W' (jobsAt_next hmj hb) (nodesAt_next hmn hb) (leasesAt_next hml hb) (jobsAt_next hmj' hb) (nodesAt_next hmn' hb) (leasesAt_next hml' hb))
  obtain ⟨k, hk, hk0, hk3⟩ := mod3 v0
  have HR := Lib.hid (fun W' => rest_is v0 3 (by omega) (by omega) W')
  rw [hk] at HR
  have wk : IntKind.i64.wrap (k + 1) = k + 1 := IntWalk.i64_in _ (by omega)
  have HW := Lib.hid hW
  clear hmj hmn hml hmj' hmn' hml' hT hw hw' hz hz' hW hk hv0
  go_enter Tryd.func8, Tryd.ntmps8
  go_wp2_with fail
  rw [HW.out]
  refine HWi.out.mono ?_
  rintro e w1 ⟨rfl, b1⟩
  have B1 := below_trans bW b1 bW.size
  have p1 := box_next q1 b1
  have p2 := box_next q2 b1
  have k0 := p1.1 0 _ rfl
  have k1 := p1.1 1 _ rfl
  have k2 := p1.1 2 _ rfl
  have k3 := p1.1 3 _ rfl
  clear HW q1 q2 b1 bW HWi
  go_wp2_with fail
  refine (HR.out _).mono ?_
  rintro e w' ⟨rfl, rfl⟩
  have HE1' := Lib.hid (HE1.out (k + 1) w1 B1)
  go_wp2_with fail
  refine HE1'.out.mono ?_
  rintro e w2 ⟨rfl, b2⟩
  have B2 := below_trans B1 b2 B1.size
  have r1 := box_next p1 b2
  have r2 := box_next p2 b2
  have HE2' := Lib.hid (HE2.out (k + 1) w2 B2)
  clear k0 k1 k2 k3 p1 p2 HE1'
  have k0 := r2.1 0 _ rfl
  have k1 := r2.1 1 _ rfl
  have k2 := r2.1 2 _ rfl
  have k3 := r2.1 3 _ rfl
  rcases wenc_cases s (k + 1) with ⟨c, hc, e1⟩ | ⟨e1, hc1, hf1, _, _⟩
  · rw [e1]
    have hc' : ((c : Int) != 0) = true := by simp; omega
    clear e1 hc
    go_wp2_with fail
    refine HE2'.out.mono ?_
    rintro e w3 ⟨rfl, b3⟩
    go_wp2
    go_ret
    exact ⟨rfl, below_trans B2 b3 B2.size⟩
  · rw [e1]
    rcases wenc_cases t (k + 1) with ⟨c, hc, e2⟩ | ⟨e2, hc2, hf2, _, _⟩
    · rw [e2] at HE2'
      have hc' : ((c : Int) != 0) = true := by simp; omega
      clear e1 e2 hc
      go_wp2_with fail
      refine HE2'.out.mono ?_
      rintro e w3 ⟨rfl, b3⟩
      go_wp2
      go_ret
      exact ⟨rfl, below_trans B2 b3 B2.size⟩
    · rw [e2] at HE2'
      clear e1 e2
      by_cases hst : s = t
      · subst hst
        have hxy := lists_eq ⟨(stB (k + 1) s).toArray⟩
        generalize (⟨(stB (k + 1) s).toArray⟩ : ByteArray) = X at HE2' hxy ⊢
        clear hc1 hc2 hf1 hf2
        go_wp2_with fail
        refine HE2'.out.mono ?_
        rintro e w3 ⟨rfl, b3⟩
        have B3 := below_trans B2 b3 B2.size
        have t1 := box_next r1 b3
        have t2 := box_next r2 b3
        have HS' := Lib.hid (HS.out w3 B3)
        clear k0 k1 k2 k3 HE2'
        have k0 := t1.1 0 _ rfl
        have k1 := t1.1 1 _ rfl
        have k2 := t1.1 2 _ rfl
        have k3 := t1.1 3 _ rfl
        have m0 := t2.1 0 _ rfl
        have m1 := t2.1 1 _ rfl
        have m2 := t2.1 2 _ rfl
        have m3 := t2.1 3 _ rfl
        go_wp2_with fail
        refine HS'.out.mono ?_
        rintro e w4 ⟨c, rfl, hc, b4⟩
        obtain rfl : c = true := hc.2 (by first | rfl | trivial)
        go_wp2
        go_ret
        exact ⟨rfl, below_trans B3 b4 B3.size⟩
      · have hne : (⟨(stB (k + 1) s).toArray⟩ : ByteArray) ≠ ⟨(stB (k + 1) t).toArray⟩ := fun e => hst (wire_one hc1 hf1 hc2 hf2 (bytes_inj' e))
        have hxy := lists_ne hne
        generalize (⟨(stB (k + 1) s).toArray⟩ : ByteArray) = X at hxy ⊢
        generalize (⟨(stB (k + 1) t).toArray⟩ : ByteArray) = Y at HE2' hxy
        have Hst := Lib.hid hst
        clear hc1 hc2 hf1 hf2 hne hst
        go_wp2_with fail
        refine HE2'.out.mono ?_
        rintro e w3 ⟨rfl, b3⟩
        have B3 := below_trans B2 b3 B2.size
        have t1 := box_next r1 b3
        have t2 := box_next r2 b3
        have HS' := Lib.hid (HS.out w3 B3)
        clear k0 k1 k2 k3 HE2'
        have k0 := t1.1 0 _ rfl
        have k1 := t1.1 1 _ rfl
        have k2 := t1.1 2 _ rfl
        have k3 := t1.1 3 _ rfl
        have m0 := t2.1 0 _ rfl
        have m1 := t2.1 1 _ rfl
        have m2 := t2.1 2 _ rfl
        have m3 := t2.1 3 _ rfl
        go_wp2_with fail
        refine HS'.out.mono ?_
        rintro e w4 ⟨c, rfl, hc, b4⟩
        obtain rfl : c = false := by
          cases c with
          | false => rfl
          | true => exact absurd (hc.1 (by first | rfl | trivial)) Hst.out
        go_wp2
        go_ret
        exact ⟨rfl, below_trans B3 b4 B3.size⟩

theorem own : ownKnob Tryd.prog.godebug = none := by kernel_rfl
theorem laidOut : laidOutB Tryd.prog = true := by kernel_rfl
theorem laid_met (os : Os) : laidMet Tryd.prog Rows.wireOneRow.laid ((laidWorld os).forCall (fun _ _ => 0) ⟨#[], #[.agg #[.int .i64 0, .slice none 0 0, .slice none 0 0, .slice none 0 0], .agg #[.int .i64 0, .slice none 0 0, .slice none 0 0, .slice none 0 0], .int .i64 0], []⟩).memory :=
  laidMet_of_run' 8 (by kernel_rfl) (by kernel_rfl)
theorem reads (os : Os) {H : Type} (enc : TypeId × Value → H) : ∃ places, DataW.whole enc Tryd.prog ((laidWorld os).forCall (fun _ _ => 0) ⟨#[], #[.agg #[.int .i64 0, .slice none 0 0, .slice none 0 0, .slice none 0 0], .agg #[.int .i64 0, .slice none 0 0, .slice none 0 0, .slice none 0 0], .int .i64 0], []⟩).memory Tryd.f8.params.toList Rows.wireOneSpec.vars false #[Value.agg #[.int .i64 0, .slice none 0 0, .slice none 0 0, .slice none 0 0], Value.agg #[.int .i64 0, .slice none 0 0, .slice none 0 0, .slice none 0 0], Value.int .i64 0].toList 8 = some ([.agg [.lit (.int .i64 0), .nil, .nil, .nil], .agg [.lit (.int .i64 0), .nil, .nil, .nil], .lit (.int .i64 0)], [], places) :=
  ⟨[], by kernel_rfl⟩
set_option maxRecDepth 100000 in
set_option maxHeartbeats 2000000 in
theorem lifted (os : Os) (started : os.Started) (H : Type) (enc : TypeId × Value → H) (F : Stop.Interp) :
    ReturnsInHanded {} Tryd.checked os 8 .any ((OpenSpec.ofChange Rows.wireOneSpec).preRow enc Tryd.prog Tryd.f8 Rows.wireOneRow.domain false Rows.wireOneRow.laid) (((OpenSpec.ofChange Rows.wireOneSpec).at F).post enc Tryd.prog Tryd.f8 false true false false) := by
  obtain ⟨places, hx⟩ := reads os enc
  refine returnsInHanded_of_row (C := Tryd.checked) (s := (OpenSpec.ofChange Rows.wireOneSpec)) own started (by kernel_rfl) Tryd.func8
    (witness_row_atRef (enc := enc) (C := Tryd.checked) false (laidWorld os) #[.agg #[.int .i64 0, .slice none 0 0, .slice none 0 0, .slice none 0 0], .agg #[.int .i64 0, .slice none 0 0, .slice none 0 0, .slice none 0 0], .int .i64 0] rfl (by kernel_rfl) (by kernel_rfl) (by kernel_rfl)
      (OpenSpec.preRow_of_cond 8 hx (by kernel_rfl) (fun k hk => by cases hk) (by kernel_rfl) (laid_met os))) ?_
  intro W base args ds gs before hval0 hW _ _ hsz0 hL _ _
  have hval : ∀ (j : Nat) t v, Tryd.f8.params[j]? = some t → args[j]? = some v → Value.okWide Tryd.prog W .any base t v := hval0
  have hW' := hW
  obtain ⟨p, q, hA0, hV, rfl, hfz, hnd⟩ := hW
  have hA : DataW.TrodAll enc Tryd.prog W 0 (fun _ => true) true Tryd.f8.params.toList args.toList ds p := hA0
  have hsz : (DataW.weightsEach Tryd.prog (Tryd.f8.params.toList ++ Rows.wireOneSpec.plain.varTypes Tryd.prog) (ds ++ gs)).all (· ≤ reachBytes) = true := hsz0
  rw [Tryd.params8] at hA hval hsz
  obtain ⟨v0, vs0, d0, ds0, p0, q0, hargs, rfl, rfl, h0, r0⟩ := trodAll_cons hA
  obtain ⟨v1, vs1, d1, ds1, p1, q1, rfl, rfl, rfl, h1, r1⟩ := trodAll_cons r0
  obtain ⟨v2, vs2, d2, ds2, p2, q2, rfl, rfl, rfl, h2, r2⟩ := trodAll_cons r1
  obtain ⟨rfl, rfl, rfl⟩ := trodAll_nil r2
  obtain rfl : args = #[v0, v1, v2] := by cases args; simp_all
  obtain ⟨rfl, rfl⟩ := trodVars_none hV
  obtain ⟨M0, st0, rfl, m0, x0, w0⟩ := open_state (hval 0 26 v0 rfl rfl) h0
  obtain ⟨M1, st1, rfl, m1, x1, w1⟩ := open_state (hval 1 26 v1 rfl rfl) h1
  obtain ⟨a2, rfl, rfl, rfl, w2⟩ := open_int Tryd.underlying3 (hval 2 3 v2 rfl rfl) h2
  have s0 := sized_state hsz rfl (j := 0) rfl x0
  have s1 := sized_state hsz rfl (j := 1) rfl x1
  clear hA0 hval0
  refine (walk M0 st0 M1 st1 a2 w0 w1 w2 s0 s1 W m0 m1 (tabs_of hL)).mono fun e W' ⟨he, bel⟩ => ?_
  subst he
  exact ⟨_, rfl, _, _, _, [], _, [], hW', trodAll_mk1 (shut_bool Tryd.underlying4 _), (trodAll_cons_mk (Below.trod laidOut (by kernel_rfl) (of_decide_eq_true (by kernel_rfl)) h0 bel (fun x hx => by simpa using hW'.lt x (by simp [hx]))) (trodAll_cons_mk (Below.trod laidOut (by kernel_rfl) (of_decide_eq_true (by kernel_rfl)) h1 bel (fun x hx => by simpa using hW'.lt x (by simp [hx]))) (trodAll_cons_mk (shut_int Tryd.underlying3 w2) trodAll_mk0))), rfl, bel.frame _, fun h => by cases h⟩
theorem said : Rows.WireOneSaid :=
  OpenClaim.holds_of_cond 8 Tryd.f8 rfl rfl rfl rfl rfl rfl rfl ⟨rfl, rfl, rfl, rfl, rfl⟩ rfl rfl rfl rfl rfl (by kernel_rfl) Tryd.func8 (by kernel_rfl)
    (of_decide_eq_true (by kernel_rfl)) (by unfold Func.isWrapper; first | (rw [if_pos (by decide +kernel)]; kernel_rfl) | (rw [if_neg (by decide +kernel)]; exact ⟨rfl, rfl⟩))
    (fun os started H enc _ F => by rw [OpenClaim.pre_eq_preRow]; exact lifted os started H enc F)
theorem plain (f : FuncId) (fn : Func) (hf : Tryd.pinned.checked.prog.funcNamed Rows.wireOneRow.func = some f) (hfn : Tryd.pinned.checked.prog.funcs[f]? = some fn) :
    true = Tryd.pinned.checked.prog.looks [] ∧ ∀ (j : Nat) t, fn.params[j]? = some t → Tryd.pinned.checked.prog.wantsStandIn t = false := by
  obtain rfl : f = 8 := Option.some.inj ((show Tryd.prog.funcNamed Rows.wireOneRow.func = some 8 by kernel_rfl).symm.trans hf) |>.symm
  obtain rfl : fn = Tryd.f8 := (Option.some.inj (Tryd.func8.symm.trans hfn)).symm
  refine ⟨by kernel_rfl, fun j t ht => ?_⟩
  rw [Tryd.params8] at ht
  have hm : t = 26 ∨ t = 26 ∨ t = 3 := by simpa using Array.mem_of_getElem? ht
  rcases hm with rfl | rfl | rfl
  · exact (show Tryd.prog.wantsStandIn 26 = false by kernel_rfl)
  · exact (show Tryd.prog.wantsStandIn 26 = false by kernel_rfl)
  · exact (show Tryd.prog.wantsStandIn 3 = false by kernel_rfl)
theorem proved : Rows.WireOneCardSaid :=
  Claim7.holds_tied_plain_at .later [] _ _ _ _ said (fun _ h => by cases h) (by kernel_rfl) (fun _ h => by cases h) wireOne_row_tie rfl ⟨rfl, rfl⟩ (by kernel_rfl) rfl plain (by kernel_rfl)
#print axioms proved
end Go.Proofs.YtdbopgmckndmeaaDoor.wireOne
