/- For every state s and every string node the law StateUsed of the package brackenlaw returns true, as a tied card: Used answers as the reference does. Condition: the library's two tables unicode/utf8.first and acceptRanges start as their text lays them (the card ties them; first is pinned). -/
import Derived.Test.YtkdjpciegcofbaaDoorStBad
import Derived.Test.YtkdjpciegcofbaaDoorStRefCheck
import Derived.Test.YtkdjpciegcofbaaDoorStLaid
namespace Go.Proofs.YtkdjpciegcofbaaDoor.stateUsed
open Go.ChangeShapes Go.WideShapes Go.ChangeAt Go.RowKit
open Go.ChangeMaps (open_string shut_string)
set_option linter.unusedVariables false

theorem usedR_bad {s : StD} {x : ByteArray} {c : Nat} (h : checkE V8 s = c) (h0 : c ≠ 0) : usedR s x = (0, c) := by rw [usedR, h, if_pos h0]
theorem usedR_good {s : StD} {x : ByteArray} (h : checkE V8 s = 0) (h1 : hasNode s.nodes x = true) : usedR s x = (usedD s.jobs s.leases x, 0) := by rw [usedR, h, if_neg (by simp), if_pos h1]
theorem usedR_none {s : StD} {x : ByteArray} (h : checkE V8 s = 0) (h1 : hasNode s.nodes x = false) : usedR s x = (0, 6) := by rw [usedR, h, if_neg (by simp), if_neg (by rw [h1]; simp)]
set_option maxRecDepth 100000 in
set_option maxHeartbeats 4000000 in
theorem walk (M : StM) (s : StD) (x : ByteArray) (hw : wState s) (hx : x.size ≤ maxLen) (hz : SzState s) (hzx : x.data.toList.length ≤ reachBytes) (w : World) (hm : StateAt w M s) (hT : Tabs w) :
    Calls Tryd.prog 5 #[stV M s, .string x] w fun e w' => e = .returned (.bool true) ∧ Below w.heap.size w w' := by
  obtain ⟨rev, jobs, nodes, leases⟩ := s
  obtain ⟨aj, cj, an, cn, al, cl⟩ := M
  obtain ⟨hmj, hmn, hml⟩ := hm
  show Calls _ _ #[.agg #[.int .i64 rev, .slice aj jobs.length cj, .slice an nodes.length cn, .slice al leases.length cl], .string x] _ _
  simp only at hmj hmn hml
  obtain ⟨W, hW⟩ : ∃ W, w.alloc (.cells #[.int .i64 rev, .slice aj jobs.length cj, .slice an nodes.length cn, .slice al leases.length cl] 26) = W := ⟨_, rfl⟩
  have bW : Below w.heap.size w W := by rw [← hW]; exact below_one _ _
  have q := box_new4 w (.int .i64 rev) (.slice aj jobs.length cj) (.slice an nodes.length cn) (.slice al leases.length cl) 26
  rw [hW] at q
  obtain ⟨c, hc⟩ : ∃ c, checkE V8 ⟨rev, jobs, nodes, leases⟩ = c := ⟨_, rfl⟩
  have HMJ := Lib.hid hmj
  have HMN := Lib.hid hmn
  have HML := Lib.hid hml
  have HT := Lib.hid hT
  have HC := Lib.hid hc
  have H1 := Lib.hid (usedS_any rev aj an al cj cn cl jobs nodes leases x hx hw W (hT.below bW) (jobsAt_next hmj bW) (nodesAt_next hmn bW) (leasesAt_next hml bW))
  have H2 := Lib.hid (fun v hv => rcheck_any rev aj an al cj cn cl jobs nodes leases v (jobsAt_next hmj hv) (nodesAt_next hmn hv) (leasesAt_next hml hv))
  rw [hc] at H2
  have k0 := q.1 0 _ rfl
  have k1 := q.1 1 _ rfl
  have k2 := q.1 2 _ rfl
  have k3 := q.1 3 _ rfl
  have HW := Lib.hid hW
  clear hmj hmn hml hT hw hz hc hW hzx
  go_enter Tryd.func5, Tryd.ntmps5
  go_wp2_with fail
  rw [HW.out]
  refine H1.out.mono ?_
  rintro e w1 ⟨rfl, b1⟩
  have q1 := box_next q b1
  have hb1 := below_trans bW b1 bW.size
  clear q k0 k1 k2 k3 b1 H1
  have k0 := q1.1 0 _ rfl
  have k1 := q1.1 1 _ rfl
  have k2 := q1.1 2 _ rfl
  have k3 := q1.1 3 _ rfl
  go_wp2_with fail
  refine (H2.out _ hb1).mono ?_
  rintro e w2 ⟨rfl, b2⟩
  have q2 := box_next q1 b2
  have hb2 := below_trans hb1 b2 hb1.size
  clear q1 k0 k1 k2 k3 b2 H2
  have k0 := q2.1 0 _ rfl
  have k1 := q2.1 1 _ rfl
  have k2 := q2.1 2 _ rfl
  have k3 := q2.1 3 _ rfl
  by_cases h0 : c ≠ 0
  · rw [usedR_bad HC.out h0]
    have hc1 : ((c : Int) != 0) = true := by simp; omega
    have hc2 : ((c : Int) == 0) = false := by simp; omega
    go_wp2_with fail
    refine (bad_is _).mono ?_
    rintro e w8 ⟨rfl, b8⟩
    have hb8 := below_trans hb2 b8 hb2.size
    have HB := Lib.hid (bad_check w8 (HT.out.below hb8))
    go_wp2_with fail
    refine HB.out.mono ?_
    rintro e w9 ⟨rfl, b9⟩
    have hb9 := below_trans hb8 b9 hb8.size
    go_wp2
    go_ret
    exact ⟨rfl, hb9⟩
  have h0 : c = 0 := by simpa using h0
  subst h0
  have hV := Lib.hid ((check_zero V8 _).1 HC.out)
  have hl := hV.out.2.1
  simp only at hl
  have HA := Lib.hid (nodeAt_is nodes an cn (by omega) x w2 (nodesAt_next HMN.out hb2))
  obtain ⟨d, hd⟩ : ∃ d, hasNode nodes x = d := ⟨_, rfl⟩
  have HD := Lib.hid hd
  clear hd
  cases d with
  | false =>
    rw [usedR_none HC.out HD.out]
    go_wp2_with fail
    refine HA.out.mono ?_
    rintro e w3 ⟨r, rfl, hr, b3⟩
    have hr0 : decide (r < 0) = true := by rw [at_neg r, ← at_node hr, HD.out]; rfl
    have hb3 := below_trans hb2 b3 hb2.size
    clear hr
    go_wp2_with fail
    refine (bad_is _).mono ?_
    rintro e w8 ⟨rfl, b8⟩
    have hb8 := below_trans hb3 b8 hb3.size
    have HB := Lib.hid (bad_check w8 (HT.out.below hb8))
    go_wp2_with fail
    refine HB.out.mono ?_
    rintro e w9 ⟨rfl, b9⟩
    have hb9 := below_trans hb8 b9 hb8.size
    go_wp2
    go_ret
    exact ⟨rfl, hb9⟩
  | true =>
    rw [usedR_good HC.out HD.out]
    go_wp2_with fail
    refine HA.out.mono ?_
    rintro e w3 ⟨r, rfl, hr, b3⟩
    have hr0 : decide (r < 0) = false := by rw [at_neg r, ← at_node hr, HD.out]; rfl
    have q3 := box_next q2 b3
    have hb3 := below_trans hb2 b3 hb2.size
    clear hr q2 k0 k1 k2 k3
    have k0 := q3.1 0 _ rfl
    have k1 := q3.1 1 _ rfl
    have k2 := q3.1 2 _ rfl
    have k3 := q3.1 3 _ rfl
    have H3 := Lib.hid (rused_is V8 rev aj an al cj cn cl jobs nodes leases x hV.out.2.2.1.1 hl.1 hl.2.1 w3 (jobsAt_next HMJ.out hb3) (leasesAt_next HML.out hb3))
    simp only
    obtain ⟨n, hn⟩ : ∃ n, usedD jobs leases x = n := ⟨_, rfl⟩
    rw [hn] at H3 ⊢
    clear hn
    go_wp2_with fail
    refine H3.out.mono ?_
    rintro e w4 ⟨rfl, b4⟩
    have hb4 := below_trans hb3 b4 hb3.size
    go_wp2_with fail
    refine (bad_is _).mono ?_
    rintro e w8 ⟨rfl, b8⟩
    have hb8 := below_trans hb4 b8 hb4.size
    have HB := Lib.hid (bad_check w8 (HT.out.below hb8))
    go_wp2_with fail
    refine HB.out.mono ?_
    rintro e w9 ⟨rfl, b9⟩
    have hb9 := below_trans hb8 b9 hb8.size
    go_wp2
    go_ret
    exact ⟨rfl, hb9⟩

theorem own : ownKnob Tryd.prog.godebug = none := by kernel_rfl
theorem laidOut : laidOutB Tryd.prog = true := by kernel_rfl
theorem laid_met (os : Os) : laidMet Tryd.prog Rows.stateUsedRow.laid ((laidWorld os).forCall (fun _ _ => 0) ⟨#[], #[.agg #[.int .i64 0, .slice none 0 0, .slice none 0 0, .slice none 0 0], .string ⟨#[]⟩], []⟩).memory :=
  laidMet_of_run' 8 (by kernel_rfl) (by kernel_rfl)
theorem reads (os : Os) {H : Type} (enc : TypeId × Value → H) : ∃ places, DataW.whole enc Tryd.prog ((laidWorld os).forCall (fun _ _ => 0) ⟨#[], #[.agg #[.int .i64 0, .slice none 0 0, .slice none 0 0, .slice none 0 0], .string ⟨#[]⟩], []⟩).memory Tryd.f5.params.toList Rows.stateUsedSpec.vars false #[Value.agg #[.int .i64 0, .slice none 0 0, .slice none 0 0, .slice none 0 0], Value.string ⟨#[]⟩].toList 8 = some ([.agg [.lit (.int .i64 0), .nil, .nil, .nil], .lit (.string [])], [], places) :=
  ⟨[], by kernel_rfl⟩
set_option maxRecDepth 100000 in
set_option maxHeartbeats 2000000 in
theorem lifted (os : Os) (started : os.Started) (H : Type) (enc : TypeId × Value → H) (F : Stop.Interp) :
    ReturnsInHanded {} Tryd.checked os 5 .any ((OpenSpec.ofChange Rows.stateUsedSpec).preRow enc Tryd.prog Tryd.f5 Rows.stateUsedRow.domain false Rows.stateUsedRow.laid) (((OpenSpec.ofChange Rows.stateUsedSpec).at F).post enc Tryd.prog Tryd.f5 false true false false) := by
  obtain ⟨places, hx⟩ := reads os enc
  refine returnsInHanded_of_row (C := Tryd.checked) (s := (OpenSpec.ofChange Rows.stateUsedSpec)) own started (by kernel_rfl) Tryd.func5
    (witness_row_atRef (enc := enc) (C := Tryd.checked) false (laidWorld os) #[.agg #[.int .i64 0, .slice none 0 0, .slice none 0 0, .slice none 0 0], .string ⟨#[]⟩] rfl (by kernel_rfl) (by kernel_rfl) (by kernel_rfl)
      (OpenSpec.preRow_of_cond 8 hx (by kernel_rfl) (fun k hk => by cases hk) (by kernel_rfl) (laid_met os))) ?_
  intro W base args ds gs before hval0 hW _ _ hsz0 hL _ _
  have hval : ∀ (j : Nat) t v, Tryd.f5.params[j]? = some t → args[j]? = some v → Value.okWide Tryd.prog W .any base t v := hval0
  have hW' := hW
  obtain ⟨p, q, hA0, hV, rfl, hfz, hnd⟩ := hW
  have hA : DataW.TrodAll enc Tryd.prog W 0 (fun _ => true) true Tryd.f5.params.toList args.toList ds p := hA0
  have hsz : (DataW.weightsEach Tryd.prog (Tryd.f5.params.toList ++ Rows.stateUsedSpec.plain.varTypes Tryd.prog) (ds ++ gs)).all (· ≤ reachBytes) = true := hsz0
  rw [Tryd.params5] at hA hval hsz
  obtain ⟨v0, vs0, d0, ds0, p0, q0, hargs, rfl, rfl, h0, r0⟩ := trodAll_cons hA
  obtain ⟨v1, vs1, d1, ds1, p1, q1, rfl, rfl, rfl, h1, r1⟩ := trodAll_cons r0
  obtain ⟨rfl, rfl, rfl⟩ := trodAll_nil r1
  obtain rfl : args = #[v0, v1] := by cases args; simp_all
  obtain ⟨rfl, rfl⟩ := trodVars_none hV
  obtain ⟨M0, st0, rfl, m0, x0, w0⟩ := open_state (hval 0 26 v0 rfl rfl) h0
  obtain ⟨a1, rfl, rfl, rfl, w1⟩ := open_string Tryd.underlying9 (hval 1 9 v1 rfl rfl) h1
  have s0 := sized_state hsz rfl (j := 0) rfl x0
  have s1 : a1.data.toList.length ≤ reachBytes := sized_string hsz (j := 1) (t := 9) rfl rfl
  clear hA0 hval0
  refine (walk M0 st0 a1 w0 w1 s0 s1 W m0 (tabs_of hL)).mono fun e W' ⟨he, bel⟩ => ?_
  subst he
  exact ⟨_, rfl, _, _, _, [], _, [], hW', trodAll_mk1 (shut_bool Tryd.underlying4 _), (trodAll_cons_mk (Below.trod laidOut (by kernel_rfl) (of_decide_eq_true (by kernel_rfl)) h0 bel (fun x hx => by simpa using hW'.lt x (by simp [hx]))) (trodAll_cons_mk (shut_string Tryd.underlying9 w1) trodAll_mk0)), rfl, bel.frame _, fun h => by cases h⟩
theorem said : Rows.StateUsedSaid :=
  OpenClaim.holds_of_cond 5 Tryd.f5 rfl rfl rfl rfl rfl rfl rfl ⟨rfl, rfl, rfl, rfl, rfl⟩ rfl rfl rfl rfl rfl (by kernel_rfl) Tryd.func5 (by kernel_rfl)
    (of_decide_eq_true (by kernel_rfl)) (by unfold Func.isWrapper; first | (rw [if_pos (by decide +kernel)]; kernel_rfl) | (rw [if_neg (by decide +kernel)]; exact ⟨rfl, rfl⟩))
    (fun os started H enc _ F => by rw [OpenClaim.pre_eq_preRow]; exact lifted os started H enc F)
theorem plain (f : FuncId) (fn : Func) (hf : Tryd.pinned.checked.prog.funcNamed Rows.stateUsedRow.func = some f) (hfn : Tryd.pinned.checked.prog.funcs[f]? = some fn) :
    false = Tryd.pinned.checked.prog.looks [] ∧ ∀ (j : Nat) t, fn.params[j]? = some t → Tryd.pinned.checked.prog.wantsStandIn t = false := by
  obtain rfl : f = 5 := Option.some.inj ((show Tryd.prog.funcNamed Rows.stateUsedRow.func = some 5 by kernel_rfl).symm.trans hf) |>.symm
  obtain rfl : fn = Tryd.f5 := (Option.some.inj (Tryd.func5.symm.trans hfn)).symm
  refine ⟨by kernel_rfl, fun j t ht => ?_⟩
  rw [Tryd.params5] at ht
  have hm : t = 26 ∨ t = 9 := by simpa using Array.mem_of_getElem? ht
  rcases hm with rfl | rfl
  · exact (show Tryd.prog.wantsStandIn 26 = false by kernel_rfl)
  · exact (show Tryd.prog.wantsStandIn 9 = false by kernel_rfl)
theorem proved : Rows.StateUsedCardSaid :=
  Claim7.holds_tied_plain_at .later [] _ _ _ _ said (fun _ h => by cases h) (by kernel_rfl) (fun _ h => by cases h) stateUsed_row_tie rfl ⟨rfl, rfl⟩ (by kernel_rfl) rfl plain (by kernel_rfl)
#print axioms proved
end Go.Proofs.YtkdjpciegcofbaaDoor.stateUsed
