/- For every state s and every version the law StateFits of the package brackenlaw returns true, as a tied card: Fits answers as the reference does. Condition: the library's two tables unicode/utf8.first and acceptRanges start as their text lays them (the card ties them; first is pinned). -/
import Derived.Test.YtkdjpciegcofbaaDoorStBad
import Derived.Test.YtkdjpciegcofbaaDoorStRefCheck
import Derived.Test.YtkdjpciegcofbaaDoorStRefFits
import Derived.Test.YtkdjpciegcofbaaDoorStLaid
namespace Go.Proofs.YtkdjpciegcofbaaDoor.stateFits
open Go.ChangeShapes Go.WideShapes Go.ChangeAt Go.RowKit
set_option linter.unusedVariables false

theorem fitsR_bad {s : StD} {v : Int} {c : Nat} (h : checkE V8 s = c) (h0 : c ≠ 0) : fitsR s v = (false, c) := by rw [fitsR, h, if_pos h0]
theorem fitsR_good {s : StD} {v : Int} (h : checkE V8 s = 0) (h1 : 1 ≤ v ∧ v ≤ 3) : fitsR s v = (fitsD s v, 0) := by rw [fitsR, h, if_neg (by simp), if_pos h1]
theorem fitsR_arg {s : StD} {v : Int} (h : checkE V8 s = 0) (h1 : ¬ (1 ≤ v ∧ v ≤ 3)) : fitsR s v = (false, 1) := by rw [fitsR, h, if_neg (by simp), if_neg h1]
set_option maxRecDepth 100000 in
set_option maxHeartbeats 4000000 in
theorem walk (M : StM) (s : StD) (v : Int) (hw : wState s) (hv : (Lit.int .i64 v).wf = true) (hz : SzState s) (w : World) (hm : StateAt w M s) (hT : Tabs w) :
    Calls Tryd.prog 4 #[stV M s, .int .i64 v] w fun e w' => e = .returned (.bool true) ∧ Below w.heap.size w w' := by
  obtain ⟨rev, jobs, nodes, leases⟩ := s
  obtain ⟨aj, cj, an, cn, al, cl⟩ := M
  obtain ⟨hmj, hmn, hml⟩ := hm
  show Calls _ _ #[.agg #[.int .i64 rev, .slice aj jobs.length cj, .slice an nodes.length cn, .slice al leases.length cl], .int .i64 v] _ _
  simp only at hmj hmn hml
  obtain ⟨W, hW⟩ : ∃ W, w.alloc (.cells #[.int .i64 rev, .slice aj jobs.length cj, .slice an nodes.length cn, .slice al leases.length cl] 26) = W := ⟨_, rfl⟩
  have bW : Below w.heap.size w W := by rw [← hW]; exact below_one _ _
  have q := box_new4 w (.int .i64 rev) (.slice aj jobs.length cj) (.slice an nodes.length cn) (.slice al leases.length cl) 26
  rw [hW] at q
  obtain ⟨c, hc⟩ : ∃ c, checkE V8 ⟨rev, jobs, nodes, leases⟩ = c := ⟨_, rfl⟩
  have HMJ := Lib.hid hmj
  have HMN := Lib.hid hmn
  have HML := Lib.hid hml
  have HT := Lib.hid hT
  have HC := Lib.hid hc
  have H1 := Lib.hid (fits_any rev aj an al cj cn cl jobs nodes leases v hw W (hT.below bW) (jobsAt_next hmj bW) (nodesAt_next hmn bW) (leasesAt_next hml bW))
  have H2 := Lib.hid (fun v hv => rcheck_any rev aj an al cj cn cl jobs nodes leases v (jobsAt_next hmj hv) (nodesAt_next hmn hv) (leasesAt_next hml hv))
  rw [hc] at H2
  have k0 := q.1 0 _ rfl
  have k1 := q.1 1 _ rfl
  have k2 := q.1 2 _ rfl
  have k3 := q.1 3 _ rfl
  have HW := Lib.hid hW
  clear hmj hmn hml hT hw hz hc hW hv
  go_enter Tryd.func4, Tryd.ntmps4
  go_wp2_with fail
  rw [HW.out]
  refine H1.out.mono ?_
  rintro e w1 ⟨rfl, b1⟩
  have q1 := box_next q b1
  have hb1 := below_trans bW b1 bW.size
  clear q k0 k1 k2 k3 b1 H1
  have k0 := q1.1 0 _ rfl
  have k1 := q1.1 1 _ rfl
  have k2 := q1.1 2 _ rfl
  have k3 := q1.1 3 _ rfl
  go_wp2_with fail
  refine (H2.out _ hb1).mono ?_
  rintro e w2 ⟨rfl, b2⟩
  have q2 := box_next q1 b2
  have hb2 := below_trans hb1 b2 hb1.size
  clear q1 k0 k1 k2 k3 b2 H2
  have k0 := q2.1 0 _ rfl
  have k1 := q2.1 1 _ rfl
  have k2 := q2.1 2 _ rfl
  have k3 := q2.1 3 _ rfl
  by_cases h0 : c ≠ 0
  · rw [fitsR_bad HC.out h0]
    have hc1 : ((c : Int) != 0) = true := by simp; omega
    have hc2 : ((c : Int) == 0) = false := by simp; omega
    go_wp2_with fail
    refine (bad_is _).mono ?_
    rintro e w8 ⟨rfl, b8⟩
    have hb8 := below_trans hb2 b8 hb2.size
    have HB := Lib.hid (bad_check w8 (HT.out.below hb8))
    go_wp2_with fail
    refine HB.out.mono ?_
    rintro e w9 ⟨rfl, b9⟩
    have hb9 := below_trans hb8 b9 hb8.size
    go_wp2
    go_ret
    exact ⟨rfl, hb9⟩
  have h0 : c = 0 := by simpa using h0
  subst h0
  have hl := check_len HC.out
  simp only at hl
  by_cases hv : 1 ≤ v ∧ v ≤ 3
  · rw [fitsR_good HC.out hv]
    have H3 := Lib.hid (rfits_is rev aj an al cj cn cl jobs nodes leases v hv hl.1 hl.2.2 w2 (jobsAt_next HMJ.out hb2) (nodesAt_next HMN.out hb2))
    obtain ⟨d, hd⟩ : ∃ d, fitsD ⟨rev, jobs, nodes, leases⟩ v = d := ⟨_, rfl⟩
    rw [hd] at H3 ⊢
    have v1 : decide (v < 1) = false := by simp; omega
    have v2 : decide (3 < v) = false := by simp; omega
    clear hd hv
    go_wp2_with fail
    refine H3.out.mono ?_
    rintro e w3 ⟨rfl, b3⟩
    have hb3 := below_trans hb2 b3 hb2.size
    go_wp2_with fail
    refine (bad_is _).mono ?_
    rintro e w8 ⟨rfl, b8⟩
    have hb8 := below_trans hb3 b8 hb3.size
    have HB := Lib.hid (bad_check w8 (HT.out.below hb8))
    go_wp2_with fail
    refine HB.out.mono ?_
    rintro e w9 ⟨rfl, b9⟩
    have hb9 := below_trans hb8 b9 hb8.size
    go_wp2
    go_ret
    exact ⟨rfl, hb9⟩
  · rw [fitsR_arg HC.out hv]
    by_cases v1 : v < 1
    · have v1 : decide (v < 1) = true := by simpa using v1
      clear hv
      go_wp2_with fail
      refine (bad_is _).mono ?_
      rintro e w8 ⟨rfl, b8⟩
      have hb8 := below_trans hb2 b8 hb2.size
      have HB := Lib.hid (bad_check w8 (HT.out.below hb8))
      go_wp2_with fail
      refine HB.out.mono ?_
      rintro e w9 ⟨rfl, b9⟩
      have hb9 := below_trans hb8 b9 hb8.size
      go_wp2
      go_ret
      exact ⟨rfl, hb9⟩
    · have v2 : decide (3 < v) = true := by simp; omega
      have v1 : decide (v < 1) = false := by simpa using v1
      clear hv
      go_wp2_with fail
      refine (bad_is _).mono ?_
      rintro e w8 ⟨rfl, b8⟩
      have hb8 := below_trans hb2 b8 hb2.size
      have HB := Lib.hid (bad_check w8 (HT.out.below hb8))
      go_wp2_with fail
      refine HB.out.mono ?_
      rintro e w9 ⟨rfl, b9⟩
      have hb9 := below_trans hb8 b9 hb8.size
      go_wp2
      go_ret
      exact ⟨rfl, hb9⟩

theorem own : ownKnob Tryd.prog.godebug = none := by kernel_rfl
theorem laidOut : laidOutB Tryd.prog = true := by kernel_rfl
theorem laid_met (os : Os) : laidMet Tryd.prog Rows.stateFitsRow.laid ((laidWorld os).forCall (fun _ _ => 0) ⟨#[], #[.agg #[.int .i64 0, .slice none 0 0, .slice none 0 0, .slice none 0 0], .int .i64 0], []⟩).memory :=
  laidMet_of_run' 8 (by kernel_rfl) (by kernel_rfl)
theorem reads (os : Os) {H : Type} (enc : TypeId × Value → H) : ∃ places, DataW.whole enc Tryd.prog ((laidWorld os).forCall (fun _ _ => 0) ⟨#[], #[.agg #[.int .i64 0, .slice none 0 0, .slice none 0 0, .slice none 0 0], .int .i64 0], []⟩).memory Tryd.f4.params.toList Rows.stateFitsSpec.vars false #[Value.agg #[.int .i64 0, .slice none 0 0, .slice none 0 0, .slice none 0 0], Value.int .i64 0].toList 8 = some ([.agg [.lit (.int .i64 0), .nil, .nil, .nil], .lit (.int .i64 0)], [], places) :=
  ⟨[], by kernel_rfl⟩
set_option maxRecDepth 100000 in
set_option maxHeartbeats 2000000 in
theorem lifted (os : Os) (started : os.Started) (H : Type) (enc : TypeId × Value → H) (F : Stop.Interp) :
    ReturnsInHanded {} Tryd.checked os 4 .any ((OpenSpec.ofChange Rows.stateFitsSpec).preRow enc Tryd.prog Tryd.f4 Rows.stateFitsRow.domain false Rows.stateFitsRow.laid) (((OpenSpec.ofChange Rows.stateFitsSpec).at F).post enc Tryd.prog Tryd.f4 false true false false) := by
  obtain ⟨places, hx⟩ := reads os enc
  refine returnsInHanded_of_row (C := Tryd.checked) (s := (OpenSpec.ofChange Rows.stateFitsSpec)) own started (by kernel_rfl) Tryd.func4
    (witness_row_atRef (enc := enc) (C := Tryd.checked) false (laidWorld os) #[.agg #[.int .i64 0, .slice none 0 0, .slice none 0 0, .slice none 0 0], .int .i64 0] rfl (by kernel_rfl) (by kernel_rfl) (by kernel_rfl)
      (OpenSpec.preRow_of_cond 8 hx (by kernel_rfl) (fun k hk => by cases hk) (by kernel_rfl) (laid_met os))) ?_
  intro W base args ds gs before hval0 hW _ _ hsz0 hL _ _
  have hval : ∀ (j : Nat) t v, Tryd.f4.params[j]? = some t → args[j]? = some v → Value.okWide Tryd.prog W .any base t v := hval0
  have hW' := hW
  obtain ⟨p, q, hA0, hV, rfl, hfz, hnd⟩ := hW
  have hA : DataW.TrodAll enc Tryd.prog W 0 (fun _ => true) true Tryd.f4.params.toList args.toList ds p := hA0
  have hsz : (DataW.weightsEach Tryd.prog (Tryd.f4.params.toList ++ Rows.stateFitsSpec.plain.varTypes Tryd.prog) (ds ++ gs)).all (· ≤ reachBytes) = true := hsz0
  rw [Tryd.params4] at hA hval hsz
  obtain ⟨v0, vs0, d0, ds0, p0, q0, hargs, rfl, rfl, h0, r0⟩ := trodAll_cons hA
  obtain ⟨v1, vs1, d1, ds1, p1, q1, rfl, rfl, rfl, h1, r1⟩ := trodAll_cons r0
  obtain ⟨rfl, rfl, rfl⟩ := trodAll_nil r1
  obtain rfl : args = #[v0, v1] := by cases args; simp_all
  obtain ⟨rfl, rfl⟩ := trodVars_none hV
  obtain ⟨M0, st0, rfl, m0, x0, w0⟩ := open_state (hval 0 26 v0 rfl rfl) h0
  obtain ⟨a1, rfl, rfl, rfl, w1⟩ := open_int Tryd.underlying3 (hval 1 3 v1 rfl rfl) h1
  have s0 := sized_state hsz rfl (j := 0) rfl x0
  clear hA0 hval0
  refine (walk M0 st0 a1 w0 w1 s0 W m0 (tabs_of hL)).mono fun e W' ⟨he, bel⟩ => ?_
  subst he
  exact ⟨_, rfl, _, _, _, [], _, [], hW', trodAll_mk1 (shut_bool Tryd.underlying4 _), (trodAll_cons_mk (Below.trod laidOut (by kernel_rfl) (of_decide_eq_true (by kernel_rfl)) h0 bel (fun x hx => by simpa using hW'.lt x (by simp [hx]))) (trodAll_cons_mk (shut_int Tryd.underlying3 w1) trodAll_mk0)), rfl, bel.frame _, fun h => by cases h⟩
theorem said : Rows.StateFitsSaid :=
  OpenClaim.holds_of_cond 4 Tryd.f4 rfl rfl rfl rfl rfl rfl rfl ⟨rfl, rfl, rfl, rfl, rfl⟩ rfl rfl rfl rfl rfl (by kernel_rfl) Tryd.func4 (by kernel_rfl)
    (of_decide_eq_true (by kernel_rfl)) (by unfold Func.isWrapper; first | (rw [if_pos (by decide +kernel)]; kernel_rfl) | (rw [if_neg (by decide +kernel)]; exact ⟨rfl, rfl⟩))
    (fun os started H enc _ F => by rw [OpenClaim.pre_eq_preRow]; exact lifted os started H enc F)
theorem plain (f : FuncId) (fn : Func) (hf : Tryd.pinned.checked.prog.funcNamed Rows.stateFitsRow.func = some f) (hfn : Tryd.pinned.checked.prog.funcs[f]? = some fn) :
    false = Tryd.pinned.checked.prog.looks [] ∧ ∀ (j : Nat) t, fn.params[j]? = some t → Tryd.pinned.checked.prog.wantsStandIn t = false := by
  obtain rfl : f = 4 := Option.some.inj ((show Tryd.prog.funcNamed Rows.stateFitsRow.func = some 4 by kernel_rfl).symm.trans hf) |>.symm
  obtain rfl : fn = Tryd.f4 := (Option.some.inj (Tryd.func4.symm.trans hfn)).symm
  refine ⟨by kernel_rfl, fun j t ht => ?_⟩
  rw [Tryd.params4] at ht
  have hm : t = 26 ∨ t = 3 := by simpa using Array.mem_of_getElem? ht
  rcases hm with rfl | rfl
  · exact (show Tryd.prog.wantsStandIn 26 = false by kernel_rfl)
  · exact (show Tryd.prog.wantsStandIn 3 = false by kernel_rfl)
theorem proved : Rows.StateFitsCardSaid :=
  Claim7.holds_tied_plain_at .later [] _ _ _ _ said (fun _ h => by cases h) (by kernel_rfl) (fun _ h => by cases h) stateFits_row_tie rfl ⟨rfl, rfl⟩ (by kernel_rfl) rfl plain (by kernel_rfl)
#print axioms proved
end Go.Proofs.YtkdjpciegcofbaaDoor.stateFits
