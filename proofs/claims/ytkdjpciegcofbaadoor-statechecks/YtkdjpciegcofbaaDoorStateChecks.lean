/- For every state s the law StateChecks of the package brackenlaw returns true, as a tied card: Check answers as the reference does, and the bad state is refused. Condition: the library's two tables unicode/utf8.first and acceptRanges start as their text lays them (the card ties them; first is pinned). -/
import Derived.Test.YtkdjpciegcofbaaDoorStBad
import Derived.Test.YtkdjpciegcofbaaDoorStRefCheck
import Derived.Test.YtkdjpciegcofbaaDoorStLaid
namespace Go.Proofs.YtkdjpciegcofbaaDoor.stateChecks
open Go.ChangeShapes Go.WideShapes Go.ChangeAt Go.RowKit
set_option linter.unusedVariables false

set_option maxRecDepth 100000 in
set_option maxHeartbeats 4000000 in
theorem walk (M : StM) (s : StD) (hw : wState s) (hz : SzState s) (w : World) (hm : StateAt w M s) (hT : Tabs w) :
    Calls Tryd.prog 3 #[stV M s] w fun e w' => e = .returned (.bool true) ∧ Below w.heap.size w w' := by
  obtain ⟨rev, jobs, nodes, leases⟩ := s
  obtain ⟨aj, cj, an, cn, al, cl⟩ := M
  obtain ⟨hmj, hmn, hml⟩ := hm
  show Calls _ _ #[.agg #[.int .i64 rev, .slice aj jobs.length cj, .slice an nodes.length cn, .slice al leases.length cl]] _ _
  simp only at hmj hmn hml
  obtain ⟨W, hW⟩ : ∃ W, w.alloc (.cells #[.int .i64 rev, .slice aj jobs.length cj, .slice an nodes.length cn, .slice al leases.length cl] 26) = W := ⟨_, rfl⟩
  have bW : Below w.heap.size w W := by rw [← hW]; exact below_one _ _
  have q := box_new4 w (.int .i64 rev) (.slice aj jobs.length cj) (.slice an nodes.length cn) (.slice al leases.length cl) 26
  rw [hW] at q
  obtain ⟨c, hc⟩ : ∃ c, checkE V8 ⟨rev, jobs, nodes, leases⟩ = c := ⟨_, rfl⟩
  have H1 := Lib.hid (fun v (hv : (v.cell? ⟨w.heap.size, 0, none⟩ = some (.int .i64 rev) ∧ v.cell? ⟨w.heap.size, 1, none⟩ = some (.slice aj jobs.length cj) ∧ v.cell? ⟨w.heap.size, 2, none⟩ = some (.slice an nodes.length cn) ∧ v.cell? ⟨w.heap.size, 3, none⟩ = some (.slice al leases.length cl)) ∧ w.heap.size < v.heap.size ∧ Below w.heap.size w v) =>
    check_any rev aj an al cj cn cl jobs nodes leases hw v (hT.below hv.2.2) (jobsAt_next hmj hv.2.2) (nodesAt_next hmn hv.2.2) (leasesAt_next hml hv.2.2))
  have H2 := Lib.hid (fun v (hv : (v.cell? ⟨w.heap.size, 0, none⟩ = some (.int .i64 rev) ∧ v.cell? ⟨w.heap.size, 1, none⟩ = some (.slice aj jobs.length cj) ∧ v.cell? ⟨w.heap.size, 2, none⟩ = some (.slice an nodes.length cn) ∧ v.cell? ⟨w.heap.size, 3, none⟩ = some (.slice al leases.length cl)) ∧ w.heap.size < v.heap.size ∧ Below w.heap.size w v) =>
    rcheck_any rev aj an al cj cn cl jobs nodes leases v (jobsAt_next hmj hv.2.2) (nodesAt_next hmn hv.2.2) (leasesAt_next hml hv.2.2))
  have H3 := Lib.hid (fun v (hv : (v.cell? ⟨w.heap.size, 0, none⟩ = some (.int .i64 rev) ∧ v.cell? ⟨w.heap.size, 1, none⟩ = some (.slice aj jobs.length cj) ∧ v.cell? ⟨w.heap.size, 2, none⟩ = some (.slice an nodes.length cn) ∧ v.cell? ⟨w.heap.size, 3, none⟩ = some (.slice al leases.length cl)) ∧ w.heap.size < v.heap.size ∧ Below w.heap.size w v) =>
    bad_check v (hT.below hv.2.2))
  rw [hc] at H1 H2
  have HW := Lib.hid hW
  have o1 : (W.cell? ⟨w.heap.size, 0, none⟩ = some (.int .i64 rev) ∧ W.cell? ⟨w.heap.size, 1, none⟩ = some (.slice aj jobs.length cj) ∧ W.cell? ⟨w.heap.size, 2, none⟩ = some (.slice an nodes.length cn) ∧ W.cell? ⟨w.heap.size, 3, none⟩ = some (.slice al leases.length cl)) ∧ w.heap.size < W.heap.size ∧ Below w.heap.size w W := ⟨⟨q.1 0 _ rfl, q.1 1 _ rfl, q.1 2 _ rfl, q.1 3 _ rfl⟩, q.2, bW⟩
  clear hmj hmn hml hT hw hz hc q hW bW
  go_enter Tryd.func3, Tryd.ntmps3
  go_wp2_with fail
  rw [HW.out]
  go_region_held3 (fun w' => (w'.cell? ⟨w.heap.size, 0, none⟩ = some (.int .i64 rev) ∧ w'.cell? ⟨w.heap.size, 1, none⟩ = some (.slice aj jobs.length cj) ∧ w'.cell? ⟨w.heap.size, 2, none⟩ = some (.slice an nodes.length cn) ∧ w'.cell? ⟨w.heap.size, 3, none⟩ = some (.slice al leases.length cl)) ∧ w.heap.size < w'.heap.size ∧ Below w.heap.size w w')
    (first | assumption | exact ⟨o1.1, o1.2.1, o1.2.2.drew⟩)
    (first
      | (go_at_call 11; (with_reducible refine (H1.out _ (by assumption)).mono ?_); rintro e w2 ⟨rfl, b2⟩; have o2 := stS_next (w := w) b2 (by assumption))
      | (go_at_call 11; (with_reducible refine (H3.out _ (by assumption)).mono ?_); rintro e w2 ⟨rfl, b2⟩; have o2 := stS_next (w := w) b2 (by assumption))
      | (go_at_call 12; (with_reducible refine (H2.out _ (by assumption)).mono ?_); rintro e w2 ⟨rfl, b2⟩; have o2 := stS_next (w := w) b2 (by assumption))
      | (go_at_call 13; (with_reducible refine (bad_is _).mono ?_); rintro e w2 ⟨rfl, b2⟩; have o2 := stS_next (w := w) b2 (by assumption)))
  all_goals
    rename_i o2
    have hb := o2.2.2
    clear o2
    go_wp2
    go_ret
    exact ⟨rfl, hb⟩

theorem own : ownKnob Tryd.prog.godebug = none := by kernel_rfl
theorem laidOut : laidOutB Tryd.prog = true := by kernel_rfl
theorem laid_met (os : Os) : laidMet Tryd.prog Rows.stateChecksRow.laid ((laidWorld os).forCall (fun _ _ => 0) ⟨#[], #[.agg #[.int .i64 0, .slice none 0 0, .slice none 0 0, .slice none 0 0]], []⟩).memory :=
  laidMet_of_run' 8 (by kernel_rfl) (by kernel_rfl)
theorem reads (os : Os) {H : Type} (enc : TypeId × Value → H) : ∃ places, DataW.whole enc Tryd.prog ((laidWorld os).forCall (fun _ _ => 0) ⟨#[], #[.agg #[.int .i64 0, .slice none 0 0, .slice none 0 0, .slice none 0 0]], []⟩).memory Tryd.f3.params.toList Rows.stateChecksSpec.vars false #[Value.agg #[.int .i64 0, .slice none 0 0, .slice none 0 0, .slice none 0 0]].toList 8 = some ([.agg [.lit (.int .i64 0), .nil, .nil, .nil]], [], places) :=
  ⟨[], by kernel_rfl⟩
set_option maxRecDepth 100000 in
set_option maxHeartbeats 2000000 in
theorem lifted (os : Os) (started : os.Started) (H : Type) (enc : TypeId × Value → H) (F : Stop.Interp) :
    ReturnsInHanded {} Tryd.checked os 3 .any ((OpenSpec.ofChange Rows.stateChecksSpec).preRow enc Tryd.prog Tryd.f3 Rows.stateChecksRow.domain false Rows.stateChecksRow.laid) (((OpenSpec.ofChange Rows.stateChecksSpec).at F).post enc Tryd.prog Tryd.f3 false true false false) := by
  obtain ⟨places, hx⟩ := reads os enc
  refine returnsInHanded_of_row (C := Tryd.checked) (s := (OpenSpec.ofChange Rows.stateChecksSpec)) own started (by kernel_rfl) Tryd.func3
    (witness_row_atRef (enc := enc) (C := Tryd.checked) false (laidWorld os) #[.agg #[.int .i64 0, .slice none 0 0, .slice none 0 0, .slice none 0 0]] rfl (by kernel_rfl) (by kernel_rfl) (by kernel_rfl)
      (OpenSpec.preRow_of_cond 8 hx (by kernel_rfl) (fun k hk => by cases hk) (by kernel_rfl) (laid_met os))) ?_
  intro W base args ds gs before hval0 hW _ _ hsz0 hL _ _
  have hval : ∀ (j : Nat) t v, Tryd.f3.params[j]? = some t → args[j]? = some v → Value.okWide Tryd.prog W .any base t v := hval0
  have hW' := hW
  obtain ⟨p, q, hA0, hV, rfl, hfz, hnd⟩ := hW
  have hA : DataW.TrodAll enc Tryd.prog W 0 (fun _ => true) true Tryd.f3.params.toList args.toList ds p := hA0
  have hsz : (DataW.weightsEach Tryd.prog (Tryd.f3.params.toList ++ Rows.stateChecksSpec.plain.varTypes Tryd.prog) (ds ++ gs)).all (· ≤ reachBytes) = true := hsz0
  rw [Tryd.params3] at hA hval hsz
  obtain ⟨v0, vs0, d0, ds0, p0, q0, hargs, rfl, rfl, h0, r0⟩ := trodAll_cons hA
  obtain ⟨rfl, rfl, rfl⟩ := trodAll_nil r0
  obtain rfl : args = #[v0] := by cases args; simp_all
  obtain ⟨rfl, rfl⟩ := trodVars_none hV
  obtain ⟨M0, st0, rfl, m0, x0, w0⟩ := open_state (hval 0 26 v0 rfl rfl) h0
  have s0 := sized_state hsz rfl (j := 0) rfl x0
  clear hA0 hval0
  refine (walk M0 st0 w0 s0 W m0 (tabs_of hL)).mono fun e W' ⟨he, bel⟩ => ?_
  subst he
  exact ⟨_, rfl, _, _, _, [], _, [], hW', trodAll_mk1 (shut_bool Tryd.underlying4 _), (trodAll_cons_mk (Below.trod laidOut (by kernel_rfl) (of_decide_eq_true (by kernel_rfl)) h0 bel (fun x hx => by simpa using hW'.lt x (by simp [hx]))) trodAll_mk0), rfl, bel.frame _, fun h => by cases h⟩
theorem said : Rows.StateChecksSaid :=
  OpenClaim.holds_of_cond 3 Tryd.f3 rfl rfl rfl rfl rfl rfl rfl ⟨rfl, rfl, rfl, rfl, rfl⟩ rfl rfl rfl rfl rfl (by kernel_rfl) Tryd.func3 (by kernel_rfl)
    (of_decide_eq_true (by kernel_rfl)) (by unfold Func.isWrapper; first | (rw [if_pos (by decide +kernel)]; kernel_rfl) | (rw [if_neg (by decide +kernel)]; exact ⟨rfl, rfl⟩))
    (fun os started H enc _ F => by rw [OpenClaim.pre_eq_preRow]; exact lifted os started H enc F)
theorem plain (f : FuncId) (fn : Func) (hf : Tryd.pinned.checked.prog.funcNamed Rows.stateChecksRow.func = some f) (hfn : Tryd.pinned.checked.prog.funcs[f]? = some fn) :
    false = Tryd.pinned.checked.prog.looks [] ∧ ∀ (j : Nat) t, fn.params[j]? = some t → Tryd.pinned.checked.prog.wantsStandIn t = false := by
  obtain rfl : f = 3 := Option.some.inj ((show Tryd.prog.funcNamed Rows.stateChecksRow.func = some 3 by kernel_rfl).symm.trans hf) |>.symm
  obtain rfl : fn = Tryd.f3 := (Option.some.inj (Tryd.func3.symm.trans hfn)).symm
  refine ⟨by kernel_rfl, fun j t ht => ?_⟩
  rw [Tryd.params3] at ht
  obtain rfl : t = 26 := by simpa using Array.mem_of_getElem? ht
  exact (show Tryd.prog.wantsStandIn 26 = false by kernel_rfl)
theorem proved : Rows.StateChecksCardSaid :=
  Claim7.holds_tied_plain_at .later [] _ _ _ _ said (fun _ h => by cases h) (by kernel_rfl) (fun _ h => by cases h) stateChecks_row_tie rfl ⟨rfl, rfl⟩ (by kernel_rfl) rfl plain (by kernel_rfl)
#print axioms proved
end Go.Proofs.YtkdjpciegcofbaaDoor.stateChecks
