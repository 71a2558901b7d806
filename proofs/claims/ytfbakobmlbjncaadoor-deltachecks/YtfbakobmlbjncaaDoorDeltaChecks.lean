/- For every delta d the law DeltaChecks of the package brackenlaw returns true, as a tied card: Check answers as the reference does, and the delta of nothing is refused. Condition: the library's two tables unicode/utf8.first and acceptRanges start as their text lays them (the card ties them; first is pinned). -/
import Derived.Test.YtfbakobmlbjncaaDoorDlHeld
import Derived.Test.YtfbakobmlbjncaaDoorDlRCheck
import Derived.Test.YtfbakobmlbjncaaDoorPkWi5
namespace Go.Proofs.YtfbakobmlbjncaaDoor.deltaChecks
open Go.ChangeShapes Go.WideShapes Go.ChangeAt Go.RowKit
set_option linter.unusedVariables false

set_option maxRecDepth 100000 in
set_option maxHeartbeats 4000000 in
theorem walk (M : DlM) (d : DelD) (hw : wDelta d) (w : World) (hm : DeltaAt w M d) (hT : Tabs w) :
    Calls Tryd.prog 3 #[.agg (dlC M d)] w fun e w' => e = .returned (.bool true) ∧ Below w.heap.size w w' := by
  obtain ⟨H, hH⟩ : ∃ H, w.heap.size = H := ⟨_, rfl⟩
  obtain ⟨W, hW⟩ : ∃ W, w.alloc (.cells (dlC M d) 27) = W := ⟨_, rfl⟩
  have bW : Below H w W := by rw [← hW, ← hH]; exact below_one _ _
  have q : ObjAt H (dlC M d) 27 W := by rw [← hW, ← hH]; exact objAt_new w _ _
  obtain ⟨c, hc⟩ : ∃ c, dcheckE V8 d = c := ⟨_, rfl⟩
  have H1 := Lib.hid (fun v (hv : (v.cell? ⟨H, 0, none⟩ = some (.int .i64 d.frm) ∧ v.cell? ⟨H, 1, none⟩ = some (.int .i64 d.til) ∧ v.cell? ⟨H, 2, none⟩ = some (.slice M.aj d.jobs.length M.cj) ∧ v.cell? ⟨H, 3, none⟩ = some (.slice M.an d.nodes.length M.cn) ∧ v.cell? ⟨H, 4, none⟩ = some (.slice M.al d.leases.length M.cl) ∧ v.cell? ⟨H, 5, none⟩ = some (.slice M.gj d.gj.length M.hj) ∧ v.cell? ⟨H, 6, none⟩ = some (.slice M.gn d.gn.length M.hn) ∧ v.cell? ⟨H, 7, none⟩ = some (.slice M.gl d.gl.length M.hl)) ∧ ObjAt H (dlC M d) 27 v ∧ Below H w v) => dcheck_any M d hw v (hT.below (by rw [hH]; exact hv.2.2)) (deltaAt_next hm (by rw [hH]; exact hv.2.2)))
  have H2 := Lib.hid (fun v (hv : (v.cell? ⟨H, 0, none⟩ = some (.int .i64 d.frm) ∧ v.cell? ⟨H, 1, none⟩ = some (.int .i64 d.til) ∧ v.cell? ⟨H, 2, none⟩ = some (.slice M.aj d.jobs.length M.cj) ∧ v.cell? ⟨H, 3, none⟩ = some (.slice M.an d.nodes.length M.cn) ∧ v.cell? ⟨H, 4, none⟩ = some (.slice M.al d.leases.length M.cl) ∧ v.cell? ⟨H, 5, none⟩ = some (.slice M.gj d.gj.length M.hj) ∧ v.cell? ⟨H, 6, none⟩ = some (.slice M.gn d.gn.length M.hn) ∧ v.cell? ⟨H, 7, none⟩ = some (.slice M.gl d.gl.length M.hl)) ∧ ObjAt H (dlC M d) 27 v ∧ Below H w v) => rdcheck_any M d v (deltaAt_next hm (by rw [hH]; exact hv.2.2)))
  have H3 := Lib.hid (fun v (hv : (v.cell? ⟨H, 0, none⟩ = some (.int .i64 d.frm) ∧ v.cell? ⟨H, 1, none⟩ = some (.int .i64 d.til) ∧ v.cell? ⟨H, 2, none⟩ = some (.slice M.aj d.jobs.length M.cj) ∧ v.cell? ⟨H, 3, none⟩ = some (.slice M.an d.nodes.length M.cn) ∧ v.cell? ⟨H, 4, none⟩ = some (.slice M.al d.leases.length M.cl) ∧ v.cell? ⟨H, 5, none⟩ = some (.slice M.gj d.gj.length M.hj) ∧ v.cell? ⟨H, 6, none⟩ = some (.slice M.gn d.gn.length M.hn) ∧ v.cell? ⟨H, 7, none⟩ = some (.slice M.gl d.gl.length M.hl)) ∧ ObjAt H (dlC M d) 27 v ∧ Below H w v) => dcheck_none v (hT.below (by rw [hH]; exact hv.2.2)))
  rw [hc] at H1 H2
  have HW := Lib.hid hW
  have o1 := dlH_all (w := W.drew) (objAt_drew q) bW.drew
  unfold dlC at HW H1 H2 H3 o1 ⊢
  rw [hH]
  clear hm hT hw hc q hW bW
  go_enter Tryd.func3, Tryd.ntmps3
  go_wp2_with fail
  rw [HW.out]
  go_region_held3 (fun w' => (w'.cell? ⟨H, 0, none⟩ = some (.int .i64 d.frm) ∧ w'.cell? ⟨H, 1, none⟩ = some (.int .i64 d.til) ∧ w'.cell? ⟨H, 2, none⟩ = some (.slice M.aj d.jobs.length M.cj) ∧ w'.cell? ⟨H, 3, none⟩ = some (.slice M.an d.nodes.length M.cn) ∧ w'.cell? ⟨H, 4, none⟩ = some (.slice M.al d.leases.length M.cl) ∧ w'.cell? ⟨H, 5, none⟩ = some (.slice M.gj d.gj.length M.hj) ∧ w'.cell? ⟨H, 6, none⟩ = some (.slice M.gn d.gn.length M.hn) ∧ w'.cell? ⟨H, 7, none⟩ = some (.slice M.gl d.gl.length M.hl)) ∧ ObjAt H #[.int .i64 d.frm, .int .i64 d.til, .slice M.aj d.jobs.length M.cj, .slice M.an d.nodes.length M.cn, .slice M.al d.leases.length M.cl, .slice M.gj d.gj.length M.hj, .slice M.gn d.gn.length M.hn, .slice M.gl d.gl.length M.hl] 27 w' ∧ Below H w w')
    (first | assumption | exact o1)
    (first
      | (go_at_call 6; (with_reducible refine (H1.out _ (by assumption)).mono ?_); rintro e w2 ⟨rfl, b2⟩; have o2 := dlH_call (H := H) (M := M) (d := d) (W := w) b2 (by assumption))
      | (go_at_call 6; (with_reducible refine (H3.out _ (by assumption)).mono ?_); rintro e w2 ⟨rfl, b2⟩; have o2 := dlH_call (H := H) (M := M) (d := d) (W := w) b2 (by assumption))
      | (go_at_call 7; (with_reducible refine (H2.out _ (by assumption)).mono ?_); rintro e w2 ⟨rfl, b2⟩; have o2 := dlH_call (H := H) (M := M) (d := d) (W := w) b2 (by assumption)))
  all_goals
    rename_i o2
    have hb := o2.2.2
    clear o2
    go_wp2
    go_ret
    exact ⟨rfl, hb⟩

theorem own : ownKnob Tryd.prog.godebug = none := by kernel_rfl
theorem laidOut : laidOutB Tryd.prog = true := by kernel_rfl
theorem laid_met (os : Os) : laidMet Tryd.prog Rows.deltaChecksRow.laid ((laidWorld os).forCall (fun _ _ => 0) ⟨#[], #[.agg #[.int .i64 0, .int .i64 0, .slice none 0 0, .slice none 0 0, .slice none 0 0, .slice none 0 0, .slice none 0 0, .slice none 0 0]], []⟩).memory :=
  laidMet_of_run' 8 (by kernel_rfl) (by kernel_rfl)
theorem reads (os : Os) {H : Type} (enc : TypeId × Value → H) : ∃ places, DataW.whole enc Tryd.prog ((laidWorld os).forCall (fun _ _ => 0) ⟨#[], #[.agg #[.int .i64 0, .int .i64 0, .slice none 0 0, .slice none 0 0, .slice none 0 0, .slice none 0 0, .slice none 0 0, .slice none 0 0]], []⟩).memory Tryd.f3.params.toList Rows.deltaChecksSpec.vars false #[Value.agg #[.int .i64 0, .int .i64 0, .slice none 0 0, .slice none 0 0, .slice none 0 0, .slice none 0 0, .slice none 0 0, .slice none 0 0]].toList 8 = some ([.agg [.lit (.int .i64 0), .lit (.int .i64 0), .nil, .nil, .nil, .nil, .nil, .nil]], [], places) :=
  ⟨[], by kernel_rfl⟩
set_option maxRecDepth 100000 in
set_option maxHeartbeats 2000000 in
theorem lifted (os : Os) (started : os.Started) (H : Type) (enc : TypeId × Value → H) (F : Stop.Interp) :
    ReturnsInHanded {} Tryd.checked os 3 .any ((OpenSpec.ofChange Rows.deltaChecksSpec).preRow enc Tryd.prog Tryd.f3 Rows.deltaChecksRow.domain false Rows.deltaChecksRow.laid) (((OpenSpec.ofChange Rows.deltaChecksSpec).at F).post enc Tryd.prog Tryd.f3 false true false false) := by
  obtain ⟨places, hx⟩ := reads os enc
  refine returnsInHanded_of_row (C := Tryd.checked) (s := (OpenSpec.ofChange Rows.deltaChecksSpec)) own started (by kernel_rfl) Tryd.func3
    (witness_row_atRef (enc := enc) (C := Tryd.checked) false (laidWorld os) #[.agg #[.int .i64 0, .int .i64 0, .slice none 0 0, .slice none 0 0, .slice none 0 0, .slice none 0 0, .slice none 0 0, .slice none 0 0]] rfl (by kernel_rfl) (by kernel_rfl) (by kernel_rfl)
      (OpenSpec.preRow_of_cond 8 hx (by kernel_rfl) (fun k hk => by cases hk) (by kernel_rfl) (laid_met os))) ?_
  intro W base args ds gs before hval0 hW _ _ hsz0 hL _ _
  have hval : ∀ (j : Nat) t v, Tryd.f3.params[j]? = some t → args[j]? = some v → Value.okWide Tryd.prog W .any base t v := hval0
  have hW' := hW
  obtain ⟨p, q, hA0, hV, rfl, hfz, hnd⟩ := hW
  have hA : DataW.TrodAll enc Tryd.prog W 0 (fun _ => true) true Tryd.f3.params.toList args.toList ds p := hA0
  rw [Tryd.params3] at hA hval
  obtain ⟨v0, vs0, d0, ds0, p0, q0, hargs, rfl, rfl, h0, r0⟩ := trodAll_cons hA
  obtain ⟨rfl, rfl, rfl⟩ := trodAll_nil r0
  obtain rfl : args = #[v0] := by cases args; simp_all
  obtain ⟨rfl, rfl⟩ := trodVars_none hV
  obtain ⟨M0, dl0, rfl, m0, w0⟩ := open_delta (hval 0 27 v0 rfl rfl) h0

  clear hA0 hval0
  refine (walk M0 dl0 w0 W m0 (tabs_of hL)).mono fun e W' ⟨he, bel⟩ => ?_
  subst he
  exact ⟨_, rfl, _, _, _, [], _, [], hW', trodAll_mk1 (shut_bool Tryd.underlying4 _), (trodAll_cons_mk (Below.trod laidOut (by kernel_rfl) (of_decide_eq_true (by kernel_rfl)) h0 bel (fun x hx => by simpa using hW'.lt x (by simp [hx]))) trodAll_mk0), rfl, bel.frame _, fun h => by cases h⟩
theorem said : Rows.DeltaChecksSaid :=
  OpenClaim.holds_of_cond 3 Tryd.f3 rfl rfl rfl rfl rfl rfl rfl ⟨rfl, rfl, rfl, rfl, rfl⟩ rfl rfl rfl rfl rfl (by kernel_rfl) Tryd.func3 (by kernel_rfl)
    (of_decide_eq_true (by kernel_rfl)) (by unfold Func.isWrapper; first | (rw [if_pos (by decide +kernel)]; kernel_rfl) | (rw [if_neg (by decide +kernel)]; exact ⟨rfl, rfl⟩))
    (fun os started H enc _ F => by rw [OpenClaim.pre_eq_preRow]; exact lifted os started H enc F)
theorem plain (f : FuncId) (fn : Func) (hf : Tryd.pinned.checked.prog.funcNamed Rows.deltaChecksRow.func = some f) (hfn : Tryd.pinned.checked.prog.funcs[f]? = some fn) :
    true = Tryd.pinned.checked.prog.looks [] ∧ ∀ (j : Nat) t, fn.params[j]? = some t → Tryd.pinned.checked.prog.wantsStandIn t = false := by
  obtain rfl : f = 3 := Option.some.inj ((show Tryd.prog.funcNamed Rows.deltaChecksRow.func = some 3 by kernel_rfl).symm.trans hf) |>.symm
  obtain rfl : fn = Tryd.f3 := (Option.some.inj (Tryd.func3.symm.trans hfn)).symm
  refine ⟨by kernel_rfl, fun j t ht => ?_⟩
  rw [Tryd.params3] at ht
  obtain rfl : t = 27 := by simpa using Array.mem_of_getElem? ht
  exact (show Tryd.prog.wantsStandIn 27 = false by kernel_rfl)
theorem proved : Rows.DeltaChecksCardSaid :=
  Claim7.holds_tied_plain_at .later [] _ _ _ _ said (fun _ h => by cases h) (by kernel_rfl) (fun _ h => by cases h) deltaChecks_row_tie rfl ⟨rfl, rfl⟩ (by kernel_rfl) rfl plain (by kernel_rfl)
#print axioms proved
end Go.Proofs.YtfbakobmlbjncaaDoor.deltaChecks
