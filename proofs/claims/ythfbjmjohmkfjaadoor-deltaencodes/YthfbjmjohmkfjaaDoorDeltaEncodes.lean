/- For every delta the law DeltaEncodes of the package brackenlaw returns true, as a tied card: Encode returns what the reference returns. Condition: the library's two tables unicode/utf8.first and acceptRanges start as their text lays them (the card ties them; first is pinned). -/
import Derived.Test.YthfbjmjohmkfjaaDoorDlUse3
import Derived.Test.YthfbjmjohmkfjaaDoorDlREnc
namespace Go.Proofs.YthfbjmjohmkfjaaDoor.deltaEncodes
open Go.ChangeShapes Go.WideShapes Go.ChangeAt Go.RowKit
open Go.ChangeMaps (open_string shut_string)
set_option linter.unusedVariables false

set_option maxRecDepth 100000 in
set_option maxHeartbeats 8000000 in
theorem walk (Md : DlM) (d : DelD) (hwd : wDelta d)  (w : World) (hmd : DeltaAt w Md d) (hT : Tabs w) :
    Calls Tryd.prog 3 #[.agg (dlC Md d)] w fun e w' => e = .returned (.bool true) ∧ Below w.heap.size w w' := by
  show Calls _ _ #[.agg #[.int .i64 d.frm, .int .i64 d.til, .slice Md.aj d.jobs.length Md.cj, .slice Md.an d.nodes.length Md.cn, .slice Md.al d.leases.length Md.cl, .slice Md.gj d.gj.length Md.hj, .slice Md.gn d.gn.length Md.hn, .slice Md.gl d.gl.length Md.hl]] _ _
  have B0 : Below w.heap.size w w := Below.refl _ _
  have bA := below_one w (.cells #[.int .i64 d.frm, .int .i64 d.til, .slice Md.aj d.jobs.length Md.cj, .slice Md.an d.nodes.length Md.cn, .slice Md.al d.leases.length Md.cl, .slice Md.gj d.gj.length Md.hj, .slice Md.gn d.gn.length Md.hn, .slice Md.gl d.gl.length Md.hl] 27)
  have iN := bxD_new (deltaAt_next hmd B0)
  have Id0 := iN
  have B0 := below_trans B0 bA B0.size
  clear bA iN
  obtain ⟨W0, hW0⟩ : ∃ W0, (w.alloc (.cells #[.int .i64 d.frm, .int .i64 d.til, .slice Md.aj d.jobs.length Md.cj, .slice Md.an d.nodes.length Md.cn, .slice Md.al d.leases.length Md.cl, .slice Md.gj d.gj.length Md.hj, .slice Md.gn d.gn.length Md.hn, .slice Md.gl d.gl.length Md.hl] 27)) = W0 := ⟨_, rfl⟩
  rw [hW0] at B0 Id0
  have HT := Lib.hid hT
  have HWd := Lib.hid hwd
  have B0 := Lib.hid B0
  have Id0 := Lib.hid Id0
  clear hT hmd hwd
  obtain ⟨⟨l, c⟩, e1⟩ : ∃ Q, dencR V8 d = Q := ⟨_, rfl⟩
  obtain ⟨S, hS⟩ : ∃ S : ByteArray, (⟨l.toArray⟩ : ByteArray) = S := ⟨_, rfl⟩
  have E1 := Lib.hid e1
  have HS := Lib.hid hS
  clear e1 hS
  have C := Lib.hid (dencode_at HWd.out E1.out HS.out (HT.out.below B0.out) Id0.out.2)
  obtain ⟨zd0, zd1, zd2, zd3, zd4, zd5, zd6, zd7⟩ := bxD_cells Id0.out
  go_enter Tryd.func3, Tryd.ntmps3
  go_wp2_with fail
  refine C.out.mono ?_
  rintro e W1 ⟨rfl, b⟩
  clear zd0 zd1 zd2 zd3 zd4 zd5 zd6 zd7
  have Id1 := Lib.hid (bxD_next Id0.out b)
  have B1 := Lib.hid (below_trans B0.out b B0.out.size)
  clear b C
  have C := Lib.hid ((by have h := rdencode_any d Md W1 Id1.out.2; rw [E1.out] at h; rw [← HS.out]; exact h : Calls Tryd.prog 6 #[.agg #[.int .i64 d.frm, .int .i64 d.til, .slice Md.aj d.jobs.length Md.cj, .slice Md.an d.nodes.length Md.cn, .slice Md.al d.leases.length Md.cl, .slice Md.gj d.gj.length Md.hj, .slice Md.gn d.gn.length Md.hn, .slice Md.gl d.gl.length Md.hl]] W1 fun e w' => e = .returned (.tuple #[.string S, .int .i64 (c : Nat)]) ∧ Below W1.heap.size W1 w'))
  obtain ⟨zd0, zd1, zd2, zd3, zd4, zd5, zd6, zd7⟩ := bxD_cells Id1.out
  go_wp2_with fail
  refine C.out.mono ?_
  rintro e W2 ⟨rfl, b⟩
  clear zd0 zd1 zd2 zd3 zd4 zd5 zd6 zd7
  have Id2 := Lib.hid (bxD_next Id1.out b)
  have B2 := Lib.hid (below_trans B1.out b B1.out.size)
  clear b C
  have hcc : ((c : Int) == (c : Int)) = true := by simp
  have hss : (S.toList == S.toList) = true := by simp
  have C := Lib.hid (dcheck_none W2 (HT.out.below B2.out))
  go_wp2_with fail
  refine C.out.mono ?_
  rintro e W3 ⟨rfl, b⟩
  have Id3 := Lib.hid (bxD_next Id2.out b)
  have B3 := Lib.hid (below_trans B2.out b B2.out.size)
  clear b C
  go_wp2
  go_ret
  exact ⟨rfl, B3.out⟩

theorem own : ownKnob Tryd.prog.godebug = none := by kernel_rfl
theorem laidOut : laidOutB Tryd.prog = true := by kernel_rfl
theorem laid_met (os : Os) : laidMet Tryd.prog Rows.deltaEncodesRow.laid ((laidWorld os).forCall (fun _ _ => 0) ⟨#[], #[.agg #[.int .i64 0, .int .i64 0, .slice none 0 0, .slice none 0 0, .slice none 0 0, .slice none 0 0, .slice none 0 0, .slice none 0 0]], []⟩).memory :=
  laidMet_of_run' 8 (by kernel_rfl) (by kernel_rfl)
theorem reads (os : Os) {H : Type} (enc : TypeId × Value → H) : ∃ places, DataW.whole enc Tryd.prog ((laidWorld os).forCall (fun _ _ => 0) ⟨#[], #[.agg #[.int .i64 0, .int .i64 0, .slice none 0 0, .slice none 0 0, .slice none 0 0, .slice none 0 0, .slice none 0 0, .slice none 0 0]], []⟩).memory Tryd.f3.params.toList Rows.deltaEncodesSpec.vars false #[Value.agg #[.int .i64 0, .int .i64 0, .slice none 0 0, .slice none 0 0, .slice none 0 0, .slice none 0 0, .slice none 0 0, .slice none 0 0]].toList 8 = some ([.agg [.lit (.int .i64 0), .lit (.int .i64 0), .nil, .nil, .nil, .nil, .nil, .nil]], [], places) :=
  ⟨[], by kernel_rfl⟩
set_option maxRecDepth 100000 in
set_option maxHeartbeats 2000000 in
theorem lifted (os : Os) (started : os.Started) (H : Type) (enc : TypeId × Value → H) (F : Stop.Interp) :
    ReturnsInHanded {} Tryd.checked os 3 .any ((OpenSpec.ofChange Rows.deltaEncodesSpec).preRow enc Tryd.prog Tryd.f3 Rows.deltaEncodesRow.domain false Rows.deltaEncodesRow.laid) (((OpenSpec.ofChange Rows.deltaEncodesSpec).at F).post enc Tryd.prog Tryd.f3 false true false false) := by
  obtain ⟨places, hx⟩ := reads os enc
  refine returnsInHanded_of_row (C := Tryd.checked) (s := (OpenSpec.ofChange Rows.deltaEncodesSpec)) own started (by kernel_rfl) Tryd.func3
    (witness_row_atRef (enc := enc) (C := Tryd.checked) false (laidWorld os) #[.agg #[.int .i64 0, .int .i64 0, .slice none 0 0, .slice none 0 0, .slice none 0 0, .slice none 0 0, .slice none 0 0, .slice none 0 0]] rfl (by kernel_rfl) (by kernel_rfl) (by kernel_rfl)
      (OpenSpec.preRow_of_cond 8 hx (by kernel_rfl) (fun k hk => by cases hk) (by kernel_rfl) (laid_met os))) ?_
  intro W base args ds gs before hval0 hW _ _ hsz0 hL _ _
  have hval : ∀ (j : Nat) t v, Tryd.f3.params[j]? = some t → args[j]? = some v → Value.okWide Tryd.prog W .any base t v := hval0
  have hW' := hW
  obtain ⟨p, q, hA0, hV, rfl, hfz, hnd⟩ := hW
  have hA : DataW.TrodAll enc Tryd.prog W 0 (fun _ => true) true Tryd.f3.params.toList args.toList ds p := hA0
  rw [Tryd.params3] at hA hval
  obtain ⟨v0, vs0, d0, ds0, p0, q0, hargs, rfl, rfl, h0, r0⟩ := trodAll_cons hA
  obtain ⟨rfl, rfl, rfl⟩ := trodAll_nil r0
  obtain rfl : args = #[v0] := by cases args; simp_all
  obtain ⟨rfl, rfl⟩ := trodVars_none hV
  obtain ⟨M0, dl0, rfl, m0, w0⟩ := open_delta (hval 0 27 v0 rfl rfl) h0

  clear hA0 hval0
  refine (walk M0 dl0 w0 W m0 (tabs_of hL)).mono fun e W' ⟨he, bel⟩ => ?_
  subst he
  exact ⟨_, rfl, _, _, _, [], _, [], hW', trodAll_mk1 (shut_bool Tryd.underlying4 _), (trodAll_cons_mk (Below.trod laidOut (by kernel_rfl) (of_decide_eq_true (by kernel_rfl)) h0 bel (fun x hx => by simpa using hW'.lt x (by simp [hx]))) trodAll_mk0), rfl, bel.frame _, fun h => by cases h⟩
theorem said : Rows.DeltaEncodesSaid :=
  OpenClaim.holds_of_cond 3 Tryd.f3 rfl rfl rfl rfl rfl rfl rfl ⟨rfl, rfl, rfl, rfl, rfl⟩ rfl rfl rfl rfl rfl (by kernel_rfl) Tryd.func3 (by kernel_rfl)
    (of_decide_eq_true (by kernel_rfl)) (by unfold Func.isWrapper; first | (rw [if_pos (by decide +kernel)]; kernel_rfl) | (rw [if_neg (by decide +kernel)]; exact ⟨rfl, rfl⟩))
    (fun os started H enc _ F => by rw [OpenClaim.pre_eq_preRow]; exact lifted os started H enc F)
theorem plain (f : FuncId) (fn : Func) (hf : Tryd.pinned.checked.prog.funcNamed Rows.deltaEncodesRow.func = some f) (hfn : Tryd.pinned.checked.prog.funcs[f]? = some fn) :
    true = Tryd.pinned.checked.prog.looks [] ∧ ∀ (j : Nat) t, fn.params[j]? = some t → Tryd.pinned.checked.prog.wantsStandIn t = false := by
  obtain rfl : f = 3 := Option.some.inj ((show Tryd.prog.funcNamed Rows.deltaEncodesRow.func = some 3 by kernel_rfl).symm.trans hf) |>.symm
  obtain rfl : fn = Tryd.f3 := (Option.some.inj (Tryd.func3.symm.trans hfn)).symm
  refine ⟨by kernel_rfl, fun j t ht => ?_⟩
  rw [Tryd.params3] at ht
  obtain rfl : t = 27 := by simpa using Array.mem_of_getElem? ht
  exact (show Tryd.prog.wantsStandIn 27 = false by kernel_rfl)
theorem proved : Rows.DeltaEncodesCardSaid :=
  Claim7.holds_tied_plain_at .later [] _ _ _ _ said (fun _ h => by cases h) (by kernel_rfl) (fun _ h => by cases h) deltaEncodes_row_tie rfl ⟨rfl, rfl⟩ (by kernel_rfl) rfl plain (by kernel_rfl)
#print axioms proved
end Go.Proofs.YthfbjmjohmkfjaaDoor.deltaEncodes
