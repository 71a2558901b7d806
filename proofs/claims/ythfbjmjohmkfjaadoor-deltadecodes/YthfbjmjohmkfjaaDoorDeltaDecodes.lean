/- For every string the law DeltaDecodes of the package brackenlaw returns true, as a tied card: Decode returns what the reference returns. Condition: the library's two tables unicode/utf8.first and acceptRanges start as their text lays them (the card ties them; first is pinned). -/
import Derived.Test.YthfbjmjohmkfjaaDoorDlUse3
import Derived.Test.YthfbjmjohmkfjaaDoorDlRDec
namespace Go.Proofs.YthfbjmjohmkfjaaDoor.deltaDecodes
open Go.ChangeShapes Go.WideShapes Go.ChangeAt Go.RowKit
open Go.ChangeMaps (open_string shut_string)
set_option linter.unusedVariables false

set_option maxRecDepth 100000 in
set_option maxHeartbeats 8000000 in
theorem walk (s : ByteArray) (hws : s.size ≤ maxLen) (hzs : s.data.toList.length ≤ reachBytes) (w : World)  (hT : Tabs w) :
    Calls Tryd.prog 4 #[.string s] w fun e w' => e = .returned (.bool true) ∧ Below w.heap.size w w' := by
  show Calls _ _ #[.string s] _ _
  have B0 : Below w.heap.size w w := Below.refl _ _
  obtain ⟨W0, hW0⟩ : ∃ W, W = w := ⟨_, rfl⟩
  rw [← hW0]
  rw [← hW0] at B0 hT
  clear hW0
  have HT := Lib.hid hT
  have B0 := Lib.hid B0
  have hss := str_reach hzs
  have hs2 : s.size ≤ 140737488355328 := by omega
  have hs3 : s.size ≤ 1152921504606846976 := by omega
  have HS2 := Lib.hid hs2
  have HS3 := Lib.hid hs3
  obtain ⟨⟨D, c⟩, e1⟩ : ∃ Q, ddecR V8 s.data.toList = Q := ⟨_, rfl⟩
  have HLD : Hid (LenD D) := by
    show LenD D
    rcases ddec_cases s.data.toList with ⟨f, _, e2⟩ | ⟨D2, e2, _, h3⟩
    · rw [e1] at e2; simp only [Prod.mk.injEq] at e2; rw [e2.1]; exact lenD_zero
    · rw [e1] at e2; simp only [Prod.mk.injEq] at e2; rw [e2.1]; exact lenD_valid h3
  have E1 := Lib.hid e1
  clear hT hzs hws hs2 hs3 e1 hss
  have C := Lib.hid (ddecode_at HS3.out E1.out (HT.out.below B0.out))
  go_enter Tryd.func4, Tryd.ntmps4
  go_wp2_with fail
  refine C.out.mono ?_
  rintro e w1 ⟨Mx, rfl, ow, b⟩
  obtain ⟨Lx, hLx⟩ : ∃ L, w1.heap.size = L := ⟨_, rfl⟩
  obtain ⟨W1, hW1⟩ : ∃ W, w1.alloc (.cells #[.int .i64 D.frm, .int .i64 D.til, .slice Mx.aj D.jobs.length Mx.cj, .slice Mx.an D.nodes.length Mx.cn, .slice Mx.al D.leases.length Mx.cl, .slice Mx.gj D.gj.length Mx.hj, .slice Mx.gn D.gn.length Mx.hn, .slice Mx.gl D.gl.length Mx.hl] 27) = W := ⟨_, rfl⟩
  have bA := below_one w1 (.cells #[.int .i64 D.frm, .int .i64 D.til, .slice Mx.aj D.jobs.length Mx.cj, .slice Mx.an D.nodes.length Mx.cn, .slice Mx.al D.leases.length Mx.cl, .slice Mx.gj D.gj.length Mx.hj, .slice Mx.gn D.gn.length Mx.hn, .slice Mx.gl D.gl.length Mx.hl] 27)
  have iN := bxD_new (ownD_at ow)
  rw [hW1] at bA iN
  rw [hLx] at iN
  have Ix1 := Lib.hid iN
  have B1 := Lib.hid (below_trans (below_trans B0.out b B0.out.size) bA (Nat.le_trans B0.out.size b.size))
  clear bA iN ow b C
  have C := Lib.hid ((by have h := rddecode_any s HS2.out W1; rw [E1.out] at h; exact h : Calls Tryd.prog 9 #[.string s] W1 fun e w' => ∃ M : DlM, e = .returned (.tuple #[.agg #[.int .i64 D.frm, .int .i64 D.til, .slice M.aj D.jobs.length M.cj, .slice M.an D.nodes.length M.cn, .slice M.al D.leases.length M.cl, .slice M.gj D.gj.length M.hj, .slice M.gn D.gn.length M.hn, .slice M.gl D.gl.length M.hl], .int .i64 (c : Nat)]) ∧ OwnD W1.heap.size M D w' ∧ Below W1.heap.size W1 w'))
  go_wp2_with fail
  refine C.out.mono ?_
  rintro e w2 ⟨My, rfl, ow, b⟩
  obtain ⟨Ly, hLy⟩ : ∃ L, w2.heap.size = L := ⟨_, rfl⟩
  obtain ⟨W2, hW2⟩ : ∃ W, w2.alloc (.cells #[.int .i64 D.frm, .int .i64 D.til, .slice My.aj D.jobs.length My.cj, .slice My.an D.nodes.length My.cn, .slice My.al D.leases.length My.cl, .slice My.gj D.gj.length My.hj, .slice My.gn D.gn.length My.hn, .slice My.gl D.gl.length My.hl] 27) = W := ⟨_, rfl⟩
  have bA := below_one w2 (.cells #[.int .i64 D.frm, .int .i64 D.til, .slice My.aj D.jobs.length My.cj, .slice My.an D.nodes.length My.cn, .slice My.al D.leases.length My.cl, .slice My.gj D.gj.length My.hj, .slice My.gn D.gn.length My.hn, .slice My.gl D.gl.length My.hl] 27)
  have iN := bxD_new (ownD_at ow)
  rw [hW2] at bA iN
  rw [hLy] at iN
  have Ix2 := Lib.hid (bxD_next (bxD_next Ix1.out b) bA)
  have Iy2 := Lib.hid iN
  have B2 := Lib.hid (below_trans (below_trans B1.out b B1.out.size) bA (Nat.le_trans B1.out.size b.size))
  clear bA iN ow b C
  have C := Lib.hid (deltaEq_at HLD.out Ix2.out.2 Iy2.out.2)
  obtain ⟨zx0, zx1, zx2, zx3, zx4, zx5, zx6, zx7⟩ := bxD_cells Ix2.out
  obtain ⟨zy0, zy1, zy2, zy3, zy4, zy5, zy6, zy7⟩ := bxD_cells Iy2.out
  go_wp2_with fail
  refine C.out.mono ?_
  rintro e W3 ⟨c0, rfl, hc, b⟩
  clear zx0 zx1 zx2 zx3 zx4 zx5 zx6 zx7 zy0 zy1 zy2 zy3 zy4 zy5 zy6 zy7
  obtain rfl : c0 = true := hc.2 (by first | rfl | trivial)
  clear hc
  have Ix3 := Lib.hid (bxD_next Ix2.out b)
  have Iy3 := Lib.hid (bxD_next Iy2.out b)
  have B3 := Lib.hid (below_trans B2.out b B2.out.size)
  clear b C
  have hcc : ((c : Int) == (c : Int)) = true := by simp
  have C := Lib.hid (dcheck_none W3 (HT.out.below B3.out))
  go_wp2_with fail
  refine C.out.mono ?_
  rintro e W4 ⟨rfl, b⟩
  have Ix4 := Lib.hid (bxD_next Ix3.out b)
  have Iy4 := Lib.hid (bxD_next Iy3.out b)
  have B4 := Lib.hid (below_trans B3.out b B3.out.size)
  clear b C
  go_wp2
  go_ret
  exact ⟨rfl, B4.out⟩

theorem own : ownKnob Tryd.prog.godebug = none := by kernel_rfl
theorem laid_met (os : Os) : laidMet Tryd.prog Rows.deltaDecodesRow.laid ((laidWorld os).forCall (fun _ _ => 0) ⟨#[], #[.string ⟨#[]⟩], []⟩).memory :=
  laidMet_of_run' 8 (by kernel_rfl) (by kernel_rfl)
theorem reads (os : Os) {H : Type} (enc : TypeId × Value → H) : ∃ places, DataW.whole enc Tryd.prog ((laidWorld os).forCall (fun _ _ => 0) ⟨#[], #[.string ⟨#[]⟩], []⟩).memory Tryd.f4.params.toList Rows.deltaDecodesSpec.vars false #[Value.string ⟨#[]⟩].toList 8 = some ([.lit (.string [])], [], places) :=
  ⟨[], by kernel_rfl⟩
set_option maxRecDepth 100000 in
set_option maxHeartbeats 2000000 in
theorem lifted (os : Os) (started : os.Started) (H : Type) (enc : TypeId × Value → H) (F : Stop.Interp) :
    ReturnsInHanded {} Tryd.checked os 4 .any ((OpenSpec.ofChange Rows.deltaDecodesSpec).preRow enc Tryd.prog Tryd.f4 Rows.deltaDecodesRow.domain false Rows.deltaDecodesRow.laid) (((OpenSpec.ofChange Rows.deltaDecodesSpec).at F).post enc Tryd.prog Tryd.f4 false true false false) := by
  obtain ⟨places, hx⟩ := reads os enc
  refine returnsInHanded_of_row (C := Tryd.checked) (s := (OpenSpec.ofChange Rows.deltaDecodesSpec)) own started (by kernel_rfl) Tryd.func4
    (witness_row_atRef (enc := enc) (C := Tryd.checked) false (laidWorld os) #[.string ⟨#[]⟩] rfl (by kernel_rfl) (by kernel_rfl) (by kernel_rfl)
      (OpenSpec.preRow_of_cond 8 hx (by kernel_rfl) (fun k hk => by cases hk) (by kernel_rfl) (laid_met os))) ?_
  intro W base args ds gs before hval0 hW _ _ hsz0 hL _ _
  have hval : ∀ (j : Nat) t v, Tryd.f4.params[j]? = some t → args[j]? = some v → Value.okWide Tryd.prog W .any base t v := hval0
  have hW' := hW
  obtain ⟨p, q, hA0, hV, rfl, hfz, hnd⟩ := hW
  have hA : DataW.TrodAll enc Tryd.prog W 0 (fun _ => true) true Tryd.f4.params.toList args.toList ds p := hA0
  have hsz : (DataW.weightsEach Tryd.prog (Tryd.f4.params.toList ++ Rows.deltaDecodesSpec.plain.varTypes Tryd.prog) (ds ++ gs)).all (· ≤ reachBytes) = true := hsz0
  rw [Tryd.params4] at hA hval hsz
  obtain ⟨v0, vs0, d0, ds0, p0, q0, hargs, rfl, rfl, h0, r0⟩ := trodAll_cons hA
  obtain ⟨rfl, rfl, rfl⟩ := trodAll_nil r0
  obtain rfl : args = #[v0] := by cases args; simp_all
  obtain ⟨rfl, rfl⟩ := trodVars_none hV
  obtain ⟨a0, rfl, rfl, rfl, w0⟩ := open_string Tryd.underlying9 (hval 0 9 v0 rfl rfl) h0
  have s0 : a0.data.toList.length ≤ reachBytes := sized_string hsz (j := 0) (t := 9) rfl rfl
  clear hA0 hval0
  refine (walk a0 w0 s0 W (tabs_of hL)).mono fun e W' ⟨he, bel⟩ => ?_
  subst he
  exact ⟨_, rfl, _, _, _, [], _, [], hW', trodAll_mk1 (shut_bool Tryd.underlying4 _), (trodAll_cons_mk (shut_string Tryd.underlying9 w0) trodAll_mk0), rfl, bel.frame _, fun h => by cases h⟩
theorem said : Rows.DeltaDecodesSaid :=
  OpenClaim.holds_of_cond 4 Tryd.f4 rfl rfl rfl rfl rfl rfl rfl ⟨rfl, rfl, rfl, rfl, rfl⟩ rfl rfl rfl rfl rfl (by kernel_rfl) Tryd.func4 (by kernel_rfl)
    (of_decide_eq_true (by kernel_rfl)) (by unfold Func.isWrapper; first | (rw [if_pos (by decide +kernel)]; kernel_rfl) | (rw [if_neg (by decide +kernel)]; exact ⟨rfl, rfl⟩))
    (fun os started H enc _ F => by rw [OpenClaim.pre_eq_preRow]; exact lifted os started H enc F)
theorem plain (f : FuncId) (fn : Func) (hf : Tryd.pinned.checked.prog.funcNamed Rows.deltaDecodesRow.func = some f) (hfn : Tryd.pinned.checked.prog.funcs[f]? = some fn) :
    true = Tryd.pinned.checked.prog.looks [] ∧ ∀ (j : Nat) t, fn.params[j]? = some t → Tryd.pinned.checked.prog.wantsStandIn t = false := by
  obtain rfl : f = 4 := Option.some.inj ((show Tryd.prog.funcNamed Rows.deltaDecodesRow.func = some 4 by kernel_rfl).symm.trans hf) |>.symm
  obtain rfl : fn = Tryd.f4 := (Option.some.inj (Tryd.func4.symm.trans hfn)).symm
  refine ⟨by kernel_rfl, fun j t ht => ?_⟩
  rw [Tryd.params4] at ht
  obtain rfl : t = 9 := by simpa using Array.mem_of_getElem? ht
  exact (show Tryd.prog.wantsStandIn 9 = false by kernel_rfl)
theorem proved : Rows.DeltaDecodesCardSaid :=
  Claim7.holds_tied_plain_at .later [] _ _ _ _ said (fun _ h => by cases h) (by kernel_rfl) (fun _ h => by cases h) deltaDecodes_row_tie rfl ⟨rfl, rfl⟩ (by kernel_rfl) rfl plain (by kernel_rfl)
#print axioms proved
end Go.Proofs.YthfbjmjohmkfjaaDoor.deltaDecodes
