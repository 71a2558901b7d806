/- For every delta, every number and every string the law DeltaCut of the package brackenkeep returns true, as a tied card: a proper prefix of an encoded delta is too short, and one followed by further bytes is rejected. Condition: the library's two tables unicode/utf8.first and acceptRanges start as their text lays them (the card ties them; first is pinned). -/
import Derived.Test.YthfbjmjohmkfjaaGreatDoorDlUse3
import Derived.Test.YthfbjmjohmkfjaaGreatDoorDlUse
import Derived.Test.YthfbjmjohmkfjaaGreatDoorPkWi5
import Derived.Test.YthfbjmjohmkfjaaGreatDoorRest
namespace Go.Proofs.YthfbjmjohmkfjaaGreatDoor.deltaCut
open Go.ChangeShapes Go.WideShapes Go.ChangeAt Go.RowKit
open Go.ChangeMaps (open_string shut_string)
set_option linter.unusedVariables false

theorem take_data (s : ByteArray) (k : Nat) : (s.extract 0 k).data.toList = s.data.toList.take k := by
  rw [ByteArray.data_extract, Array.toList_extract, List.extract_eq_take_drop]; simp
theorem nil_app (X : ByteArray) : X ++ (⟨#[]⟩ : ByteArray) = X := bytes_eq (by rw [app_data]; simp)
set_option maxRecDepth 100000 in
set_option maxHeartbeats 8000000 in
theorem walk (Md : DlM) (d : DelD) (at_ : Int) (s : ByteArray) (hwd : wDelta d) (hwat_ : (Lit.int .i64 at_).wf = true) (hws : s.size ≤ maxLen) (hzs : s.data.toList.length ≤ reachBytes) (w : World) (hmd : DeltaAt w Md d) (hT : Tabs w) :
    Calls Tryz.prog 6 #[.agg (dlC Md d), .int .i64 at_, .string s] w fun e w' => e = .returned (.bool true) ∧ Below w.heap.size w w' := by
  show Calls _ _ #[.agg #[.int .i64 d.frm, .int .i64 d.til, .slice Md.aj d.jobs.length Md.cj, .slice Md.an d.nodes.length Md.cn, .slice Md.al d.leases.length Md.cl, .slice Md.gj d.gj.length Md.hj, .slice Md.gn d.gn.length Md.hn, .slice Md.gl d.gl.length Md.hl], .int .i64 at_, .string s] _ _
  have B0 : Below w.heap.size w w := Below.refl _ _
  have bA := below_one w (.cells #[.int .i64 d.frm, .int .i64 d.til, .slice Md.aj d.jobs.length Md.cj, .slice Md.an d.nodes.length Md.cn, .slice Md.al d.leases.length Md.cl, .slice Md.gj d.gj.length Md.hj, .slice Md.gn d.gn.length Md.hn, .slice Md.gl d.gl.length Md.hl] 29)
  have iN := bxD_new (deltaAt_next hmd B0)
  have Id0 := iN
  have B0 := below_trans B0 bA B0.size
  clear bA iN
  obtain ⟨W0, hW0⟩ : ∃ W0, (w.alloc (.cells #[.int .i64 d.frm, .int .i64 d.til, .slice Md.aj d.jobs.length Md.cj, .slice Md.an d.nodes.length Md.cn, .slice Md.al d.leases.length Md.cl, .slice Md.gj d.gj.length Md.hj, .slice Md.gn d.gn.length Md.hn, .slice Md.gl d.gl.length Md.hl] 29)) = W0 := ⟨_, rfl⟩
  rw [hW0] at B0 Id0
  have HT := Lib.hid hT
  have HWd := Lib.hid hwd
  have B0 := Lib.hid B0
  have Id0 := Lib.hid Id0
  have hss := str_reach hzs
  clear hzs
  clear hT hmd hwd
  rcases denc_cases d with ⟨c, hc, e1⟩ | ⟨e1, h1, h6⟩
  · have hc' : ((c : Int) != 0) = true := by simp; omega
    have E1 := Lib.hid e1
    clear hc e1 hwat_ hws hss
    have C := Lib.hid (differed_is W0 (HT.out.below B0.out))
    go_enter Tryz.func6, Tryz.ntmps6
    go_wp2_with fail
    refine C.out.mono ?_
    rintro e W1 ⟨rfl, b⟩
    have Id1 := Lib.hid (bxD_next Id0.out b)
    have B1 := Lib.hid (below_trans B0.out b B0.out.size)
    clear b C
    have C := Lib.hid (dencode_at HWd.out E1.out rfl (HT.out.below B1.out) Id1.out.2)
    obtain ⟨zd0, zd1, zd2, zd3, zd4, zd5, zd6, zd7⟩ := bxD_cells Id1.out
    go_wp2_with fail
    refine C.out.mono ?_
    rintro e W2 ⟨rfl, b⟩
    clear zd0 zd1 zd2 zd3 zd4 zd5 zd6 zd7
    have Id2 := Lib.hid (bxD_next Id1.out b)
    have B2 := Lib.hid (below_trans B1.out b B1.out.size)
    clear b C
    go_wp2
    go_ret
    exact ⟨rfl, B2.out⟩
  · have hne := delB_ne d
    have hl : 0 < (delB d).length := by rcases hd : delB d with _ | ⟨a, l⟩; exact absurd hd hne; simp
    have hsz : (⟨(delB d).toArray⟩ : ByteArray).size = (delB d).length := by simp [ByteArray.size]
    obtain ⟨r, hr, hr0⟩ : ∃ r : Nat, at_ % ((delB d).length : Int) = r ∧ r < (delB d).length := by
      have h1 := Int.emod_nonneg at_ (b := ((delB d).length : Int)) (by omega)
      have h2 := Int.emod_lt_of_pos at_ (b := ((delB d).length : Int)) (by omega)
      exact ⟨(at_ % ((delB d).length : Int)).toNat, by omega, by omega⟩
    have HR := Lib.hid (fun W' => rest_is at_ ((delB d).length : Int) (by omega) (by omega) W')
    rw [hr] at HR
    have hd1 : ddecR V8 ((⟨(delB d).toArray⟩ : ByteArray).extract 0 r).data.toList = (zeroDel, 3) := by
      rw [take_data, bytes_data]
      exact del_cut h1 hr0 h6
    have hd2 : (s = ⟨#[]⟩ → ddecR V8 ((⟨(delB d).toArray⟩ : ByteArray) ++ s).data.toList = (d, 0)) ∧ (s ≠ ⟨#[]⟩ → ∃ c, c ≠ 0 ∧ ddecR V8 ((⟨(delB d).toArray⟩ : ByteArray) ++ s).data.toList = (zeroDel, c)) := by
      rw [app_data, bytes_data]
      refine ⟨fun h => ?_, fun h => ?_⟩
      · rw [h]
        simp only [List.append_nil]
        exact del_back h1 h6
      · by_cases h7 : (delB d ++ s.data.toList).length ≤ 6000
        · exact ⟨4, by omega, del_more h1 (fun e => h (bytes_eq (by rw [e]))) h7⟩
        · refine ⟨2, by omega, ?_⟩
          unfold ddecR
          rw [if_pos (by omega)]
    obtain ⟨X, hX⟩ : ∃ X : ByteArray, (⟨(delB d).toArray⟩ : ByteArray) = X := ⟨_, rfl⟩
    rw [hX] at hsz hd1 hd2
    have HX := Lib.hid hX
    obtain ⟨L, hL⟩ : ∃ L, (delB d).length = L := ⟨_, rfl⟩
    rw [hL] at hsz hl hr0 HR h6
    obtain ⟨Y, hY⟩ : ∃ Y, X.extract 0 r = Y := ⟨_, rfl⟩
    rw [hY] at hd1
    have hYs : Y.size ≤ 1152921504606846976 := by rw [← hY, ByteArray.size_extract]; omega
    obtain ⟨Z, hZ⟩ : ∃ Z, X ++ s = Z := ⟨_, rfl⟩
    rw [hZ] at hd2
    have hZs : Z.size ≤ 1152921504606846976 := by rw [← hZ, ByteArray.size_append]; omega
    have hadd : ¬ (9223372036854775807 < X.size + s.size) := by omega
    have i1 : (0 : Int) ≤ (r : Int) := by omega
    have i2 : (r : Int) ≤ (X.size : Int) := by omega
    have HD1 := Lib.hid hd1
    have HD2 := Lib.hid hd2
    have HYs := Lib.hid hYs
    have HZs := Lib.hid hZs
    have E1 := Lib.hid e1
    obtain ⟨z8, hz8⟩ : ∃ Q, zeroDel = Q := ⟨_, rfl⟩
    rw [hz8] at HD1 HD2
    clear e1 h1 hne hr hr0 hX hd1 hd2 hYs hZs hz8 hwat_ hws hss hl h6
    have C := Lib.hid (differed_is W0 (HT.out.below B0.out))
    go_enter Tryz.func6, Tryz.ntmps6
    go_wp2_with fail
    refine C.out.mono ?_
    rintro e W1 ⟨rfl, b⟩
    have Id1 := Lib.hid (bxD_next Id0.out b)
    have B1 := Lib.hid (below_trans B0.out b B0.out.size)
    clear b C
    have C := Lib.hid (dencode_at HWd.out E1.out HX.out (HT.out.below B1.out) Id1.out.2)
    obtain ⟨zd0, zd1, zd2, zd3, zd4, zd5, zd6, zd7⟩ := bxD_cells Id1.out
    go_wp2_with fail
    refine C.out.mono ?_
    rintro e W2 ⟨rfl, b⟩
    clear zd0 zd1 zd2 zd3 zd4 zd5 zd6 zd7
    have Id2 := Lib.hid (bxD_next Id1.out b)
    have B2 := Lib.hid (below_trans B1.out b B1.out.size)
    clear b C
    go_wp2_with fail
    refine (HR.out _).mono ?_
    rintro e w' ⟨rfl, rfl⟩
    have C := Lib.hid (ddecode_at HYs.out HD1.out (HT.out.below B2.out))
    go_wp2_with fail
    refine C.out.mono ?_
    rintro e w3 ⟨Mp, rfl, ow, b⟩
    obtain ⟨Lp, hLp⟩ : ∃ L, w3.heap.size = L := ⟨_, rfl⟩
    obtain ⟨W3, hW3⟩ : ∃ W, w3.alloc (.cells #[.int .i64 z8.frm, .int .i64 z8.til, .slice Mp.aj z8.jobs.length Mp.cj, .slice Mp.an z8.nodes.length Mp.cn, .slice Mp.al z8.leases.length Mp.cl, .slice Mp.gj z8.gj.length Mp.hj, .slice Mp.gn z8.gn.length Mp.hn, .slice Mp.gl z8.gl.length Mp.hl] 29) = W := ⟨_, rfl⟩
    have bA := below_one w3 (.cells #[.int .i64 z8.frm, .int .i64 z8.til, .slice Mp.aj z8.jobs.length Mp.cj, .slice Mp.an z8.nodes.length Mp.cn, .slice Mp.al z8.leases.length Mp.cl, .slice Mp.gj z8.gj.length Mp.hj, .slice Mp.gn z8.gn.length Mp.hn, .slice Mp.gl z8.gl.length Mp.hl] 29)
    have iN := bxD_new (ownD_at ow)
    rw [hW3] at bA iN
    rw [hLp] at iN
    have Id3 := Lib.hid (bxD_next (bxD_next Id2.out b) bA)
    have Ip3 := Lib.hid iN
    have B3 := Lib.hid (below_trans (below_trans B2.out b B2.out.size) bA (Nat.le_trans B2.out.size b.size))
    clear bA iN ow b C
    by_cases hmo : s = ⟨#[]⟩
    · have HE := Lib.hid (HD2.out.1 hmo)
      subst hmo
      clear HD2
      have C := Lib.hid (ddecode_at HZs.out HE.out (HT.out.below B3.out))
      go_wp2_with fail
      refine C.out.mono ?_
      rintro e w4 ⟨Mq, rfl, ow, b⟩
      obtain ⟨Lq, hLq⟩ : ∃ L, w4.heap.size = L := ⟨_, rfl⟩
      obtain ⟨W4, hW4⟩ : ∃ W, w4.alloc (.cells #[.int .i64 d.frm, .int .i64 d.til, .slice Mq.aj d.jobs.length Mq.cj, .slice Mq.an d.nodes.length Mq.cn, .slice Mq.al d.leases.length Mq.cl, .slice Mq.gj d.gj.length Mq.hj, .slice Mq.gn d.gn.length Mq.hn, .slice Mq.gl d.gl.length Mq.hl] 29) = W := ⟨_, rfl⟩
      have bA := below_one w4 (.cells #[.int .i64 d.frm, .int .i64 d.til, .slice Mq.aj d.jobs.length Mq.cj, .slice Mq.an d.nodes.length Mq.cn, .slice Mq.al d.leases.length Mq.cl, .slice Mq.gj d.gj.length Mq.hj, .slice Mq.gn d.gn.length Mq.hn, .slice Mq.gl d.gl.length Mq.hl] 29)
      have iN := bxD_new (ownD_at ow)
      rw [hW4] at bA iN
      rw [hLq] at iN
      have Id4 := Lib.hid (bxD_next (bxD_next Id3.out b) bA)
      have Ip4 := Lib.hid (bxD_next (bxD_next Ip3.out b) bA)
      have Iq4 := Lib.hid iN
      have B4 := Lib.hid (below_trans (below_trans B3.out b B3.out.size) bA (Nat.le_trans B3.out.size b.size))
      clear bA iN ow b C
      go_wp2
      go_ret
      exact ⟨rfl, B4.out⟩
    · obtain ⟨c, hc, e5⟩ := HD2.out.2 hmo
      have HE := Lib.hid e5
      have hc' : ((c : Int) == 0) = false := by simp; omega
      have hne : s.size ≠ 0 := fun e => hmo (empty_of_size e)
      obtain ⟨h1, h2⟩ := not_empty hne
      clear HD2 hmo hne e5 hc
      have C := Lib.hid (ddecode_at HZs.out HE.out (HT.out.below B3.out))
      go_wp2_with fail
      refine C.out.mono ?_
      rintro e w4 ⟨Mq, rfl, ow, b⟩
      obtain ⟨Lq, hLq⟩ : ∃ L, w4.heap.size = L := ⟨_, rfl⟩
      obtain ⟨W4, hW4⟩ : ∃ W, w4.alloc (.cells #[.int .i64 z8.frm, .int .i64 z8.til, .slice Mq.aj z8.jobs.length Mq.cj, .slice Mq.an z8.nodes.length Mq.cn, .slice Mq.al z8.leases.length Mq.cl, .slice Mq.gj z8.gj.length Mq.hj, .slice Mq.gn z8.gn.length Mq.hn, .slice Mq.gl z8.gl.length Mq.hl] 29) = W := ⟨_, rfl⟩
      have bA := below_one w4 (.cells #[.int .i64 z8.frm, .int .i64 z8.til, .slice Mq.aj z8.jobs.length Mq.cj, .slice Mq.an z8.nodes.length Mq.cn, .slice Mq.al z8.leases.length Mq.cl, .slice Mq.gj z8.gj.length Mq.hj, .slice Mq.gn z8.gn.length Mq.hn, .slice Mq.gl z8.gl.length Mq.hl] 29)
      have iN := bxD_new (ownD_at ow)
      rw [hW4] at bA iN
      rw [hLq] at iN
      have Id4 := Lib.hid (bxD_next (bxD_next Id3.out b) bA)
      have Ip4 := Lib.hid (bxD_next (bxD_next Ip3.out b) bA)
      have Iq4 := Lib.hid iN
      have B4 := Lib.hid (below_trans (below_trans B3.out b B3.out.size) bA (Nat.le_trans B3.out.size b.size))
      clear bA iN ow b C
      go_wp2
      go_ret
      exact ⟨rfl, B4.out⟩

theorem own : ownKnob Tryz.prog.godebug = none := by kernel_rfl
theorem laidOut : laidOutB Tryz.prog = true := by kernel_rfl
theorem laid_met (os : Os) : laidMet Tryz.prog Rows.deltaCutRow.laid ((laidWorld os).forCall (fun _ _ => 0) ⟨#[], #[.agg #[.int .i64 0, .int .i64 0, .slice none 0 0, .slice none 0 0, .slice none 0 0, .slice none 0 0, .slice none 0 0, .slice none 0 0], .int .i64 0, .string ⟨#[]⟩], []⟩).memory :=
  laidMet_of_run' 8 (by kernel_rfl) (by kernel_rfl)
theorem reads (os : Os) {H : Type} (enc : TypeId × Value → H) : ∃ places, DataW.whole enc Tryz.prog ((laidWorld os).forCall (fun _ _ => 0) ⟨#[], #[.agg #[.int .i64 0, .int .i64 0, .slice none 0 0, .slice none 0 0, .slice none 0 0, .slice none 0 0, .slice none 0 0, .slice none 0 0], .int .i64 0, .string ⟨#[]⟩], []⟩).memory Tryz.f6.params.toList Rows.deltaCutSpec.vars false #[Value.agg #[.int .i64 0, .int .i64 0, .slice none 0 0, .slice none 0 0, .slice none 0 0, .slice none 0 0, .slice none 0 0, .slice none 0 0], Value.int .i64 0, Value.string ⟨#[]⟩].toList 8 = some ([.agg [.lit (.int .i64 0), .lit (.int .i64 0), .nil, .nil, .nil, .nil, .nil, .nil], .lit (.int .i64 0), .lit (.string [])], [], places) :=
  ⟨[], by kernel_rfl⟩
set_option maxRecDepth 100000 in
set_option maxHeartbeats 2000000 in
theorem lifted (os : Os) (started : os.Started) (H : Type) (enc : TypeId × Value → H) (F : Stop.Interp) :
    ReturnsInHanded {} Tryz.checked os 6 .any ((OpenSpec.ofChange Rows.deltaCutSpec).preRow enc Tryz.prog Tryz.f6 Rows.deltaCutRow.domain false Rows.deltaCutRow.laid) (((OpenSpec.ofChange Rows.deltaCutSpec).at F).post enc Tryz.prog Tryz.f6 false true false false) := by
  obtain ⟨places, hx⟩ := reads os enc
  refine returnsInHanded_of_row (C := Tryz.checked) (s := (OpenSpec.ofChange Rows.deltaCutSpec)) own started (by kernel_rfl) Tryz.func6
    (witness_row_atRef (enc := enc) (C := Tryz.checked) false (laidWorld os) #[.agg #[.int .i64 0, .int .i64 0, .slice none 0 0, .slice none 0 0, .slice none 0 0, .slice none 0 0, .slice none 0 0, .slice none 0 0], .int .i64 0, .string ⟨#[]⟩] rfl (by kernel_rfl) (by kernel_rfl) (by kernel_rfl)
      (OpenSpec.preRow_of_cond 8 hx (by kernel_rfl) (fun k hk => by cases hk) (by kernel_rfl) (laid_met os))) ?_
  intro W base args ds gs before hval0 hW _ _ hsz0 hL _ _
  have hval : ∀ (j : Nat) t v, Tryz.f6.params[j]? = some t → args[j]? = some v → Value.okWide Tryz.prog W .any base t v := hval0
  have hW' := hW
  obtain ⟨p, q, hA0, hV, rfl, hfz, hnd⟩ := hW
  have hA : DataW.TrodAll enc Tryz.prog W 0 (fun _ => true) true Tryz.f6.params.toList args.toList ds p := hA0
  have hsz : (DataW.weightsEach Tryz.prog (Tryz.f6.params.toList ++ Rows.deltaCutSpec.plain.varTypes Tryz.prog) (ds ++ gs)).all (· ≤ reachBytes) = true := hsz0
  rw [Tryz.params6] at hA hval hsz
  obtain ⟨v0, vs0, d0, ds0, p0, q0, hargs, rfl, rfl, h0, r0⟩ := trodAll_cons hA
  obtain ⟨v1, vs1, d1, ds1, p1, q1, rfl, rfl, rfl, h1, r1⟩ := trodAll_cons r0
  obtain ⟨v2, vs2, d2, ds2, p2, q2, rfl, rfl, rfl, h2, r2⟩ := trodAll_cons r1
  obtain ⟨rfl, rfl, rfl⟩ := trodAll_nil r2
  obtain rfl : args = #[v0, v1, v2] := by cases args; simp_all
  obtain ⟨rfl, rfl⟩ := trodVars_none hV
  obtain ⟨M0, dl0, rfl, m0, w0⟩ := open_delta (hval 0 29 v0 rfl rfl) h0
  obtain ⟨a1, rfl, rfl, rfl, w1⟩ := open_int Tryz.underlying3 (hval 1 3 v1 rfl rfl) h1
  obtain ⟨a2, rfl, rfl, rfl, w2⟩ := open_string Tryz.underlying9 (hval 2 9 v2 rfl rfl) h2
  have s2 : a2.data.toList.length ≤ reachBytes := sized_string hsz (j := 2) (t := 9) rfl rfl
  clear hA0 hval0
  refine (walk M0 dl0 a1 a2 w0 w1 w2 s2 W m0 (tabs_of hL)).mono fun e W' ⟨he, bel⟩ => ?_
  subst he
  exact ⟨_, rfl, _, _, _, [], _, [], hW', trodAll_mk1 (shut_bool Tryz.underlying4 _), (trodAll_cons_mk (Below.trod laidOut (by kernel_rfl) (of_decide_eq_true (by kernel_rfl)) h0 bel (fun x hx => by simpa using hW'.lt x (by simp [hx]))) (trodAll_cons_mk (shut_int Tryz.underlying3 w1) (trodAll_cons_mk (shut_string Tryz.underlying9 w2) trodAll_mk0))), rfl, bel.frame _, fun h => by cases h⟩
theorem said : Rows.DeltaCutSaid :=
  OpenClaim.holds_of_cond 6 Tryz.f6 rfl rfl rfl rfl rfl rfl rfl ⟨rfl, rfl, rfl, rfl, rfl⟩ rfl rfl rfl rfl rfl (by kernel_rfl) Tryz.func6 (by kernel_rfl)
    (of_decide_eq_true (by kernel_rfl)) (by unfold Func.isWrapper; first | (rw [if_pos (by decide +kernel)]; kernel_rfl) | (rw [if_neg (by decide +kernel)]; exact ⟨rfl, rfl⟩))
    (fun os started H enc _ F => by rw [OpenClaim.pre_eq_preRow]; exact lifted os started H enc F)
theorem plain (f : FuncId) (fn : Func) (hf : Tryz.pinned.checked.prog.funcNamed Rows.deltaCutRow.func = some f) (hfn : Tryz.pinned.checked.prog.funcs[f]? = some fn) :
    false = Tryz.pinned.checked.prog.looks [] ∧ ∀ (j : Nat) t, fn.params[j]? = some t → Tryz.pinned.checked.prog.wantsStandIn t = false := by
  obtain rfl : f = 6 := Option.some.inj ((show Tryz.prog.funcNamed Rows.deltaCutRow.func = some 6 by kernel_rfl).symm.trans hf) |>.symm
  obtain rfl : fn = Tryz.f6 := (Option.some.inj (Tryz.func6.symm.trans hfn)).symm
  refine ⟨by kernel_rfl, fun j t ht => ?_⟩
  rw [Tryz.params6] at ht
  have hm : t = 29 ∨ t = 3 ∨ t = 9 := by simpa using Array.mem_of_getElem? ht
  rcases hm with rfl | rfl | rfl
  · exact (show Tryz.prog.wantsStandIn 29 = false by kernel_rfl)
  · exact (show Tryz.prog.wantsStandIn 3 = false by kernel_rfl)
  · exact (show Tryz.prog.wantsStandIn 9 = false by kernel_rfl)
theorem proved : Rows.DeltaCutCardSaid :=
  Claim7.holds_tied_plain_at .later [] _ _ _ _ said (fun _ h => by cases h) (by kernel_rfl) (fun _ h => by cases h) deltaCut_row_tie rfl ⟨rfl, rfl⟩ (by kernel_rfl) rfl plain (by kernel_rfl)
#print axioms proved
end Go.Proofs.YthfbjmjohmkfjaaGreatDoor.deltaCut
