/- For every state s the law StateFit of the package brackenkeep returns true, as a tied card: what fits a version fits all later ones. Condition: the library's two tables unicode/utf8.first and acceptRanges start as their text lays them (the card ties them; first is pinned). -/
import Derived.Test.YtkdjpciegcofbaaDoorStStated
import Derived.Test.YtkdjpciegcofbaaDoorStLaid
namespace Go.Proofs.YtkdjpciegcofbaaDoor.stateFit
open Go.ChangeShapes Go.WideShapes Go.ChangeAt Go.RowKit
set_option linter.unusedVariables false

theorem fitsR_bad {s : StD} {v : Int} {c : Nat} (h : checkE V8 s = c) (h0 : c ≠ 0) : fitsR s v = (false, c) := by rw [fitsR, h, if_pos h0]
theorem fitsR_good {s : StD} {v : Int} (h : checkE V8 s = 0) (h1 : 1 ≤ v ∧ v ≤ 3) : fitsR s v = (fitsD s v, 0) := by rw [fitsR, h, if_neg (by simp), if_pos h1]
set_option maxRecDepth 100000 in
set_option maxHeartbeats 2000000 in
theorem walk (M : StM) (s : StD) (hw : wState s) (hz : SzState s) (w : World) (hm : StateAt w M s) (hT : Tabs w) :
    Calls Tryd.prog 8 #[stV M s] w fun e w' => e = .returned (.bool true) ∧ Below w.heap.size w w' := by
  obtain ⟨rev, jobs, nodes, leases⟩ := s
  obtain ⟨aj, cj, an, cn, al, cl⟩ := M
  obtain ⟨hmj, hmn, hml⟩ := hm
  show Calls _ _ #[.agg #[.int .i64 rev, .slice aj jobs.length cj, .slice an nodes.length cn, .slice al leases.length cl]] _ _
  simp only at hmj hmn hml
  obtain ⟨W, hW⟩ : ∃ W, w.alloc (.cells #[.int .i64 rev, .slice aj jobs.length cj, .slice an nodes.length cn, .slice al leases.length cl] 26) = W := ⟨_, rfl⟩
  have bW : Below w.heap.size w W := by rw [← hW]; exact below_one _ _
  have q := box_new4 w (.int .i64 rev) (.slice aj jobs.length cj) (.slice an nodes.length cn) (.slice al leases.length cl) 26
  rw [hW] at q
  have HS := Lib.hid (stated_is W (hT.below bW))
  have HF := Lib.hid (fun v w hT hmj hmn hml => fits_any rev aj an al cj cn cl jobs nodes leases v hw w hT hmj hmn hml)
  have HCk := Lib.hid (fun w hT hmj hmn hml => check_any rev aj an al cj cn cl jobs nodes leases hw w hT hmj hmn hml)
  have HMJ := Lib.hid hmj
  have HMN := Lib.hid hmn
  have HML := Lib.hid hml
  have HT := Lib.hid hT
  obtain ⟨c, hc⟩ : ∃ c, checkE V8 ⟨rev, jobs, nodes, leases⟩ = c := ⟨_, rfl⟩
  rw [hc] at HCk
  have HC := Lib.hid hc
  have HW := Lib.hid hW
  clear hmj hmn hml hT hw hz hc hW
  go_enter Tryd.func8, Tryd.ntmps8
  go_wp2_with fail
  rw [HW.out]
  refine HS.out.mono ?_
  rintro e w1 ⟨rfl, b1⟩
  have q1 := box_next q b1
  have hb1 := below_trans bW b1 bW.size
  clear HS q HW b1
  go_wp2
  go_loopw [3, 4] (fun pv vv wr => ∃ (k : Nat) (p : Bool), pv = .bool p ∧ vv = .int .i64 (k : Int) ∧ 1 ≤ k ∧ k ≤ 4 ∧ Box w.heap.size [.int .i64 rev, .slice aj jobs.length cj, .slice an nodes.length cn, .slice al leases.length cl] wr ∧ Below w.heap.size w wr ∧ Hid (p = true → fitsD ⟨rev, jobs, nodes, leases⟩ ((k : Int) - 1) = true) ∧ Hid (k = 4 → p = true)) (fun _ vv _ => 4 - (intOf vv).toNat)
  case atStart => exact ⟨1, false, rfl, rfl, by omega, by omega, q1, hb1, (fun h => by cases h), (fun h => by omega)⟩
  case round =>
    clear q1 hb1
    obtain ⟨k, p, rfl, rfl, h1, h4, q, hb, HP, HK⟩ := hrel
    by_cases h : (k : Int) ≤ 3
    · have k0 := q.1 0 _ rfl
      have k1 := q.1 1 _ rfl
      have k2 := q.1 2 _ rfl
      have k3 := q.1 3 _ rfl
      have HFk := Lib.hid (HF.out k wr (HT.out.below hb) (jobsAt_next HMJ.out hb) (nodesAt_next HMN.out hb) (leasesAt_next HML.out hb))
      by_cases h0 : c ≠ 0
      · rw [fitsR_bad HC.out h0] at HFk
        have hc : ((c : Int) != 0) = true := by simp; omega
        go_wp2_with fail
        refine HFk.out.mono ?_
        rintro e w2 ⟨rfl, b2⟩
        have q2 := box_next q b2
        have hb2 := below_trans hb b2 hb.size
        clear q k0 k1 k2 k3
        have k0 := q2.1 0 _ rfl
        have k1 := q2.1 1 _ rfl
        have k2 := q2.1 2 _ rfl
        have k3 := q2.1 3 _ rfl
        have HCk2 := Lib.hid (HCk.out w2 (HT.out.below hb2) (jobsAt_next HMJ.out hb2) (nodesAt_next HMN.out hb2) (leasesAt_next HML.out hb2))
        go_wp2_with fail
        refine HCk2.out.mono ?_
        rintro e w3 ⟨rfl, b3⟩
        go_wp2
        go_ret
        exact ⟨rfl, below_trans hb2 b3 hb2.size⟩
      · have h0 : c = 0 := by simpa using h0
        subst h0
        rw [fitsR_good HC.out ⟨by omega, h⟩] at HFk
        obtain ⟨d, hd⟩ : ∃ d, fitsD ⟨rev, jobs, nodes, leases⟩ (k : Int) = d := ⟨_, rfl⟩
        rw [hd] at HFk
        have HD := Lib.hid hd
        have HK2 : Hid (k + 1 = 4 → d = true) := fun e => by
          have e3 : k = 3 := by omega
          have := HD.out
          rw [e3] at this
          rw [← this]
          exact fits_three _
        have HP2 : Hid (d = true → fitsD ⟨rev, jobs, nodes, leases⟩ (((k + 1 : Nat) : Int) - 1) = true) := fun e => by
          rw [show ((k + 1 : Nat) : Int) - 1 = (k : Int) from by omega, HD.out]; exact e
        clear hd
        go_wp2_with fail
        refine HFk.out.mono ?_
        rintro e w2 ⟨rfl, b2⟩
        have q2 := box_next q b2
        have hb2 := below_trans hb b2 hb.size
        clear q k0 k1 k2 k3
        cases p with
        | false =>
          go_wp2
          go_roundw
          case rel => exact ⟨k + 1, d, rfl, by simp, by omega, by omega, q2, hb2, HP2, HK2⟩
          case measure => simp [intOf]; omega
        | true =>
          obtain rfl : d = true := by
            rw [← HD.out]
            exact fits_later (HP.out rfl) (by omega)
          go_wp2
          go_roundw
          case rel => exact ⟨k + 1, true, rfl, by simp, by omega, by omega, q2, hb2, (fun _ => HP2.out trivial), (fun _ => rfl)⟩
          case measure => simp [intOf]; omega
    · obtain rfl : p = true := HK.out (by omega)
      go_wp2
      go_ret
      exact ⟨rfl, hb⟩

theorem own : ownKnob Tryd.prog.godebug = none := by kernel_rfl
theorem laidOut : laidOutB Tryd.prog = true := by kernel_rfl
theorem laid_met (os : Os) : laidMet Tryd.prog Rows.stateFitRow.laid ((laidWorld os).forCall (fun _ _ => 0) ⟨#[], #[.agg #[.int .i64 0, .slice none 0 0, .slice none 0 0, .slice none 0 0]], []⟩).memory :=
  laidMet_of_run' 8 (by kernel_rfl) (by kernel_rfl)
theorem reads (os : Os) {H : Type} (enc : TypeId × Value → H) : ∃ places, DataW.whole enc Tryd.prog ((laidWorld os).forCall (fun _ _ => 0) ⟨#[], #[.agg #[.int .i64 0, .slice none 0 0, .slice none 0 0, .slice none 0 0]], []⟩).memory Tryd.f8.params.toList Rows.stateFitSpec.vars false #[Value.agg #[.int .i64 0, .slice none 0 0, .slice none 0 0, .slice none 0 0]].toList 8 = some ([.agg [.lit (.int .i64 0), .nil, .nil, .nil]], [], places) :=
  ⟨[], by kernel_rfl⟩
set_option maxRecDepth 100000 in
set_option maxHeartbeats 2000000 in
theorem lifted (os : Os) (started : os.Started) (H : Type) (enc : TypeId × Value → H) (F : Stop.Interp) :
    ReturnsInHanded {} Tryd.checked os 8 .any ((OpenSpec.ofChange Rows.stateFitSpec).preRow enc Tryd.prog Tryd.f8 Rows.stateFitRow.domain false Rows.stateFitRow.laid) (((OpenSpec.ofChange Rows.stateFitSpec).at F).post enc Tryd.prog Tryd.f8 false true false false) := by
  obtain ⟨places, hx⟩ := reads os enc
  refine returnsInHanded_of_row (C := Tryd.checked) (s := (OpenSpec.ofChange Rows.stateFitSpec)) own started (by kernel_rfl) Tryd.func8
    (witness_row_atRef (enc := enc) (C := Tryd.checked) false (laidWorld os) #[.agg #[.int .i64 0, .slice none 0 0, .slice none 0 0, .slice none 0 0]] rfl (by kernel_rfl) (by kernel_rfl) (by kernel_rfl)
      (OpenSpec.preRow_of_cond 8 hx (by kernel_rfl) (fun k hk => by cases hk) (by kernel_rfl) (laid_met os))) ?_
  intro W base args ds gs before hval0 hW _ _ hsz0 hL _ _
  have hval : ∀ (j : Nat) t v, Tryd.f8.params[j]? = some t → args[j]? = some v → Value.okWide Tryd.prog W .any base t v := hval0
  have hW' := hW
  obtain ⟨p, q, hA0, hV, rfl, hfz, hnd⟩ := hW
  have hA : DataW.TrodAll enc Tryd.prog W 0 (fun _ => true) true Tryd.f8.params.toList args.toList ds p := hA0
  have hsz : (DataW.weightsEach Tryd.prog (Tryd.f8.params.toList ++ Rows.stateFitSpec.plain.varTypes Tryd.prog) (ds ++ gs)).all (· ≤ reachBytes) = true := hsz0
  rw [Tryd.params8] at hA hval hsz
  obtain ⟨v0, vs0, d0, ds0, p0, q0, hargs, rfl, rfl, h0, r0⟩ := trodAll_cons hA
  obtain ⟨rfl, rfl, rfl⟩ := trodAll_nil r0
  obtain rfl : args = #[v0] := by cases args; simp_all
  obtain ⟨rfl, rfl⟩ := trodVars_none hV
  obtain ⟨M0, st0, rfl, m0, x0, w0⟩ := open_state (hval 0 26 v0 rfl rfl) h0
  have s0 := sized_state hsz rfl (j := 0) rfl x0
  clear hA0 hval0
  refine (walk M0 st0 w0 s0 W m0 (tabs_of hL)).mono fun e W' ⟨he, bel⟩ => ?_
  subst he
  exact ⟨_, rfl, _, _, _, [], _, [], hW', trodAll_mk1 (shut_bool Tryd.underlying4 _), (trodAll_cons_mk (Below.trod laidOut (by kernel_rfl) (of_decide_eq_true (by kernel_rfl)) h0 bel (fun x hx => by simpa using hW'.lt x (by simp [hx]))) trodAll_mk0), rfl, bel.frame _, fun h => by cases h⟩
theorem said : Rows.StateFitSaid :=
  OpenClaim.holds_of_cond 8 Tryd.f8 rfl rfl rfl rfl rfl rfl rfl ⟨rfl, rfl, rfl, rfl, rfl⟩ rfl rfl rfl rfl rfl (by kernel_rfl) Tryd.func8 (by kernel_rfl)
    (of_decide_eq_true (by kernel_rfl)) (by unfold Func.isWrapper; first | (rw [if_pos (by decide +kernel)]; kernel_rfl) | (rw [if_neg (by decide +kernel)]; exact ⟨rfl, rfl⟩))
    (fun os started H enc _ F => by rw [OpenClaim.pre_eq_preRow]; exact lifted os started H enc F)
theorem plain (f : FuncId) (fn : Func) (hf : Tryd.pinned.checked.prog.funcNamed Rows.stateFitRow.func = some f) (hfn : Tryd.pinned.checked.prog.funcs[f]? = some fn) :
    false = Tryd.pinned.checked.prog.looks [] ∧ ∀ (j : Nat) t, fn.params[j]? = some t → Tryd.pinned.checked.prog.wantsStandIn t = false := by
  obtain rfl : f = 8 := Option.some.inj ((show Tryd.prog.funcNamed Rows.stateFitRow.func = some 8 by kernel_rfl).symm.trans hf) |>.symm
  obtain rfl : fn = Tryd.f8 := (Option.some.inj (Tryd.func8.symm.trans hfn)).symm
  refine ⟨by kernel_rfl, fun j t ht => ?_⟩
  rw [Tryd.params8] at ht
  obtain rfl : t = 26 := by simpa using Array.mem_of_getElem? ht
  exact (show Tryd.prog.wantsStandIn 26 = false by kernel_rfl)
theorem proved : Rows.StateFitCardSaid :=
  Claim7.holds_tied_plain_at .later [] _ _ _ _ said (fun _ h => by cases h) (by kernel_rfl) (fun _ h => by cases h) stateFit_row_tie rfl ⟨rfl, rfl⟩ (by kernel_rfl) rfl plain (by kernel_rfl)
#print axioms proved
end Go.Proofs.YtkdjpciegcofbaaDoor.stateFit
