/- For every state s the law StateSums of the package brackenkeep returns true, as a tied card: what is used of all nodes is what all jobs with leases need, and never more than there is. Condition: the library's two tables unicode/utf8.first and acceptRanges start as their text lays them (the card ties them; first is pinned). -/
import Derived.Test.YtkdjpciegcofbaaDoorStStated
import Derived.Test.YtkdjpciegcofbaaDoorStAt
import Derived.Test.YtkdjpciegcofbaaDoorStLaid
namespace Go.Proofs.YtkdjpciegcofbaaDoor.stateSums
open Go.ChangeShapes Go.WideShapes Go.ChangeAt Go.RowKit
set_option linter.unusedVariables false

theorem usedR_good {s : StD} {x : ByteArray} (h : checkE V8 s = 0) (h1 : hasNode s.nodes x = true) : usedR s x = (usedD s.jobs s.leases x, 0) := by rw [usedR, h, if_neg (by simp), if_pos h1]
def wantD (leases : List LeaseD) (j : JobD) : Int := if hasLease leases j.name = true then j.need else 0
theorem want_bd {jobs : List JobD} {leases : List LeaseD} (h : ∀ j ∈ jobs, jobE V8 j = 0) : ∀ j ∈ jobs, 0 ≤ wantD leases j ∧ wantD leases j ≤ 1000000 := by
  intro j hj
  have := ((jobE_zero V8 j).1 (h j hj)).2.2.1
  unfold wantD
  split <;> omega
set_option maxRecDepth 100000 in
set_option maxHeartbeats 4000000 in
theorem walk (M : StM) (s : StD) (hw : wState s) (hz : SzState s) (w : World) (hm : StateAt w M s) (hT : Tabs w) :
    Calls Tryd.prog 7 #[stV M s] w fun e w' => e = .returned (.bool true) ∧ Below w.heap.size w w' := by
  obtain ⟨rev, jobs, nodes, leases⟩ := s
  obtain ⟨aj, cj, an, cn, al, cl⟩ := M
  obtain ⟨hmj, hmn, hml⟩ := hm
  show Calls _ _ #[.agg #[.int .i64 rev, .slice aj jobs.length cj, .slice an nodes.length cn, .slice al leases.length cl]] _ _
  simp only at hmj hmn hml
  have HMJ := Lib.hid hmj
  have HMN := Lib.hid hmn
  have HML := Lib.hid hml
  have HT := Lib.hid hT
  have HWS := Lib.hid hw
  obtain ⟨c, hc⟩ : ∃ c, checkE V8 ⟨rev, jobs, nodes, leases⟩ = c := ⟨_, rfl⟩
  have HC := Lib.hid hc
  have HCk := Lib.hid (fun v (hv : Below w.heap.size w v) => check_any rev aj an al cj cn cl jobs nodes leases hw v (hT.below hv) (jobsAt_next hmj hv) (nodesAt_next hmn hv) (leasesAt_next hml hv))
  rw [hc] at HCk
  have HSt := Lib.hid (fun v (hv : Below w.heap.size w v) => stated_is v (hT.below hv))
  clear hmj hmn hml hT hw hc
  have HU := Lib.hid (fun x (hx : x.size ≤ maxLen) v (hv : Below w.heap.size w v) => usedS_any rev aj an al cj cn cl jobs nodes leases x hx HWS.out v (HT.out.below hv) (jobsAt_next HMJ.out hv) (nodesAt_next HMN.out hv) (leasesAt_next HML.out hv))
  have bW := below_one w (.cells #[.int .i64 rev, .slice aj jobs.length cj, .slice an nodes.length cn, .slice al leases.length cl] 26)
  have q := box_new4 w (.int .i64 rev) (.slice aj jobs.length cj) (.slice an nodes.length cn) (.slice al leases.length cl) 26
  clear hz
  go_enter Tryd.func7, Tryd.ntmps7
  go_wp2_with fail
  refine (HSt.out _ bW).mono ?_
  rintro e w1 ⟨rfl, b1⟩
  have q1 := box_next q b1
  have hb1 := below_trans bW b1 bW.size
  clear q b1 bW
  have k0 := q1.1 0 _ rfl
  have k1 := q1.1 1 _ rfl
  have k2 := q1.1 2 _ rfl
  have k3 := q1.1 3 _ rfl
  go_wp2_with fail
  refine (HCk.out _ hb1).mono ?_
  rintro e w2 ⟨rfl, b2⟩
  have q2 := box_next q1 b2
  have hb2 := below_trans hb1 b2 hb1.size
  clear q1 k0 k1 k2 k3 b2 hb1
  by_cases h0 : c ≠ 0
  · have hc1 : ((c : Int) != 0) = true := by simp; omega
    go_wp2
    go_ret
    exact ⟨rfl, hb2⟩
  have h0 : c = 0 := by simpa using h0
  subst h0
  have hV := Lib.hid ((check_zero V8 _).1 HC.out)
  have hl := hV.out.2.1
  simp only at hl
  have k0 := q2.1 0 _ rfl
  have k1 := q2.1 1 _ rfl
  have k2 := q2.1 2 _ rfl
  have k3 := q2.1 3 _ rfl
  go_wp2
  go_loopw [3, 19] (fun sv iv wr => ∃ (i : Nat) (n : Int), iv = .int .i64 (i : Int) ∧ sv = .int .i64 n ∧ i ≤ nodes.length ∧ (0 ≤ n ∧ n ≤ 40000000 * (i : Int)) ∧ Hid (n = sumZ (fun y : NodeD => usedD jobs leases y.name) (nodes.take i)) ∧ Box w.heap.size [.int .i64 rev, .slice aj jobs.length cj, .slice an nodes.length cn, .slice al leases.length cl] wr ∧ Below w.heap.size w wr) (fun _ iv _ => nodes.length - (intOf iv).toNat)
  case atStart => exact ⟨0, 0, rfl, rfl, by omega, by omega, rfl, q2, hb2⟩
  case round =>
    clear q2 hb2 k0 k1 k2 k3
    obtain ⟨i, n, rfl, rfl, hi, hn, HN, q, hb⟩ := hrel
    by_cases h : (i : Int) < (nodes.length : Int)
    · have hil : i < nodes.length := by omega
      obtain ⟨a, rfl, hal, m0, m1, m2⟩ := nodesAt_next HMN.out hb i hil
      have hroom := hV.out.2.2.2.2.2 nodes[i] (List.getElem_mem _)
      have hbd := used_take_bd V8 hV.out.2.2.1.1 nodes[i].name leases hl.2.1 leases.length
      rw [List.take_length] at hbd
      have hsum := sumZ_take (fun y : NodeD => usedD jobs leases y.name) nodes i hil
      have hhas : hasNode nodes nodes[i].name = true := (hasNode_iff _ _).2 ⟨_, List.getElem_mem _, rfl⟩
      obtain ⟨x, hxi⟩ : ∃ x, nodes[i] = x := ⟨_, rfl⟩
      have hwx := HWS.out.2.2.1 x (by rw [← hxi]; exact List.getElem_mem _)
      rw [hxi] at m0 m1 m2 hroom hbd hsum hhas
      simp only at hroom hsum
      have hbA := hb.alloc hb.size (.cells #[.string x.name, .int .i64 x.room, .string x.zone] 45)
      have qA := box_alloc q (.cells #[.string x.name, .int .i64 x.room, .string x.zone] 45)
      have HUx := Lib.hid (HU.out x.name hwx.1 _ hbA)
      rw [usedR_good HC.out hhas] at HUx
      simp only at HUx
      obtain ⟨d, hd⟩ : ∃ d, usedD jobs leases x.name = d := ⟨_, rfl⟩
      rw [hd] at HUx hroom hbd hsum
      rw [← HN.out] at hsum
      have HN2 : Hid (n + d = sumZ (fun y : NodeD => usedD jobs leases y.name) (nodes.take (i + 1))) := hsum.symm
      have k0 := qA.1 0 _ rfl
      have k1 := qA.1 1 _ rfl
      have k2 := qA.1 2 _ rfl
      have k3 := qA.1 3 _ rfl
      have hws : IntKind.i64.wrap (n + d) = n + d := IntWalk.i64_in _ (by omega)
      clear hxi hd hsum hhas hwx
      go_wp2_with fail
      refine HUx.out.mono ?_
      rintro e w3 ⟨rfl, b3⟩
      have q3 := box_next qA b3
      have p3 := box_next (box_new3 wr (.string x.name) (.int .i64 x.room) (.string x.zone) 45) b3
      have hb3 := below_trans hbA b3 hbA.size
      have j1 := p3.1 1 _ rfl
      have hgt : decide (x.room < d) = false := by simp; omega
      clear q qA k0 k1 k2 k3 m0 m1 m2 HUx b3
      go_wp2
      go_roundw
      case rel => exact ⟨i + 1, n + d, by simp, rfl, by omega, by omega, HN2, q3, hb3⟩
      case measure => simp [intOf]; omega
    · obtain rfl : i = nodes.length := by omega
      have HN2 : Hid (n = sumZ (wantD leases) jobs) := by have := HN.out; rw [List.take_length, sums hV.out] at this; exact this
      have k1 := q.1 1 _ rfl
      clear HN h hi
      go_wp2
      go_loopw [4, 45] (fun sv iv wr => ∃ (i : Nat) (m : Int), iv = .int .i64 (i : Int) ∧ sv = .int .i64 m ∧ i ≤ jobs.length ∧ (0 ≤ m ∧ m ≤ 1000000 * (i : Int)) ∧ Hid (m = sumZ (wantD leases) (jobs.take i)) ∧ Box w.heap.size [.int .i64 rev, .slice aj jobs.length cj, .slice an nodes.length cn, .slice al leases.length cl] wr ∧ Below w.heap.size w wr) (fun _ iv _ => jobs.length - (intOf iv).toNat)
      case atStart => exact ⟨0, 0, rfl, rfl, by omega, by omega, rfl, q, hb⟩
      case round =>
        clear q hb k1
        obtain ⟨i, m, rfl, rfl, hi, hm, HM, q, hb⟩ := hrel
        by_cases h : (i : Int) < (jobs.length : Int)
        · have hil : i < jobs.length := by omega
          obtain ⟨a, rfl, hal, m0, m1, m2, m3, m4⟩ := jobsAt_next HMJ.out hb i hil
          have hbd := want_bd (leases := leases) hV.out.2.2.1.1 jobs[i] (List.getElem_mem _)
          have hsum := sumZ_take (wantD leases) jobs i hil
          obtain ⟨x, hxi⟩ : ∃ x, jobs[i] = x := ⟨_, rfl⟩
          rw [hxi] at m0 m1 m2 m3 m4 hbd hsum
          rw [← HM.out] at hsum
          have hbA := hb.alloc hb.size (.cells #[.string x.name, .int .i64 x.prio, .int .i64 x.need, .int .i64 x.tries, .string x.tag] 42)
          have qA := box_alloc q (.cells #[.string x.name, .int .i64 x.prio, .int .i64 x.need, .int .i64 x.tries, .string x.tag] 42)
          have k3 := qA.1 3 _ rfl
          have HA := Lib.hid (leaseAt_is leases al cl (by omega) x.name _ (leasesAt_next HML.out hbA))
          have HSm := Lib.hid hsum
          have HBd := Lib.hid hbd
          clear hxi hsum hbd
          go_wp2_with fail
          refine HA.out.mono ?_
          rintro e w3 ⟨r, rfl, hr, b3⟩
          have q3 := box_next qA b3
          have p3 := box_next (box_new5 wr (.string x.name) (.int .i64 x.prio) (.int .i64 x.need) (.int .i64 x.tries) (.string x.tag) 42) b3
          have hb3 := below_trans hbA b3 hbA.size
          have j2 := p3.1 2 _ rfl
          have hrl := at_lease hr
          clear q qA k3 m0 m1 m2 m3 m4 HA b3 hr
          by_cases hr0 : 0 ≤ r
          · rw [decide_eq_true hr0] at hrl
            have hd : wantD leases x = x.need := if_pos hrl
            have h1 := HBd.out
            have h2 := HSm.out
            rw [hd] at h1 h2
            have HM2 : Hid (m + x.need = sumZ (wantD leases) (jobs.take (i + 1))) := h2.symm
            have hws : IntKind.i64.wrap (m + x.need) = m + x.need := IntWalk.i64_in _ (by omega)
            clear h2 hd hrl HSm HBd
            go_wp2
            go_roundw
            case rel => exact ⟨i + 1, m + x.need, by simp, rfl, by omega, by omega, HM2, q3, hb3⟩
            case measure => simp [intOf]; omega
          · rw [decide_eq_false hr0] at hrl
            have hd : wantD leases x = 0 := if_neg (by rw [hrl]; simp)
            have h2 := HSm.out
            rw [hd] at h2
            have HM2 : Hid (m = sumZ (wantD leases) (jobs.take (i + 1))) := by show _ = _; omega
            clear h2 hd hrl HSm HBd
            go_wp2
            go_roundw
            case rel => exact ⟨i + 1, m, by simp, rfl, by omega, by omega, HM2, q3, hb3⟩
            case measure => simp [intOf]; omega
        · obtain rfl : i = jobs.length := by omega
          have HM2 : Hid (m = n) := by have := HM.out; rw [List.take_length, ← HN2.out] at this; exact this
          obtain rfl := HM2.out
          go_wp2
          go_ret
          exact ⟨rfl, hb⟩

theorem own : ownKnob Tryd.prog.godebug = none := by kernel_rfl
theorem laidOut : laidOutB Tryd.prog = true := by kernel_rfl
theorem laid_met (os : Os) : laidMet Tryd.prog Rows.stateSumsRow.laid ((laidWorld os).forCall (fun _ _ => 0) ⟨#[], #[.agg #[.int .i64 0, .slice none 0 0, .slice none 0 0, .slice none 0 0]], []⟩).memory :=
  laidMet_of_run' 8 (by kernel_rfl) (by kernel_rfl)
theorem reads (os : Os) {H : Type} (enc : TypeId × Value → H) : ∃ places, DataW.whole enc Tryd.prog ((laidWorld os).forCall (fun _ _ => 0) ⟨#[], #[.agg #[.int .i64 0, .slice none 0 0, .slice none 0 0, .slice none 0 0]], []⟩).memory Tryd.f7.params.toList Rows.stateSumsSpec.vars false #[Value.agg #[.int .i64 0, .slice none 0 0, .slice none 0 0, .slice none 0 0]].toList 8 = some ([.agg [.lit (.int .i64 0), .nil, .nil, .nil]], [], places) :=
  ⟨[], by kernel_rfl⟩
set_option maxRecDepth 100000 in
set_option maxHeartbeats 2000000 in
theorem lifted (os : Os) (started : os.Started) (H : Type) (enc : TypeId × Value → H) (F : Stop.Interp) :
    ReturnsInHanded {} Tryd.checked os 7 .any ((OpenSpec.ofChange Rows.stateSumsSpec).preRow enc Tryd.prog Tryd.f7 Rows.stateSumsRow.domain false Rows.stateSumsRow.laid) (((OpenSpec.ofChange Rows.stateSumsSpec).at F).post enc Tryd.prog Tryd.f7 false true false false) := by
  obtain ⟨places, hx⟩ := reads os enc
  refine returnsInHanded_of_row (C := Tryd.checked) (s := (OpenSpec.ofChange Rows.stateSumsSpec)) own started (by kernel_rfl) Tryd.func7
    (witness_row_atRef (enc := enc) (C := Tryd.checked) false (laidWorld os) #[.agg #[.int .i64 0, .slice none 0 0, .slice none 0 0, .slice none 0 0]] rfl (by kernel_rfl) (by kernel_rfl) (by kernel_rfl)
      (OpenSpec.preRow_of_cond 8 hx (by kernel_rfl) (fun k hk => by cases hk) (by kernel_rfl) (laid_met os))) ?_
  intro W base args ds gs before hval0 hW _ _ hsz0 hL _ _
  have hval : ∀ (j : Nat) t v, Tryd.f7.params[j]? = some t → args[j]? = some v → Value.okWide Tryd.prog W .any base t v := hval0
  have hW' := hW
  obtain ⟨p, q, hA0, hV, rfl, hfz, hnd⟩ := hW
  have hA : DataW.TrodAll enc Tryd.prog W 0 (fun _ => true) true Tryd.f7.params.toList args.toList ds p := hA0
  have hsz : (DataW.weightsEach Tryd.prog (Tryd.f7.params.toList ++ Rows.stateSumsSpec.plain.varTypes Tryd.prog) (ds ++ gs)).all (· ≤ reachBytes) = true := hsz0
  rw [Tryd.params7] at hA hval hsz
  obtain ⟨v0, vs0, d0, ds0, p0, q0, hargs, rfl, rfl, h0, r0⟩ := trodAll_cons hA
  obtain ⟨rfl, rfl, rfl⟩ := trodAll_nil r0
  obtain rfl : args = #[v0] := by cases args; simp_all
  obtain ⟨rfl, rfl⟩ := trodVars_none hV
  obtain ⟨M0, st0, rfl, m0, x0, w0⟩ := open_state (hval 0 26 v0 rfl rfl) h0
  have s0 := sized_state hsz rfl (j := 0) rfl x0
  clear hA0 hval0
  refine (walk M0 st0 w0 s0 W m0 (tabs_of hL)).mono fun e W' ⟨he, bel⟩ => ?_
  subst he
  exact ⟨_, rfl, _, _, _, [], _, [], hW', trodAll_mk1 (shut_bool Tryd.underlying4 _), (trodAll_cons_mk (Below.trod laidOut (by kernel_rfl) (of_decide_eq_true (by kernel_rfl)) h0 bel (fun x hx => by simpa using hW'.lt x (by simp [hx]))) trodAll_mk0), rfl, bel.frame _, fun h => by cases h⟩
theorem said : Rows.StateSumsSaid :=
  OpenClaim.holds_of_cond 7 Tryd.f7 rfl rfl rfl rfl rfl rfl rfl ⟨rfl, rfl, rfl, rfl, rfl⟩ rfl rfl rfl rfl rfl (by kernel_rfl) Tryd.func7 (by kernel_rfl)
    (of_decide_eq_true (by kernel_rfl)) (by unfold Func.isWrapper; first | (rw [if_pos (by decide +kernel)]; kernel_rfl) | (rw [if_neg (by decide +kernel)]; exact ⟨rfl, rfl⟩))
    (fun os started H enc _ F => by rw [OpenClaim.pre_eq_preRow]; exact lifted os started H enc F)
theorem plain (f : FuncId) (fn : Func) (hf : Tryd.pinned.checked.prog.funcNamed Rows.stateSumsRow.func = some f) (hfn : Tryd.pinned.checked.prog.funcs[f]? = some fn) :
    false = Tryd.pinned.checked.prog.looks [] ∧ ∀ (j : Nat) t, fn.params[j]? = some t → Tryd.pinned.checked.prog.wantsStandIn t = false := by
  obtain rfl : f = 7 := Option.some.inj ((show Tryd.prog.funcNamed Rows.stateSumsRow.func = some 7 by kernel_rfl).symm.trans hf) |>.symm
  obtain rfl : fn = Tryd.f7 := (Option.some.inj (Tryd.func7.symm.trans hfn)).symm
  refine ⟨by kernel_rfl, fun j t ht => ?_⟩
  rw [Tryd.params7] at ht
  obtain rfl : t = 26 := by simpa using Array.mem_of_getElem? ht
  exact (show Tryd.prog.wantsStandIn 26 = false by kernel_rfl)
theorem proved : Rows.StateSumsCardSaid :=
  Claim7.holds_tied_plain_at .later [] _ _ _ _ said (fun _ h => by cases h) (by kernel_rfl) (fun _ h => by cases h) stateSums_row_tie rfl ⟨rfl, rfl⟩ (by kernel_rfl) rfl plain (by kernel_rfl)
#print axioms proved
end Go.Proofs.YtkdjpciegcofbaaDoor.stateSums
