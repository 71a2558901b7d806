/- For every string and every number the law WireDecodes of the package brackenlaw returns true, as a tied card: Decode returns the results of the reference. Condition: the library's two tables unicode/utf8.first and acceptRanges start as their text lays them (the card ties them; first is pinned). -/
import Derived.Test.YtdbopgmckndmeaaDoorWiRDec
namespace Go.Proofs.YtdbopgmckndmeaaDoor.wireDecodes
open Go.ChangeShapes Go.WideShapes Go.ChangeAt Go.RowKit
open Go.ChangeMaps (open_string shut_string)
set_option linter.unusedVariables false

theorem reach {s : ByteArray} (h : s.data.toList.length ≤ reachBytes) : s.size ≤ 140737488351232 := by
  have h2 : s.data.toList.length ≤ 140737488351232 := h
  have e : s.data.toList.length = s.size := size_l s
  omega
theorem size_dec (v : Int) (l : List UInt8) : (wdecR v l).1.jobs.length ≤ 140737488355328 ∧ (wdecR v l).1.nodes.length ≤ 140737488355328 ∧ (wdecR v l).1.leases.length ≤ 140737488355328 := by
  unfold wdecR
  split
  · obtain ⟨t, c, h⟩ : ∃ t c, wireD V8 v l = (t, c) := ⟨_, _, rfl⟩
    rw [h]
    by_cases hc : c = 0
    · subst hc
      have := check_len (wire_ok h).1
      simp only
      omega
    · rw [wire_err h hc]
      exact ⟨Nat.zero_le _, Nat.zero_le _, Nat.zero_le _⟩
  · exact ⟨Nat.zero_le _, Nat.zero_le _, Nat.zero_le _⟩
set_option maxRecDepth 100000 in
set_option maxHeartbeats 4000000 in
theorem walk (a0 : ByteArray) (v : Int) (h0 : a0.size ≤ maxLen) (hv0 : (Lit.int .i64 v).wf = true) (s0 : a0.data.toList.length ≤ reachBytes) (w : World) (hT : Tabs w) :
    Calls Tryd.prog 5 #[.string a0, .int .i64 v] w fun e w' => e = .returned (.bool true) ∧ Below w.heap.size w w' := by
  have hr := reach s0
  have H1 := wdecode_any a0 (by omega) v w hT
  have H2 := fun W' => rdecodeS_any a0 (by omega) v W'
  have H3 := fun W' (hb : Below w.heap.size w W') => wdecode_any ⟨#[]⟩ (by decide) 0 W' (hT.below hb)
  have hd : wdecR 0 (⟨#[]⟩ : ByteArray).data.toList = (zeroSt, 1) := by unfold wdecR; rw [if_neg (by omega)]
  rw [hd] at H3
  have hsz := size_dec v a0.data.toList
  obtain ⟨t, c, ht⟩ : ∃ t c, wdecR v a0.data.toList = (t, c) := ⟨_, _, rfl⟩
  rw [ht] at H1 H2 hsz
  have H1 := Lib.hid H1
  have H2 := Lib.hid H2
  have H3 := Lib.hid H3
  have hcc : ((c : Int) == (c : Int)) = true := by simp
  clear hT s0 h0 hv0 ht hd hr
  go_enter Tryd.func5, Tryd.ntmps5
  go_wp2_with fail
  refine H1.out.mono ?_
  rintro e w1 ⟨aj, an, al, cj, cn, cl, rfl, oj, on, ol, b1⟩
  obtain ⟨X1, hX1⟩ : ∃ X1, w1.alloc (.cells #[.int .i64 t.rev, .slice aj t.jobs.length cj, .slice an t.nodes.length cn, .slice al t.leases.length cl] 26) = X1 := ⟨_, rfl⟩
  have x1 := below_one w1 (.cells #[.int .i64 t.rev, .slice aj t.jobs.length cj, .slice an t.nodes.length cn, .slice al t.leases.length cl] 26)
  have q1 := box_new4 w1 (.int .i64 t.rev) (.slice aj t.jobs.length cj) (.slice an t.nodes.length cn) (.slice al t.leases.length cl) 26
  rw [hX1] at x1 q1
  have B1 := below_trans b1 x1 b1.size
  have m1 := jobsAt_next (ownJobs oj rfl) x1
  have m2 := nodesAt_next (ownNodes on rfl) x1
  have m3 := leasesAt_next (ownLeases ol rfl) x1
  have H2' := Lib.hid (H2.out X1)
  clear oj on ol b1 x1 H1
  go_wp2_with fail
  refine H2'.out.mono ?_
  rintro e w2 ⟨bj, bn, bl, dj, dn, dl, rfl, oj, on, ol, b2⟩
  obtain ⟨X2, hX2⟩ : ∃ X2, w2.alloc (.cells #[.int .i64 t.rev, .slice bj t.jobs.length dj, .slice bn t.nodes.length dn, .slice bl t.leases.length dl] 26) = X2 := ⟨_, rfl⟩
  have x2 := below_one w2 (.cells #[.int .i64 t.rev, .slice bj t.jobs.length dj, .slice bn t.nodes.length dn, .slice bl t.leases.length dl] 26)
  have q2 := box_new4 w2 (.int .i64 t.rev) (.slice bj t.jobs.length dj) (.slice bn t.nodes.length dn) (.slice bl t.leases.length dl) 26
  rw [hX2] at x2 q2
  have B2 := below_trans b2 x2 b2.size
  have BB2 := below_trans B1 B2 B1.size
  have p1 := box_next q1 B2
  have M1 := jobsAt_next m1 B2
  have M2 := nodesAt_next m2 B2
  have M3 := leasesAt_next m3 B2
  have k1 := jobsAt_next (ownJobs oj rfl) x2
  have k2 := nodesAt_next (ownNodes on rfl) x2
  have k3 := leasesAt_next (ownLeases ol rfl) x2
  have H3' := Lib.hid (H3.out X2 BB2)
  clear oj on ol b2 x2 H2' H2 H3 m1 m2 m3 q1 B2 B1
  go_wp2_with fail
  refine H3'.out.mono ?_
  rintro e w3 ⟨ej, en, el, fj, fn, fl, rfl, _, _, _, b3⟩
  obtain ⟨X3, hX3⟩ : ∃ X3, w3.alloc (.cells #[.int .i64 zeroSt.rev, .slice ej zeroSt.jobs.length fj, .slice en zeroSt.nodes.length fn, .slice el zeroSt.leases.length fl] 26) = X3 := ⟨_, rfl⟩
  have x3 := below_one w3 (.cells #[.int .i64 zeroSt.rev, .slice ej zeroSt.jobs.length fj, .slice en zeroSt.nodes.length fn, .slice el zeroSt.leases.length fl] 26)
  rw [hX3] at x3
  have B3 := below_trans b3 x3 b3.size
  have BB3 := below_trans BB2 B3 BB2.size
  have P1 := box_next p1 B3
  have P2 := box_next q2 B3
  have HS := Lib.hid (same_is t t aj an al bj bn bl cj cn cl dj dn dl hsz X3 (jobsAt_next M1 B3) (nodesAt_next M2 B3) (leasesAt_next M3 B3) (jobsAt_next k1 B3) (nodesAt_next k2 B3) (leasesAt_next k3 B3))
  have r0 := P1.1 0 _ rfl
  have r1 := P1.1 1 _ rfl
  have r2 := P1.1 2 _ rfl
  have r3 := P1.1 3 _ rfl
  have t0 := P2.1 0 _ rfl
  have t1 := P2.1 1 _ rfl
  have t2 := P2.1 2 _ rfl
  have t3 := P2.1 3 _ rfl
  have BF := Lib.hid BB3
  clear M1 M2 M3 k1 k2 k3 P1 P2 p1 q2 b3 x3 B3 BB2 BB3 H3'
  go_wp2_with fail
  refine HS.out.mono ?_
  rintro e w4 ⟨d, rfl, hd, b4⟩
  obtain rfl : d = true := hd.2 (by first | rfl | trivial)
  go_wp2
  go_ret
  exact ⟨rfl, below_trans BF.out b4 BF.out.size⟩

theorem own : ownKnob Tryd.prog.godebug = none := by kernel_rfl
theorem laid_met (os : Os) : laidMet Tryd.prog Rows.wireDecodesRow.laid ((laidWorld os).forCall (fun _ _ => 0) ⟨#[], #[.string ⟨#[]⟩, .int .i64 0], []⟩).memory :=
  laidMet_of_run' 8 (by kernel_rfl) (by kernel_rfl)
theorem reads (os : Os) {H : Type} (enc : TypeId × Value → H) : ∃ places, DataW.whole enc Tryd.prog ((laidWorld os).forCall (fun _ _ => 0) ⟨#[], #[.string ⟨#[]⟩, .int .i64 0], []⟩).memory Tryd.f5.params.toList Rows.wireDecodesSpec.vars false #[Value.string ⟨#[]⟩, Value.int .i64 0].toList 8 = some ([.lit (.string []), .lit (.int .i64 0)], [], places) :=
  ⟨[], by kernel_rfl⟩
set_option maxRecDepth 100000 in
set_option maxHeartbeats 2000000 in
theorem lifted (os : Os) (started : os.Started) (H : Type) (enc : TypeId × Value → H) (F : Stop.Interp) :
    ReturnsInHanded {} Tryd.checked os 5 .any ((OpenSpec.ofChange Rows.wireDecodesSpec).preRow enc Tryd.prog Tryd.f5 Rows.wireDecodesRow.domain false Rows.wireDecodesRow.laid) (((OpenSpec.ofChange Rows.wireDecodesSpec).at F).post enc Tryd.prog Tryd.f5 false true false false) := by
  obtain ⟨places, hx⟩ := reads os enc
  refine returnsInHanded_of_row (C := Tryd.checked) (s := (OpenSpec.ofChange Rows.wireDecodesSpec)) own started (by kernel_rfl) Tryd.func5
    (witness_row_atRef (enc := enc) (C := Tryd.checked) false (laidWorld os) #[.string ⟨#[]⟩, .int .i64 0] rfl (by kernel_rfl) (by kernel_rfl) (by kernel_rfl)
      (OpenSpec.preRow_of_cond 8 hx (by kernel_rfl) (fun k hk => by cases hk) (by kernel_rfl) (laid_met os))) ?_
  intro W base args ds gs before hval0 hW _ _ hsz0 hL _ _
  have hval : ∀ (j : Nat) t v, Tryd.f5.params[j]? = some t → args[j]? = some v → Value.okWide Tryd.prog W .any base t v := hval0
  have hW' := hW
  obtain ⟨p, q, hA0, hV, rfl, hfz, hnd⟩ := hW
  have hA : DataW.TrodAll enc Tryd.prog W 0 (fun _ => true) true Tryd.f5.params.toList args.toList ds p := hA0
  have hsz : (DataW.weightsEach Tryd.prog (Tryd.f5.params.toList ++ Rows.wireDecodesSpec.plain.varTypes Tryd.prog) (ds ++ gs)).all (· ≤ reachBytes) = true := hsz0
  rw [Tryd.params5] at hA hval hsz
  obtain ⟨v0, vs0, d0, ds0, p0, q0, hargs, rfl, rfl, h0, r0⟩ := trodAll_cons hA
  obtain ⟨v1, vs1, d1, ds1, p1, q1, rfl, rfl, rfl, h1, r1⟩ := trodAll_cons r0
  obtain ⟨rfl, rfl, rfl⟩ := trodAll_nil r1
  obtain rfl : args = #[v0, v1] := by cases args; simp_all
  obtain ⟨rfl, rfl⟩ := trodVars_none hV
  obtain ⟨a0, rfl, rfl, rfl, w0⟩ := open_string Tryd.underlying9 (hval 0 9 v0 rfl rfl) h0
  obtain ⟨a1, rfl, rfl, rfl, w1⟩ := open_int Tryd.underlying3 (hval 1 3 v1 rfl rfl) h1
  have s0 : a0.data.toList.length ≤ reachBytes := sized_string hsz (j := 0) (t := 9) rfl rfl
  clear hA0 hval0
  refine (walk a0 a1 w0 w1 s0 W (tabs_of hL)).mono fun e W' ⟨he, bel⟩ => ?_
  subst he
  exact ⟨_, rfl, _, _, _, [], _, [], hW', trodAll_mk1 (shut_bool Tryd.underlying4 _), (trodAll_cons_mk (shut_string Tryd.underlying9 w0) (trodAll_cons_mk (shut_int Tryd.underlying3 w1) trodAll_mk0)), rfl, bel.frame _, fun h => by cases h⟩
theorem said : Rows.WireDecodesSaid :=
  OpenClaim.holds_of_cond 5 Tryd.f5 rfl rfl rfl rfl rfl rfl rfl ⟨rfl, rfl, rfl, rfl, rfl⟩ rfl rfl rfl rfl rfl (by kernel_rfl) Tryd.func5 (by kernel_rfl)
    (of_decide_eq_true (by kernel_rfl)) (by unfold Func.isWrapper; first | (rw [if_pos (by decide +kernel)]; kernel_rfl) | (rw [if_neg (by decide +kernel)]; exact ⟨rfl, rfl⟩))
    (fun os started H enc _ F => by rw [OpenClaim.pre_eq_preRow]; exact lifted os started H enc F)
theorem plain (f : FuncId) (fn : Func) (hf : Tryd.pinned.checked.prog.funcNamed Rows.wireDecodesRow.func = some f) (hfn : Tryd.pinned.checked.prog.funcs[f]? = some fn) :
    true = Tryd.pinned.checked.prog.looks [] ∧ ∀ (j : Nat) t, fn.params[j]? = some t → Tryd.pinned.checked.prog.wantsStandIn t = false := by
  obtain rfl : f = 5 := Option.some.inj ((show Tryd.prog.funcNamed Rows.wireDecodesRow.func = some 5 by kernel_rfl).symm.trans hf) |>.symm
  obtain rfl : fn = Tryd.f5 := (Option.some.inj (Tryd.func5.symm.trans hfn)).symm
  refine ⟨by kernel_rfl, fun j t ht => ?_⟩
  rw [Tryd.params5] at ht
  have hm : t = 9 ∨ t = 3 := by simpa using Array.mem_of_getElem? ht
  rcases hm with rfl | rfl
  · exact (show Tryd.prog.wantsStandIn 9 = false by kernel_rfl)
  · exact (show Tryd.prog.wantsStandIn 3 = false by kernel_rfl)
theorem proved : Rows.WireDecodesCardSaid :=
  Claim7.holds_tied_plain_at .later [] _ _ _ _ said (fun _ h => by cases h) (by kernel_rfl) (fun _ h => by cases h) wireDecodes_row_tie rfl ⟨rfl, rfl⟩ (by kernel_rfl) rfl plain (by kernel_rfl)
#print axioms proved
end Go.Proofs.YtdbopgmckndmeaaDoor.wireDecodes
