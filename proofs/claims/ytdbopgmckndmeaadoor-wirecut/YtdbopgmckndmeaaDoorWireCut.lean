/- For every state, every number and every string the law WireCut of the package brackenkeep returns true, as a tied card: a proper prefix of an encoding is too short, and an encoding followed by further bytes is rejected. Condition: the library's two tables unicode/utf8.first and acceptRanges start as their text lays them (the card ties them; first is pinned). -/
import Derived.Test.YtdbopgmckndmeaaDoorPkWi5
namespace Go.Proofs.YtdbopgmckndmeaaDoor.wireCut
open Go.ChangeShapes Go.WideShapes Go.ChangeAt Go.RowKit
open Go.ChangeMaps (open_string shut_string)
set_option linter.unusedVariables false

theorem reach {s : ByteArray} (h : s.data.toList.length ≤ reachBytes) : s.size ≤ 140737488351232 := by
  have h2 : s.data.toList.length ≤ 140737488351232 := h
  have e : s.data.toList.length = s.size := size_l s
  omega
theorem take_data (s : ByteArray) (k : Nat) : (s.extract 0 k).data.toList = s.data.toList.take k := by
  rw [ByteArray.data_extract, Array.toList_extract, List.extract_eq_take_drop]; simp
theorem nil_app (X : ByteArray) : X ++ (⟨#[]⟩ : ByteArray) = X := bytes_eq (by rw [app_data]; simp)
set_option maxRecDepth 100000 in
set_option maxHeartbeats 4000000 in
theorem walk (M : StM) (s : StD) (a1 : Int) (a2 : ByteArray) (hw : wState s) (ha1 : (Lit.int .i64 a1).wf = true) (ha2 : a2.size ≤ maxLen) (hz : SzState s) (s2 : a2.data.toList.length ≤ reachBytes) (w : World) (hm : StateAt w M s) (hT : Tabs w) :
    Calls Tryd.prog 7 #[stV M s, .int .i64 a1, .string a2] w fun e w' => e = .returned (.bool true) ∧ Below w.heap.size w w' := by
  obtain ⟨aj, cj, an, cn, al, cl⟩ := M
  obtain ⟨hmj, hmn, hml⟩ := hm
  show Calls _ _ #[.agg #[.int .i64 s.rev, .slice aj s.jobs.length cj, .slice an s.nodes.length cn, .slice al s.leases.length cl], .int .i64 a1, .string a2] _ _
  simp only at hmj hmn hml
  have hr2 := reach s2
  obtain ⟨W, hW⟩ : ∃ W, w.alloc (.cells #[.int .i64 s.rev, .slice aj s.jobs.length cj, .slice an s.nodes.length cn, .slice al s.leases.length cl] 26) = W := ⟨_, rfl⟩
  have q1 := box_new4 w (.int .i64 s.rev) (.slice aj s.jobs.length cj) (.slice an s.nodes.length cn) (.slice al s.leases.length cl) 26
  have bW : Below w.heap.size w W := by rw [← hW]; exact below_one _ _
  rw [hW] at q1
  have HWi := Lib.hid (wired_is W (hT.below bW))
  have HE := Lib.hid (fun W' (hb : Below w.heap.size w W') => wencode_any s aj an al cj cn cl 3 hw W' (hT.below hb) (jobsAt_next hmj hb) (nodesAt_next hmn hb) (leasesAt_next hml hb))
  have HW := Lib.hid hW
  have HT := Lib.hid hT
  clear hmj hmn hml hT hw hz hW s2 ha1 ha2
  rcases wenc_cases s 3 with ⟨c, hc, e1⟩ | ⟨e1, hc1, hf1, hok, _⟩
  · rw [e1] at HE
    have hc' : ((c : Int) != 0) = true := by simp; omega
    clear e1 hc
    go_enter Tryd.func7, Tryd.ntmps7
    go_wp2_with fail
    rw [HW.out]
    refine HWi.out.mono ?_
    rintro e w1 ⟨rfl, b1⟩
    have B1 := below_trans bW b1 bW.size
    have p1 := box_next q1 b1
    have k0 := p1.1 0 _ rfl
    have k1 := p1.1 1 _ rfl
    have k2 := p1.1 2 _ rfl
    have k3 := p1.1 3 _ rfl
    have HE' := Lib.hid (HE.out w1 B1)
    clear HW q1 b1 bW HWi
    go_wp2_with fail
    refine HE'.out.mono ?_
    rintro e w2 ⟨rfl, b2⟩
    go_wp2
    go_ret
    exact ⟨rfl, below_trans B1 b2 B1.size⟩
  · rw [e1] at HE
    have hsz := bytes_size (stB 3 s)
    have hl := (st_mono 3 3 (by omega) s).2
    have hl2 := st_len hok
    obtain ⟨r, hr, hr0⟩ : ∃ r : Nat, a1 % ((stB 3 s).length : Int) = r ∧ r < (stB 3 s).length := by
      have h1 := Int.emod_nonneg a1 (b := ((stB 3 s).length : Int)) (by omega)
      have h2 := Int.emod_lt_of_pos a1 (b := ((stB 3 s).length : Int)) (by omega)
      exact ⟨(a1 % ((stB 3 s).length : Int)).toNat, by omega, by omega⟩
    have HR := Lib.hid (fun W' => rest_is a1 ((stB 3 s).length : Int) (by omega) (by omega) W')
    rw [hr] at HR
    have hd1 : wdecR 3 ((⟨(stB 3 s).toArray⟩ : ByteArray).extract 0 r).data.toList = (zeroSt, 3) := by
      rw [take_data, bytes_data]
      unfold wdecR
      rw [if_pos (by omega)]
      exact wire_cut hc1 hf1 hr0
    have hd2 : (a2 = ⟨#[]⟩ → wdecR 3 ((⟨(stB 3 s).toArray⟩ : ByteArray) ++ a2).data.toList = (s, 0)) ∧ (a2 ≠ ⟨#[]⟩ → wdecR 3 ((⟨(stB 3 s).toArray⟩ : ByteArray) ++ a2).data.toList = (zeroSt, 4)) := by
      unfold wdecR
      rw [if_pos (by omega), app_data, bytes_data]
      refine ⟨fun h => ?_, fun h => ?_⟩
      · rw [h]
        simp only [List.append_nil]
        exact wire_back hc1 hf1
      · exact wire_more hc1 hf1 (fun e => h (bytes_eq (by rw [e])))
    generalize (⟨(stB 3 s).toArray⟩ : ByteArray) = X at HE hsz hd1 hd2
    generalize (stB 3 s).length = L at hsz hl hl2 hr0 HR hr
    obtain ⟨Y, hY⟩ : ∃ Y, X.extract 0 r = Y := ⟨_, rfl⟩
    rw [hY] at hd1
    have hYs : Y.size ≤ 5240 := by rw [← hY, ByteArray.size_extract]; omega
    obtain ⟨Z, hZ⟩ : ∃ Z, X ++ a2 = Z := ⟨_, rfl⟩
    rw [hZ] at hd2
    have hZs : Z.size ≤ 1152921504606846976 := by rw [← hZ, ByteArray.size_append]; omega
    have hadd : ¬ (9223372036854775807 < X.size + a2.size) := by omega
    have i1 : (0 : Int) ≤ (r : Int) := by omega
    have i2 : (r : Int) ≤ (X.size : Int) := by omega
    have HD1 := Lib.hid hd1
    have HD2 := Lib.hid hd2
    clear e1 hc1 hf1 hok hr hd1 hd2 hr2
    go_enter Tryd.func7, Tryd.ntmps7
    go_wp2_with fail
    rw [HW.out]
    refine HWi.out.mono ?_
    rintro e w1 ⟨rfl, b1⟩
    have B1 := below_trans bW b1 bW.size
    have p1 := box_next q1 b1
    have k0 := p1.1 0 _ rfl
    have k1 := p1.1 1 _ rfl
    have k2 := p1.1 2 _ rfl
    have k3 := p1.1 3 _ rfl
    have HE' := Lib.hid (HE.out w1 B1)
    clear HW q1 b1 bW HWi
    go_wp2_with fail
    refine HE'.out.mono ?_
    rintro e w2 ⟨rfl, b2⟩
    have B2 := below_trans B1 b2 B1.size
    clear k0 k1 k2 k3 HE'
    go_wp2_with fail
    refine (HR.out _).mono ?_
    rintro e w' ⟨rfl, rfl⟩
    have HDa := wdecode_any Y (by omega) 3 w2 (HT.out.below B2)
    rw [HD1.out] at HDa
    have HDa := Lib.hid HDa
    go_wp2_with fail
    refine HDa.out.mono ?_
    rintro e w3 ⟨aj1, an1, al1, cj1, cn1, cl1, rfl, _, _, _, b3⟩
    have B3 := below_trans B2 b3 B2.size
    have b4 := below_one w3 (.cells #[.int .i64 zeroSt.rev, .slice aj1 zeroSt.jobs.length cj1, .slice an1 zeroSt.nodes.length cn1, .slice al1 zeroSt.leases.length cl1] 26)
    have B4 := below_trans B3 b4 B3.size
    have HDb := wdecode_any Z hZs 3 _ (HT.out.below B4)
    clear HDa HD1 b3 b4
    by_cases hmo : a2 = ⟨#[]⟩
    · rw [HD2.out.1 hmo] at HDb
      have HDb := Lib.hid HDb
      clear HD2
      subst hmo
      go_wp2_with fail
      refine HDb.out.mono ?_
      rintro e w5 ⟨aj2, an2, al2, cj2, cn2, cl2, rfl, _, _, _, b5⟩
      have B5 := below_trans B4 b5 B4.size
      have b6 := below_one w5 (.cells #[.int .i64 s.rev, .slice aj2 s.jobs.length cj2, .slice an2 s.nodes.length cn2, .slice al2 s.leases.length cl2] 26)
      have B6 := below_trans B5 b6 B5.size
      clear HDb b5 b6 B5 B4
      go_wp2
      go_ret
      exact ⟨rfl, B6⟩
    · rw [HD2.out.2 hmo] at HDb
      have HDb := Lib.hid HDb
      clear HD2
      have hne : a2.size ≠ 0 := fun e => hmo (empty_of_size e)
      obtain ⟨h1, h2⟩ := not_empty hne
      clear hmo hne
      go_wp2_with fail
      refine HDb.out.mono ?_
      rintro e w5 ⟨aj2, an2, al2, cj2, cn2, cl2, rfl, _, _, _, b5⟩
      have B5 := below_trans B4 b5 B4.size
      have b6 := below_one w5 (.cells #[.int .i64 zeroSt.rev, .slice aj2 zeroSt.jobs.length cj2, .slice an2 zeroSt.nodes.length cn2, .slice al2 zeroSt.leases.length cl2] 26)
      have B6 := below_trans B5 b6 B5.size
      clear HDb b5 b6 B5 B4
      go_wp2
      go_ret
      exact ⟨rfl, B6⟩

theorem own : ownKnob Tryd.prog.godebug = none := by kernel_rfl
theorem laidOut : laidOutB Tryd.prog = true := by kernel_rfl
theorem laid_met (os : Os) : laidMet Tryd.prog Rows.wireCutRow.laid ((laidWorld os).forCall (fun _ _ => 0) ⟨#[], #[.agg #[.int .i64 0, .slice none 0 0, .slice none 0 0, .slice none 0 0], .int .i64 0, .string ⟨#[]⟩], []⟩).memory :=
  laidMet_of_run' 8 (by kernel_rfl) (by kernel_rfl)
theorem reads (os : Os) {H : Type} (enc : TypeId × Value → H) : ∃ places, DataW.whole enc Tryd.prog ((laidWorld os).forCall (fun _ _ => 0) ⟨#[], #[.agg #[.int .i64 0, .slice none 0 0, .slice none 0 0, .slice none 0 0], .int .i64 0, .string ⟨#[]⟩], []⟩).memory Tryd.f7.params.toList Rows.wireCutSpec.vars false #[Value.agg #[.int .i64 0, .slice none 0 0, .slice none 0 0, .slice none 0 0], Value.int .i64 0, Value.string ⟨#[]⟩].toList 8 = some ([.agg [.lit (.int .i64 0), .nil, .nil, .nil], .lit (.int .i64 0), .lit (.string [])], [], places) :=
  ⟨[], by kernel_rfl⟩
set_option maxRecDepth 100000 in
set_option maxHeartbeats 2000000 in
theorem lifted (os : Os) (started : os.Started) (H : Type) (enc : TypeId × Value → H) (F : Stop.Interp) :
    ReturnsInHanded {} Tryd.checked os 7 .any ((OpenSpec.ofChange Rows.wireCutSpec).preRow enc Tryd.prog Tryd.f7 Rows.wireCutRow.domain false Rows.wireCutRow.laid) (((OpenSpec.ofChange Rows.wireCutSpec).at F).post enc Tryd.prog Tryd.f7 false true false false) := by
  obtain ⟨places, hx⟩ := reads os enc
  refine returnsInHanded_of_row (C := Tryd.checked) (s := (OpenSpec.ofChange Rows.wireCutSpec)) own started (by kernel_rfl) Tryd.func7
    (witness_row_atRef (enc := enc) (C := Tryd.checked) false (laidWorld os) #[.agg #[.int .i64 0, .slice none 0 0, .slice none 0 0, .slice none 0 0], .int .i64 0, .string ⟨#[]⟩] rfl (by kernel_rfl) (by kernel_rfl) (by kernel_rfl)
      (OpenSpec.preRow_of_cond 8 hx (by kernel_rfl) (fun k hk => by cases hk) (by kernel_rfl) (laid_met os))) ?_
  intro W base args ds gs before hval0 hW _ _ hsz0 hL _ _
  have hval : ∀ (j : Nat) t v, Tryd.f7.params[j]? = some t → args[j]? = some v → Value.okWide Tryd.prog W .any base t v := hval0
  have hW' := hW
  obtain ⟨p, q, hA0, hV, rfl, hfz, hnd⟩ := hW
  have hA : DataW.TrodAll enc Tryd.prog W 0 (fun _ => true) true Tryd.f7.params.toList args.toList ds p := hA0
  have hsz : (DataW.weightsEach Tryd.prog (Tryd.f7.params.toList ++ Rows.wireCutSpec.plain.varTypes Tryd.prog) (ds ++ gs)).all (· ≤ reachBytes) = true := hsz0
  rw [Tryd.params7] at hA hval hsz
  obtain ⟨v0, vs0, d0, ds0, p0, q0, hargs, rfl, rfl, h0, r0⟩ := trodAll_cons hA
  obtain ⟨v1, vs1, d1, ds1, p1, q1, rfl, rfl, rfl, h1, r1⟩ := trodAll_cons r0
  obtain ⟨v2, vs2, d2, ds2, p2, q2, rfl, rfl, rfl, h2, r2⟩ := trodAll_cons r1
  obtain ⟨rfl, rfl, rfl⟩ := trodAll_nil r2
  obtain rfl : args = #[v0, v1, v2] := by cases args; simp_all
  obtain ⟨rfl, rfl⟩ := trodVars_none hV
  obtain ⟨M0, st0, rfl, m0, x0, w0⟩ := open_state (hval 0 26 v0 rfl rfl) h0
  obtain ⟨a1, rfl, rfl, rfl, w1⟩ := open_int Tryd.underlying3 (hval 1 3 v1 rfl rfl) h1
  obtain ⟨a2, rfl, rfl, rfl, w2⟩ := open_string Tryd.underlying9 (hval 2 9 v2 rfl rfl) h2
  have s0 := sized_state hsz rfl (j := 0) rfl x0
  have s2 : a2.data.toList.length ≤ reachBytes := sized_string hsz (j := 2) (t := 9) rfl rfl
  clear hA0 hval0
  refine (walk M0 st0 a1 a2 w0 w1 w2 s0 s2 W m0 (tabs_of hL)).mono fun e W' ⟨he, bel⟩ => ?_
  subst he
  exact ⟨_, rfl, _, _, _, [], _, [], hW', trodAll_mk1 (shut_bool Tryd.underlying4 _), (trodAll_cons_mk (Below.trod laidOut (by kernel_rfl) (of_decide_eq_true (by kernel_rfl)) h0 bel (fun x hx => by simpa using hW'.lt x (by simp [hx]))) (trodAll_cons_mk (shut_int Tryd.underlying3 w1) (trodAll_cons_mk (shut_string Tryd.underlying9 w2) trodAll_mk0))), rfl, bel.frame _, fun h => by cases h⟩
theorem said : Rows.WireCutSaid :=
  OpenClaim.holds_of_cond 7 Tryd.f7 rfl rfl rfl rfl rfl rfl rfl ⟨rfl, rfl, rfl, rfl, rfl⟩ rfl rfl rfl rfl rfl (by kernel_rfl) Tryd.func7 (by kernel_rfl)
    (of_decide_eq_true (by kernel_rfl)) (by unfold Func.isWrapper; first | (rw [if_pos (by decide +kernel)]; kernel_rfl) | (rw [if_neg (by decide +kernel)]; exact ⟨rfl, rfl⟩))
    (fun os started H enc _ F => by rw [OpenClaim.pre_eq_preRow]; exact lifted os started H enc F)
theorem plain (f : FuncId) (fn : Func) (hf : Tryd.pinned.checked.prog.funcNamed Rows.wireCutRow.func = some f) (hfn : Tryd.pinned.checked.prog.funcs[f]? = some fn) :
    true = Tryd.pinned.checked.prog.looks [] ∧ ∀ (j : Nat) t, fn.params[j]? = some t → Tryd.pinned.checked.prog.wantsStandIn t = false := by
  obtain rfl : f = 7 := Option.some.inj ((show Tryd.prog.funcNamed Rows.wireCutRow.func = some 7 by kernel_rfl).symm.trans hf) |>.symm
  obtain rfl : fn = Tryd.f7 := (Option.some.inj (Tryd.func7.symm.trans hfn)).symm
  refine ⟨by kernel_rfl, fun j t ht => ?_⟩
  rw [Tryd.params7] at ht
  have hm : t = 26 ∨ t = 3 ∨ t = 9 := by simpa using Array.mem_of_getElem? ht
  rcases hm with rfl | rfl | rfl
  · exact (show Tryd.prog.wantsStandIn 26 = false by kernel_rfl)
  · exact (show Tryd.prog.wantsStandIn 3 = false by kernel_rfl)
  · exact (show Tryd.prog.wantsStandIn 9 = false by kernel_rfl)
theorem proved : Rows.WireCutCardSaid :=
  Claim7.holds_tied_plain_at .later [] _ _ _ _ said (fun _ h => by cases h) (by kernel_rfl) (fun _ h => by cases h) wireCut_row_tie rfl ⟨rfl, rfl⟩ (by kernel_rfl) rfl plain (by kernel_rfl)
#print axioms proved
end Go.Proofs.YtdbopgmckndmeaaDoor.wireCut
