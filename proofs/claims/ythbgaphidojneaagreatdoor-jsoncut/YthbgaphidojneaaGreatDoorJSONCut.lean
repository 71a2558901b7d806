/- For every state s, number and string the law JSONCut of the package brackenkeep returns true, as a tied card: no beginning of a form, and no form with something behind it, is parsed. Condition: the library's variables start as their text lays them (the card ties them; utf8.first is pinned). -/
import Derived.Test.YthbgaphidojneaaGreatDoorJsLaw
import Derived.Test.YthbgaphidojneaaGreatDoorRest
namespace Go.Proofs.YthbgaphidojneaaGreatDoor.jSONCut
open Go.ChangeShapes Go.WideShapes Go.ChangeAt Go.RowKit
open Go.ChangeMaps (open_string shut_string)
set_option linter.unusedVariables false

set_option maxRecDepth 100000 in
set_option maxHeartbeats 4000000 in
theorem walk (M : StM) (s : StD) (a1 : Int) (a2 : ByteArray) (hw : wState s) (h1 : (Lit.int .i64 a1).wf = true) (h2 : a2.size ≤ maxLen) (hz : SzState s) (s2 : a2.data.toList.length ≤ reachBytes) (w : World) (hm : StateAt w M s) (hT : JTabs w) :
    Calls Tryz.prog 5 #[stV M s, .int .i64 a1, .string a2] w fun e w' => e = .returned (.bool true) ∧ Below w.heap.size w w' := by
  obtain ⟨aj, cj, an, cn, al, cl⟩ := M
  obtain ⟨hmj, hmn, hml⟩ := hm
  show Calls _ _ #[.agg #[.int .i64 s.rev, .slice aj s.jobs.length cj, .slice an s.nodes.length cn, .slice al s.leases.length cl], .int .i64 a1, .string a2] _ _
  simp only at hmj hmn hml
  have hm2 : a2.size ≤ 140737488355328 := by
    have e : a2.data.toList.length = a2.size := by rw [Array.length_toList]; rfl
    have := reachBytes_lt
    omega
  obtain ⟨W0, hW0⟩ : ∃ W0, w.alloc (.cells #[.int .i64 s.rev, .slice aj s.jobs.length cj, .slice an s.nodes.length cn, .slice al s.leases.length cl] 26) = W0 := ⟨_, rfl⟩
  have B0 := below_one w (.cells #[.int .i64 s.rev, .slice aj s.jobs.length cj, .slice an s.nodes.length cn, .slice al s.leases.length cl] 26)
  have I0 := jbox_new (cj := cj) (cn := cn) (cl := cl) (And.intro hmj (And.intro hmn hml))
  rw [hW0] at B0 I0
  have HT := Lib.hid hT
  have HW := Lib.hid hw
  have B0 := Lib.hid B0
  have I0 := Lib.hid I0
  have HPr := Lib.hid (printed_is W0 (HT.out.below B0.out))
  clear hmj hmn hml hT hz hw s2 h2
  go_enter Tryz.func5, Tryz.ntmps5
  go_wp2_with fail
  refine HPr.out.mono ?_
  rintro e w1 ⟨rfl, b1⟩
  have I1 := Lib.hid (jbox_next I0.out b1)
  have B1 := Lib.hid (below_trans B0.out b1 B0.out.size)
  have hT1 := HT.out.below B1.out
  have HP := Lib.hid (print_any s aj an al cj cn cl HW.out w1 hT1.tabs hT1.pow I1.out.2.1 I1.out.2.2.1 I1.out.2.2.2)
  obtain ⟨z0, z1, z2, z3⟩ := jbox_cells I1.out
  clear b1 hT1 I0 B0 HPr
  by_cases hc : checkE V8 s = 0
  · rw [pr_ok hc] at HP
    dsimp only at HP
    have hlen := stJ_len ((check_zero V8 s).1 hc)
    obtain ⟨T, hTT⟩ : ∃ T, baL (stJ s) = T := ⟨_, rfl⟩
    have hTs : T.size = (stJ s).length := by rw [← hTT, baL_size]
    have hpos : 0 < (stJ s).length := by simp [stJ]
    rw [hTT] at HP
    obtain ⟨k, hk⟩ : ∃ k : Nat, a1 % (T.size : Int) = (k : Int) := ⟨(a1 % (T.size : Int)).toNat, by rw [Int.toNat_of_nonneg (Int.emod_nonneg _ (by omega))]⟩
    have hkl : k < T.size := by
      have := Int.emod_lt_of_pos a1 (show (0 : Int) < (T.size : Int) by omega)
      omega
    have HRe : Hid (∀ w : World, Calls Tryz.prog 13 #[.int .i64 a1, .int .i64 (T.size : Int)] w fun e w' => e = .returned (.int .i64 (k : Int)) ∧ w = w') := by
      intro w'
      have := rest_is a1 (T.size : Int) (by omega) (by omega) w'
      rwa [hk] at this
    obtain ⟨C, hC⟩ : ∃ C, T.extract 0 k = C := ⟨_, rfl⟩
    have hCC : baL ((stJ s).take k) = C := by rw [← hC, ← hTT, ba_cut]; rfl
    have HP1 : Hid (∀ w', JTabs w' → Calls Tryz.prog 7 #[.string C] w' (ParP (zeroSt, 4) w')) := by
      intro w' hT'
      have := parse_any C w' hT'
      rwa [← hCC, jp_cut hc (by omega), hCC] at this
    have hmore : (a2 = ⟨#[]⟩ ∧ jpR (T ++ a2) = (s, 0)) ∨ (a2 ≠ ⟨#[]⟩ ∧ (jpR (T ++ a2)).2 ≠ 0) := by
      by_cases he : a2 = ⟨#[]⟩
      · left
        refine ⟨he, ?_⟩
        rw [he, ← hTT]
        have : baL (stJ s) ++ ⟨#[]⟩ = baL (stJ s) := by
          apply ByteArray.ext; simp
        rw [this]
        exact jp_form hc
      · right
        refine ⟨he, ?_⟩
        rw [← hTT]
        exact jp_more a2 he
    obtain ⟨D, hD⟩ : ∃ D, T ++ a2 = D := ⟨_, rfl⟩
    rw [hD] at hmore
    have HP2 := Lib.hid (fun w' hT' => parse_any D w' hT')
    obtain ⟨R, hR⟩ : ∃ R, jpR D = R := ⟨_, rfl⟩
    rw [hR] at hmore HP2
    obtain ⟨x, g⟩ := R
    dsimp only at hmore
    have t50 : ¬ (50000 : Int) < (T.size : Int) := by omega
    have t31 : T.size ≤ 31000 := by omega
    have tp : 0 < T.size := by omega
    have hov : ¬ (9223372036854775807 < T.size + a2.size) := by omega
    clear hlen hTT hTs hpos hk hCC hR hc
    go_wp2_with fail
    refine HP.out.mono ?_
    rintro e w2 ⟨rfl, b2⟩
    have B2 := Lib.hid (below_trans B1.out b2 B1.out.size)
    clear b2 HP z0 z1 z2 z3
    go_wp2_with fail
    refine (HRe.out _).mono ?_
    rintro e w3 ⟨rfl, rfl⟩
    have HPc := Lib.hid (HP1.out _ (HT.out.below B2.out))
    clear HP1
    go_wp2_with fail
    refine HPc.out.mono ?_
    rintro e w4 ⟨bj, bn, bl, dj, dn, dl, rfl, _, b4⟩
    have bA := below_one w4 (.cells #[.int .i64 zeroSt.rev, .slice bj zeroSt.jobs.length dj, .slice bn zeroSt.nodes.length dn, .slice bl zeroSt.leases.length dl] 26)
    have B4 := Lib.hid (below_trans (below_trans B2.out b4 B2.out.size) bA (Nat.le_trans B2.out.size b4.size))
    have HPd := Lib.hid (HP2.out _ (HT.out.below B4.out))
    clear b4 bA HPc HP2
    go_wp2_with fail
    refine HPd.out.mono ?_
    rintro e w5 ⟨bj, bn, bl, dj, dn, dl, rfl, _, b5⟩
    have bA := below_one w5 (.cells #[.int .i64 x.rev, .slice bj x.jobs.length dj, .slice bn x.nodes.length dn, .slice bl x.leases.length dl] 26)
    have B5 := Lib.hid (below_trans (below_trans B4.out b5 B4.out.size) bA (Nat.le_trans B4.out.size b5.size))
    clear b5 bA HPd
    rcases hmore with ⟨rfl, hg⟩ | ⟨hne, hg⟩
    · obtain ⟨rfl, rfl⟩ : x = s ∧ g = 0 := by simpa using hg
      go_wp2
      go_ret
      exact ⟨rfl, B5.out⟩
    · have t1 : ((g : Int) == 0) = false := by rw [beq_eq_false_iff_ne]; omega
      have hn0 : a2.size ≠ 0 := fun e => hne (empty_of_size e)
      obtain ⟨m1, m2⟩ := not_empty hn0
      go_wp2
      go_ret
      exact ⟨rfl, B5.out⟩
  · rw [pr_no hc] at HP
    obtain ⟨R, hR⟩ : ∃ R, checkE V8 s = R := ⟨_, rfl⟩
    rw [hR] at HP hc
    dsimp only at HP
    have t1 : ((R : Int) != 0) = true := by simp; omega
    clear hR hc
    go_wp2_with fail
    refine HP.out.mono ?_
    rintro e w2 ⟨rfl, b2⟩
    go_wp2
    go_ret
    exact ⟨rfl, below_trans B1.out b2 B1.out.size⟩
theorem own : ownKnob Tryz.prog.godebug = none := by kernel_rfl
theorem laidOut : laidOutB Tryz.prog = true := by kernel_rfl
theorem laid_met (os : Os) : laidMet Tryz.prog Rows.jSONCutRow.laid ((jlaidWorld os).forCall (fun _ _ => 0) ⟨#[], #[.agg #[.int .i64 0, .slice none 0 0, .slice none 0 0, .slice none 0 0], .int .i64 0, .string ⟨#[]⟩], []⟩).memory :=
  laidMet_of_run' 8 (by kernel_rfl) (by kernel_rfl)
theorem reads (os : Os) {H : Type} (enc : TypeId × Value → H) : ∃ places, DataW.whole enc Tryz.prog ((jlaidWorld os).forCall (fun _ _ => 0) ⟨#[], #[.agg #[.int .i64 0, .slice none 0 0, .slice none 0 0, .slice none 0 0], .int .i64 0, .string ⟨#[]⟩], []⟩).memory Tryz.f5.params.toList Rows.jSONCutSpec.vars false #[Value.agg #[.int .i64 0, .slice none 0 0, .slice none 0 0, .slice none 0 0], Value.int .i64 0, Value.string ⟨#[]⟩].toList 8 = some ([.agg [.lit (.int .i64 0), .nil, .nil, .nil], .lit (.int .i64 0), .lit (.string [])], [], places) :=
  ⟨[], by kernel_rfl⟩
set_option maxRecDepth 100000 in
set_option maxHeartbeats 2000000 in
theorem lifted (os : Os) (started : os.Started) (H : Type) (enc : TypeId × Value → H) (F : Stop.Interp) :
    ReturnsInHanded {} Tryz.checked os 5 .any ((OpenSpec.ofChange Rows.jSONCutSpec).preRow enc Tryz.prog Tryz.f5 Rows.jSONCutRow.domain false Rows.jSONCutRow.laid) (((OpenSpec.ofChange Rows.jSONCutSpec).at F).post enc Tryz.prog Tryz.f5 false true false false) := by
  obtain ⟨places, hx⟩ := reads os enc
  refine returnsInHanded_of_row (C := Tryz.checked) (s := (OpenSpec.ofChange Rows.jSONCutSpec)) own started (by kernel_rfl) Tryz.func5
    (witness_row_atRef (enc := enc) (C := Tryz.checked) false (jlaidWorld os) #[.agg #[.int .i64 0, .slice none 0 0, .slice none 0 0, .slice none 0 0], .int .i64 0, .string ⟨#[]⟩] rfl (by kernel_rfl) (by kernel_rfl) (by kernel_rfl)
      (OpenSpec.preRow_of_cond 8 hx (by kernel_rfl) (fun k hk => by cases hk) (by kernel_rfl) (laid_met os))) ?_
  intro W base args ds gs before hval0 hW _ _ hsz0 hL hSh _
  have hval : ∀ (j : Nat) t v, Tryz.f5.params[j]? = some t → args[j]? = some v → Value.okWide Tryz.prog W .any base t v := hval0
  have hW' := hW
  obtain ⟨p, q, hA0, hV, rfl, hfz, hnd⟩ := hW
  have hA : DataW.TrodAll enc Tryz.prog W 0 (fun _ => true) true Tryz.f5.params.toList args.toList ds p := hA0
  have hsz : (DataW.weightsEach Tryz.prog (Tryz.f5.params.toList ++ Rows.jSONCutSpec.plain.varTypes Tryz.prog) (ds ++ gs)).all (· ≤ reachBytes) = true := hsz0
  rw [Tryz.params5] at hA hval hsz
  obtain ⟨v0, vs0, d0, ds0, p0, q0, hargs, rfl, rfl, h0, r0⟩ := trodAll_cons hA
  obtain ⟨v1, vs1, d1, ds1, p1, q1, rfl, rfl, rfl, h1, r1⟩ := trodAll_cons r0
  obtain ⟨v2, vs2, d2, ds2, p2, q2, rfl, rfl, rfl, h2, r2⟩ := trodAll_cons r1
  obtain ⟨rfl, rfl, rfl⟩ := trodAll_nil r2
  obtain rfl : args = #[v0, v1, v2] := by cases args; simp_all
  obtain ⟨rfl, rfl⟩ := trodVars_none hV
  obtain ⟨M0, st0, rfl, m0, x0, w0⟩ := open_state (hval 0 26 v0 rfl rfl) h0
  obtain ⟨a1, rfl, rfl, rfl, w1⟩ := open_int Tryz.underlying3 (hval 1 3 v1 rfl rfl) h1
  obtain ⟨a2, rfl, rfl, rfl, w2⟩ := open_string Tryz.underlying9 (hval 2 9 v2 rfl rfl) h2
  have s0 := sized_state hsz rfl (j := 0) rfl x0
  have s2 : a2.data.toList.length ≤ reachBytes := sized_string hsz (j := 2) (t := 9) rfl rfl
  clear hA0 hval0
  refine (walk M0 st0 a1 a2 w0 w1 w2 s0 s2 W m0 (jtabs_of hL hSh)).mono fun e W' ⟨he, bel⟩ => ?_
  subst he
  exact ⟨_, rfl, _, _, _, [], _, [], hW', trodAll_mk1 (shut_bool Tryz.underlying4 _), (trodAll_cons_mk (Below.trod laidOut (by kernel_rfl) (of_decide_eq_true (by kernel_rfl)) h0 bel (fun x hx => by simpa using hW'.lt x (by simp [hx]))) (trodAll_cons_mk (shut_int Tryz.underlying3 w1) (trodAll_cons_mk (shut_string Tryz.underlying9 w2) trodAll_mk0))), rfl, bel.frame _, fun h => by cases h⟩
theorem said : Rows.JSONCutSaid :=
  OpenClaim.holds_of_cond 5 Tryz.f5 rfl rfl rfl rfl rfl rfl rfl ⟨rfl, rfl, rfl, rfl, rfl⟩ rfl rfl rfl rfl rfl (by kernel_rfl) Tryz.func5 (by kernel_rfl)
    (of_decide_eq_true (by kernel_rfl)) (by unfold Func.isWrapper; first | (rw [if_pos (by decide +kernel)]; kernel_rfl) | (rw [if_neg (by decide +kernel)]; exact ⟨rfl, rfl⟩))
    (fun os started H enc _ F => by rw [OpenClaim.pre_eq_preRow]; exact lifted os started H enc F)
theorem plain (f : FuncId) (fn : Func) (hf : Tryz.pinned.checked.prog.funcNamed Rows.jSONCutRow.func = some f) (hfn : Tryz.pinned.checked.prog.funcs[f]? = some fn) :
    true = Tryz.pinned.checked.prog.looks [] ∧ ∀ (j : Nat) t, fn.params[j]? = some t → Tryz.pinned.checked.prog.wantsStandIn t = false := by
  obtain rfl : f = 5 := Option.some.inj ((show Tryz.prog.funcNamed Rows.jSONCutRow.func = some 5 by kernel_rfl).symm.trans hf) |>.symm
  obtain rfl : fn = Tryz.f5 := (Option.some.inj (Tryz.func5.symm.trans hfn)).symm
  refine ⟨by kernel_rfl, fun j t ht => ?_⟩
  rw [Tryz.params5] at ht
  have hm : t = 26 ∨ t = 3 ∨ t = 9 := by simpa using Array.mem_of_getElem? ht
  rcases hm with rfl | rfl | rfl
  · exact (show Tryz.prog.wantsStandIn 26 = false by kernel_rfl)
  · exact (show Tryz.prog.wantsStandIn 3 = false by kernel_rfl)
  · exact (show Tryz.prog.wantsStandIn 9 = false by kernel_rfl)
theorem proved : Rows.JSONCutCardSaid :=
  Claim7.holds_tied_plain_at .later [] _ _ _ _ said (fun _ h => by cases h) (by kernel_rfl) (fun _ h => by cases h) jSONCut_row_tie rfl ⟨rfl, rfl⟩ (by kernel_rfl) rfl plain (by kernel_rfl)
#print axioms proved
end Go.Proofs.YthbgaphidojneaaGreatDoor.jSONCut
