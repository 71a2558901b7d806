/- For every string the law JSONParses of the package brackenlaw returns true, as a tied card: Parse answers as the reference does, and the empty text is refused. Condition: the library's variables start as their text lays them (the card ties them; utf8.first is pinned). -/
import Derived.Test.YthbgaphidojneaaGreatDoorJsRef6
import Derived.Test.YthbgaphidojneaaGreatDoorJsLaid
import Derived.Test.YthbgaphidojneaaGreatDoorPkWi5
namespace Go.Proofs.YthbgaphidojneaaGreatDoor.jSONParses
open Go.ChangeShapes Go.WideShapes Go.ChangeAt Go.RowKit
open Go.ChangeMaps (open_string shut_string)
set_option linter.unusedVariables false

theorem jp_empty : jpR ⟨#[]⟩ = (zeroSt, 4) := jpar_no (by decide) (fun s _ e => by simp [stJ] at e)
theorem jp_sizes {t : ByteArray} {s : StD} {k : Nat} (h : jpR t = (s, k)) : s.jobs.length ≤ 140737488355328 ∧ s.nodes.length ≤ 140737488355328 ∧ s.leases.length ≤ 140737488355328 := by
  by_cases hk : k = 0
  · subst hk
    have hv := (check_zero V8 s).1 (jp_ok h).1
    obtain ⟨_, hs, _⟩ := hv
    omega
  · rw [jp_err h hk]
    simp [zeroSt]
set_option maxRecDepth 100000 in
set_option maxHeartbeats 4000000 in
theorem walk (a0 : ByteArray) (h0 : a0.size ≤ maxLen) (s0 : a0.data.toList.length ≤ reachBytes) (w : World) (hT : JTabs w) :
    Calls Tryz.prog 3 #[.string a0] w fun e w' => e = .returned (.bool true) ∧ Below w.heap.size w w' := by
  have HT := Lib.hid hT
  have H1 := parse_any a0 w hT
  have H2 : Hid (∀ w', Calls Tryz.prog 8 #[.string a0] w' (ParP (jpR a0) w')) := fun w' => rparse_any a0 w'
  have H3 : Hid (∀ w', JTabs w' → Calls Tryz.prog 7 #[.string ⟨#[]⟩] w' (ParP (zeroSt, 4) w')) := by
    intro w' h'
    have := parse_any ⟨#[]⟩ w' h'
    rwa [jp_empty] at this
  obtain ⟨R, hR⟩ : ∃ R, jpR a0 = R := ⟨_, rfl⟩
  obtain ⟨s, k⟩ := R
  have HZ := Lib.hid (jp_sizes hR)
  rw [hR] at H1 H2
  have H1 := Lib.hid H1
  clear hR h0 s0 hT
  have k1 : ((k : Int) == (k : Int)) = true := by simp
  go_enter Tryz.func3, Tryz.ntmps3
  go_wp2_with fail
  refine H1.out.mono ?_
  rintro e w1 ⟨aj, an, al, cj, cn, cl, rfl, ow, b1⟩
  dsimp only at ow ⊢
  obtain ⟨T1, hT1⟩ : ∃ T, w1.heap.size = T := ⟨_, rfl⟩
  obtain ⟨W1, hW1⟩ : ∃ V, w1.alloc (.cells #[.int .i64 s.rev, .slice aj s.jobs.length cj, .slice an s.nodes.length cn, .slice al s.leases.length cl] 26) = V := ⟨_, rfl⟩
  have bA := below_one w1 (.cells #[.int .i64 s.rev, .slice aj s.jobs.length cj, .slice an s.nodes.length cn, .slice al s.leases.length cl] 26)
  have iN := jbox_new (cj := cj) (cn := cn) (cl := cl) (jown_at ow)
  rw [hW1] at bA iN
  rw [hT1] at iN
  have IN := Lib.hid iN
  have B1 := Lib.hid (below_trans b1 bA b1.size)
  have C2 := Lib.hid (H2.out W1)
  clear ow b1 bA iN H1 H2
  go_wp2_with fail
  refine C2.out.mono ?_
  rintro e w2 ⟨aj2, an2, al2, cj2, cn2, cl2, rfl, ow, b2⟩
  dsimp only at ow ⊢
  obtain ⟨T2, hT2⟩ : ∃ T, w2.heap.size = T := ⟨_, rfl⟩
  obtain ⟨W2, hW2⟩ : ∃ V, w2.alloc (.cells #[.int .i64 s.rev, .slice aj2 s.jobs.length cj2, .slice an2 s.nodes.length cn2, .slice al2 s.leases.length cl2] 26) = V := ⟨_, rfl⟩
  have bA := below_one w2 (.cells #[.int .i64 s.rev, .slice aj2 s.jobs.length cj2, .slice an2 s.nodes.length cn2, .slice al2 s.leases.length cl2] 26)
  have iM := jbox_new (cj := cj2) (cn := cn2) (cl := cl2) (jown_at ow)
  rw [hW2] at bA iM
  rw [hT2] at iM
  have I2 := Lib.hid (jbox_next (jbox_next IN.out b2) bA)
  have IM := Lib.hid iM
  have B2 := Lib.hid (below_trans (below_trans B1.out b2 B1.out.size) bA (Nat.le_trans B1.out.size b2.size))
  have C3 := Lib.hid (H3.out W2 (HT.out.below B2.out))
  clear ow b2 bA iM IN B1 C2 H3
  go_wp2_with fail
  refine C3.out.mono ?_
  rintro e w3 ⟨aj3, an3, al3, cj3, cn3, cl3, rfl, ow, b3⟩
  dsimp only at ow ⊢
  obtain ⟨T3, hT3⟩ : ∃ T, w3.heap.size = T := ⟨_, rfl⟩
  obtain ⟨W3, hW3⟩ : ∃ V, w3.alloc (.cells #[.int .i64 zeroSt.rev, .slice aj3 zeroSt.jobs.length cj3, .slice an3 zeroSt.nodes.length cn3, .slice al3 zeroSt.leases.length cl3] 26) = V := ⟨_, rfl⟩
  have bA := below_one w3 (.cells #[.int .i64 zeroSt.rev, .slice aj3 zeroSt.jobs.length cj3, .slice an3 zeroSt.nodes.length cn3, .slice al3 zeroSt.leases.length cl3] 26)
  rw [hW3] at bA
  have I3 := jbox_next (jbox_next I2.out b3) bA
  have J3 := jbox_next (jbox_next IM.out b3) bA
  have B3 := Lib.hid (below_trans (below_trans B2.out b3 B2.out.size) bA (Nat.le_trans B2.out.size b3.size))
  have HS := Lib.hid (same_is s s aj an al aj2 an2 al2 cj cn cl cj2 cn2 cl2 HZ.out W3 I3.2.1 I3.2.2.1 I3.2.2.2 J3.2.1 J3.2.2.1 J3.2.2.2)
  obtain ⟨z0, z1, z2, z3⟩ := jbox_cells I3
  obtain ⟨x0, x1, x2, x3⟩ := jbox_cells J3
  clear ow b3 bA I3 J3 I2 IM B2 C3
  go_wp2_with fail
  refine HS.out.mono ?_
  rintro e w6 ⟨c, rfl, hcc, b6⟩
  obtain rfl : c = true := hcc.2 (by trivial)
  go_wp2
  go_ret
  exact ⟨rfl, below_trans B3.out b6 B3.out.size⟩
theorem own : ownKnob Tryz.prog.godebug = none := by kernel_rfl
theorem laid_met (os : Os) : laidMet Tryz.prog Rows.jSONParsesRow.laid ((jlaidWorld os).forCall (fun _ _ => 0) ⟨#[], #[.string ⟨#[]⟩], []⟩).memory :=
  laidMet_of_run' 8 (by kernel_rfl) (by kernel_rfl)
theorem reads (os : Os) {H : Type} (enc : TypeId × Value → H) : ∃ places, DataW.whole enc Tryz.prog ((jlaidWorld os).forCall (fun _ _ => 0) ⟨#[], #[.string ⟨#[]⟩], []⟩).memory Tryz.f3.params.toList Rows.jSONParsesSpec.vars false #[Value.string ⟨#[]⟩].toList 8 = some ([.lit (.string [])], [], places) :=
  ⟨[], by kernel_rfl⟩
set_option maxRecDepth 100000 in
set_option maxHeartbeats 2000000 in
theorem lifted (os : Os) (started : os.Started) (H : Type) (enc : TypeId × Value → H) (F : Stop.Interp) :
    ReturnsInHanded {} Tryz.checked os 3 .any ((OpenSpec.ofChange Rows.jSONParsesSpec).preRow enc Tryz.prog Tryz.f3 Rows.jSONParsesRow.domain false Rows.jSONParsesRow.laid) (((OpenSpec.ofChange Rows.jSONParsesSpec).at F).post enc Tryz.prog Tryz.f3 false true false false) := by
  obtain ⟨places, hx⟩ := reads os enc
  refine returnsInHanded_of_row (C := Tryz.checked) (s := (OpenSpec.ofChange Rows.jSONParsesSpec)) own started (by kernel_rfl) Tryz.func3
    (witness_row_atRef (enc := enc) (C := Tryz.checked) false (jlaidWorld os) #[.string ⟨#[]⟩] rfl (by kernel_rfl) (by kernel_rfl) (by kernel_rfl)
      (OpenSpec.preRow_of_cond 8 hx (by kernel_rfl) (fun k hk => by cases hk) (by kernel_rfl) (laid_met os))) ?_
  intro W base args ds gs before hval0 hW _ _ hsz0 hL hSh _
  have hval : ∀ (j : Nat) t v, Tryz.f3.params[j]? = some t → args[j]? = some v → Value.okWide Tryz.prog W .any base t v := hval0
  have hW' := hW
  obtain ⟨p, q, hA0, hV, rfl, hfz, hnd⟩ := hW
  have hA : DataW.TrodAll enc Tryz.prog W 0 (fun _ => true) true Tryz.f3.params.toList args.toList ds p := hA0
  have hsz : (DataW.weightsEach Tryz.prog (Tryz.f3.params.toList ++ Rows.jSONParsesSpec.plain.varTypes Tryz.prog) (ds ++ gs)).all (· ≤ reachBytes) = true := hsz0
  rw [Tryz.params3] at hA hval hsz
  obtain ⟨v0, vs0, d0, ds0, p0, q0, hargs, rfl, rfl, h0, r0⟩ := trodAll_cons hA
  obtain ⟨rfl, rfl, rfl⟩ := trodAll_nil r0
  obtain rfl : args = #[v0] := by cases args; simp_all
  obtain ⟨rfl, rfl⟩ := trodVars_none hV
  obtain ⟨a0, rfl, rfl, rfl, w0⟩ := open_string Tryz.underlying9 (hval 0 9 v0 rfl rfl) h0
  have s0 : a0.data.toList.length ≤ reachBytes := sized_string hsz (j := 0) (t := 9) rfl rfl
  clear hA0 hval0
  refine (walk a0 w0 s0 W (jtabs_of hL hSh)).mono fun e W' ⟨he, bel⟩ => ?_
  subst he
  exact ⟨_, rfl, _, _, _, [], _, [], hW', trodAll_mk1 (shut_bool Tryz.underlying4 _), (trodAll_cons_mk (shut_string Tryz.underlying9 w0) trodAll_mk0), rfl, bel.frame _, fun h => by cases h⟩
theorem said : Rows.JSONParsesSaid :=
  OpenClaim.holds_of_cond 3 Tryz.f3 rfl rfl rfl rfl rfl rfl rfl ⟨rfl, rfl, rfl, rfl, rfl⟩ rfl rfl rfl rfl rfl (by kernel_rfl) Tryz.func3 (by kernel_rfl)
    (of_decide_eq_true (by kernel_rfl)) (by unfold Func.isWrapper; first | (rw [if_pos (by decide +kernel)]; kernel_rfl) | (rw [if_neg (by decide +kernel)]; exact ⟨rfl, rfl⟩))
    (fun os started H enc _ F => by rw [OpenClaim.pre_eq_preRow]; exact lifted os started H enc F)
theorem plain (f : FuncId) (fn : Func) (hf : Tryz.pinned.checked.prog.funcNamed Rows.jSONParsesRow.func = some f) (hfn : Tryz.pinned.checked.prog.funcs[f]? = some fn) :
    true = Tryz.pinned.checked.prog.looks [] ∧ ∀ (j : Nat) t, fn.params[j]? = some t → Tryz.pinned.checked.prog.wantsStandIn t = false := by
  obtain rfl : f = 3 := Option.some.inj ((show Tryz.prog.funcNamed Rows.jSONParsesRow.func = some 3 by kernel_rfl).symm.trans hf) |>.symm
  obtain rfl : fn = Tryz.f3 := (Option.some.inj (Tryz.func3.symm.trans hfn)).symm
  refine ⟨by kernel_rfl, fun j t ht => ?_⟩
  rw [Tryz.params3] at ht
  obtain rfl : t = 9 := by simpa using Array.mem_of_getElem? ht
  exact (show Tryz.prog.wantsStandIn 9 = false by kernel_rfl)
theorem proved : Rows.JSONParsesCardSaid :=
  Claim7.holds_tied_plain_at .later [] _ _ _ _ said (fun _ h => by cases h) (by kernel_rfl) (fun _ h => by cases h) jSONParses_row_tie rfl ⟨rfl, rfl⟩ (by kernel_rfl) rfl plain (by kernel_rfl)
#print axioms proved
end Go.Proofs.YthbgaphidojneaaGreatDoor.jSONParses
