/- For every state s the law JSONWire of the package brackenkeep returns true, as a tied card: a state is the same whether it went as JSON or as bytes. Condition: the library's variables start as their text lays them (the card ties them; utf8.first is pinned). -/
import Derived.Test.YthbgaphidojneaaGreatDoorJsLaw
import Derived.Test.YthbgaphidojneaaGreatDoorPkWi5
namespace Go.Proofs.YthbgaphidojneaaGreatDoor.jSONWire
open Go.ChangeShapes Go.WideShapes Go.ChangeAt Go.RowKit
open Go.ChangeMaps (open_string shut_string)
set_option linter.unusedVariables false

theorem wenc_bad {s : StD} (hc : checkE V8 s ≠ 0) : wencR s 3 = (⟨#[]⟩, checkE V8 s) := by
  have : fitsR s 3 = (false, checkE V8 s) := by unfold fitsR; rw [if_pos hc]
  unfold wencR
  rw [this, if_pos hc]
theorem wenc_good {s : StD} (hc : checkE V8 s = 0) : wencR s 3 = (⟨(stB 3 s).toArray⟩, 0) := by
  have : fitsR s 3 = (fitsD s 3, 0) := by unfold fitsR; rw [if_neg (by simpa using hc), if_pos (by decide)]
  unfold wencR
  rw [this]
  simp [fitsD]
theorem wdec_good {s : StD} (hc : checkE V8 s = 0) : wdecR 3 (stB 3 s) = (s, 0) := by
  unfold wdecR
  rw [if_pos (by decide)]
  exact wire_back hc (by simp [fitsD])
set_option maxRecDepth 100000 in
set_option maxHeartbeats 8000000 in
theorem walk (M : StM) (s : StD) (hw : wState s) (hz : SzState s) (w : World) (hm : StateAt w M s) (hT : JTabs w) :
    Calls Tryz.prog 6 #[stV M s] w fun e w' => e = .returned (.bool true) ∧ Below w.heap.size w w' := by
  obtain ⟨aj, cj, an, cn, al, cl⟩ := M
  obtain ⟨hmj, hmn, hml⟩ := hm
  show Calls _ _ #[.agg #[.int .i64 s.rev, .slice aj s.jobs.length cj, .slice an s.nodes.length cn, .slice al s.leases.length cl]] _ _
  simp only at hmj hmn hml
  obtain ⟨W0, hW0⟩ : ∃ W0, w.alloc (.cells #[.int .i64 s.rev, .slice aj s.jobs.length cj, .slice an s.nodes.length cn, .slice al s.leases.length cl] 26) = W0 := ⟨_, rfl⟩
  have B0 := below_one w (.cells #[.int .i64 s.rev, .slice aj s.jobs.length cj, .slice an s.nodes.length cn, .slice al s.leases.length cl] 26)
  have I0 := jbox_new (cj := cj) (cn := cn) (cl := cl) (And.intro hmj (And.intro hmn hml))
  rw [hW0] at B0 I0
  have HT := Lib.hid hT
  have HW := Lib.hid hw
  have HZ : Hid (s.jobs.length ≤ 140737488355328 ∧ s.nodes.length ≤ 140737488355328 ∧ s.leases.length ≤ 140737488355328) := by
    obtain ⟨h1, h2, h3⟩ := hz
    exact ⟨by have := h1.1; omega, by have := h2.1; omega, by have := h3.1; omega⟩
  have B0 := Lib.hid B0
  have I0 := Lib.hid I0
  have HPr := Lib.hid (printed_is W0 (HT.out.below B0.out))
  clear hmj hmn hml hT hz hw
  go_enter Tryz.func6, Tryz.ntmps6
  go_wp2_with fail
  refine HPr.out.mono ?_
  rintro e w0 ⟨rfl, b0⟩
  have Ip := Lib.hid (jbox_next I0.out b0)
  have Bp := Lib.hid (below_trans B0.out b0 B0.out.size)
  have HWd := Lib.hid (wired_is w0 (HT.out.below Bp.out).tabs)
  clear b0 I0 B0 HPr
  go_wp2_with fail
  refine HWd.out.mono ?_
  rintro e w1 ⟨rfl, b1⟩
  have I1 := Lib.hid (jbox_next Ip.out b1)
  have B1 := Lib.hid (below_trans Bp.out b1 Bp.out.size)
  have hT1 := HT.out.below B1.out
  have HP := Lib.hid (print_any s aj an al cj cn cl HW.out w1 hT1.tabs hT1.pow I1.out.2.1 I1.out.2.2.1 I1.out.2.2.2)
  obtain ⟨z0, z1, z2, z3⟩ := jbox_cells I1.out
  obtain ⟨F, hFF⟩ : ∃ F, prR s = F := ⟨_, rfl⟩
  obtain ⟨G, hG⟩ : ∃ G, wencR s 3 = G := ⟨_, rfl⟩
  have HF := Lib.hid (And.intro hFF hG)
  rw [hFF] at HP
  obtain ⟨u, ec⟩ := F
  obtain ⟨bb, fc⟩ := G
  dsimp only at HP
  clear b1 hT1 Ip Bp HWd
  go_wp2_with fail
  refine HP.out.mono ?_
  rintro e w2 ⟨rfl, b2⟩
  have I2 := Lib.hid (jbox_next I1.out b2)
  have B2 := Lib.hid (below_trans B1.out b2 B1.out.size)
  have hEn := wencode_any s aj an al cj cn cl 3 HW.out w2 (HT.out.below B2.out).tabs I2.out.2.1 I2.out.2.2.1 I2.out.2.2.2
  rw [hG] at hEn
  have HEn := Lib.hid hEn
  clear z0 z1 z2 z3 b2 HP I1 B1 hEn hFF hG
  obtain ⟨z0, z1, z2, z3⟩ := jbox_cells I2.out
  go_wp2_with fail
  refine HEn.out.mono ?_
  rintro e w3 ⟨rfl, b3⟩
  have B3 := Lib.hid (below_trans B2.out b3 B2.out.size)
  clear z0 z1 z2 z3 b3 HEn I2 B2
  obtain ⟨hF, hG⟩ := HF.out
  by_cases hc : checkE V8 s = 0
  · rw [pr_ok hc] at hF
    rw [wenc_good hc] at hG
    obtain ⟨hu, rfl⟩ : baL (stJ s) = u ∧ 0 = ec := by simpa using hF
    obtain ⟨hb, rfl⟩ : (⟨(stB 3 s).toArray⟩ : ByteArray) = bb ∧ 0 = fc := by simpa using hG
    have hl := stJ_len ((check_zero V8 s).1 hc)
    have hul : u.size ≤ 31000 := by rw [← hu, baL_size]; exact hl
    have HPu : Hid (∀ w', JTabs w' → Calls Tryz.prog 7 #[.string u] w' (ParP (s, 0) w')) := by
      intro w' hT'
      have := parse_any u w' hT'
      rwa [← hu, jp_form hc, hu] at this
    have hbs : bb.size ≤ 1152921504606846976 := by
      rw [← hb]
      have := st_len (ok_of_valid (v := 3) ((check_zero V8 s).1 hc) (by simp [fitsD]))
      show (stB 3 s).toArray.size ≤ _
      rw [List.size_toArray]
      omega
    have HDe : Hid (∀ w', JTabs w' → Calls Tryz.prog 16 #[.string bb, .int .i64 3] w' fun e w2 => ∃ aj an al cj cn cl, e = .returned (.tuple #[.agg #[.int .i64 s.rev, .slice aj s.jobs.length cj, .slice an s.nodes.length cn, .slice al s.leases.length cl], .int .i64 0]) ∧ JOwn w'.heap.size aj an al cj cn cl s w2 ∧ Below w'.heap.size w' w2) := by
      intro w' hT'
      have h := wdecode_any bb hbs 3 w' hT'.tabs
      have e : wdecR 3 bb.data.toList = (s, 0) := by rw [← hb]; exact wdec_good hc
      rw [e] at h
      refine h.mono ?_
      rintro e w2 ⟨a1, a2, a3, c1, c2, c3, rfl, r1, r2, r3, b⟩
      exact ⟨a1, a2, a3, c1, c2, c3, rfl, ⟨r1, r2, r3⟩, b⟩
    have HPu3 := Lib.hid (HPu.out w3 (HT.out.below B3.out))
    clear hF hG hl hc hu hb hbs HF HPu
    go_wp2_with fail
    refine HPu3.out.mono ?_
    rintro e w4 ⟨aj', an', al', cj', cn', cl', rfl, ow, b4⟩
    dsimp only at ow ⊢
    obtain ⟨T4, hT4⟩ : ∃ T, w4.heap.size = T := ⟨_, rfl⟩
    obtain ⟨W4, hW4⟩ : ∃ V, w4.alloc (.cells #[.int .i64 s.rev, .slice aj' s.jobs.length cj', .slice an' s.nodes.length cn', .slice al' s.leases.length cl'] 26) = V := ⟨_, rfl⟩
    have bA := below_one w4 (.cells #[.int .i64 s.rev, .slice aj' s.jobs.length cj', .slice an' s.nodes.length cn', .slice al' s.leases.length cl'] 26)
    have iN := jbox_new (cj := cj') (cn := cn') (cl := cl') (jown_at ow)
    rw [hW4] at bA iN
    rw [hT4] at iN
    have IN := Lib.hid iN
    have B4 := Lib.hid (below_trans (below_trans B3.out b4 B3.out.size) bA (Nat.le_trans B3.out.size b4.size))
    have HD4 := Lib.hid (HDe.out W4 (HT.out.below B4.out))
    clear ow b4 bA iN B3 HPu3 HDe
    go_wp2_with fail
    refine HD4.out.mono ?_
    rintro e w5 ⟨aj2, an2, al2, cj2, cn2, cl2, rfl, ow, b5⟩
    obtain ⟨T5, hT5⟩ : ∃ T, w5.heap.size = T := ⟨_, rfl⟩
    obtain ⟨W5, hW5⟩ : ∃ V, w5.alloc (.cells #[.int .i64 s.rev, .slice aj2 s.jobs.length cj2, .slice an2 s.nodes.length cn2, .slice al2 s.leases.length cl2] 26) = V := ⟨_, rfl⟩
    have bA := below_one w5 (.cells #[.int .i64 s.rev, .slice aj2 s.jobs.length cj2, .slice an2 s.nodes.length cn2, .slice al2 s.leases.length cl2] 26)
    have iM := jbox_new (cj := cj2) (cn := cn2) (cl := cl2) (jown_at ow)
    rw [hW5] at bA iM
    rw [hT5] at iM
    have I5 := jbox_next (jbox_next IN.out b5) bA
    have B5 := Lib.hid (below_trans (below_trans B4.out b5 B4.out.size) bA (Nat.le_trans B4.out.size b5.size))
    have HS := Lib.hid (same_is s s aj' an' al' aj2 an2 al2 cj' cn' cl' cj2 cn2 cl2 HZ.out W5 I5.2.1 I5.2.2.1 I5.2.2.2 iM.2.1 iM.2.2.1 iM.2.2.2)
    obtain ⟨z0, z1, z2, z3⟩ := jbox_cells I5
    obtain ⟨x0, x1, x2, x3⟩ := jbox_cells iM
    clear ow b5 bA iM I5 IN B4 HD4
    go_wp2_with fail
    refine HS.out.mono ?_
    rintro e w6 ⟨c, rfl, hcc, b6⟩
    obtain rfl : c = true := hcc.2 (by trivial)
    go_wp2
    go_ret
    exact ⟨rfl, below_trans B5.out b6 B5.out.size⟩
  · rw [pr_no hc] at hF
    rw [wenc_bad hc] at hG
    obtain ⟨R0, hR0⟩ : ∃ R, checkE V8 s = R := ⟨_, rfl⟩
    rw [hR0] at hF hG hc
    obtain ⟨rfl, rfl⟩ : (⟨#[]⟩ : ByteArray) = u ∧ R0 = ec := by simpa using hF
    obtain ⟨rfl, rfl⟩ : (⟨#[]⟩ : ByteArray) = bb ∧ R0 = fc := by simpa using hG
    have k1 : ((R0 : Int) != 0) = true := by simp; omega
    clear hF hG hR0 HF hc
    go_wp2
    go_ret
    exact ⟨rfl, B3.out⟩
theorem own : ownKnob Tryz.prog.godebug = none := by kernel_rfl
theorem laidOut : laidOutB Tryz.prog = true := by kernel_rfl
theorem laid_met (os : Os) : laidMet Tryz.prog Rows.jSONWireRow.laid ((jlaidWorld os).forCall (fun _ _ => 0) ⟨#[], #[.agg #[.int .i64 0, .slice none 0 0, .slice none 0 0, .slice none 0 0]], []⟩).memory :=
  laidMet_of_run' 8 (by kernel_rfl) (by kernel_rfl)
theorem reads (os : Os) {H : Type} (enc : TypeId × Value → H) : ∃ places, DataW.whole enc Tryz.prog ((jlaidWorld os).forCall (fun _ _ => 0) ⟨#[], #[.agg #[.int .i64 0, .slice none 0 0, .slice none 0 0, .slice none 0 0]], []⟩).memory Tryz.f6.params.toList Rows.jSONWireSpec.vars false #[Value.agg #[.int .i64 0, .slice none 0 0, .slice none 0 0, .slice none 0 0]].toList 8 = some ([.agg [.lit (.int .i64 0), .nil, .nil, .nil]], [], places) :=
  ⟨[], by kernel_rfl⟩
set_option maxRecDepth 100000 in
set_option maxHeartbeats 2000000 in
theorem lifted (os : Os) (started : os.Started) (H : Type) (enc : TypeId × Value → H) (F : Stop.Interp) :
    ReturnsInHanded {} Tryz.checked os 6 .any ((OpenSpec.ofChange Rows.jSONWireSpec).preRow enc Tryz.prog Tryz.f6 Rows.jSONWireRow.domain false Rows.jSONWireRow.laid) (((OpenSpec.ofChange Rows.jSONWireSpec).at F).post enc Tryz.prog Tryz.f6 false true false false) := by
  obtain ⟨places, hx⟩ := reads os enc
  refine returnsInHanded_of_row (C := Tryz.checked) (s := (OpenSpec.ofChange Rows.jSONWireSpec)) own started (by kernel_rfl) Tryz.func6
    (witness_row_atRef (enc := enc) (C := Tryz.checked) false (jlaidWorld os) #[.agg #[.int .i64 0, .slice none 0 0, .slice none 0 0, .slice none 0 0]] rfl (by kernel_rfl) (by kernel_rfl) (by kernel_rfl)
      (OpenSpec.preRow_of_cond 8 hx (by kernel_rfl) (fun k hk => by cases hk) (by kernel_rfl) (laid_met os))) ?_
  intro W base args ds gs before hval0 hW _ _ hsz0 hL hSh _
  have hval : ∀ (j : Nat) t v, Tryz.f6.params[j]? = some t → args[j]? = some v → Value.okWide Tryz.prog W .any base t v := hval0
  have hW' := hW
  obtain ⟨p, q, hA0, hV, rfl, hfz, hnd⟩ := hW
  have hA : DataW.TrodAll enc Tryz.prog W 0 (fun _ => true) true Tryz.f6.params.toList args.toList ds p := hA0
  have hsz : (DataW.weightsEach Tryz.prog (Tryz.f6.params.toList ++ Rows.jSONWireSpec.plain.varTypes Tryz.prog) (ds ++ gs)).all (· ≤ reachBytes) = true := hsz0
  rw [Tryz.params6] at hA hval hsz
  obtain ⟨v0, vs0, d0, ds0, p0, q0, hargs, rfl, rfl, h0, r0⟩ := trodAll_cons hA
  obtain ⟨rfl, rfl, rfl⟩ := trodAll_nil r0
  obtain rfl : args = #[v0] := by cases args; simp_all
  obtain ⟨rfl, rfl⟩ := trodVars_none hV
  obtain ⟨M0, st0, rfl, m0, x0, w0⟩ := open_state (hval 0 26 v0 rfl rfl) h0
  have s0 := sized_state hsz rfl (j := 0) rfl x0
  clear hA0 hval0
  refine (walk M0 st0 w0 s0 W m0 (jtabs_of hL hSh)).mono fun e W' ⟨he, bel⟩ => ?_
  subst he
  exact ⟨_, rfl, _, _, _, [], _, [], hW', trodAll_mk1 (shut_bool Tryz.underlying4 _), (trodAll_cons_mk (Below.trod laidOut (by kernel_rfl) (of_decide_eq_true (by kernel_rfl)) h0 bel (fun x hx => by simpa using hW'.lt x (by simp [hx]))) trodAll_mk0), rfl, bel.frame _, fun h => by cases h⟩
theorem said : Rows.JSONWireSaid :=
  OpenClaim.holds_of_cond 6 Tryz.f6 rfl rfl rfl rfl rfl rfl rfl ⟨rfl, rfl, rfl, rfl, rfl⟩ rfl rfl rfl rfl rfl (by kernel_rfl) Tryz.func6 (by kernel_rfl)
    (of_decide_eq_true (by kernel_rfl)) (by unfold Func.isWrapper; first | (rw [if_pos (by decide +kernel)]; kernel_rfl) | (rw [if_neg (by decide +kernel)]; exact ⟨rfl, rfl⟩))
    (fun os started H enc _ F => by rw [OpenClaim.pre_eq_preRow]; exact lifted os started H enc F)
theorem plain (f : FuncId) (fn : Func) (hf : Tryz.pinned.checked.prog.funcNamed Rows.jSONWireRow.func = some f) (hfn : Tryz.pinned.checked.prog.funcs[f]? = some fn) :
    true = Tryz.pinned.checked.prog.looks [] ∧ ∀ (j : Nat) t, fn.params[j]? = some t → Tryz.pinned.checked.prog.wantsStandIn t = false := by
  obtain rfl : f = 6 := Option.some.inj ((show Tryz.prog.funcNamed Rows.jSONWireRow.func = some 6 by kernel_rfl).symm.trans hf) |>.symm
  obtain rfl : fn = Tryz.f6 := (Option.some.inj (Tryz.func6.symm.trans hfn)).symm
  refine ⟨by kernel_rfl, fun j t ht => ?_⟩
  rw [Tryz.params6] at ht
  obtain rfl : t = 26 := by simpa using Array.mem_of_getElem? ht
  exact (show Tryz.prog.wantsStandIn 26 = false by kernel_rfl)
theorem proved : Rows.JSONWireCardSaid :=
  Claim7.holds_tied_plain_at .later [] _ _ _ _ said (fun _ h => by cases h) (by kernel_rfl) (fun _ h => by cases h) jSONWire_row_tie rfl ⟨rfl, rfl⟩ (by kernel_rfl) rfl plain (by kernel_rfl)
#print axioms proved
end Go.Proofs.YthbgaphidojneaaGreatDoor.jSONWire
