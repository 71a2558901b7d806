/- For every state s and string t the law JSONBack of the package brackenkeep returns true, as a tied card: a state is parsed as it was printed; what is parsed is printed so. Condition: the library's variables start as their text lays them (the card ties them; utf8.first is pinned). -/
import Derived.Test.YthbgaphidojneaaGreatDoorJsLaw
import Derived.Test.YthbgaphidojneaaGreatDoorPkWi5
namespace Go.Proofs.YthbgaphidojneaaGreatDoor.jSONBack
open Go.ChangeShapes Go.WideShapes Go.ChangeAt Go.RowKit
open Go.ChangeMaps (open_string shut_string)
set_option linter.unusedVariables false

set_option maxRecDepth 100000 in
set_option maxHeartbeats 8000000 in
theorem walk (M : StM) (s : StD) (a1 : ByteArray) (hw : wState s) (h1 : a1.size ≤ maxLen) (hz : SzState s) (s1 : a1.data.toList.length ≤ reachBytes) (w : World) (hm : StateAt w M s) (hT : JTabs w) :
    Calls Tryz.prog 4 #[stV M s, .string a1] w fun e w' => e = .returned (.bool true) ∧ Below w.heap.size w w' := by
  obtain ⟨aj, cj, an, cn, al, cl⟩ := M
  obtain ⟨hmj, hmn, hml⟩ := hm
  show Calls _ _ #[.agg #[.int .i64 s.rev, .slice aj s.jobs.length cj, .slice an s.nodes.length cn, .slice al s.leases.length cl], .string a1] _ _
  simp only at hmj hmn hml
  obtain ⟨W0, hW0⟩ : ∃ W0, w.alloc (.cells #[.int .i64 s.rev, .slice aj s.jobs.length cj, .slice an s.nodes.length cn, .slice al s.leases.length cl] 26) = W0 := ⟨_, rfl⟩
  have B0 := below_one w (.cells #[.int .i64 s.rev, .slice aj s.jobs.length cj, .slice an s.nodes.length cn, .slice al s.leases.length cl] 26)
  have I0 := jbox_new (cj := cj) (cn := cn) (cl := cl) (And.intro hmj (And.intro hmn hml))
  rw [hW0] at B0 I0
  have HT := Lib.hid hT
  have HW := Lib.hid hw
  have HZ : Hid (s.jobs.length ≤ 140737488355328 ∧ s.nodes.length ≤ 140737488355328 ∧ s.leases.length ≤ 140737488355328) := by
    obtain ⟨h1, h2, h3⟩ := hz
    exact ⟨by have := h1.1; omega, by have := h2.1; omega, by have := h3.1; omega⟩
  have B0 := Lib.hid B0
  have I0 := Lib.hid I0
  have HPr := Lib.hid (printed_is W0 (HT.out.below B0.out))
  clear hmj hmn hml hT hz hw
  clear s1 h1
  go_enter Tryz.func4, Tryz.ntmps4
  go_wp2_with fail
  refine HPr.out.mono ?_
  rintro e w1 ⟨rfl, b1⟩
  have I1 := Lib.hid (jbox_next I0.out b1)
  have B1 := Lib.hid (below_trans B0.out b1 B0.out.size)
  have hT1 := HT.out.below B1.out
  have HP := Lib.hid (print_any s aj an al cj cn cl HW.out w1 hT1.tabs hT1.pow I1.out.2.1 I1.out.2.2.1 I1.out.2.2.2)
  obtain ⟨z0, z1, z2, z3⟩ := jbox_cells I1.out
  have hF : (checkE V8 s = 0 ∧ prR s = (baL (stJ s), 0)) ∨ (checkE V8 s ≠ 0 ∧ prR s = (⟨#[]⟩, checkE V8 s)) := by
    by_cases hc : checkE V8 s = 0
    · exact .inl ⟨hc, pr_ok hc⟩
    · exact .inr ⟨hc, pr_no hc⟩
  have HF := Lib.hid hF
  obtain ⟨F, hFF⟩ : ∃ F, prR s = F := ⟨_, rfl⟩
  rw [hFF] at HP HF
  obtain ⟨u, ec⟩ := F
  dsimp only at HP
  clear b1 hT1 I0 B0 HPr hF hFF
  go_wp2_with fail
  refine HP.out.mono ?_
  rintro e w2 ⟨rfl, b2⟩
  have I2 := Lib.hid (jbox_next I1.out b2)
  have B2 := Lib.hid (below_trans B1.out b2 B1.out.size)
  have es : (⟨s.rev, s.jobs, s.nodes, s.leases⟩ : StD) = s := rfl
  have hCk := check_any s.rev aj an al cj cn cl s.jobs s.nodes s.leases HW.out w2 (HT.out.below B2.out).tabs I2.out.2.1 I2.out.2.2.1 I2.out.2.2.2
  rw [es] at hCk
  have HCk := Lib.hid hCk
  clear z0 z1 z2 z3 b2 HP I1 B1 es hCk
  obtain ⟨z0, z1, z2, z3⟩ := jbox_cells I2.out
  rcases HF.out with ⟨hc, hF⟩ | ⟨hc, hF⟩
  · obtain ⟨hu, rfl⟩ : u = baL (stJ s) ∧ ec = 0 := by simpa using hF
    have hl := stJ_len ((check_zero V8 s).1 hc)
    have hul : u.size ≤ 31000 := by rw [hu, baL_size]; exact hl
    rw [hc] at HCk
    have HPu : Hid (∀ w', JTabs w' → Calls Tryz.prog 7 #[.string u] w' (ParP (s, 0) w')) := by
      intro w' hT'
      have := parse_any u w' hT'
      rwa [hu, jp_form hc, ← hu] at this
    clear hF hl hc hu HF
    go_wp2_with fail
    refine HCk.out.mono ?_
    rintro e w3 ⟨rfl, b3⟩
    have I3 := Lib.hid (jbox_next I2.out b3)
    have B3 := Lib.hid (below_trans B2.out b3 B2.out.size)
    have HPu3 := Lib.hid (HPu.out w3 (HT.out.below B3.out))
    clear z0 z1 z2 z3 b3 HCk I2 B2 HPu
    go_wp2_with fail
    refine HPu3.out.mono ?_
    rintro e w4 ⟨aj', an', al', cj', cn', cl', rfl, ow, b4⟩
    dsimp only at ow ⊢
    obtain ⟨T4, hT4⟩ : ∃ T, w4.heap.size = T := ⟨_, rfl⟩
    obtain ⟨W4, hW4⟩ : ∃ V, w4.alloc (.cells #[.int .i64 s.rev, .slice aj' s.jobs.length cj', .slice an' s.nodes.length cn', .slice al' s.leases.length cl'] 26) = V := ⟨_, rfl⟩
    have bA := below_one w4 (.cells #[.int .i64 s.rev, .slice aj' s.jobs.length cj', .slice an' s.nodes.length cn', .slice al' s.leases.length cl'] 26)
    have iN := jbox_new (cj := cj') (cn := cn') (cl := cl') (jown_at ow)
    rw [hW4] at bA iN
    rw [hT4] at iN
    have I4 := jbox_next (jbox_next I3.out b4) bA
    have B4 := Lib.hid (below_trans (below_trans B3.out b4 B3.out.size) bA (Nat.le_trans B3.out.size b4.size))
    have HS := Lib.hid (same_is s s aj' an' al' aj an al cj' cn' cl' cj cn cl HZ.out W4 iN.2.1 iN.2.2.1 iN.2.2.2 I4.2.1 I4.2.2.1 I4.2.2.2)
    obtain ⟨z0, z1, z2, z3⟩ := jbox_cells I4
    obtain ⟨x0, x1, x2, x3⟩ := jbox_cells iN
    clear ow b4 bA iN I4 I3 B3 HPu3
    go_wp2_with fail
    refine HS.out.mono ?_
    rintro e w5 ⟨c, rfl, hcc, b5⟩
    obtain rfl : c = true := hcc.2 (by trivial)
    have B5 := Lib.hid (below_trans B4.out b5 B4.out.size)
    clear z0 z1 z2 z3 x0 x1 x2 x3 hcc b5 HS B4
    have HPt := Lib.hid (parse_any a1 _ (HT.out.below B5.out))
    obtain ⟨R, hR⟩ : ∃ R, jpR a1 = R := ⟨_, rfl⟩
    rw [hR] at HPt
    obtain ⟨x, f⟩ := R
    have hx : (f = 0 ∧ checkE V8 x = 0 ∧ baL (stJ x) = a1) ∨ (f ≠ 0 ∧ x = zeroSt) := by
      by_cases h0 : f = 0
      · subst h0; exact .inl ⟨rfl, jp_ok hR⟩
      · exact .inr ⟨h0, jp_err hR h0⟩
    have hwx : wState x := by
      rcases hx with ⟨_, h1, _⟩ | ⟨_, rfl⟩
      · exact wState_valid8 h1
      · exact wState_zero
    have HWX := Lib.hid hwx
    have HX := Lib.hid hx
    clear hR hx hwx
    go_wp2_with fail
    refine HPt.out.mono ?_
    rintro e v1 ⟨bj, bn, bl, dj, dn, dl, rfl, ow, g1⟩
    dsimp only at ow ⊢
    obtain ⟨T, hTT⟩ : ∃ T, v1.heap.size = T := ⟨_, rfl⟩
    obtain ⟨V, hV⟩ : ∃ V, v1.alloc (.cells #[.int .i64 x.rev, .slice bj x.jobs.length dj, .slice bn x.nodes.length dn, .slice bl x.leases.length dl] 26) = V := ⟨_, rfl⟩
    have gA := below_one v1 (.cells #[.int .i64 x.rev, .slice bj x.jobs.length dj, .slice bn x.nodes.length dn, .slice bl x.leases.length dl] 26)
    have iV := jbox_new (cj := dj) (cn := dn) (cl := dl) (jown_at ow)
    rw [hV] at gA iV
    rw [hTT] at iV
    have IV := Lib.hid iV
    have BV := Lib.hid (below_trans (below_trans B5.out g1 B5.out.size) gA (Nat.le_trans B5.out.size g1.size))
    have hTV := HT.out.below BV.out
    have HPx := Lib.hid (print_any x bj bn bl dj dn dl HWX.out V hTV.tabs hTV.pow IV.out.2.1 IV.out.2.2.1 IV.out.2.2.2)
    obtain ⟨y0, y1, y2, y3⟩ := jbox_cells IV.out
    clear ow g1 gA iV hTV HPt HWX
    rcases HX.out with ⟨rfl, hcx, hfx⟩ | ⟨hf0, rfl⟩
    · rw [pr_ok hcx] at HPx
      dsimp only at HPx
      rw [hfx] at HPx
      have q1 : (a1.toList == a1.toList) = true := by simp
      clear hcx hfx HX
      go_wp2_with fail
      refine HPx.out.mono ?_
      rintro e v2 ⟨rfl, g2⟩
      go_wp2
      go_ret
      exact ⟨rfl, below_trans BV.out g2 BV.out.size⟩
    · obtain ⟨Q, hQ⟩ : ∃ Q, prR zeroSt = Q := ⟨_, rfl⟩
      rw [hQ] at HPx
      obtain ⟨qf, qc⟩ := Q
      dsimp only at HPx
      have q1 : ((f : Int) != 0) = true := by simp; omega
      clear hQ HX hf0
      go_wp2_with fail
      refine HPx.out.mono ?_
      rintro e v2 ⟨rfl, g2⟩
      have I2 := jbox_next IV.out g2
      obtain ⟨y0', y1', y2', y3'⟩ := jbox_cells I2
      have HS := Lib.hid (same_is zeroSt zeroSt bj bn bl none none none dj dn dl 0 0 0 ⟨by simp [zeroSt], by simp [zeroSt], by simp [zeroSt]⟩ v2 I2.2.1 I2.2.2.1 I2.2.2.2 (fun i h => by simp [zeroSt] at h) (fun i h => by simp [zeroSt] at h) (fun i h => by simp [zeroSt] at h))
      have B2 := Lib.hid (below_trans BV.out g2 BV.out.size)
      clear y0 y1 y2 y3 I2 g2 HPx IV
      go_wp2_with fail
      refine HS.out.mono ?_
      rintro e v3 ⟨c, rfl, hc, g3⟩
      obtain rfl : c = true := hc.2 (by trivial)
      go_wp2
      go_ret
      exact ⟨rfl, below_trans B2.out g3 B2.out.size⟩
  · obtain ⟨rfl, rfl⟩ : u = ⟨#[]⟩ ∧ ec = checkE V8 s := by simpa using hF
    obtain ⟨R0, hR0⟩ : ∃ R, checkE V8 s = R := ⟨_, rfl⟩
    rw [hR0] at HCk hc ⊢
    have k1 : ((R0 : Int) == 0) = false := by rw [beq_eq_false_iff_ne]; omega
    clear hF hR0 HF hc
    go_wp2_with fail
    refine HCk.out.mono ?_
    rintro e w3 ⟨rfl, b3⟩
    have B3 := Lib.hid (below_trans B2.out b3 B2.out.size)
    clear z0 z1 z2 z3 b3 HCk I2 B2
    have HPt := Lib.hid (parse_any a1 _ (HT.out.below B3.out))
    obtain ⟨R, hR⟩ : ∃ R, jpR a1 = R := ⟨_, rfl⟩
    rw [hR] at HPt
    obtain ⟨x, f⟩ := R
    have hx : (f = 0 ∧ checkE V8 x = 0 ∧ baL (stJ x) = a1) ∨ (f ≠ 0 ∧ x = zeroSt) := by
      by_cases h0 : f = 0
      · subst h0; exact .inl ⟨rfl, jp_ok hR⟩
      · exact .inr ⟨h0, jp_err hR h0⟩
    have hwx : wState x := by
      rcases hx with ⟨_, h1, _⟩ | ⟨_, rfl⟩
      · exact wState_valid8 h1
      · exact wState_zero
    have HWX := Lib.hid hwx
    have HX := Lib.hid hx
    clear hR hx hwx
    go_wp2_with fail
    refine HPt.out.mono ?_
    rintro e v1 ⟨bj, bn, bl, dj, dn, dl, rfl, ow, g1⟩
    dsimp only at ow ⊢
    obtain ⟨T, hTT⟩ : ∃ T, v1.heap.size = T := ⟨_, rfl⟩
    obtain ⟨V, hV⟩ : ∃ V, v1.alloc (.cells #[.int .i64 x.rev, .slice bj x.jobs.length dj, .slice bn x.nodes.length dn, .slice bl x.leases.length dl] 26) = V := ⟨_, rfl⟩
    have gA := below_one v1 (.cells #[.int .i64 x.rev, .slice bj x.jobs.length dj, .slice bn x.nodes.length dn, .slice bl x.leases.length dl] 26)
    have iV := jbox_new (cj := dj) (cn := dn) (cl := dl) (jown_at ow)
    rw [hV] at gA iV
    rw [hTT] at iV
    have IV := Lib.hid iV
    have BV := Lib.hid (below_trans (below_trans B3.out g1 B3.out.size) gA (Nat.le_trans B3.out.size g1.size))
    have hTV := HT.out.below BV.out
    have HPx := Lib.hid (print_any x bj bn bl dj dn dl HWX.out V hTV.tabs hTV.pow IV.out.2.1 IV.out.2.2.1 IV.out.2.2.2)
    obtain ⟨y0, y1, y2, y3⟩ := jbox_cells IV.out
    clear ow g1 gA iV hTV HPt HWX
    rcases HX.out with ⟨rfl, hcx, hfx⟩ | ⟨hf0, rfl⟩
    · rw [pr_ok hcx] at HPx
      dsimp only at HPx
      rw [hfx] at HPx
      have q1 : (a1.toList == a1.toList) = true := by simp
      clear hcx hfx HX
      go_wp2_with fail
      refine HPx.out.mono ?_
      rintro e v2 ⟨rfl, g2⟩
      go_wp2
      go_ret
      exact ⟨rfl, below_trans BV.out g2 BV.out.size⟩
    · obtain ⟨Q, hQ⟩ : ∃ Q, prR zeroSt = Q := ⟨_, rfl⟩
      rw [hQ] at HPx
      obtain ⟨qf, qc⟩ := Q
      dsimp only at HPx
      have q1 : ((f : Int) != 0) = true := by simp; omega
      clear hQ HX hf0
      go_wp2_with fail
      refine HPx.out.mono ?_
      rintro e v2 ⟨rfl, g2⟩
      have I2 := jbox_next IV.out g2
      obtain ⟨y0', y1', y2', y3'⟩ := jbox_cells I2
      have HS := Lib.hid (same_is zeroSt zeroSt bj bn bl none none none dj dn dl 0 0 0 ⟨by simp [zeroSt], by simp [zeroSt], by simp [zeroSt]⟩ v2 I2.2.1 I2.2.2.1 I2.2.2.2 (fun i h => by simp [zeroSt] at h) (fun i h => by simp [zeroSt] at h) (fun i h => by simp [zeroSt] at h))
      have B2 := Lib.hid (below_trans BV.out g2 BV.out.size)
      clear y0 y1 y2 y3 I2 g2 HPx IV
      go_wp2_with fail
      refine HS.out.mono ?_
      rintro e v3 ⟨c, rfl, hc, g3⟩
      obtain rfl : c = true := hc.2 (by trivial)
      go_wp2
      go_ret
      exact ⟨rfl, below_trans B2.out g3 B2.out.size⟩
theorem own : ownKnob Tryz.prog.godebug = none := by kernel_rfl
theorem laidOut : laidOutB Tryz.prog = true := by kernel_rfl
theorem laid_met (os : Os) : laidMet Tryz.prog Rows.jSONBackRow.laid ((jlaidWorld os).forCall (fun _ _ => 0) ⟨#[], #[.agg #[.int .i64 0, .slice none 0 0, .slice none 0 0, .slice none 0 0], .string ⟨#[]⟩], []⟩).memory :=
  laidMet_of_run' 8 (by kernel_rfl) (by kernel_rfl)
theorem reads (os : Os) {H : Type} (enc : TypeId × Value → H) : ∃ places, DataW.whole enc Tryz.prog ((jlaidWorld os).forCall (fun _ _ => 0) ⟨#[], #[.agg #[.int .i64 0, .slice none 0 0, .slice none 0 0, .slice none 0 0], .string ⟨#[]⟩], []⟩).memory Tryz.f4.params.toList Rows.jSONBackSpec.vars false #[Value.agg #[.int .i64 0, .slice none 0 0, .slice none 0 0, .slice none 0 0], Value.string ⟨#[]⟩].toList 8 = some ([.agg [.lit (.int .i64 0), .nil, .nil, .nil], .lit (.string [])], [], places) :=
  ⟨[], by kernel_rfl⟩
set_option maxRecDepth 100000 in
set_option maxHeartbeats 2000000 in
theorem lifted (os : Os) (started : os.Started) (H : Type) (enc : TypeId × Value → H) (F : Stop.Interp) :
    ReturnsInHanded {} Tryz.checked os 4 .any ((OpenSpec.ofChange Rows.jSONBackSpec).preRow enc Tryz.prog Tryz.f4 Rows.jSONBackRow.domain false Rows.jSONBackRow.laid) (((OpenSpec.ofChange Rows.jSONBackSpec).at F).post enc Tryz.prog Tryz.f4 false true false false) := by
  obtain ⟨places, hx⟩ := reads os enc
  refine returnsInHanded_of_row (C := Tryz.checked) (s := (OpenSpec.ofChange Rows.jSONBackSpec)) own started (by kernel_rfl) Tryz.func4
    (witness_row_atRef (enc := enc) (C := Tryz.checked) false (jlaidWorld os) #[.agg #[.int .i64 0, .slice none 0 0, .slice none 0 0, .slice none 0 0], .string ⟨#[]⟩] rfl (by kernel_rfl) (by kernel_rfl) (by kernel_rfl)
      (OpenSpec.preRow_of_cond 8 hx (by kernel_rfl) (fun k hk => by cases hk) (by kernel_rfl) (laid_met os))) ?_
  intro W base args ds gs before hval0 hW _ _ hsz0 hL hSh _
  have hval : ∀ (j : Nat) t v, Tryz.f4.params[j]? = some t → args[j]? = some v → Value.okWide Tryz.prog W .any base t v := hval0
  have hW' := hW
  obtain ⟨p, q, hA0, hV, rfl, hfz, hnd⟩ := hW
  have hA : DataW.TrodAll enc Tryz.prog W 0 (fun _ => true) true Tryz.f4.params.toList args.toList ds p := hA0
  have hsz : (DataW.weightsEach Tryz.prog (Tryz.f4.params.toList ++ Rows.jSONBackSpec.plain.varTypes Tryz.prog) (ds ++ gs)).all (· ≤ reachBytes) = true := hsz0
  rw [Tryz.params4] at hA hval hsz
  obtain ⟨v0, vs0, d0, ds0, p0, q0, hargs, rfl, rfl, h0, r0⟩ := trodAll_cons hA
  obtain ⟨v1, vs1, d1, ds1, p1, q1, rfl, rfl, rfl, h1, r1⟩ := trodAll_cons r0
  obtain ⟨rfl, rfl, rfl⟩ := trodAll_nil r1
  obtain rfl : args = #[v0, v1] := by cases args; simp_all
  obtain ⟨rfl, rfl⟩ := trodVars_none hV
  obtain ⟨M0, st0, rfl, m0, x0, w0⟩ := open_state (hval 0 26 v0 rfl rfl) h0
  obtain ⟨a1, rfl, rfl, rfl, w1⟩ := open_string Tryz.underlying9 (hval 1 9 v1 rfl rfl) h1
  have s0 := sized_state hsz rfl (j := 0) rfl x0
  have s1 : a1.data.toList.length ≤ reachBytes := sized_string hsz (j := 1) (t := 9) rfl rfl
  clear hA0 hval0
  refine (walk M0 st0 a1 w0 w1 s0 s1 W m0 (jtabs_of hL hSh)).mono fun e W' ⟨he, bel⟩ => ?_
  subst he
  exact ⟨_, rfl, _, _, _, [], _, [], hW', trodAll_mk1 (shut_bool Tryz.underlying4 _), (trodAll_cons_mk (Below.trod laidOut (by kernel_rfl) (of_decide_eq_true (by kernel_rfl)) h0 bel (fun x hx => by simpa using hW'.lt x (by simp [hx]))) (trodAll_cons_mk (shut_string Tryz.underlying9 w1) trodAll_mk0)), rfl, bel.frame _, fun h => by cases h⟩
theorem said : Rows.JSONBackSaid :=
  OpenClaim.holds_of_cond 4 Tryz.f4 rfl rfl rfl rfl rfl rfl rfl ⟨rfl, rfl, rfl, rfl, rfl⟩ rfl rfl rfl rfl rfl (by kernel_rfl) Tryz.func4 (by kernel_rfl)
    (of_decide_eq_true (by kernel_rfl)) (by unfold Func.isWrapper; first | (rw [if_pos (by decide +kernel)]; kernel_rfl) | (rw [if_neg (by decide +kernel)]; exact ⟨rfl, rfl⟩))
    (fun os started H enc _ F => by rw [OpenClaim.pre_eq_preRow]; exact lifted os started H enc F)
theorem plain (f : FuncId) (fn : Func) (hf : Tryz.pinned.checked.prog.funcNamed Rows.jSONBackRow.func = some f) (hfn : Tryz.pinned.checked.prog.funcs[f]? = some fn) :
    true = Tryz.pinned.checked.prog.looks [] ∧ ∀ (j : Nat) t, fn.params[j]? = some t → Tryz.pinned.checked.prog.wantsStandIn t = false := by
  obtain rfl : f = 4 := Option.some.inj ((show Tryz.prog.funcNamed Rows.jSONBackRow.func = some 4 by kernel_rfl).symm.trans hf) |>.symm
  obtain rfl : fn = Tryz.f4 := (Option.some.inj (Tryz.func4.symm.trans hfn)).symm
  refine ⟨by kernel_rfl, fun j t ht => ?_⟩
  rw [Tryz.params4] at ht
  have hm : t = 26 ∨ t = 9 := by simpa using Array.mem_of_getElem? ht
  rcases hm with rfl | rfl
  · exact (show Tryz.prog.wantsStandIn 26 = false by kernel_rfl)
  · exact (show Tryz.prog.wantsStandIn 9 = false by kernel_rfl)
theorem proved : Rows.JSONBackCardSaid :=
  Claim7.holds_tied_plain_at .later [] _ _ _ _ said (fun _ h => by cases h) (by kernel_rfl) (fun _ h => by cases h) jSONBack_row_tie rfl ⟨rfl, rfl⟩ (by kernel_rfl) rfl plain (by kernel_rfl)
#print axioms proved
end Go.Proofs.YthbgaphidojneaaGreatDoor.jSONBack
