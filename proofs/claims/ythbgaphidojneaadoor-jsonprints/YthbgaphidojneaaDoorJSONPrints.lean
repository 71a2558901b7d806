/- For every state the law JSONPrints of the package brackenlaw returns true, as a tied card: Print answers as the reference does, and a bad state is refused. Condition: the library's variables start as their text lays them (the card ties them; utf8.first is pinned). -/
import Derived.Test.YthbgaphidojneaaDoorJsRPrint
import Derived.Test.YthbgaphidojneaaDoorJsLaid
import Derived.Test.YthbgaphidojneaaDoorPkSt2
namespace Go.Proofs.YthbgaphidojneaaDoor.jSONPrints
open Go.ChangeShapes Go.WideShapes Go.ChangeAt Go.RowKit
set_option linter.unusedVariables false

def badSt : StD := ⟨-1, [], [], []⟩
theorem bad_wf : wState badSt := ⟨by decide, fun _ h => by simp [badSt] at h, fun _ h => by simp [badSt] at h, fun _ h => by simp [badSt] at h⟩
theorem bad_at (w : World) : JobsAt w none badSt.jobs ∧ NodesAt w none badSt.nodes ∧ LeasesAt w none badSt.leases := ⟨fun i h => by simp [badSt] at h, fun i h => by simp [badSt] at h, fun i h => by simp [badSt] at h⟩
theorem bad_pr : prR badSt = (⟨#[]⟩, 1) := by
  have h : checkE V8 badSt = 1 := rfl
  rw [pr_no (by rw [h]; decide), h]
set_option maxRecDepth 100000 in
set_option maxHeartbeats 4000000 in
theorem walk (M : StM) (s : StD) (hw : wState s) (hz : SzState s) (w : World) (hm : StateAt w M s) (hT : JTabs w) :
    Calls Tryd.prog 3 #[stV M s] w fun e w' => e = .returned (.bool true) ∧ Below w.heap.size w w' := by
  obtain ⟨aj, cj, an, cn, al, cl⟩ := M
  obtain ⟨hmj, hmn, hml⟩ := hm
  show Calls _ _ #[.agg #[.int .i64 s.rev, .slice aj s.jobs.length cj, .slice an s.nodes.length cn, .slice al s.leases.length cl]] _ _
  simp only at hmj hmn hml
  obtain ⟨W0, hW0⟩ : ∃ W0, w.alloc (.cells #[.int .i64 s.rev, .slice aj s.jobs.length cj, .slice an s.nodes.length cn, .slice al s.leases.length cl] 26) = W0 := ⟨_, rfl⟩
  have q := box_new4 w (.int .i64 s.rev) (.slice aj s.jobs.length cj) (.slice an s.nodes.length cn) (.slice al s.leases.length cl) 26
  have B0 := below_one w (.cells #[.int .i64 s.rev, .slice aj s.jobs.length cj, .slice an s.nodes.length cn, .slice al s.leases.length cl] 26)
  rw [hW0] at B0 q
  have HT := Lib.hid hT
  have m0 := And.intro (jobsAt_next hmj B0) (And.intro (nodesAt_next hmn B0) (leasesAt_next hml B0))
  have hT0 := hT.below B0
  have H0 := Lib.hid (print_any s aj an al cj cn cl hw W0 hT0.tabs hT0.pow m0.1 m0.2.1 m0.2.2)
  have H1 : Hid (∀ w', Below W0.heap.size W0 w' → Calls Tryd.prog 7 #[.agg #[.int .i64 s.rev, .slice aj s.jobs.length cj, .slice an s.nodes.length cn, .slice al s.leases.length cl]] w' fun e w2 => e = .returned (.tuple #[.string (prR s).1, .int .i64 (prR s).2]) ∧ Below w'.heap.size w' w2) := fun w' b => rprint_any s aj an al cj cn cl w' (jobsAt_next m0.1 b) (nodesAt_next m0.2.1 b) (leasesAt_next m0.2.2 b)
  have H2 : Hid (∀ w', Below w.heap.size w w' → Calls Tryd.prog 6 #[.agg #[.int .i64 (-1), .slice none 0 0, .slice none 0 0, .slice none 0 0]] w' fun e w2 => e = .returned (.tuple #[.string ⟨#[]⟩, .int .i64 1]) ∧ Below w'.heap.size w' w2) := by
    intro w' b
    have := print_any badSt none none none 0 0 0 bad_wf w' (hT.below b).tabs (hT.below b).pow (bad_at _).1 (bad_at _).2.1 (bad_at _).2.2
    rw [bad_pr] at this
    exact this
  have d0 := q.1 0 _ rfl
  have d1 := q.1 1 _ rfl
  have d2 := q.1 2 _ rfl
  have d3 := q.1 3 _ rfl
  have hq := q.2
  obtain ⟨R, hR⟩ : ∃ R, prR s = R := ⟨_, rfl⟩
  rw [hR] at H0 H1
  obtain ⟨F, ec⟩ := R
  dsimp only at H0 H1
  have HB0 := Lib.hid B0
  clear hmj hmn hml hT hT0 m0 hz hw q B0 hR
  have t1 : (F.toList == F.toList) = true := by simp
  go_enter Tryd.func3, Tryd.ntmps3
  go_wp2_with fail
  refine H0.out.mono ?_
  rintro e w1 ⟨rfl, b1⟩
  have c0 : w1.cell? ⟨w.heap.size, 0, none⟩ = some (.int .i64 s.rev) := by rw [b1.cell (p := ⟨w.heap.size, 0, none⟩) hq]; exact d0
  have c1 : w1.cell? ⟨w.heap.size, 1, none⟩ = some (.slice aj s.jobs.length cj) := by rw [b1.cell (p := ⟨w.heap.size, 1, none⟩) hq]; exact d1
  have c2 : w1.cell? ⟨w.heap.size, 2, none⟩ = some (.slice an s.nodes.length cn) := by rw [b1.cell (p := ⟨w.heap.size, 2, none⟩) hq]; exact d2
  have c3 : w1.cell? ⟨w.heap.size, 3, none⟩ = some (.slice al s.leases.length cl) := by rw [b1.cell (p := ⟨w.heap.size, 3, none⟩) hq]; exact d3
  have H1' := Lib.hid (H1.out w1 b1)
  have B1 := Lib.hid (below_trans HB0.out b1 HB0.out.size)
  clear d0 d1 d2 d3 b1 H1 H0
  go_wp2_with fail
  refine H1'.out.mono ?_
  rintro e w2 ⟨rfl, b2⟩
  have B2 := Lib.hid (below_trans B1.out b2 B1.out.size)
  clear b2 H1' c0 c1 c2 c3
  go_wp2_with fail
  refine (bad_is _).mono ?_
  rintro e w3 ⟨rfl, b3⟩
  have B3 := Lib.hid (below_trans B2.out b3 B2.out.size)
  have H2' := Lib.hid (H2.out w3 B3.out)
  clear b3 H2
  go_wp2_with fail
  refine H2'.out.mono ?_
  rintro e w4 ⟨rfl, b4⟩
  go_wp2
  go_ret
  exact ⟨rfl, below_trans B3.out b4 B3.out.size⟩
theorem own : ownKnob Tryd.prog.godebug = none := by kernel_rfl
theorem laidOut : laidOutB Tryd.prog = true := by kernel_rfl
theorem laid_met (os : Os) : laidMet Tryd.prog Rows.jSONPrintsRow.laid ((jlaidWorld os).forCall (fun _ _ => 0) ⟨#[], #[.agg #[.int .i64 0, .slice none 0 0, .slice none 0 0, .slice none 0 0]], []⟩).memory :=
  laidMet_of_run' 8 (by kernel_rfl) (by kernel_rfl)
theorem reads (os : Os) {H : Type} (enc : TypeId × Value → H) : ∃ places, DataW.whole enc Tryd.prog ((jlaidWorld os).forCall (fun _ _ => 0) ⟨#[], #[.agg #[.int .i64 0, .slice none 0 0, .slice none 0 0, .slice none 0 0]], []⟩).memory Tryd.f3.params.toList Rows.jSONPrintsSpec.vars false #[Value.agg #[.int .i64 0, .slice none 0 0, .slice none 0 0, .slice none 0 0]].toList 8 = some ([.agg [.lit (.int .i64 0), .nil, .nil, .nil]], [], places) :=
  ⟨[], by kernel_rfl⟩
set_option maxRecDepth 100000 in
set_option maxHeartbeats 2000000 in
theorem lifted (os : Os) (started : os.Started) (H : Type) (enc : TypeId × Value → H) (F : Stop.Interp) :
    ReturnsInHanded {} Tryd.checked os 3 .any ((OpenSpec.ofChange Rows.jSONPrintsSpec).preRow enc Tryd.prog Tryd.f3 Rows.jSONPrintsRow.domain false Rows.jSONPrintsRow.laid) (((OpenSpec.ofChange Rows.jSONPrintsSpec).at F).post enc Tryd.prog Tryd.f3 false true false false) := by
  obtain ⟨places, hx⟩ := reads os enc
  refine returnsInHanded_of_row (C := Tryd.checked) (s := (OpenSpec.ofChange Rows.jSONPrintsSpec)) own started (by kernel_rfl) Tryd.func3
    (witness_row_atRef (enc := enc) (C := Tryd.checked) false (jlaidWorld os) #[.agg #[.int .i64 0, .slice none 0 0, .slice none 0 0, .slice none 0 0]] rfl (by kernel_rfl) (by kernel_rfl) (by kernel_rfl)
      (OpenSpec.preRow_of_cond 8 hx (by kernel_rfl) (fun k hk => by cases hk) (by kernel_rfl) (laid_met os))) ?_
  intro W base args ds gs before hval0 hW _ _ hsz0 hL hSh _
  have hval : ∀ (j : Nat) t v, Tryd.f3.params[j]? = some t → args[j]? = some v → Value.okWide Tryd.prog W .any base t v := hval0
  have hW' := hW
  obtain ⟨p, q, hA0, hV, rfl, hfz, hnd⟩ := hW
  have hA : DataW.TrodAll enc Tryd.prog W 0 (fun _ => true) true Tryd.f3.params.toList args.toList ds p := hA0
  have hsz : (DataW.weightsEach Tryd.prog (Tryd.f3.params.toList ++ Rows.jSONPrintsSpec.plain.varTypes Tryd.prog) (ds ++ gs)).all (· ≤ reachBytes) = true := hsz0
  rw [Tryd.params3] at hA hval hsz
  obtain ⟨v0, vs0, d0, ds0, p0, q0, hargs, rfl, rfl, h0, r0⟩ := trodAll_cons hA
  obtain ⟨rfl, rfl, rfl⟩ := trodAll_nil r0
  obtain rfl : args = #[v0] := by cases args; simp_all
  obtain ⟨rfl, rfl⟩ := trodVars_none hV
  obtain ⟨M0, st0, rfl, m0, x0, w0⟩ := open_state (hval 0 26 v0 rfl rfl) h0
  have s0 := sized_state hsz rfl (j := 0) rfl x0
  clear hA0 hval0
  refine (walk M0 st0 w0 s0 W m0 (jtabs_of hL hSh)).mono fun e W' ⟨he, bel⟩ => ?_
  subst he
  exact ⟨_, rfl, _, _, _, [], _, [], hW', trodAll_mk1 (shut_bool Tryd.underlying4 _), (trodAll_cons_mk (Below.trod laidOut (by kernel_rfl) (of_decide_eq_true (by kernel_rfl)) h0 bel (fun x hx => by simpa using hW'.lt x (by simp [hx]))) trodAll_mk0), rfl, bel.frame _, fun h => by cases h⟩
theorem said : Rows.JSONPrintsSaid :=
  OpenClaim.holds_of_cond 3 Tryd.f3 rfl rfl rfl rfl rfl rfl rfl ⟨rfl, rfl, rfl, rfl, rfl⟩ rfl rfl rfl rfl rfl (by kernel_rfl) Tryd.func3 (by kernel_rfl)
    (of_decide_eq_true (by kernel_rfl)) (by unfold Func.isWrapper; first | (rw [if_pos (by decide +kernel)]; kernel_rfl) | (rw [if_neg (by decide +kernel)]; exact ⟨rfl, rfl⟩))
    (fun os started H enc _ F => by rw [OpenClaim.pre_eq_preRow]; exact lifted os started H enc F)
theorem plain (f : FuncId) (fn : Func) (hf : Tryd.pinned.checked.prog.funcNamed Rows.jSONPrintsRow.func = some f) (hfn : Tryd.pinned.checked.prog.funcs[f]? = some fn) :
    false = Tryd.pinned.checked.prog.looks [] ∧ ∀ (j : Nat) t, fn.params[j]? = some t → Tryd.pinned.checked.prog.wantsStandIn t = false := by
  obtain rfl : f = 3 := Option.some.inj ((show Tryd.prog.funcNamed Rows.jSONPrintsRow.func = some 3 by kernel_rfl).symm.trans hf) |>.symm
  obtain rfl : fn = Tryd.f3 := (Option.some.inj (Tryd.func3.symm.trans hfn)).symm
  refine ⟨by kernel_rfl, fun j t ht => ?_⟩
  rw [Tryd.params3] at ht
  obtain rfl : t = 26 := by simpa using Array.mem_of_getElem? ht
  exact (show Tryd.prog.wantsStandIn 26 = false by kernel_rfl)
theorem proved : Rows.JSONPrintsCardSaid :=
  Claim7.holds_tied_plain_at .later [] _ _ _ _ said (fun _ h => by cases h) (by kernel_rfl) (fun _ h => by cases h) jSONPrints_row_tie rfl ⟨rfl, rfl⟩ (by kernel_rfl) rfl plain (by kernel_rfl)
#print axioms proved
end Go.Proofs.YthbgaphidojneaaDoor.jSONPrints
