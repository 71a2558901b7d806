/- For every two int64 a and b, the law ZigOrder of the package brackenkeep returns true: of the halves of a and b, the one nearer to nought has the smaller Zig, and opposite ones have different ones. No condition. -/
import Derived.Test.YtmiidfeckchjoabTold
import Derived.OpenShut
import Derived.ShutString
import Derived.SizedLaws
import Derived.ChangeOld
namespace Go.Proofs.Ytmiidfeckchjoab.zigOrder
open Go.ChangeShapes Go.WideShapes Go.ChangeAt Go.RowKit
open Go.ChangeMaps (open_string shut_string)
set_option linter.unusedVariables false

theorem half_bd {a : Int} (h : (Lit.int .i64 a).wf = true) : -4611686018427387904 ≤ wrap64 (a.tdiv 2) ∧ wrap64 (a.tdiv 2) ≤ 4611686018427387904 := by
  have := i64_bd h
  have h2 : -4611686018427387904 ≤ a.tdiv 2 ∧ a.tdiv 2 ≤ 4611686018427387904 := by
    rcases Int.le_total 0 a with h0 | h0
    · rw [Int.tdiv_eq_ediv_of_nonneg h0]; omega
    · have : a.tdiv 2 = -((-a).tdiv 2) := by rw [Int.neg_tdiv]; omega
      rw [this, Int.tdiv_eq_ediv_of_nonneg (by omega)]; omega
  unfold wrap64; omega
theorem wf_of {a : Int} (h : -4611686018427387904 ≤ a ∧ a ≤ 4611686018427387904) : (Lit.int .i64 a).wf = true := by
  simp [Lit.wf, IntKind.min, IntKind.max, IntKind.signed, IntKind.bits]; omega
theorem order (A B : Int) : ((A < B ∨ A < -B) ∧ (-A < B ∨ -A < -B) → zig A < zig B) ∧ (A = -B → A ≠ 0 → zig A ≠ zig B) := by
  unfold zig
  by_cases h1 : A < 0 <;> by_cases h2 : B < 0 <;> simp only [h1, h2, if_true, if_false] <;> omega
set_option maxRecDepth 100000 in
set_option maxHeartbeats 1000000 in
theorem walk (a0 a1 : Int) (w0 : (Lit.int .i64 a0).wf = true) (w1 : (Lit.int .i64 a1).wf = true) (w : World) :
    Calls Try.prog 3 #[.int .i64 a0, .int .i64 a1] w fun e w' => e = .returned (.bool true) ∧ Below w.heap.size w w' := by
  have b0 := half_bd w0
  have b1 := half_bd w1
  obtain ⟨A, hA⟩ : ∃ A, wrap64 (a0.tdiv 2) = A := ⟨_, rfl⟩
  obtain ⟨B, hB⟩ : ∃ B, wrap64 (a1.tdiv 2) = B := ⟨_, rfl⟩
  rw [hA] at b0
  rw [hB] at b1
  have v0 := wf_of b0
  have v1 := wf_of b1
  have n0 : wrap64 (-A) = -A := by unfold wrap64; omega
  have n1 : wrap64 (-B) = -B := by unfold wrap64; omega
  have V0 := Lib.hid v0
  have V1 := Lib.hid v1
  clear b0 b1 w0 w1 v0 v1
  go_enter Try.func3, Try.ntmps3
  go_wp2_with fail
  refine (zig_any _ _ V0.out).mono ?_
  rintro e w3 ⟨rfl, rfl⟩
  go_wp2_with fail
  refine (zig_any _ _ V1.out).mono ?_
  rintro e w3 ⟨rfl, rfl⟩
  go_wp2_with fail
  refine (told_any _).mono ?_
  rintro e w3 ⟨rfl, rfl⟩
  have HF := Lib.hid (order A B)
  generalize zig A = x at *
  generalize zig B = y at *
  go_wp2
  all_goals
    have hF := HF.out
    clear HF
  all_goals go_ret
  all_goals
    refine ⟨congrArg (fun b => Ending.returned (.bool b)) ?_, Below.refl _ _⟩
    simp
    try omega

theorem own : ownKnob Try.prog.godebug = none := by kernel_rfl
set_option maxRecDepth 100000 in
theorem lifted (os : Os) (started : os.Started) (H : Type) (enc : TypeId × Value → H) :
    ReturnsInHanded {} Try.checked os 3 .any (Rows.zigOrderSpec.pre6 enc Try.prog Try.f3 Rows.zigOrderRow.domain false) (Rows.zigOrderSpec.post enc Try.prog Try.f3 false true false false) := by
  refine returnsInHanded_of_change (C := Try.checked) own started (by kernel_rfl) Try.func3
    (ChangeSpec.witness6 (enc := enc) (C := Try.checked) false ⟨#[], #[.int .i64 0, .int .i64 0], []⟩ 8 (by kernel_rfl) (by kernel_rfl) (by kernel_rfl) (by kernel_rfl)) ?_
  intro W base args ds gs before hval0 hW hcnd _
  have hval : ∀ (j : Nat) t v, Try.f3.params[j]? = some t → args[j]? = some v → Value.okWide Try.prog W .any base t v := hval0
  have hW' := hW
  obtain ⟨p, q, hA0, hV, rfl, hfz, hnd⟩ := hW
  have hA : DataW.TrodAll enc Try.prog W 0 (fun _ => true) true Try.f3.params.toList args.toList ds p := hA0
  rw [Try.params3] at hA hval
  obtain ⟨v0, vs0, d0, ds0, p0, q0, hargs, rfl, rfl, h0, r0⟩ := trodAll_cons hA
  obtain ⟨v1, vs1, d1, ds1, p1, q1, rfl, rfl, rfl, h1, r1⟩ := trodAll_cons r0
  obtain ⟨rfl, rfl, rfl⟩ := trodAll_nil r1
  obtain rfl : args = #[v0, v1] := by cases args; simp_all
  obtain ⟨rfl, rfl⟩ := trodVars_none hV
  obtain ⟨a0, rfl, rfl, rfl, w0⟩ := open_int Try.underlying2 (hval 0 2 v0 rfl rfl) h0
  obtain ⟨a1, rfl, rfl, rfl, w1⟩ := open_int Try.underlying2 (hval 1 2 v1 rfl rfl) h1

  clear hA0 hval0
  refine (walk a0 a1 w0 w1 W).mono fun e W' ⟨he, bel⟩ => ?_
  subst he
  exact ⟨_, rfl, _, _, _, [], _, [], hW', trodAll_mk1 (shut_bool Try.underlying4 _), (trodAll_cons_mk (shut_int Try.underlying2 w0) (trodAll_cons_mk (shut_int Try.underlying2 w1) trodAll_mk0)), rfl, bel.frame _, fun h => by cases h⟩

theorem over : Rows.zigOrderRow.holds Try.pinned (OpenSpec.ofChange Rows.zigOrderSpec) :=
  OpenClaim.holds_of_wide 3 Try.f3 rfl rfl rfl rfl rfl rfl rfl ⟨rfl, rfl, rfl, rfl, rfl⟩ rfl rfl rfl rfl rfl (by kernel_rfl) Try.func3 (by kernel_rfl)
    (of_decide_eq_true (by kernel_rfl)) (by unfold Func.isWrapper; first | (rw [if_pos (by decide +kernel)]; kernel_rfl) | (rw [if_neg (by decide +kernel)]; exact ⟨rfl, rfl⟩))
    (fun os started H enc _ => lifted os started H enc)

theorem proved : Rows.ZigOrderSaid := over
#print axioms proved
end Go.Proofs.Ytmiidfeckchjoab.zigOrder
