/- The law Names of the package brackenlaw, which takes no argument, returns true: the error codes, limits and kinds have the documented values. No condition. -/
import Derived.Test.YtmiidfeckchjoaaRows
import Derived.WalkKit
import Derived.WalkSpells
import Derived.ProofKit
import Derived.Below
import Derived.Lib.Hide
import Derived.OpenShut
import Derived.ShutString
import Derived.SizedLaws
import Derived.ChangeOld
namespace Go.Proofs.Ytmiidfeckchjoaa.names
open Go.ChangeShapes Go.WideShapes Go.ChangeAt Go.RowKit
open Go.ChangeMaps (open_string shut_string)
set_option linter.unusedVariables false

/-- Eq of two rows that hold the same numbers. -/
theorem eq_same (g1 g2 n : Nat) (z : Nat → Int) (w : World) (hn : n ≤ 1000000) (h1 : ∀ j, j < n → w.cell? ⟨g1, j, none⟩ = some (.int .i64 (z j))) (h2 : ∀ j, j < n → w.cell? ⟨g2, j, none⟩ = some (.int .i64 (z j))) :
    Calls Try.prog 12 #[.slice (some ⟨g1, 0, none⟩) n n, .slice (some ⟨g2, 0, none⟩) n n] w fun e w' => e = .returned (.bool true) ∧ w = w' := by
  have H1 := Lib.hid h1
  have H2 := Lib.hid h2
  clear h1 h2
  go_enter Try.func12, Try.ntmps12
  go_wp2
  go_loop [14] (fun i => ∃ k : Nat, k ≤ n ∧ i = .int .i64 k) (fun i => n - (intOf i).toNat)
  case atStart => exact ⟨0, by omega, rfl⟩
  case round =>
    obtain ⟨k, hk, rfl⟩ := hrel
    by_cases hlt : k < n
    · have c1 := H1.out k hlt
      have c2 := H2.out k hlt
      go_wp2
      go_round
      case rel => exact ⟨k + 1, by omega, by go_num⟩
      case measure => simp [intOf]; omega
    · go_wp2
      go_ret
      exact ⟨rfl, rfl⟩
/-- The documented numbers. -/
def zs : List Int := [16, 1000, 1000000, 100, 1099511627776, 40, 20, 6000, 3, 8, 8, 30, 60, 1, 2, 3, 4, 1, 2, 3, 4, 5, 6, 7, 8, 9]
theorem tab (j : Nat) (hj : j < 26) : (#[.int .i64 16, .int .i64 1000, .int .i64 1000000, .int .i64 100, .int .i64 1099511627776, .int .i64 40, .int .i64 20, .int .i64 6000, .int .i64 3, .int .i64 8, .int .i64 8, .int .i64 30, .int .i64 60, .int .i64 1, .int .i64 2, .int .i64 3, .int .i64 4, .int .i64 1, .int .i64 2, .int .i64 3, .int .i64 4, .int .i64 5, .int .i64 6, .int .i64 7, .int .i64 8, .int .i64 9] : Array Value)[j]? = some (.int .i64 (zs.getD j 0)) := by
  have e : (#[.int .i64 16, .int .i64 1000, .int .i64 1000000, .int .i64 100, .int .i64 1099511627776, .int .i64 40, .int .i64 20, .int .i64 6000, .int .i64 3, .int .i64 8, .int .i64 8, .int .i64 30, .int .i64 60, .int .i64 1, .int .i64 2, .int .i64 3, .int .i64 4, .int .i64 1, .int .i64 2, .int .i64 3, .int .i64 4, .int .i64 5, .int .i64 6, .int .i64 7, .int .i64 8, .int .i64 9] : Array Value) = (zs.map (Value.int .i64)).toArray := rfl
  have hl : j < zs.length := hj
  rw [e]
  simp [hl]
theorem cellsA (w : World) (c0 cs cs' : Array Value) (t0 t1 t2 j : Nat) (v : Value) (h : cs[j]? = some v) : (((w.alloc (.cells c0 t0)).alloc (.cells cs t1)).alloc (.cells cs' t2)).cell? ⟨w.heap.size + 1, j, none⟩ = some v := by
  simp [go_sem, h]
theorem cellsB (w : World) (c0 cs cs' : Array Value) (t0 t1 t2 j : Nat) (v : Value) (h : cs'[j]? = some v) : (((w.alloc (.cells c0 t0)).alloc (.cells cs t1)).alloc (.cells cs' t2)).cell? ⟨w.heap.size + 1 + 1, j, none⟩ = some v := by
  simp [go_sem, h]
set_option maxRecDepth 100000 in
set_option maxHeartbeats 400000 in
theorem walk (w : World) :
    Calls Try.prog 3 #[] w fun e w' => e = .returned (.bool true) ∧ Below w.heap.size w w' := by
  go_enter Try.func3, Try.ntmps3
  go_wp2
  go_loop [5] (fun i => ∃ k : Nat, k ≤ 11 ∧ i = .int .i64 k) (fun i => 11 - (intOf i).toNat)
  case atStart => exact ⟨0, by omega, rfl⟩
  case round =>
    obtain ⟨k, hk, rfl⟩ := hrel
    by_cases hlt : k < 11
    · rcases (show k = 0 ∨ k = 1 ∨ k = 2 ∨ k = 3 ∨ k = 4 ∨ k = 5 ∨ k = 6 ∨ k = 7 ∨ k = 8 ∨ k = 9 ∨ k = 10 by omega) with rfl | rfl | rfl | rfl | rfl | rfl | rfl | rfl | rfl | rfl | rfl
      all_goals go_wp2
      all_goals go_round
      all_goals first | (case rel => exact ⟨_, by decide, rfl⟩) | skip
      all_goals simp [intOf]
    · go_wp2_with fail
      refine (eq_same _ _ 26 (fun j => zs.getD j 0) _ (by decide) (fun j hj => cellsA w _ _ _ _ _ _ j _ (tab j hj)) (fun j hj => cellsB w _ _ _ _ _ _ j _ (tab j hj))).mono ?_
      rintro e w3 ⟨rfl, rfl⟩
      go_wp2
      go_ret
      exact ⟨rfl, (((Below.refl _ _).alloc (Nat.le_refl _) _).alloc (by simp) _).alloc (by simp; omega) _⟩

theorem own : ownKnob Try.prog.godebug = none := by kernel_rfl
set_option maxRecDepth 100000 in
theorem lifted (os : Os) (started : os.Started) (H : Type) (enc : TypeId × Value → H) :
    ReturnsInHanded {} Try.checked os 3 .any (Rows.namesSpec.pre6 enc Try.prog Try.f3 Rows.namesRow.domain false) (Rows.namesSpec.post enc Try.prog Try.f3 false true false false) := by
  refine returnsInHanded_of_change (C := Try.checked) own started (by kernel_rfl) Try.func3
    (ChangeSpec.witness6 (enc := enc) (C := Try.checked) false ⟨#[], #[], []⟩ 8 (by kernel_rfl) (by kernel_rfl) (by kernel_rfl) (by kernel_rfl)) ?_
  intro W base args ds gs before hval0 hW hcnd _
  have hval : ∀ (j : Nat) t v, Try.f3.params[j]? = some t → args[j]? = some v → Value.okWide Try.prog W .any base t v := hval0
  have hW' := hW
  obtain ⟨p, q, hA0, hV, rfl, hfz, hnd⟩ := hW
  have hA : DataW.TrodAll enc Try.prog W 0 (fun _ => true) true Try.f3.params.toList args.toList ds p := hA0
  rw [Try.params3] at hA hval
  obtain ⟨rfl, rfl, rfl⟩ := trodAll_none hA
  obtain ⟨rfl, rfl⟩ := trodVars_none hV


  clear hA0 hval0
  refine (walk  W).mono fun e W' ⟨he, bel⟩ => ?_
  subst he
  exact ⟨_, rfl, _, _, _, [], _, [], hW', trodAll_mk1 (shut_bool Try.underlying4 _), trodAll_mk0, rfl, bel.frame _, fun h => by cases h⟩

theorem over : Rows.namesRow.holds Try.pinned (OpenSpec.ofChange Rows.namesSpec) :=
  OpenClaim.holds_of_wide 3 Try.f3 rfl rfl rfl rfl rfl rfl rfl ⟨rfl, rfl, rfl, rfl, rfl⟩ rfl rfl rfl rfl rfl (by kernel_rfl) Try.func3 (by kernel_rfl)
    (of_decide_eq_true (by kernel_rfl)) (by unfold Func.isWrapper; first | (rw [if_pos (by decide +kernel)]; kernel_rfl) | (rw [if_neg (by decide +kernel)]; exact ⟨rfl, rfl⟩))
    (fun os started H enc _ => lifted os started H enc)

theorem proved : Rows.NamesSaid := over
#print axioms proved
end Go.Proofs.Ytmiidfeckchjoaa.names
