/- For every uint64 n, the law NumberSizes of the package brackenkeep returns true: Number(n) has one byte for every seven bits. No condition. -/
import Derived.Test.YtmiidfeckchjoaaNumUse
import Derived.OpenShut
import Derived.ShutString
import Derived.SizedLaws
import Derived.ChangeOld
namespace Go.Proofs.Ytmiidfeckchjoaa.numberSizes
open Go.ChangeShapes Go.WideShapes Go.ChangeAt Go.RowKit
open Go.ChangeMaps (open_string shut_string)
set_option linter.unusedVariables false

set_option maxHeartbeats 400000 in
theorem walk (a0 : Int) (w0 : (Lit.int .u64 a0).wf = true) (w : World) :
    Calls Try.prog 11 #[.int .u64 a0] w fun e w' => e = .returned (.bool true) ∧ Below w.heap.size w w' := by
  have hb := u64_bd w0
  obtain ⟨N, rfl⟩ := Int.eq_ofNat_of_zero_le hb.1
  have hN : N < 18446744073709551616 := by omega
  have Hl := Lib.hid (num_len10 hN)
  have HC := Lib.hid (number_is N hN)
  have HN := Lib.hid hN
  clear hb w0 hN
  go_enter Try.func11, Try.ntmps11
  go_wp2
  go_loop [3, 4] (fun c v => ∃ k m : Nat, c = .int .i64 k ∧ v = .int .u64 m ∧ k ≤ 10 ∧ Hid (m < 18446744073709551616 ∧ k + (num m).length = (num N).length + 1)) (fun _ v => (intOf v).toNat)
  case atStart => exact ⟨1, N, rfl, rfl, by omega, HN.out, by omega⟩
  case round =>
    obtain ⟨k, m, rfl, rfl, hk, H⟩ := hrel
    by_cases hm : (128 : Int) ≤ (m : Int)
    · have H2 : Hid (m / 128 < 18446744073709551616 ∧ k + 1 + (num (m / 128)).length = (num N).length + 1 ∧ k + 1 ≤ 10) := by
        have h1 := H.out
        have h2 := Hl.out
        have h3 := num_pos (m / 128)
        rw [num_ge (n := m) (by omega)] at h1
        simp only [List.length_cons] at h1
        exact ⟨by omega, by omega, by omega⟩
      have hq : IntKind.u64.wrap ((m : Int) / 128) = (m : Int) / 128 := IntWalk.u64_in _ (by have := H.out.1; omega)
      go_wp2
      go_round
      case rel => exact ⟨k + 1, m / 128, by go_num, by go_num, H2.out.2.2, H2.out.1, H2.out.2.1⟩
      case measure => simp [intOf]; omega
    · have hs : (numS N).size = k := by
        have h1 := H.out.2
        rw [num_lt (n := m) (by omega)] at h1
        rw [numS_size]; simpa using h1.symm
      have hs' : (((numS N).size : Int) == (k : Int)) = true := by simp [hs]
      clear hs H Hl
      generalize numS N = t at *
      go_wp2_with fail
      refine (told_any _).mono ?_
      rintro e w3 ⟨rfl, rfl⟩
      go_wp2_with fail
      refine (HC.out _).mono ?_
      rintro e w2 ⟨rfl, hb2⟩
      go_wp2
      go_ret
      exact ⟨rfl, hb2⟩

theorem own : ownKnob Try.prog.godebug = none := by kernel_rfl
set_option maxRecDepth 100000 in
theorem lifted (os : Os) (started : os.Started) (H : Type) (enc : TypeId × Value → H) :
    ReturnsInHanded {} Try.checked os 11 .any (Rows.numberSizesSpec.pre6 enc Try.prog Try.f11 Rows.numberSizesRow.domain false) (Rows.numberSizesSpec.post enc Try.prog Try.f11 false true false false) := by
  refine returnsInHanded_of_change (C := Try.checked) own started (by kernel_rfl) Try.func11
    (ChangeSpec.witness6 (enc := enc) (C := Try.checked) false ⟨#[], #[.int .u64 0], []⟩ 8 (by kernel_rfl) (by kernel_rfl) (by kernel_rfl) (by kernel_rfl)) ?_
  intro W base args ds gs before hval0 hW hcnd _
  have hval : ∀ (j : Nat) t v, Try.f11.params[j]? = some t → args[j]? = some v → Value.okWide Try.prog W .any base t v := hval0
  have hW' := hW
  obtain ⟨p, q, hA0, hV, rfl, hfz, hnd⟩ := hW
  have hA : DataW.TrodAll enc Try.prog W 0 (fun _ => true) true Try.f11.params.toList args.toList ds p := hA0
  rw [Try.params11] at hA hval
  obtain ⟨v0, vs0, d0, ds0, p0, q0, hargs, rfl, rfl, h0, r0⟩ := trodAll_cons hA
  obtain ⟨rfl, rfl, rfl⟩ := trodAll_nil r0
  obtain rfl : args = #[v0] := by cases args; simp_all
  obtain ⟨rfl, rfl⟩ := trodVars_none hV
  obtain ⟨a0, rfl, rfl, rfl, w0⟩ := open_int Try.underlying27 (hval 0 27 v0 rfl rfl) h0

  clear hA0 hval0
  refine (walk a0 w0 W).mono fun e W' ⟨he, bel⟩ => ?_
  subst he
  exact ⟨_, rfl, _, _, _, [], _, [], hW', trodAll_mk1 (shut_bool Try.underlying4 _), (trodAll_cons_mk (shut_int Try.underlying27 w0) trodAll_mk0), rfl, bel.frame _, fun h => by cases h⟩

theorem over : Rows.numberSizesRow.holds Try.pinned (OpenSpec.ofChange Rows.numberSizesSpec) :=
  OpenClaim.holds_of_wide 11 Try.f11 rfl rfl rfl rfl rfl rfl rfl ⟨rfl, rfl, rfl, rfl, rfl⟩ rfl rfl rfl rfl rfl (by kernel_rfl) Try.func11 (by kernel_rfl)
    (of_decide_eq_true (by kernel_rfl)) (by unfold Func.isWrapper; first | (rw [if_pos (by decide +kernel)]; kernel_rfl) | (rw [if_neg (by decide +kernel)]; exact ⟨rfl, rfl⟩))
    (fun os started H enc _ => lifted os started H enc)

theorem proved : Rows.NumberSizesSaid := over
#print axioms proved
end Go.Proofs.Ytmiidfeckchjoaa.numberSizes
