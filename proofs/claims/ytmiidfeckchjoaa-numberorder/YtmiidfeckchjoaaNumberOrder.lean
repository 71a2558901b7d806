/- For every two uint64 a and b, the law NumberOrder of the package brackenkeep returns true: the greater number has no fewer bytes, and equal bytes mean equal numbers. No condition. -/
import Derived.Test.YtmiidfeckchjoaaNumUse
import Derived.OpenShut
import Derived.ShutString
import Derived.SizedLaws
import Derived.ChangeOld
namespace Go.Proofs.Ytmiidfeckchjoaa.numberOrder
open Go.ChangeShapes Go.WideShapes Go.ChangeAt Go.RowKit
open Go.ChangeMaps (open_string shut_string)
set_option linter.unusedVariables false

theorem same (A B : Nat) (hA : A < 18446744073709551616) (hB : B < 18446744073709551616) : (((numS A).toList == (numS B).toList) == ((A : Int) == (B : Int))) = true := by
  rw [ByteArray.toList_eq, ByteArray.toList_eq, numS_data, numS_data]
  by_cases h : A = B
  · subst h; simp
  · have h1 : (num A == num B) = false := by simpa using fun e => h (num_inj hA hB e)
    have h2 : ((A : Int) == (B : Int)) = false := by simp; omega
    rw [h1, h2]; rfl
theorem four {a b c d e : World} (h1 : Below a.heap.size a b) (h2 : Below b.heap.size b c) (h3 : Below c.heap.size c d) (h4 : Below d.heap.size d e) : Below a.heap.size a e :=
  (h1.trans (h2.mono h1.size)).trans ((h3.mono (by have := h1.size; have := h2.size; omega)).trans (h4.mono (by have := h1.size; have := h2.size; have := h3.size; omega)))
set_option maxHeartbeats 400000 in
theorem walk (a0 a1 : Int) (w0 : (Lit.int .u64 a0).wf = true) (w1 : (Lit.int .u64 a1).wf = true) (w : World) :
    Calls Try.prog 9 #[.int .u64 a0, .int .u64 a1] w fun e w' => e = .returned (.bool true) ∧ Below w.heap.size w w' := by
  have hb := u64_bd w0
  have hb1 := u64_bd w1
  obtain ⟨A, rfl⟩ := Int.eq_ofNat_of_zero_le hb.1
  obtain ⟨B, rfl⟩ := Int.eq_ofNat_of_zero_le hb1.1
  have hA : A < 18446744073709551616 := by omega
  have hB : B < 18446744073709551616 := by omega
  have HA := Lib.hid (number_is A hA)
  have HB := Lib.hid (number_is B hB)
  by_cases h : B < A
  · have hl : (numS B).size ≤ (numS A).size := by rw [numS_size, numS_size]; exact num_mono _ _ (by omega)
    have hd : decide ((numS B).size ≤ (numS A).size) = true := by simpa using hl
    have he := same B A hB hA
    clear w0 w1 hb hb1 hA hB
    generalize numS A = s at *
    generalize numS B = t at *
    go_enter Try.func9, Try.ntmps9
    go_wp2_with fail
    refine (told_any _).mono ?_
    rintro e w3 ⟨rfl, rfl⟩
    go_wp2_with fail
    refine (HB.out _).mono ?_
    rintro e w2 ⟨rfl, hb2⟩
    go_wp2_with fail
    refine (HA.out _).mono ?_
    rintro e w3 ⟨rfl, hb3⟩
    go_wp2_with fail
    refine (HB.out _).mono ?_
    rintro e w4 ⟨rfl, hb4⟩
    go_wp2_with fail
    refine (HA.out _).mono ?_
    rintro e w5 ⟨rfl, hb5⟩
    go_wp2
    go_ret
    exact ⟨rfl, four hb2 hb3 hb4 hb5⟩
  · have hl : (numS A).size ≤ (numS B).size := by rw [numS_size, numS_size]; exact num_mono _ _ (by omega)
    have hd : decide ((numS A).size ≤ (numS B).size) = true := by simpa using hl
    have he := same A B hA hB
    clear w0 w1 hb hb1 hA hB
    generalize numS A = s at *
    generalize numS B = t at *
    go_enter Try.func9, Try.ntmps9
    go_wp2_with fail
    refine (told_any _).mono ?_
    rintro e w3 ⟨rfl, rfl⟩
    go_wp2_with fail
    refine (HA.out _).mono ?_
    rintro e w2 ⟨rfl, hb2⟩
    go_wp2_with fail
    refine (HB.out _).mono ?_
    rintro e w3 ⟨rfl, hb3⟩
    go_wp2_with fail
    refine (HA.out _).mono ?_
    rintro e w4 ⟨rfl, hb4⟩
    go_wp2_with fail
    refine (HB.out _).mono ?_
    rintro e w5 ⟨rfl, hb5⟩
    go_wp2
    go_ret
    exact ⟨rfl, four hb2 hb3 hb4 hb5⟩

theorem own : ownKnob Try.prog.godebug = none := by kernel_rfl
set_option maxRecDepth 100000 in
theorem lifted (os : Os) (started : os.Started) (H : Type) (enc : TypeId × Value → H) :
    ReturnsInHanded {} Try.checked os 9 .any (Rows.numberOrderSpec.pre6 enc Try.prog Try.f9 Rows.numberOrderRow.domain false) (Rows.numberOrderSpec.post enc Try.prog Try.f9 false true false false) := by
  refine returnsInHanded_of_change (C := Try.checked) own started (by kernel_rfl) Try.func9
    (ChangeSpec.witness6 (enc := enc) (C := Try.checked) false ⟨#[], #[.int .u64 0, .int .u64 0], []⟩ 8 (by kernel_rfl) (by kernel_rfl) (by kernel_rfl) (by kernel_rfl)) ?_
  intro W base args ds gs before hval0 hW hcnd _
  have hval : ∀ (j : Nat) t v, Try.f9.params[j]? = some t → args[j]? = some v → Value.okWide Try.prog W .any base t v := hval0
  have hW' := hW
  obtain ⟨p, q, hA0, hV, rfl, hfz, hnd⟩ := hW
  have hA : DataW.TrodAll enc Try.prog W 0 (fun _ => true) true Try.f9.params.toList args.toList ds p := hA0
  rw [Try.params9] at hA hval
  obtain ⟨v0, vs0, d0, ds0, p0, q0, hargs, rfl, rfl, h0, r0⟩ := trodAll_cons hA
  obtain ⟨v1, vs1, d1, ds1, p1, q1, rfl, rfl, rfl, h1, r1⟩ := trodAll_cons r0
  obtain ⟨rfl, rfl, rfl⟩ := trodAll_nil r1
  obtain rfl : args = #[v0, v1] := by cases args; simp_all
  obtain ⟨rfl, rfl⟩ := trodVars_none hV
  obtain ⟨a0, rfl, rfl, rfl, w0⟩ := open_int Try.underlying27 (hval 0 27 v0 rfl rfl) h0
  obtain ⟨a1, rfl, rfl, rfl, w1⟩ := open_int Try.underlying27 (hval 1 27 v1 rfl rfl) h1

  clear hA0 hval0
  refine (walk a0 a1 w0 w1 W).mono fun e W' ⟨he, bel⟩ => ?_
  subst he
  exact ⟨_, rfl, _, _, _, [], _, [], hW', trodAll_mk1 (shut_bool Try.underlying4 _), (trodAll_cons_mk (shut_int Try.underlying27 w0) (trodAll_cons_mk (shut_int Try.underlying27 w1) trodAll_mk0)), rfl, bel.frame _, fun h => by cases h⟩

theorem over : Rows.numberOrderRow.holds Try.pinned (OpenSpec.ofChange Rows.numberOrderSpec) :=
  OpenClaim.holds_of_wide 9 Try.f9 rfl rfl rfl rfl rfl rfl rfl ⟨rfl, rfl, rfl, rfl, rfl⟩ rfl rfl rfl rfl rfl (by kernel_rfl) Try.func9 (by kernel_rfl)
    (of_decide_eq_true (by kernel_rfl)) (by unfold Func.isWrapper; first | (rw [if_pos (by decide +kernel)]; kernel_rfl) | (rw [if_neg (by decide +kernel)]; exact ⟨rfl, rfl⟩))
    (fun os started H enc _ => lifted os started H enc)

theorem proved : Rows.NumberOrderSaid := over
#print axioms proved
end Go.Proofs.Ytmiidfeckchjoaa.numberOrder
