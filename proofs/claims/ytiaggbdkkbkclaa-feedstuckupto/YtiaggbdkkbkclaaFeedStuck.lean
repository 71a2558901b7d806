/- For every string s and more of bulk at most 1048576 together, the law FeedStuck of the package brackenkeep returns true: a feed that has failed returns no further frames and always the same error. Condition: the bound on the bulk. -/
import Derived.Test.YtiaggbdkkbkclaaFdUse
import Derived.Test.YtiaggbdkkbkclaaUpto
import Derived.JoinedCond
namespace Go.Proofs.Ytiaggbdkkbkclaa.feedStuck
open Go.ChangeShapes Go.WideShapes Go.ChangeAt Go.RowKit
open Go.ChangeMaps (open_string shut_string)
set_option linter.unusedVariables false

set_option maxRecDepth 100000 in
set_option maxHeartbeats 1000000 in
theorem walk (a0 a1 : ByteArray) (w0 : a0.size ≤ maxLen) (w1 : a1.size ≤ maxLen) (s0 : a0.size ≤ 1048576) (s1 : a1.size ≤ 1048576) (w : World) :
    Calls Try.prog 7 #[.string a0, .string a1] w fun e w' => e = .returned (.bool true) ∧ Below w.heap.size w w' := by
  obtain ⟨fs, r', a', c', hp⟩ := pushed_any' (⟨#[]⟩ : ByteArray).data.toList 0 0 a0.data.toList
  have hbd := pushed_bd hp
  rw [size_data, size_data, size_data] at hbd
  have hz : (⟨#[]⟩ : ByteArray).size = 0 := rfl
  rw [hz] at hbd
  have HP := Lib.hid hp
  clear w0 w1 hp
  obtain ⟨hb1, hb2, hg⟩ := hbd
  clear hg hz
  by_cases hc : c' = 0
  · subst hc
    go_enter Try.func7, Try.ntmps7
    go_wp2_with fail
    refine (fed_any _).mono ?_
    rintro e v1 ⟨rfl, b1⟩
    go_wp2_with fail
    refine (new_is _).mono ?_
    rintro e v2 ⟨rfl, f2, b2, l2⟩
    go_wp2_with fail
    refine (push_is f2 a0 fs r' a' 0 HP.out (by rw [show (⟨#[]⟩ : ByteArray).size = 0 from rfl]; omega) (by omega) (by omega)).mono ?_
    rintro e v3 ⟨v, rfl, o3, f3, g3⟩
    go_wp2
    go_ret
    exact ⟨rfl, below2 b1 (b2.grown g3 b2.size (fun k hk => by simp at hk; omega))⟩
  · have hr : r' = ⟨#[]⟩ := bytes_of (pushed_bad HP.out hc)
    subst hr
    have HQ := Lib.hid (pushed_stuck hc (⟨#[]⟩ : ByteArray).data.toList a' a1.data.toList)
    have hc' : ((c' : Int) == 0) = false := by simp; omega
    clear hc
    go_enter Try.func7, Try.ntmps7
    go_wp2_with fail
    refine (fed_any _).mono ?_
    rintro e v1 ⟨rfl, b1⟩
    go_wp2_with fail
    refine (new_is _).mono ?_
    rintro e v2 ⟨rfl, f2, b2, l2⟩
    go_wp2_with fail
    refine (push_is f2 a0 fs ⟨#[]⟩ a' c' HP.out (by rw [show (⟨#[]⟩ : ByteArray).size = 0 from rfl]; omega) (by omega) (by omega)).mono ?_
    rintro e v3 ⟨v, rfl, o3, f3, g3⟩
    go_wp2_with fail
    refine (at_is f3).mono ?_
    rintro e v4 ⟨rfl, rfl⟩
    go_wp2_with fail
    refine (push_is f3 a1 [] ⟨#[]⟩ a' c' HQ.out (by rw [show (⟨#[]⟩ : ByteArray).size = 0 from rfl]; omega) (by decide) (by omega)).mono ?_
    rintro e v4 ⟨v', rfl, o4, f4, g4⟩
    obtain ⟨ad', cap', rfl⟩ := own_slice o4
    have hb := below2 b1 (((b2.grown g3 b2.size (fun k hk => by simp at hk; omega)).grown g4 (Nat.le_trans b2.size g3.size) (fun k hk => by simp at hk; omega)))
    clear o3 o4 g3 g4 b1 b2 f2 f3
    go_wp2_with fail
    refine (at_is f4).mono ?_
    rintro e v5 ⟨rfl, rfl⟩
    go_wp2_with fail
    refine (left_is f4).mono ?_
    rintro e v5 ⟨rfl, rfl⟩
    go_wp2
    go_ret
    exact ⟨rfl, hb⟩

theorem own : ownKnob Try.prog.godebug = none := by kernel_rfl
set_option maxRecDepth 100000 in
theorem lifted (os : Os) (started : os.Started) (H : Type) (enc : TypeId × Value → H) (F : Stop.Interp) :
    ReturnsInHanded {} Try.checked os 7 .any ((Rows.OpenSpec.upto Rows.feedStuckSpec).pre6 enc Try.prog Try.f7 Rows.feedStuckUptoRow.domain false) (((Rows.OpenSpec.upto Rows.feedStuckSpec).at F).post enc Try.prog Try.f7 false true false false) := by
  refine returnsInHanded_of_cond (C := Try.checked) (s := Rows.OpenSpec.upto Rows.feedStuckSpec) (k := Rows.uptoSmall) rfl own started (by kernel_rfl) Try.func7
    (OpenSpec.witness (enc := enc) (C := Try.checked) (s := Rows.OpenSpec.upto Rows.feedStuckSpec) (k := Rows.uptoSmall) rfl false ⟨#[], #[.string ByteArray.empty, .string ByteArray.empty], []⟩ 8 (by kernel_rfl) (by kernel_rfl) (by kernel_rfl)
      (x := ([.lit (.string []), .lit (.string [])], [], [])) (by kernel_rfl) rfl (by kernel_rfl)) ?_
  intro W base args ds gs before hval0 hW _ hk0 _
  have hval : ∀ (j : Nat) t v, Try.f7.params[j]? = some t → args[j]? = some v → Value.okWide Try.prog W .any base t v := hval0
  have hW' := hW
  obtain ⟨p, q, hA0, hV, rfl, hfz, hnd⟩ := hW
  have hA : DataW.TrodAll enc Try.prog W 0 (fun _ => true) true Try.f7.params.toList args.toList ds p := hA0
  rw [Try.params7] at hA hval
  obtain ⟨v0, vs0, d0, ds0, p0, q0, hargs, rfl, rfl, h0, r0⟩ := trodAll_cons hA
  obtain ⟨v1, vs1, d1, ds1, p1, q1, rfl, rfl, rfl, h1, r1⟩ := trodAll_cons r0
  obtain ⟨rfl, rfl, rfl⟩ := trodAll_nil r1
  obtain rfl : args = #[v0, v1] := by cases args; simp_all
  obtain ⟨rfl, rfl⟩ := trodVars_none hV
  have hk := hk0
  obtain ⟨a0, rfl, rfl, rfl, w0⟩ := open_string Try.underlying9 (hval 0 9 v0 rfl rfl) h0
  obtain ⟨a1, rfl, rfl, rfl, w1⟩ := open_string Try.underlying9 (hval 1 9 v1 rfl rfl) h1
  have s0 : a0.size ≤ 1048576 := upto_string hk (j := 0) rfl
  have s1 : a1.size ≤ 1048576 := upto_string hk (j := 1) rfl
  clear hA0 hval0
  refine (walk a0 a1 w0 w1 s0 s1 W).mono fun e W' ⟨he, bel⟩ => ?_
  subst he
  exact ⟨_, rfl, _, _, _, [], _, [], hW', trodAll_mk1 (shut_bool Try.underlying4 _), (trodAll_cons_mk (shut_string Try.underlying9 w0) (trodAll_cons_mk (shut_string Try.underlying9 w1) trodAll_mk0)), rfl, bel.frame _, fun h => by cases h⟩

theorem proved : Rows.FeedStuckUptoSaid :=
  OpenClaim.holds_of_cond 7 Try.f7 rfl rfl rfl rfl rfl rfl rfl ⟨rfl, rfl, rfl, rfl, rfl⟩ rfl rfl rfl rfl rfl (by kernel_rfl) Try.func7 (by kernel_rfl)
    (of_decide_eq_true (by kernel_rfl)) (by unfold Func.isWrapper; first | (rw [if_pos (by decide +kernel)]; kernel_rfl) | (rw [if_neg (by decide +kernel)]; exact ⟨rfl, rfl⟩))
    (fun os started H enc _ F => lifted os started H enc F)
#print axioms proved
end Go.Proofs.Ytiaggbdkkbkclaa.feedStuck
