/- For every frame f and int at, the law FrameShort of the package brackenkeep returns true: every proper prefix of a frame's bytes is too short. No condition. -/
import Derived.Test.YtkajldfapkkgbaaFrUse
namespace Go.Proofs.Ytkajldfapkkgbaa.frameShort
open Go.ChangeShapes Go.WideShapes Go.ChangeAt Go.RowKit
open Go.ChangeMaps (open_string shut_string)
set_option linter.unusedVariables false

theorem emod_nat (a : Int) (n : Nat) (h : 0 < n) : ∃ j : Nat, a % (n : Int) = (j : Int) ∧ j < n := by
  have h1 := Int.emod_nonneg a (b := (n : Int)) (by omega)
  have h2 := Int.emod_lt_of_pos a (b := (n : Int)) (by omega)
  exact ⟨(a % (n : Int)).toNat, by omega, by omega⟩
set_option maxRecDepth 100000 in
set_option maxHeartbeats 1000000 in
theorem walk (a0 b0 : Int) (c0 : ByteArray) (a1 : Int) (w0 : (Lit.int .i64 a0).wf = true ∧ (Lit.int .i64 b0).wf = true ∧ c0.size ≤ maxLen) (w1 : (Lit.int .i64 a1).wf = true) (s0 : c0.data.toList.length ≤ reachBytes) (w : World) :
    Calls Try.prog 6 #[.agg #[.int .i64 a0, .int .i64 b0, .string c0], .int .i64 a1] w fun e w' => e = .returned (.bool true) ∧ Below w.heap.size w w' := by
  have t0 := reach_le s0
  rcases enc_cases a0 b0 c0 with ⟨a, b, rfl, rfl, hg, he⟩ | ⟨c, hc, he⟩
  · have H1 := Lib.hid (encode_is _ _ c0 (by omega) _ _ he)
    have hbd := enc_bd hg
    obtain ⟨j, hj, hj2⟩ := emod_nat a1 (encB a b c0).size (by omega)
    have HR := Lib.hid (rest_is a1 (encB a b c0).size (by omega) (by omega))
    rw [hj] at HR
    obtain ⟨U, hU⟩ : ∃ U, (encB a b c0).extract 0 j = U := ⟨_, rfl⟩
    have hd : decL U.data.toList = (0, 0, (⟨#[]⟩ : ByteArray).data.toList, 0, 3) := by
      rw [← hU, ext_data, encB_data, List.drop_zero]
      exact decL_short hg j (by rw [← encB_data, size_data]; exact hj2)
    have H2 := Lib.hid (decode_is U (by rw [← hU, ByteArray.size_extract]; omega) _ _ _ _ _ hd)
    clear he hd hj w0 w1 s0 hg
    generalize encB a b c0 = t at *
    go_enter Try.func6, Try.ntmps6
    go_wp2_with fail
    refine (framed_any _).mono ?_
    rintro e v1 ⟨rfl, b1⟩
    obtain ⟨⟨k0, k1, k2⟩, hb, hlt⟩ := three_next (three_new _ _ _ _ _) b1
    clear b1
    go_wp2_with fail
    refine (H1.out _).mono ?_
    rintro e v2 ⟨rfl, b2⟩
    go_wp2_with fail
    refine (HR.out _).mono ?_
    rintro e v3 ⟨rfl, rfl⟩
    go_wp2_with fail
    refine (H2.out _).mono ?_
    rintro e v3 ⟨rfl, b3⟩
    go_wp2
    go_ret
    exact ⟨rfl, hb.trans (((below2 b2 b3).alloc (below2 b2 b3).size _).mono (Nat.le_of_lt hlt))⟩
  · have H1 := Lib.hid (encode_is _ _ c0 (by omega) _ _ he)
    have hc' : ((c : Int) != 0) = true := by simp; omega
    clear he hc w0 w1 s0
    go_enter Try.func6, Try.ntmps6
    go_wp2_with fail
    refine (framed_any _).mono ?_
    rintro e v1 ⟨rfl, b1⟩
    obtain ⟨⟨k0, k1, k2⟩, hb, hlt⟩ := three_next (three_new _ _ _ _ _) b1
    clear b1
    go_wp2_with fail
    refine (H1.out _).mono ?_
    rintro e v2 ⟨rfl, b2⟩
    go_wp2
    go_ret
    exact ⟨rfl, hb.trans (b2.mono (Nat.le_of_lt hlt))⟩

theorem own : ownKnob Try.prog.godebug = none := by kernel_rfl
set_option maxRecDepth 100000 in
theorem lifted (os : Os) (started : os.Started) (H : Type) (enc : TypeId × Value → H) :
    ReturnsInHanded {} Try.checked os 6 .any (Rows.frameShortSpec.pre6 enc Try.prog Try.f6 Rows.frameShortRow.domain false) (Rows.frameShortSpec.post enc Try.prog Try.f6 false true false false) := by
  refine returnsInHanded_of_change_sized (C := Try.checked) own started (by kernel_rfl) Try.func6
    (ChangeSpec.witness6 (enc := enc) (C := Try.checked) false ⟨#[], #[.agg #[.int .i64 0, .int .i64 0, .string ByteArray.empty], .int .i64 0], []⟩ 8 (by kernel_rfl) (by kernel_rfl) (by kernel_rfl) (by kernel_rfl)) ?_
  intro W base args ds gs before hval0 hW hcnd hsz0 _
  have hval : ∀ (j : Nat) t v, Try.f6.params[j]? = some t → args[j]? = some v → Value.okWide Try.prog W .any base t v := hval0
  have hW' := hW
  obtain ⟨p, q, hA0, hV, rfl, hfz, hnd⟩ := hW
  have hA : DataW.TrodAll enc Try.prog W 0 (fun _ => true) true Try.f6.params.toList args.toList ds p := hA0
  have hsz : (DataW.weightsEach Try.prog (Try.f6.params.toList ++ Rows.frameShortSpec.plain.varTypes Try.prog) (ds ++ gs)).all (· ≤ reachBytes) = true := hsz0
  rw [Try.params6] at hA hval hsz
  obtain ⟨v0, vs0, d0, ds0, p0, q0, hargs, rfl, rfl, h0, r0⟩ := trodAll_cons hA
  obtain ⟨v1, vs1, d1, ds1, p1, q1, rfl, rfl, rfl, h1, r1⟩ := trodAll_cons r0
  obtain ⟨rfl, rfl, rfl⟩ := trodAll_nil r1
  obtain rfl : args = #[v0, v1] := by cases args; simp_all
  obtain ⟨rfl, rfl⟩ := trodVars_none hV
  obtain ⟨a0, b0, c0, rfl, rfl, rfl, w0⟩ := open_frame (hval 0 23 v0 rfl rfl) h0
  obtain ⟨a1, rfl, rfl, rfl, w1⟩ := open_int Try.underlying3 (hval 1 3 v1 rfl rfl) h1
  have s0 : c0.data.toList.length ≤ reachBytes := sized_frame hsz (j := 0) rfl rfl
  clear hA0 hval0
  refine (walk a0 b0 c0 a1 w0 w1 s0 W).mono fun e W' ⟨he, bel⟩ => ?_
  subst he
  exact ⟨_, rfl, _, _, _, [], _, [], hW', trodAll_mk1 (shut_bool Try.underlying4 _), (trodAll_cons_mk (shut_frame w0) (trodAll_cons_mk (shut_int Try.underlying3 w1) trodAll_mk0)), rfl, bel.frame _, fun h => by cases h⟩

theorem over : Rows.frameShortRow.holds Try.pinned (OpenSpec.ofChange Rows.frameShortSpec) :=
  OpenClaim.holds_of_wide 6 Try.f6 rfl rfl rfl rfl rfl rfl rfl ⟨rfl, rfl, rfl, rfl, rfl⟩ rfl rfl rfl rfl rfl (by kernel_rfl) Try.func6 (by kernel_rfl)
    (of_decide_eq_true (by kernel_rfl)) (by unfold Func.isWrapper; first | (rw [if_pos (by decide +kernel)]; kernel_rfl) | (rw [if_neg (by decide +kernel)]; exact ⟨rfl, rfl⟩))
    (fun os started H enc _ => lifted os started H enc)

theorem proved : Rows.FrameShortSaid := over
#print axioms proved
end Go.Proofs.Ytkajldfapkkgbaa.frameShort
