/- For every string s, the law FrameDecodes of the package brackenlaw returns true: Decode answers as the reference does. No condition. -/
import Derived.Test.YtkajldfapkkgbaaFrRefDec2
namespace Go.Proofs.Ytkajldfapkkgbaa.frameDecodes
open Go.ChangeShapes Go.WideShapes Go.ChangeAt Go.RowKit
open Go.ChangeMaps (open_string shut_string)
set_option linter.unusedVariables false

theorem enc_zero : enc 0 0 ⟨#[]⟩ = (⟨#[]⟩, 1) := rfl
set_option maxRecDepth 100000 in
set_option maxHeartbeats 1000000 in
theorem walk (a0 : ByteArray) (w0 : a0.size ≤ maxLen) (s0 : a0.data.toList.length ≤ reachBytes) (w : World) :
    Calls Try.prog 4 #[.string a0] w fun e w' => e = .returned (.bool true) ∧ Below w.heap.size w w' := by
  have t0 := reach_le s0
  obtain ⟨v, k, p, n, c, hd⟩ : ∃ (v k : Nat) (p : ByteArray) (n c : Nat), decL a0.data.toList = (v, k, p.data.toList, n, c) := ⟨_, _, ⟨(decL a0.data.toList).2.2.1.toArray⟩, _, _, rfl⟩
  have H1 := Lib.hid (decode_is a0 (by omega) _ _ _ _ _ hd)
  have H2 := Lib.hid (rdecode_is a0 (by omega) _ _ _ _ _ hd)
  have H3 := Lib.hid (encode_is 0 0 ⟨#[]⟩ (by decide) _ _ enc_zero)
  have hx := eq_lists p
  clear hd s0 w0
  go_enter Try.func4, Try.ntmps4
  go_wp2_with fail
  refine (H1.out _).mono ?_
  rintro e v1 ⟨rfl, b1⟩
  have o1 := three_new v1 (.int .i64 (v : Int)) (.int .i64 (k : Int)) (.string p) 23
  go_wp2_with fail
  refine (H2.out _).mono ?_
  rintro e v2 ⟨rfl, b2⟩
  have o2 := three_next (three_next o1 b2) (below_new v2 (.cells #[.int .i64 (v : Int), .int .i64 (k : Int), .string p] 23))
  have g2 := three_new v2 (.int .i64 (v : Int)) (.int .i64 (k : Int)) (.string p) 23
  clear o1 b2
  go_wp2_with fail
  refine (H3.out _).mono ?_
  rintro e v3 ⟨rfl, b3⟩
  have o3 := three_next o2 b3
  have g3 := three_next g2 b3
  clear o2 g2 b3
  obtain ⟨⟨k0, k1, k2⟩, hb, hlt⟩ := o3
  obtain ⟨⟨g0, g1, g2⟩, _, _⟩ := g3
  go_wp2
  go_ret
  exact ⟨rfl, below2 b1 hb⟩

theorem own : ownKnob Try.prog.godebug = none := by kernel_rfl
set_option maxRecDepth 100000 in
theorem lifted (os : Os) (started : os.Started) (H : Type) (enc : TypeId × Value → H) :
    ReturnsInHanded {} Try.checked os 4 .any (Rows.frameDecodesSpec.pre6 enc Try.prog Try.f4 Rows.frameDecodesRow.domain false) (Rows.frameDecodesSpec.post enc Try.prog Try.f4 false true false false) := by
  refine returnsInHanded_of_change_sized (C := Try.checked) own started (by kernel_rfl) Try.func4
    (ChangeSpec.witness6 (enc := enc) (C := Try.checked) false ⟨#[], #[.string ByteArray.empty], []⟩ 8 (by kernel_rfl) (by kernel_rfl) (by kernel_rfl) (by kernel_rfl)) ?_
  intro W base args ds gs before hval0 hW hcnd hsz0 _
  have hval : ∀ (j : Nat) t v, Try.f4.params[j]? = some t → args[j]? = some v → Value.okWide Try.prog W .any base t v := hval0
  have hW' := hW
  obtain ⟨p, q, hA0, hV, rfl, hfz, hnd⟩ := hW
  have hA : DataW.TrodAll enc Try.prog W 0 (fun _ => true) true Try.f4.params.toList args.toList ds p := hA0
  have hsz : (DataW.weightsEach Try.prog (Try.f4.params.toList ++ Rows.frameDecodesSpec.plain.varTypes Try.prog) (ds ++ gs)).all (· ≤ reachBytes) = true := hsz0
  rw [Try.params4] at hA hval hsz
  obtain ⟨v0, vs0, d0, ds0, p0, q0, hargs, rfl, rfl, h0, r0⟩ := trodAll_cons hA
  obtain ⟨rfl, rfl, rfl⟩ := trodAll_nil r0
  obtain rfl : args = #[v0] := by cases args; simp_all
  obtain ⟨rfl, rfl⟩ := trodVars_none hV
  obtain ⟨a0, rfl, rfl, rfl, w0⟩ := open_string Try.underlying9 (hval 0 9 v0 rfl rfl) h0
  have s0 : a0.data.toList.length ≤ reachBytes := sized_string hsz (j := 0) (t := 9) rfl rfl
  clear hA0 hval0
  refine (walk a0 w0 s0 W).mono fun e W' ⟨he, bel⟩ => ?_
  subst he
  exact ⟨_, rfl, _, _, _, [], _, [], hW', trodAll_mk1 (shut_bool Try.underlying4 _), (trodAll_cons_mk (shut_string Try.underlying9 w0) trodAll_mk0), rfl, bel.frame _, fun h => by cases h⟩

theorem over : Rows.frameDecodesRow.holds Try.pinned (OpenSpec.ofChange Rows.frameDecodesSpec) :=
  OpenClaim.holds_of_wide 4 Try.f4 rfl rfl rfl rfl rfl rfl rfl ⟨rfl, rfl, rfl, rfl, rfl⟩ rfl rfl rfl rfl rfl (by kernel_rfl) Try.func4 (by kernel_rfl)
    (of_decide_eq_true (by kernel_rfl)) (by unfold Func.isWrapper; first | (rw [if_pos (by decide +kernel)]; kernel_rfl) | (rw [if_neg (by decide +kernel)]; exact ⟨rfl, rfl⟩))
    (fun os started H enc _ => lifted os started H enc)

theorem proved : Rows.FrameDecodesSaid := over
#print axioms proved
end Go.Proofs.Ytkajldfapkkgbaa.frameDecodes
