/- For every frame f, the law FrameSize of the package brackenkeep returns true: a frame has eight bytes more than its encoded length and its payload, and it begins with BK, its version and its kind. No condition. -/
import Derived.Test.YtkajldfapkkgbaaFrUse
namespace Go.Proofs.Ytkajldfapkkgbaa.frameSize
open Go.ChangeShapes Go.WideShapes Go.ChangeAt Go.RowKit
open Go.ChangeMaps (open_string shut_string)
set_option linter.unusedVariables false

theorem front {a b : Nat} {p : ByteArray} : (encB a b p).extract 0 2 = ⟨#[66, 75]⟩ := by
  apply bytes_of
  rw [ext_data, encB_data]
  simp [encL, bodyL]
theorem at2 {a b : Nat} {p : ByteArray} (h : goodF a b p.data.toList) (h2 : 2 < (encB a b p).size) : ((encB a b p)[2].toNat : Int) = (a : Int) := by
  have : (encB a b p)[2] = UInt8.ofNat a := rfl
  rw [this, byte_of (by have := h.2.1; omega)]
theorem at3 {a b : Nat} {p : ByteArray} (h : goodF a b p.data.toList) (h2 : 3 < (encB a b p).size) : ((encB a b p)[3].toNat : Int) = (b : Int) := by
  have : (encB a b p)[3] = UInt8.ofNat b := rfl
  rw [this, byte_of (by have := h.2.2.2.1; omega)]
set_option maxRecDepth 100000 in
set_option maxHeartbeats 2000000 in
theorem walk (a0 b0 : Int) (c0 : ByteArray) (w0 : (Lit.int .i64 a0).wf = true ∧ (Lit.int .i64 b0).wf = true ∧ c0.size ≤ maxLen) (s0 : c0.data.toList.length ≤ reachBytes) (w : World) :
    Calls Try.prog 8 #[.agg #[.int .i64 a0, .int .i64 b0, .string c0]] w fun e w' => e = .returned (.bool true) ∧ Below w.heap.size w w' := by
  have t0 := reach_le s0
  rcases enc_cases a0 b0 c0 with ⟨a, b, rfl, rfl, hg, he⟩ | ⟨c, hc, he⟩
  · have H1 := Lib.hid (encode_is _ _ c0 (by omega) _ _ he)
    have hbd := enc_bd hg
    have hp6 : c0.size ≤ 6000 := by rw [← size_data]; exact hg.2.2.2.2
    have HN := Lib.hid (number_is c0.size (by omega))
    have hsz : (encB a b c0).size = 8 + (numS c0.size).size + c0.size := by rw [encB_size, numS_size]
    have hn10 : (numS c0.size).size ≤ 10 := by rw [numS_size]; exact num_len10 (by omega)
    have hfr := front (a := a) (b := b) (p := c0)
    have h2 : 2 < (encB a b c0).size := by omega
    have h3 : 3 < (encB a b c0).size := by omega
    have ha2 := at2 hg h2
    have ha3 := at3 hg h3
    have ha1 : a ≤ 3 := hg.2.1
    have hb1 : b ≤ 4 := hg.2.2.2.1
    clear he w0 s0 hg
    generalize encB a b c0 = t at *
    generalize numS c0.size = N at *
    have hts : ((t.size : Int) == 8 + (N.size : Int) + (c0.size : Int)) = true := by simp; omega
    clear hsz
    go_enter Try.func8, Try.ntmps8
    go_wp2_with fail
    refine (H1.out _).mono ?_
    rintro e v1 ⟨rfl, b1⟩
    have h3 := three_next (three_new _ _ _ _ _) b1
    clear b1
    go_wp2_with fail
    have i2 : (2 : Int) < (t.size : Int) := by omega
    have i3 : (3 : Int) < (t.size : Int) := by omega
    have i4 : (2 : Int) ≤ (t.size : Int) := by omega
    have r1 : IntKind.u64.wrap (c0.size : Int) = (c0.size : Int) := IntWalk.u64_in _ (by omega)
    have r2 : IntKind.i64.wrap (8 + (N.size : Int)) = 8 + (N.size : Int) := IntWalk.i64_in _ (by omega)
    have r3 : IntKind.i64.wrap (8 + (N.size : Int) + (c0.size : Int)) = 8 + (N.size : Int) + (c0.size : Int) := IntWalk.i64_in _ (by omega)
    have r4 : IntKind.i64.wrap (a : Int) = (a : Int) := IntWalk.i64_in _ (by omega)
    have r5 : IntKind.i64.wrap (b : Int) = (b : Int) := IntWalk.i64_in _ (by omega)
    go_region_held3 (fun w' => (w'.cell? ⟨w.heap.size, 0, none⟩ = some (.int .i64 (a : Int)) ∧ w'.cell? ⟨w.heap.size, 1, none⟩ = some (.int .i64 (b : Int)) ∧ w'.cell? ⟨w.heap.size, 2, none⟩ = some (.string c0)) ∧ Below w.heap.size w w' ∧ w.heap.size < w'.heap.size) (first | exact h3.drew | exact h3 | assumption)
      (first
        | (go_at_call 14; (with_reducible refine (framed_any _).mono ?_); rintro e w2 ⟨rfl, b2⟩; have hk2 := three_next (by first | exact h3.drew | assumption) b2; clear b2)
        | (go_at_call 16; (with_reducible refine (HN.out _).mono ?_); rintro e w2 ⟨rfl, b2⟩; have hk2 := three_next (by first | exact h3.drew | assumption) b2; clear b2))
    rename_i w2 hk2
    clear r1 r2 r3 r4 r5
    go_wp2
    go_ret
    exact ⟨rfl, hk2.2.1⟩
  · have H1 := Lib.hid (encode_is _ _ c0 (by omega) _ _ he)
    have hc' : ((c : Int) != 0) = true := by simp; omega
    clear he hc w0 s0
    go_enter Try.func8, Try.ntmps8
    go_wp2_with fail
    refine (H1.out _).mono ?_
    rintro e v1 ⟨rfl, b1⟩
    obtain ⟨⟨k0, k1, k2⟩, hb, hlt⟩ := three_next (three_new _ _ _ _ _) b1
    clear b1
    go_wp2_with fail
    refine (framed_any _).mono ?_
    rintro e v2 ⟨rfl, b2⟩
    go_wp2
    go_ret
    exact ⟨rfl, hb.trans (b2.mono (Nat.le_of_lt hlt))⟩

theorem own : ownKnob Try.prog.godebug = none := by kernel_rfl
set_option maxRecDepth 100000 in
theorem lifted (os : Os) (started : os.Started) (H : Type) (enc : TypeId × Value → H) :
    ReturnsInHanded {} Try.checked os 8 .any (Rows.frameSizeSpec.pre6 enc Try.prog Try.f8 Rows.frameSizeRow.domain false) (Rows.frameSizeSpec.post enc Try.prog Try.f8 false true false false) := by
  refine returnsInHanded_of_change_sized (C := Try.checked) own started (by kernel_rfl) Try.func8
    (ChangeSpec.witness6 (enc := enc) (C := Try.checked) false ⟨#[], #[.agg #[.int .i64 0, .int .i64 0, .string ByteArray.empty]], []⟩ 8 (by kernel_rfl) (by kernel_rfl) (by kernel_rfl) (by kernel_rfl)) ?_
  intro W base args ds gs before hval0 hW hcnd hsz0 _
  have hval : ∀ (j : Nat) t v, Try.f8.params[j]? = some t → args[j]? = some v → Value.okWide Try.prog W .any base t v := hval0
  have hW' := hW
  obtain ⟨p, q, hA0, hV, rfl, hfz, hnd⟩ := hW
  have hA : DataW.TrodAll enc Try.prog W 0 (fun _ => true) true Try.f8.params.toList args.toList ds p := hA0
  have hsz : (DataW.weightsEach Try.prog (Try.f8.params.toList ++ Rows.frameSizeSpec.plain.varTypes Try.prog) (ds ++ gs)).all (· ≤ reachBytes) = true := hsz0
  rw [Try.params8] at hA hval hsz
  obtain ⟨v0, vs0, d0, ds0, p0, q0, hargs, rfl, rfl, h0, r0⟩ := trodAll_cons hA
  obtain ⟨rfl, rfl, rfl⟩ := trodAll_nil r0
  obtain rfl : args = #[v0] := by cases args; simp_all
  obtain ⟨rfl, rfl⟩ := trodVars_none hV
  obtain ⟨a0, b0, c0, rfl, rfl, rfl, w0⟩ := open_frame (hval 0 23 v0 rfl rfl) h0
  have s0 : c0.data.toList.length ≤ reachBytes := sized_frame hsz (j := 0) rfl rfl
  clear hA0 hval0
  refine (walk a0 b0 c0 w0 s0 W).mono fun e W' ⟨he, bel⟩ => ?_
  subst he
  exact ⟨_, rfl, _, _, _, [], _, [], hW', trodAll_mk1 (shut_bool Try.underlying4 _), (trodAll_cons_mk (shut_frame w0) trodAll_mk0), rfl, bel.frame _, fun h => by cases h⟩

theorem over : Rows.frameSizeRow.holds Try.pinned (OpenSpec.ofChange Rows.frameSizeSpec) :=
  OpenClaim.holds_of_wide 8 Try.f8 rfl rfl rfl rfl rfl rfl rfl ⟨rfl, rfl, rfl, rfl, rfl⟩ rfl rfl rfl rfl rfl (by kernel_rfl) Try.func8 (by kernel_rfl)
    (of_decide_eq_true (by kernel_rfl)) (by unfold Func.isWrapper; first | (rw [if_pos (by decide +kernel)]; kernel_rfl) | (rw [if_neg (by decide +kernel)]; exact ⟨rfl, rfl⟩))
    (fun os started H enc _ => lifted os started H enc)

theorem proved : Rows.FrameSizeSaid := over
#print axioms proved
end Go.Proofs.Ytkajldfapkkgbaa.frameSize
