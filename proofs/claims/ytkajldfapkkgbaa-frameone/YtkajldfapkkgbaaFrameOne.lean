/- For every two frames f and g, the law FrameOne of the package brackenkeep returns true: two frames have the same bytes just if they are the same, and no frame's bytes begin another's. No condition. -/
import Derived.Test.YtkajldfapkkgbaaFrUse
namespace Go.Proofs.Ytkajldfapkkgbaa.frameOne
open Go.ChangeShapes Go.WideShapes Go.ChangeAt Go.RowKit
open Go.ChangeMaps (open_string shut_string)
set_option linter.unusedVariables false

/-- Two frames, boxed one behind the other. -/
def Two (b : Nat) (x y z x' y' z' : Value) (w w' : World) : Prop := (w'.cell? ⟨b, 0, none⟩ = some x ∧ w'.cell? ⟨b, 1, none⟩ = some y ∧ w'.cell? ⟨b, 2, none⟩ = some z) ∧ (w'.cell? ⟨b + 1, 0, none⟩ = some x' ∧ w'.cell? ⟨b + 1, 1, none⟩ = some y' ∧ w'.cell? ⟨b + 1, 2, none⟩ = some z') ∧ Below b w w' ∧ b + 1 < w'.heap.size
theorem two_next {b : Nat} {x y z x' y' z' : Value} {w w' w2 : World} (h : Two b x y z x' y' z' w w') (b2 : Below w'.heap.size w' w2) : Two b x y z x' y' z' w w2 := by
  have hs := b2.size
  obtain ⟨⟨h0, h1, h2⟩, ⟨g0, g1, g2⟩, hb, hl⟩ := h
  have hl0 : b < w'.heap.size := by omega
  exact ⟨⟨by rw [b2.cell (p := ⟨b, 0, none⟩) hl0]; exact h0, by rw [b2.cell (p := ⟨b, 1, none⟩) hl0]; exact h1, by rw [b2.cell (p := ⟨b, 2, none⟩) hl0]; exact h2⟩,
    ⟨by rw [b2.cell (p := ⟨b + 1, 0, none⟩) hl]; exact g0, by rw [b2.cell (p := ⟨b + 1, 1, none⟩) hl]; exact g1, by rw [b2.cell (p := ⟨b + 1, 2, none⟩) hl]; exact g2⟩, hb.trans (b2.mono (Nat.le_of_lt hl0)), Nat.lt_of_lt_of_le hl hs⟩
theorem boxes (w : World) (x y z x' y' z' : Value) (t : TypeId) : Two w.heap.size x y z x' y' z' w ((w.alloc (.cells #[x, y, z] t)).alloc (.cells #[x', y', z'] t)) := by
  refine ⟨⟨by go_simp, by go_simp, by go_simp⟩, ⟨by go_simp, by go_simp, by go_simp⟩, ((Below.refl _ _).alloc (Nat.le_refl _) _).alloc (by simp) _, by simp⟩
theorem apart {a0 b0 a1 b1 : Int} {c0 c1 S T : ByteArray} (h0 : enc a0 b0 c0 = (S, 0)) (h1 : enc a1 b1 c1 = (T, 0)) (h : ¬ (a0 = a1 ∧ b0 = b1 ∧ c0 = c1)) :
    (S.toList == T.toList) = false ∧ (T.size < S.size ∨ (¬ T.size < S.size ∧ ((T.extract 0 S.size).toList == S.toList) = false)) := by
  rcases enc_cases a0 b0 c0 with ⟨a, b, rfl, rfl, hg, he⟩ | ⟨c, hc, he⟩
  · rcases enc_cases a1 b1 c1 with ⟨a', b', rfl, rfl, hg', he'⟩ | ⟨c, hc, he'⟩
    · rw [he] at h0
      rw [he'] at h1
      simp only [Prod.mk.injEq, and_true] at h0 h1
      subst h0 h1
      have key : ∀ more more', encL a b c0.data.toList ++ more = encL a' b' c1.data.toList ++ more' → False := fun more more' e => by
        obtain ⟨rfl, rfl, h3⟩ := encL_inj hg hg' e
        exact h ⟨rfl, rfl, bytes_of h3⟩
      refine ⟨ne_lists fun e => key [] [] ?_, ?_⟩
      · have := congrArg (fun x : ByteArray => x.data.toList) e
        simp only [encB_data] at this
        rw [this]
      · by_cases hl : (encB a' b' c1).size < (encB a b c0).size
        · exact .inl hl
        · refine .inr ⟨hl, ne_lists fun e => key ((encL a' b' c1.data.toList).drop (encB a b c0).size) [] ?_⟩
          have := congrArg (fun x : ByteArray => x.data.toList) e
          simp only [ext_data, encB_data, List.drop_zero] at this
          conv => lhs; lhs; rw [← this]
          rw [List.take_append_drop, List.append_nil]
    · rw [he'] at h1
      simp only [Prod.mk.injEq] at h1
      exact absurd h1.2 hc
  · rw [he] at h0
    simp only [Prod.mk.injEq] at h0
    exact absurd h0.2 hc
set_option maxRecDepth 100000 in
set_option maxHeartbeats 2000000 in
theorem walk (a0 b0 : Int) (c0 : ByteArray) (a1 b1 : Int) (c1 : ByteArray) (w0 : (Lit.int .i64 a0).wf = true ∧ (Lit.int .i64 b0).wf = true ∧ c0.size ≤ maxLen) (w1 : (Lit.int .i64 a1).wf = true ∧ (Lit.int .i64 b1).wf = true ∧ c1.size ≤ maxLen) (s0 : c0.data.toList.length ≤ reachBytes) (s1 : c1.data.toList.length ≤ reachBytes) (w : World) :
    Calls Try.prog 9 #[.agg #[.int .i64 a0, .int .i64 b0, .string c0], .agg #[.int .i64 a1, .int .i64 b1, .string c1]] w fun e w' => e = .returned (.bool true) ∧ Below w.heap.size w w' := by
  have t0 := reach_le s0
  have t1 := reach_le s1
  obtain ⟨S, e0, he0⟩ : ∃ S e0, enc a0 b0 c0 = (S, e0) := ⟨_, _, rfl⟩
  obtain ⟨T, e1, he1⟩ : ∃ T e1, enc a1 b1 c1 = (T, e1) := ⟨_, _, rfl⟩
  have H0 := Lib.hid (encode_is _ _ c0 (by omega) _ _ he0)
  have H1 := Lib.hid (encode_is _ _ c1 (by omega) _ _ he1)
  have three := boxes w (.int .i64 a0) (.int .i64 b0) (.string c0) (.int .i64 a1) (.int .i64 b1) (.string c1) 23
  clear w0 w1 s0 s1
  by_cases h0 : e0 = 0
  · by_cases h1 : e1 = 0
    · subst h0 h1
      by_cases same : a0 = a1 ∧ b0 = b1 ∧ c0 = c1
      · obtain ⟨rfl, rfl, rfl⟩ := same
        rw [he0] at he1
        simp only [Prod.mk.injEq, and_true] at he1
        subst he1
        have hx := eq_lists S
        have hy := eq_lists c0
        clear he0
        go_enter Try.func9, Try.ntmps9
        go_wp2_with fail
        refine (H0.out _).mono ?_
        rintro e v1 ⟨rfl, b1'⟩
        obtain ⟨⟨k0, k1, k2⟩, ⟨l0, l1, l2⟩, hb, hlt⟩ := two_next three b1'
        clear b1'
        go_wp2_with fail
        refine (H1.out _).mono ?_
        rintro e v2 ⟨rfl, b2'⟩
        obtain ⟨⟨m0, m1, m2⟩, ⟨n0, n1, n2⟩, hb2, hlt2⟩ := two_next ⟨⟨k0, k1, k2⟩, ⟨l0, l1, l2⟩, hb, hlt⟩ b2'
        clear k0 k1 k2 l0 l1 l2 b2' hb hlt
        go_wp2_with fail
        refine (framed_any _).mono ?_
        rintro e v3 ⟨rfl, b3'⟩
        obtain ⟨⟨p0, p1, p2⟩, ⟨q0, q1, q2⟩, hb3, hlt3⟩ := two_next ⟨⟨m0, m1, m2⟩, ⟨n0, n1, n2⟩, hb2, hlt2⟩ b3'
        clear m0 m1 m2 n0 n1 n2 b3' hb2 hlt2
        go_wp2
        go_ret
        exact ⟨rfl, hb3⟩
      · have hf := fields same
        have hx := apart he0 he1 same
        clear he0 he1 same
        obtain ⟨hx, hx2⟩ := hx
        rcases hf with h | ⟨rfl, h⟩ | ⟨rfl, rfl, h⟩
        all_goals rcases hx2 with h2 | ⟨h2, h3⟩
        all_goals
          go_enter Try.func9, Try.ntmps9
          go_wp2_with fail
          refine (H0.out _).mono ?_
          rintro e v1 ⟨rfl, b1'⟩
          obtain ⟨⟨k0, k1, k2⟩, ⟨l0, l1, l2⟩, hb, hlt⟩ := two_next three b1'
          clear b1'
          go_wp2_with fail
          refine (H1.out _).mono ?_
          rintro e v2 ⟨rfl, b2'⟩
          obtain ⟨⟨m0, m1, m2⟩, ⟨n0, n1, n2⟩, hb2, hlt2⟩ := two_next ⟨⟨k0, k1, k2⟩, ⟨l0, l1, l2⟩, hb, hlt⟩ b2'
          clear k0 k1 k2 l0 l1 l2 b2' hb hlt
          go_wp2_with fail
          refine (framed_any _).mono ?_
          rintro e v3 ⟨rfl, b3'⟩
          obtain ⟨⟨p0, p1, p2⟩, ⟨q0, q1, q2⟩, hb3, hlt3⟩ := two_next ⟨⟨m0, m1, m2⟩, ⟨n0, n1, n2⟩, hb2, hlt2⟩ b3'
          clear m0 m1 m2 n0 n1 n2 b3' hb2 hlt2
          go_wp2
          go_ret
          exact ⟨rfl, hb3⟩
    · have h1' : ((e1 : Int) != 0) = true := by simp; omega
      subst h0
      clear he0 he1 h1
      go_enter Try.func9, Try.ntmps9
      go_wp2_with fail
      refine (H0.out _).mono ?_
      rintro e v1 ⟨rfl, b1'⟩
      obtain ⟨⟨k0, k1, k2⟩, ⟨l0, l1, l2⟩, hb, hlt⟩ := two_next three b1'
      clear b1'
      go_wp2_with fail
      refine (H1.out _).mono ?_
      rintro e v2 ⟨rfl, b2'⟩
      obtain ⟨⟨m0, m1, m2⟩, ⟨n0, n1, n2⟩, hb2, hlt2⟩ := two_next ⟨⟨k0, k1, k2⟩, ⟨l0, l1, l2⟩, hb, hlt⟩ b2'
      clear k0 k1 k2 l0 l1 l2 b2' hb hlt
      go_wp2_with fail
      refine (framed_any _).mono ?_
      rintro e v3 ⟨rfl, b3'⟩
      obtain ⟨⟨p0, p1, p2⟩, ⟨q0, q1, q2⟩, hb3, hlt3⟩ := two_next ⟨⟨m0, m1, m2⟩, ⟨n0, n1, n2⟩, hb2, hlt2⟩ b3'
      clear m0 m1 m2 n0 n1 n2 b3' hb2 hlt2
      go_wp2
      go_ret
      exact ⟨rfl, hb3⟩
  · have h0' : ((e0 : Int) != 0) = true := by simp; omega
    clear he0 he1 h0
    go_enter Try.func9, Try.ntmps9
    go_wp2_with fail
    refine (H0.out _).mono ?_
    rintro e v1 ⟨rfl, b1'⟩
    obtain ⟨⟨k0, k1, k2⟩, ⟨l0, l1, l2⟩, hb, hlt⟩ := two_next three b1'
    clear b1'
    go_wp2_with fail
    refine (H1.out _).mono ?_
    rintro e v2 ⟨rfl, b2'⟩
    obtain ⟨⟨m0, m1, m2⟩, ⟨n0, n1, n2⟩, hb2, hlt2⟩ := two_next ⟨⟨k0, k1, k2⟩, ⟨l0, l1, l2⟩, hb, hlt⟩ b2'
    clear k0 k1 k2 l0 l1 l2 b2' hb hlt
    go_wp2_with fail
    refine (framed_any _).mono ?_
    rintro e v3 ⟨rfl, b3'⟩
    obtain ⟨⟨p0, p1, p2⟩, ⟨q0, q1, q2⟩, hb3, hlt3⟩ := two_next ⟨⟨m0, m1, m2⟩, ⟨n0, n1, n2⟩, hb2, hlt2⟩ b3'
    clear m0 m1 m2 n0 n1 n2 b3' hb2 hlt2
    go_wp2
    go_ret
    exact ⟨rfl, hb3⟩

theorem own : ownKnob Try.prog.godebug = none := by kernel_rfl
set_option maxRecDepth 100000 in
theorem lifted (os : Os) (started : os.Started) (H : Type) (enc : TypeId × Value → H) :
    ReturnsInHanded {} Try.checked os 9 .any (Rows.frameOneSpec.pre6 enc Try.prog Try.f9 Rows.frameOneRow.domain false) (Rows.frameOneSpec.post enc Try.prog Try.f9 false true false false) := by
  refine returnsInHanded_of_change_sized (C := Try.checked) own started (by kernel_rfl) Try.func9
    (ChangeSpec.witness6 (enc := enc) (C := Try.checked) false ⟨#[], #[.agg #[.int .i64 0, .int .i64 0, .string ByteArray.empty], .agg #[.int .i64 0, .int .i64 0, .string ByteArray.empty]], []⟩ 8 (by kernel_rfl) (by kernel_rfl) (by kernel_rfl) (by kernel_rfl)) ?_
  intro W base args ds gs before hval0 hW hcnd hsz0 _
  have hval : ∀ (j : Nat) t v, Try.f9.params[j]? = some t → args[j]? = some v → Value.okWide Try.prog W .any base t v := hval0
  have hW' := hW
  obtain ⟨p, q, hA0, hV, rfl, hfz, hnd⟩ := hW
  have hA : DataW.TrodAll enc Try.prog W 0 (fun _ => true) true Try.f9.params.toList args.toList ds p := hA0
  have hsz : (DataW.weightsEach Try.prog (Try.f9.params.toList ++ Rows.frameOneSpec.plain.varTypes Try.prog) (ds ++ gs)).all (· ≤ reachBytes) = true := hsz0
  rw [Try.params9] at hA hval hsz
  obtain ⟨v0, vs0, d0, ds0, p0, q0, hargs, rfl, rfl, h0, r0⟩ := trodAll_cons hA
  obtain ⟨v1, vs1, d1, ds1, p1, q1, rfl, rfl, rfl, h1, r1⟩ := trodAll_cons r0
  obtain ⟨rfl, rfl, rfl⟩ := trodAll_nil r1
  obtain rfl : args = #[v0, v1] := by cases args; simp_all
  obtain ⟨rfl, rfl⟩ := trodVars_none hV
  obtain ⟨a0, b0, c0, rfl, rfl, rfl, w0⟩ := open_frame (hval 0 23 v0 rfl rfl) h0
  obtain ⟨a1, b1, c1, rfl, rfl, rfl, w1⟩ := open_frame (hval 1 23 v1 rfl rfl) h1
  have s0 : c0.data.toList.length ≤ reachBytes := sized_frame hsz (j := 0) rfl rfl
  have s1 : c1.data.toList.length ≤ reachBytes := sized_frame hsz (j := 1) rfl rfl
  clear hA0 hval0
  refine (walk a0 b0 c0 a1 b1 c1 w0 w1 s0 s1 W).mono fun e W' ⟨he, bel⟩ => ?_
  subst he
  exact ⟨_, rfl, _, _, _, [], _, [], hW', trodAll_mk1 (shut_bool Try.underlying4 _), (trodAll_cons_mk (shut_frame w0) (trodAll_cons_mk (shut_frame w1) trodAll_mk0)), rfl, bel.frame _, fun h => by cases h⟩

theorem over : Rows.frameOneRow.holds Try.pinned (OpenSpec.ofChange Rows.frameOneSpec) :=
  OpenClaim.holds_of_wide 9 Try.f9 rfl rfl rfl rfl rfl rfl rfl ⟨rfl, rfl, rfl, rfl, rfl⟩ rfl rfl rfl rfl rfl (by kernel_rfl) Try.func9 (by kernel_rfl)
    (of_decide_eq_true (by kernel_rfl)) (by unfold Func.isWrapper; first | (rw [if_pos (by decide +kernel)]; kernel_rfl) | (rw [if_neg (by decide +kernel)]; exact ⟨rfl, rfl⟩))
    (fun os started H enc _ => lifted os started H enc)

theorem proved : Rows.FrameOneSaid := over
#print axioms proved
end Go.Proofs.Ytkajldfapkkgbaa.frameOne
