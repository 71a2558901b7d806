/- For every frame f and string s, the law FrameBack of the package brackenkeep returns true: a frame is decoded as it was encoded, whatever follows, and what is decoded is encoded so. No condition. -/
import Derived.Test.YtkajldfapkkgbaaFrUse
namespace Go.Proofs.Ytkajldfapkkgbaa.frameBack
open Go.ChangeShapes Go.WideShapes Go.ChangeAt Go.RowKit
open Go.ChangeMaps (open_string shut_string)
set_option linter.unusedVariables false

/-- What decoding a string answers: a frame whose bytes are the string's first, or nothing and an error. -/
theorem dec_cases (s : ByteArray) : (∃ (v k : Nat) (p : ByteArray), goodF v k p.data.toList ∧ decL s.data.toList = (v, k, p.data.toList, (encB v k p).size, 0) ∧ (encB v k p).size ≤ s.size ∧ encB v k p = s.extract 0 (encB v k p).size) ∨ ∃ c, c ≠ 0 ∧ decL s.data.toList = (0, 0, (⟨#[]⟩ : ByteArray).data.toList, 0, c) := by
  by_cases h : (decL s.data.toList).2.2.2.2 = 0
  · obtain ⟨v, k, p, more, hg, hl, hd⟩ := decL_is h
    refine .inl ⟨v, k, ⟨p.toArray⟩, by simpa using hg, ?_, ?_, ?_⟩
    · rw [hd, ← size_data, encB_data]
    · rw [← size_data, ← size_data, hl, encB_data, List.length_append]; simp
    · apply bytes_of
      rw [ext_data, List.drop_zero, ← size_data, encB_data, hl]; simp
  · exact .inr ⟨_, h, decL_err h⟩
set_option maxRecDepth 100000 in
set_option maxHeartbeats 2000000 in
theorem walk (a0 b0 : Int) (c0 : ByteArray) (a1 : ByteArray) (w0 : (Lit.int .i64 a0).wf = true ∧ (Lit.int .i64 b0).wf = true ∧ c0.size ≤ maxLen) (w1 : a1.size ≤ maxLen) (s0 : c0.data.toList.length ≤ reachBytes) (s1 : a1.data.toList.length ≤ reachBytes) (w : World) :
    Calls Try.prog 5 #[.agg #[.int .i64 a0, .int .i64 b0, .string c0], .string a1] w fun e w' => e = .returned (.bool true) ∧ Below w.heap.size w w' := by
  have t0 := reach_le s0
  have t1 := reach_le s1
  clear s0 s1 w0 w1
  rcases enc_cases a0 b0 c0 with ⟨a, b, rfl, rfl, hg, he⟩ | ⟨c, hc, he⟩
  · have H1 := Lib.hid (encode_is _ _ c0 (by omega) _ _ he)
    have hbd := enc_bd hg
    obtain ⟨U, hU⟩ : ∃ U, encB a b c0 ++ a1 = U := ⟨_, rfl⟩
    have hd := decode_enc hg a1
    rw [hU] at hd
    have H2 := Lib.hid (decode_is U (by rw [← hU, ByteArray.size_append]; omega) _ _ _ _ _ hd)
    have hx := eq_lists c0
    clear he hd hg
    generalize encB a b c0 = t at *
    rcases dec_cases a1 with ⟨v, k, p, hg, hd, hle, hex⟩ | ⟨c, hc, hd⟩
    · have H3 := Lib.hid (decode_is a1 (by omega) _ _ _ _ _ hd)
      have hp6 : p.size ≤ 6000 := by rw [← size_data]; exact hg.2.2.2.2
      have H4 := Lib.hid (encode_is _ _ p (by omega) _ _ (enc_good hg))
      have hy := eq_lists (encB v k p)
      have hex2 := hex.symm
      clear hd hg hex
      generalize encB v k p = q at *
      go_enter Try.func5, Try.ntmps5
      go_wp2_with fail
      refine (framed_any _).mono ?_
      rintro e v1 ⟨rfl, b1⟩
      have o1 := three_next (three_new _ _ _ _ _) b1
      obtain ⟨⟨k0, k1, k2⟩, hb, hlt⟩ := o1
      clear b1
      go_wp2_with fail
      refine (H1.out _).mono ?_
      rintro e v2 ⟨rfl, b2⟩
      have o2 := three_next ⟨⟨k0, k1, k2⟩, hb, hlt⟩ b2
      clear k0 k1 k2 hb hlt b2
      go_wp2_with fail
      refine (H2.out _).mono ?_
      rintro e v3 ⟨rfl, b3⟩
      have o3 := three_next o2 b3
      obtain ⟨⟨k0, k1, k2⟩, hb, hlt⟩ := o3
      clear o2 b3
      go_wp2_with fail
      refine (H3.out _).mono ?_
      rintro e v4 ⟨rfl, b4⟩
      go_wp2_with fail
      refine (H4.out _).mono ?_
      rintro e v5 ⟨rfl, b5⟩
      go_wp2
      go_ret
      exact ⟨rfl, hb.trans ((below2 (below2 (below_new v3 _) b4) (below2 (below_new v4 _) b5)).mono (Nat.le_of_lt hlt))⟩
    · have H3 := Lib.hid (decode_is a1 (by omega) _ _ _ _ _ hd)
      have hc' : ((c : Int) != 0) = true := by simp; omega
      clear hd hc
      go_enter Try.func5, Try.ntmps5
      go_wp2_with fail
      refine (framed_any _).mono ?_
      rintro e v1 ⟨rfl, b1⟩
      have o1 := three_next (three_new _ _ _ _ _) b1
      obtain ⟨⟨k0, k1, k2⟩, hb, hlt⟩ := o1
      clear b1
      go_wp2_with fail
      refine (H1.out _).mono ?_
      rintro e v2 ⟨rfl, b2⟩
      have o2 := three_next ⟨⟨k0, k1, k2⟩, hb, hlt⟩ b2
      clear k0 k1 k2 hb hlt b2
      go_wp2_with fail
      refine (H2.out _).mono ?_
      rintro e v3 ⟨rfl, b3⟩
      have o3 := three_next o2 b3
      obtain ⟨⟨k0, k1, k2⟩, hb, hlt⟩ := o3
      clear o2 b3
      go_wp2_with fail
      refine (H3.out _).mono ?_
      rintro e v4 ⟨rfl, b4⟩
      go_wp2
      go_ret
      exact ⟨rfl, hb.trans (((below2 (below2 (below_new v3 _) b4) (below_new v4 _))).mono (Nat.le_of_lt hlt))⟩
  · have H1 := Lib.hid (encode_is _ _ c0 (by omega) _ _ he)
    have hc0 : ((c : Int) == 0) = false := by simp; omega
    clear he hc
    rcases dec_cases a1 with ⟨v, k, p, hg, hd, hle, hex⟩ | ⟨c', hc, hd⟩
    · have H3 := Lib.hid (decode_is a1 (by omega) _ _ _ _ _ hd)
      have hp6 : p.size ≤ 6000 := by rw [← size_data]; exact hg.2.2.2.2
      have H4 := Lib.hid (encode_is _ _ p (by omega) _ _ (enc_good hg))
      have hy := eq_lists (encB v k p)
      have hex2 := hex.symm
      clear hd hg hex
      generalize encB v k p = q at *
      go_enter Try.func5, Try.ntmps5
      go_wp2_with fail
      refine (framed_any _).mono ?_
      rintro e v1 ⟨rfl, b1⟩
      have o1 := three_next (three_new _ _ _ _ _) b1
      obtain ⟨⟨k0, k1, k2⟩, hb, hlt⟩ := o1
      clear b1
      go_wp2_with fail
      refine (H1.out _).mono ?_
      rintro e v2 ⟨rfl, b2⟩
      have o2 := three_next ⟨⟨k0, k1, k2⟩, hb, hlt⟩ b2
      clear k0 k1 k2 hb hlt b2
      obtain ⟨⟨k0, k1, k2⟩, hb, hlt⟩ := o2
      go_wp2_with fail
      refine (H3.out _).mono ?_
      rintro e v4 ⟨rfl, b4⟩
      go_wp2_with fail
      refine (H4.out _).mono ?_
      rintro e v5 ⟨rfl, b5⟩
      go_wp2
      go_ret
      exact ⟨rfl, hb.trans ((below2 b4 (below2 (below_new v4 _) b5)).mono (Nat.le_of_lt hlt))⟩
    · have H3 := Lib.hid (decode_is a1 (by omega) _ _ _ _ _ hd)
      have hc' : ((c' : Int) != 0) = true := by simp; omega
      clear hd hc
      go_enter Try.func5, Try.ntmps5
      go_wp2_with fail
      refine (framed_any _).mono ?_
      rintro e v1 ⟨rfl, b1⟩
      have o1 := three_next (three_new _ _ _ _ _) b1
      obtain ⟨⟨k0, k1, k2⟩, hb, hlt⟩ := o1
      clear b1
      go_wp2_with fail
      refine (H1.out _).mono ?_
      rintro e v2 ⟨rfl, b2⟩
      have o2 := three_next ⟨⟨k0, k1, k2⟩, hb, hlt⟩ b2
      clear k0 k1 k2 hb hlt b2
      obtain ⟨⟨k0, k1, k2⟩, hb, hlt⟩ := o2
      go_wp2_with fail
      refine (H3.out _).mono ?_
      rintro e v4 ⟨rfl, b4⟩
      go_wp2
      go_ret
      exact ⟨rfl, hb.trans ((below2 b4 (below_new v4 _)).mono (Nat.le_of_lt hlt))⟩

theorem own : ownKnob Try.prog.godebug = none := by kernel_rfl
set_option maxRecDepth 100000 in
theorem lifted (os : Os) (started : os.Started) (H : Type) (enc : TypeId × Value → H) :
    ReturnsInHanded {} Try.checked os 5 .any (Rows.frameBackSpec.pre6 enc Try.prog Try.f5 Rows.frameBackRow.domain false) (Rows.frameBackSpec.post enc Try.prog Try.f5 false true false false) := by
  refine returnsInHanded_of_change_sized (C := Try.checked) own started (by kernel_rfl) Try.func5
    (ChangeSpec.witness6 (enc := enc) (C := Try.checked) false ⟨#[], #[.agg #[.int .i64 0, .int .i64 0, .string ByteArray.empty], .string ByteArray.empty], []⟩ 8 (by kernel_rfl) (by kernel_rfl) (by kernel_rfl) (by kernel_rfl)) ?_
  intro W base args ds gs before hval0 hW hcnd hsz0 _
  have hval : ∀ (j : Nat) t v, Try.f5.params[j]? = some t → args[j]? = some v → Value.okWide Try.prog W .any base t v := hval0
  have hW' := hW
  obtain ⟨p, q, hA0, hV, rfl, hfz, hnd⟩ := hW
  have hA : DataW.TrodAll enc Try.prog W 0 (fun _ => true) true Try.f5.params.toList args.toList ds p := hA0
  have hsz : (DataW.weightsEach Try.prog (Try.f5.params.toList ++ Rows.frameBackSpec.plain.varTypes Try.prog) (ds ++ gs)).all (· ≤ reachBytes) = true := hsz0
  rw [Try.params5] at hA hval hsz
  obtain ⟨v0, vs0, d0, ds0, p0, q0, hargs, rfl, rfl, h0, r0⟩ := trodAll_cons hA
  obtain ⟨v1, vs1, d1, ds1, p1, q1, rfl, rfl, rfl, h1, r1⟩ := trodAll_cons r0
  obtain ⟨rfl, rfl, rfl⟩ := trodAll_nil r1
  obtain rfl : args = #[v0, v1] := by cases args; simp_all
  obtain ⟨rfl, rfl⟩ := trodVars_none hV
  obtain ⟨a0, b0, c0, rfl, rfl, rfl, w0⟩ := open_frame (hval 0 23 v0 rfl rfl) h0
  obtain ⟨a1, rfl, rfl, rfl, w1⟩ := open_string Try.underlying9 (hval 1 9 v1 rfl rfl) h1
  have s0 : c0.data.toList.length ≤ reachBytes := sized_frame hsz (j := 0) rfl rfl
  have s1 : a1.data.toList.length ≤ reachBytes := sized_string hsz (j := 1) (t := 9) rfl rfl
  clear hA0 hval0
  refine (walk a0 b0 c0 a1 w0 w1 s0 s1 W).mono fun e W' ⟨he, bel⟩ => ?_
  subst he
  exact ⟨_, rfl, _, _, _, [], _, [], hW', trodAll_mk1 (shut_bool Try.underlying4 _), (trodAll_cons_mk (shut_frame w0) (trodAll_cons_mk (shut_string Try.underlying9 w1) trodAll_mk0)), rfl, bel.frame _, fun h => by cases h⟩

theorem over : Rows.frameBackRow.holds Try.pinned (OpenSpec.ofChange Rows.frameBackSpec) :=
  OpenClaim.holds_of_wide 5 Try.f5 rfl rfl rfl rfl rfl rfl rfl ⟨rfl, rfl, rfl, rfl, rfl⟩ rfl rfl rfl rfl rfl (by kernel_rfl) Try.func5 (by kernel_rfl)
    (of_decide_eq_true (by kernel_rfl)) (by unfold Func.isWrapper; first | (rw [if_pos (by decide +kernel)]; kernel_rfl) | (rw [if_neg (by decide +kernel)]; exact ⟨rfl, rfl⟩))
    (fun os started H enc _ => lifted os started H enc)

theorem proved : Rows.FrameBackSaid := over
#print axioms proved
end Go.Proofs.Ytkajldfapkkgbaa.frameBack
