/- For every frame f, int at and byte c, the law FrameTurned of the package brackenkeep returns true: a frame with one byte that is another one is never decoded as the same frame, and it is no frame unless the byte is one of its length's. No condition. -/
import Derived.Test.YtkajldfapkkgbaaFrUse
namespace Go.Proofs.Ytkajldfapkkgbaa.frameTurned
open Go.ChangeShapes Go.WideShapes Go.ChangeAt Go.RowKit
open Go.ChangeMaps (open_string shut_string)
set_option linter.unusedVariables false

theorem emod_nat (a : Int) (n : Nat) (h : 0 < n) : ∃ j : Nat, a % (n : Int) = (j : Int) ∧ j < n := by
  have h1 := Int.emod_nonneg a (b := (n : Int)) (by omega)
  have h2 := Int.emod_lt_of_pos a (b := (n : Int)) (by omega)
  exact ⟨(a % (n : Int)).toNat, by omega, by omega⟩
theorem data_at (s : ByteArray) (j : Nat) (h : j < s.size) : s.data.toList = s.data.toList.take j ++ s[j] :: s.data.toList.drop (j + 1) := by
  rw [← drop_at s j h]; simp
theorem data_put (s : ByteArray) (j : Nat) (b : UInt8) : (s.extract 0 j ++ ⟨#[b]⟩ ++ s.extract (j + 1) s.size).data.toList = s.data.toList.take j ++ b :: s.data.toList.drop (j + 1) := by
  have hsz : s.data.toList.take s.size = s.data.toList := List.take_of_length_le (by simp)
  rw [app_data, app_data, ext_data, ext_data, hsz]; simp
/-- What decoding answers behind the change. -/
theorem turned {a b : Nat} {p : ByteArray} (hg : goodF a b p.data.toList) (j : Nat) (hj : j < (encB a b p).size) (c : UInt8) (U : ByteArray) (hU : (encB a b p).extract 0 j ++ ⟨#[c]⟩ ++ (encB a b p).extract (j + 1) (encB a b p).size = U) :
    (U = encB a b p ∧ decL U.data.toList = (a, b, p.data.toList, (encB a b p).size, 0)) ∨
    (U ≠ encB a b p ∧ ((∃ e, e ≠ 0 ∧ decL U.data.toList = (0, 0, (⟨#[]⟩ : ByteArray).data.toList, 0, e)) ∨
      ∃ v k q n, decL U.data.toList = (v, k, ByteArray.data q |>.toList, n, 0) ∧ ¬ (v = a ∧ k = b ∧ q = p) ∧ 4 ≤ j ∧ j < 4 + (numS p.size).size)) := by
  have e1 : U.data.toList = (encB a b p).data.toList.take j ++ c :: (encB a b p).data.toList.drop (j + 1) := by rw [← hU]; exact data_put _ _ _
  have e2 := data_at (encB a b p) j hj
  by_cases h : c = (encB a b p)[j]
  · left
    have e3 : U = encB a b p := by
      apply bytes_of
      rw [e1, h, ← e2]
    have hd := decode_enc hg ⟨#[]⟩
    have h3 : encB a b p ++ ⟨#[]⟩ = encB a b p := bytes_of (by rw [app_data]; simp)
    rw [h3] at hd
    exact ⟨e3, by rw [e3]; exact hd⟩
  · right
    refine ⟨?_, ?_⟩
    · intro e3
      rw [e3] at e1
      have e4 := e2.symm.trans e1
      have := List.append_cancel_left e4
      simp at this
      exact h this.symm
    · by_cases hok : (decL U.data.toList).2.2.2.2 = 0
      · right
        rw [encB_data] at e2
        rw [e1, encB_data] at hok
        obtain ⟨v, k, q, hd, hne, hq1, hq2⟩ := decL_turned hg _ _ _ c e2 h hok
        rw [← encB_data, ← e1] at hd
        have hl : ((encL a b p.data.toList).take j).length = j := by
          rw [List.length_take, ← encB_data, size_data]; omega
        rw [hl] at hq1 hq2
        refine ⟨v, k, ⟨q.toArray⟩, _, hd, ?_, hq1, by rw [numS_size, ← size_data]; exact hq2⟩
        rintro ⟨rfl, rfl, rfl⟩
        exact hne ⟨rfl, rfl, rfl⟩
      · exact .inl ⟨_, hok, decL_err hok⟩

set_option maxRecDepth 100000 in
set_option maxHeartbeats 2000000 in
theorem walk (a0 b0 : Int) (c0 : ByteArray) (a1 a2 : Int) (w0 : (Lit.int .i64 a0).wf = true ∧ (Lit.int .i64 b0).wf = true ∧ c0.size ≤ maxLen) (w1 : (Lit.int .i64 a1).wf = true) (w2 : (Lit.int .u8 a2).wf = true) (s0 : c0.data.toList.length ≤ reachBytes) (w : World) :
    Calls Try.prog 7 #[.agg #[.int .i64 a0, .int .i64 b0, .string c0], .int .i64 a1, .int .u8 a2] w fun e w' => e = .returned (.bool true) ∧ Below w.heap.size w w' := by
  have t0 := reach_le s0
  have hb2 : 0 ≤ a2 ∧ a2 ≤ 255 := by
    simp [Lit.wf, IntKind.min, IntKind.max, IntKind.signed, IntKind.bits] at w2; omega
  obtain ⟨d, hd⟩ : ∃ d : UInt8, a2 = (d.toNat : Int) := ⟨UInt8.ofNat a2.toNat, by simp; omega⟩
  subst hd
  clear hb2 w2 w0 w1 s0
  rcases enc_cases a0 b0 c0 with ⟨a, b, rfl, rfl, hg, he⟩ | ⟨c, hc, he⟩
  · have H1 := Lib.hid (encode_is _ _ c0 (by omega) _ _ he)
    have hbd := enc_bd hg
    obtain ⟨j, hj, hj2⟩ := emod_nat a1 (encB a b c0).size (by omega)
    have HR := Lib.hid (rest_is a1 (encB a b c0).size (by omega) (by omega))
    rw [hj] at HR
    have hp6 : c0.size ≤ 6000 := by rw [← size_data]; exact hg.2.2.2.2
    have HN := Lib.hid (number_is c0.size (by omega))
    have hn10 : (numS c0.size).size ≤ 10 := by rw [numS_size]; exact num_len10 (by omega)
    have hcv := fun wx g => run_string_one wx g d
    obtain ⟨U, hU⟩ : ∃ U, (encB a b c0).extract 0 j ++ ⟨#[d]⟩ ++ (encB a b c0).extract (j + 1) (encB a b c0).size = U := ⟨_, rfl⟩
    have hUs : U.size ≤ 7000 := by
      rw [← hU, ByteArray.size_append, ByteArray.size_append, ByteArray.size_extract, ByteArray.size_extract]
      have : (⟨#[d]⟩ : ByteArray).size = 1 := rfl
      omega
    have ht := turned hg j hj2 d U hU
    clear he hj hg
    generalize encB a b c0 = t at *
    generalize numS c0.size = N at *
    rcases ht with ⟨hUt, hd⟩ | ⟨hUt, ⟨e', he', hd⟩ | ⟨v, k, q, n, hd, hne, hj4, hj5⟩⟩
    · have H2 := Lib.hid (decode_is U (by omega) _ _ _ _ _ hd)
      have hx := eq_lists t
      have hy := eq_lists c0
      have hUt' : (U.toList == t.toList) = true := by rw [hUt]; exact hx
      clear hd hUt
      go_enter Try.func7, Try.ntmps7
      go_wp2_with fail
      refine (framed_any _).mono ?_
      rintro e v1 ⟨rfl, b1⟩
      obtain ⟨⟨k0, k1, k2⟩, hb, hlt⟩ := three_next (three_new _ _ _ _ _) b1
      clear b1
      go_wp2_with fail
      refine (H1.out _).mono ?_
      rintro e v2 ⟨rfl, b2⟩
      have o2 := three_next ⟨⟨k0, k1, k2⟩, hb, hlt⟩ b2
      clear k0 k1 k2 hb hlt b2
      go_wp2_with fail
      refine (HR.out _).mono ?_
      rintro e v3 ⟨rfl, rfl⟩
      go_wp2_with fail
      go_region
      have o3 := (three_next o2 (below_new v2 (.cells #[.int .u8 (d.toNat : Int)] 5))).drew
      clear o2
      go_wp2_with fail
      refine (H2.out _).mono ?_
      rintro e v4 ⟨rfl, b4⟩
      have o4 := three_next o3 b4
      clear o3 b4
      have o5 := three_next o4 (below_new v4 (.cells #[.int .i64 (a : Int), .int .i64 (b : Int), .string c0] 23))
      have g5 := three_new v4 (.int .i64 (a : Int)) (.int .i64 (b : Int)) (.string c0) 23
      obtain ⟨⟨k0, k1, k2⟩, hb, hlt⟩ := o5
      go_wp2_with fail
      refine (HN.out _).mono ?_
      rintro e v6 ⟨rfl, b6⟩
      have o6 := three_next ⟨⟨k0, k1, k2⟩, hb, hlt⟩ b6
      have g6 := three_next g5 b6
      clear k0 k1 k2 hb hlt b6 g5 o4
      obtain ⟨⟨k0, k1, k2⟩, hb, hlt⟩ := o6
      obtain ⟨⟨g0, g1, g2⟩, _, _⟩ := g6
      go_wp2
      go_ret
      exact ⟨rfl, hb⟩
    · have H2 := Lib.hid (decode_is U (by omega) _ _ _ _ _ hd)
      have hUt' := ne_lists hUt
      have he0 : ((e' : Int) != 0) = true := by simp; omega
      clear hd hUt he'
      go_enter Try.func7, Try.ntmps7
      go_wp2_with fail
      refine (framed_any _).mono ?_
      rintro e v1 ⟨rfl, b1⟩
      obtain ⟨⟨k0, k1, k2⟩, hb, hlt⟩ := three_next (three_new _ _ _ _ _) b1
      clear b1
      go_wp2_with fail
      refine (H1.out _).mono ?_
      rintro e v2 ⟨rfl, b2⟩
      have o2 := three_next ⟨⟨k0, k1, k2⟩, hb, hlt⟩ b2
      clear k0 k1 k2 hb hlt b2
      go_wp2_with fail
      refine (HR.out _).mono ?_
      rintro e v3 ⟨rfl, rfl⟩
      go_wp2_with fail
      go_region
      have o3 := (three_next o2 (below_new v2 (.cells #[.int .u8 (d.toNat : Int)] 5))).drew
      clear o2
      go_wp2_with fail
      refine (H2.out _).mono ?_
      rintro e v4 ⟨rfl, b4⟩
      have o4 := three_next o3 b4
      clear o3 b4
      have o5 := three_next o4 (below_new v4 (.cells #[.int .i64 0, .int .i64 0, .string ⟨#[]⟩] 23))
      have g5 := three_new v4 (.int .i64 0) (.int .i64 0) (.string ⟨#[]⟩) 23
      obtain ⟨⟨k0, k1, k2⟩, hb, hlt⟩ := o5
      go_wp2_with fail
      refine (HN.out _).mono ?_
      rintro e v6 ⟨rfl, b6⟩
      have o6 := three_next ⟨⟨k0, k1, k2⟩, hb, hlt⟩ b6
      have g6 := three_next g5 b6
      clear k0 k1 k2 hb hlt b6 g5 o4
      obtain ⟨⟨k0, k1, k2⟩, hb, hlt⟩ := o6
      obtain ⟨⟨g0, g1, g2⟩, _, _⟩ := g6
      go_wp2
      go_ret
      exact ⟨rfl, hb⟩
    · have H2 := Lib.hid (decode_is U (by omega) _ _ _ _ _ hd)
      have hUt' := ne_lists hUt
      have hf := fields (a0 := (v : Int)) (b0 := (k : Int)) (c0 := q) (a1 := (a : Int)) (b1 := (b : Int)) (c1 := c0) (fun h => hne ⟨by omega, by omega, h.2.2⟩)
      have hd4 : decide ((4 : Int) ≤ (j : Int)) = true := by simp; omega
      have hd5 : decide ((j : Int) < 4 + (N.size : Int)) = true := by simp; omega
      clear hd hUt hne hj4 hj5
      have hf2 : ((v : Int) == (a : Int)) = false ∨ (v = a ∧ ((k : Int) == (b : Int)) = false) ∨ (v = a ∧ k = b ∧ (q.toList == c0.toList) = false) := by
        rcases hf with h | ⟨h0, h⟩ | ⟨h0, h1, h⟩
        · exact .inl h
        · exact .inr (.inl ⟨by omega, h⟩)
        · exact .inr (.inr ⟨by omega, by omega, h⟩)
      clear hf
      rcases hf2 with h | ⟨rfl, h⟩ | ⟨rfl, rfl, h⟩
      all_goals
        go_enter Try.func7, Try.ntmps7
        go_wp2_with fail
        refine (framed_any _).mono ?_
        rintro e v1 ⟨rfl, b1⟩
        obtain ⟨⟨k0, k1, k2⟩, hb, hlt⟩ := three_next (three_new _ _ _ _ _) b1
        clear b1
        go_wp2_with fail
        refine (H1.out _).mono ?_
        rintro e v2 ⟨rfl, b2⟩
        have o2 := three_next ⟨⟨k0, k1, k2⟩, hb, hlt⟩ b2
        clear k0 k1 k2 hb hlt b2
        go_wp2_with fail
        refine (HR.out _).mono ?_
        rintro e v3 ⟨rfl, rfl⟩
        go_wp2_with fail
        go_region
        have o3 := (three_next o2 (below_new v2 (.cells #[.int .u8 (d.toNat : Int)] 5))).drew
        clear o2
        go_wp2_with fail
        refine (H2.out _).mono ?_
        rintro e v4 ⟨rfl, b4⟩
        have o4 := three_next o3 b4
        clear o3 b4
        have o5 := three_next o4 (below_new v4 (.cells #[.int .i64 (v : Int), .int .i64 (k : Int), .string q] 23))
        have g5 := three_new v4 (.int .i64 (v : Int)) (.int .i64 (k : Int)) (.string q) 23
        obtain ⟨⟨k0, k1, k2⟩, hb, hlt⟩ := o5
        go_wp2_with fail
        refine (HN.out _).mono ?_
        rintro e v6 ⟨rfl, b6⟩
        have o6 := three_next ⟨⟨k0, k1, k2⟩, hb, hlt⟩ b6
        have g6 := three_next g5 b6
        clear k0 k1 k2 hb hlt b6 g5 o4
        obtain ⟨⟨k0, k1, k2⟩, hb, hlt⟩ := o6
        obtain ⟨⟨g0, g1, g2⟩, _, _⟩ := g6
        go_wp2
        go_ret
        exact ⟨rfl, hb⟩
  · have H1 := Lib.hid (encode_is _ _ c0 (by omega) _ _ he)
    have hc' : ((c : Int) != 0) = true := by simp; omega
    clear he hc
    go_enter Try.func7, Try.ntmps7
    go_wp2_with fail
    refine (framed_any _).mono ?_
    rintro e v1 ⟨rfl, b1⟩
    obtain ⟨⟨k0, k1, k2⟩, hb, hlt⟩ := three_next (three_new _ _ _ _ _) b1
    clear b1
    go_wp2_with fail
    refine (H1.out _).mono ?_
    rintro e v2 ⟨rfl, b2⟩
    go_wp2
    go_ret
    exact ⟨rfl, hb.trans (b2.mono (Nat.le_of_lt hlt))⟩

theorem own : ownKnob Try.prog.godebug = none := by kernel_rfl
set_option maxRecDepth 100000 in
theorem lifted (os : Os) (started : os.Started) (H : Type) (enc : TypeId × Value → H) :
    ReturnsInHanded {} Try.checked os 7 .any (Rows.frameTurnedSpec.pre6 enc Try.prog Try.f7 Rows.frameTurnedRow.domain false) (Rows.frameTurnedSpec.post enc Try.prog Try.f7 false true false false) := by
  refine returnsInHanded_of_change_sized (C := Try.checked) own started (by kernel_rfl) Try.func7
    (ChangeSpec.witness6 (enc := enc) (C := Try.checked) false ⟨#[], #[.agg #[.int .i64 0, .int .i64 0, .string ByteArray.empty], .int .i64 0, .int .u8 0], []⟩ 8 (by kernel_rfl) (by kernel_rfl) (by kernel_rfl) (by kernel_rfl)) ?_
  intro W base args ds gs before hval0 hW hcnd hsz0 _
  have hval : ∀ (j : Nat) t v, Try.f7.params[j]? = some t → args[j]? = some v → Value.okWide Try.prog W .any base t v := hval0
  have hW' := hW
  obtain ⟨p, q, hA0, hV, rfl, hfz, hnd⟩ := hW
  have hA : DataW.TrodAll enc Try.prog W 0 (fun _ => true) true Try.f7.params.toList args.toList ds p := hA0
  have hsz : (DataW.weightsEach Try.prog (Try.f7.params.toList ++ Rows.frameTurnedSpec.plain.varTypes Try.prog) (ds ++ gs)).all (· ≤ reachBytes) = true := hsz0
  rw [Try.params7] at hA hval hsz
  obtain ⟨v0, vs0, d0, ds0, p0, q0, hargs, rfl, rfl, h0, r0⟩ := trodAll_cons hA
  obtain ⟨v1, vs1, d1, ds1, p1, q1, rfl, rfl, rfl, h1, r1⟩ := trodAll_cons r0
  obtain ⟨v2, vs2, d2, ds2, p2, q2, rfl, rfl, rfl, h2, r2⟩ := trodAll_cons r1
  obtain ⟨rfl, rfl, rfl⟩ := trodAll_nil r2
  obtain rfl : args = #[v0, v1, v2] := by cases args; simp_all
  obtain ⟨rfl, rfl⟩ := trodVars_none hV
  obtain ⟨a0, b0, c0, rfl, rfl, rfl, w0⟩ := open_frame (hval 0 23 v0 rfl rfl) h0
  obtain ⟨a1, rfl, rfl, rfl, w1⟩ := open_int Try.underlying3 (hval 1 3 v1 rfl rfl) h1
  obtain ⟨a2, rfl, rfl, rfl, w2⟩ := open_int Try.underlying5 (hval 2 5 v2 rfl rfl) h2
  have s0 : c0.data.toList.length ≤ reachBytes := sized_frame hsz (j := 0) rfl rfl
  clear hA0 hval0
  refine (walk a0 b0 c0 a1 a2 w0 w1 w2 s0 W).mono fun e W' ⟨he, bel⟩ => ?_
  subst he
  exact ⟨_, rfl, _, _, _, [], _, [], hW', trodAll_mk1 (shut_bool Try.underlying4 _), (trodAll_cons_mk (shut_frame w0) (trodAll_cons_mk (shut_int Try.underlying3 w1) (trodAll_cons_mk (shut_int Try.underlying5 w2) trodAll_mk0))), rfl, bel.frame _, fun h => by cases h⟩

theorem over : Rows.frameTurnedRow.holds Try.pinned (OpenSpec.ofChange Rows.frameTurnedSpec) :=
  OpenClaim.holds_of_wide 7 Try.f7 rfl rfl rfl rfl rfl rfl rfl ⟨rfl, rfl, rfl, rfl, rfl⟩ rfl rfl rfl rfl rfl (by kernel_rfl) Try.func7 (by kernel_rfl)
    (of_decide_eq_true (by kernel_rfl)) (by unfold Func.isWrapper; first | (rw [if_pos (by decide +kernel)]; kernel_rfl) | (rw [if_neg (by decide +kernel)]; exact ⟨rfl, rfl⟩))
    (fun os started H enc _ => lifted os started H enc)

theorem proved : Rows.FrameTurnedSaid := over
#print axioms proved
end Go.Proofs.Ytkajldfapkkgbaa.frameTurned
