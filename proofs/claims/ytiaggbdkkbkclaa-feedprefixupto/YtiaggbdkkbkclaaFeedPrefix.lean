/- For every string s of bulk at most 1048576, the law FeedPrefix of the package brackenkeep returns true: the returned frames, encoded, are exactly the bytes before the position. Condition: the bound on the bulk. -/
import Derived.Test.YtiaggbdkkbkclaaFdEq
import Derived.Test.YtiaggbdkkbkclaaUpto
import Derived.JoinedCond
namespace Go.Proofs.Ytiaggbdkkbkclaa.feedPrefix
open Go.ChangeShapes Go.WideShapes Go.ChangeAt Go.RowKit
open Go.ChangeMaps (open_string shut_string)
set_option linter.unusedVariables false

set_option maxRecDepth 100000 in
set_option maxHeartbeats 1000000 in
theorem walk (a0 : ByteArray) (w0 : a0.size ≤ maxLen) (s0 : a0.size ≤ 1048576) (w : World) :
    Calls Try.prog 6 #[.string a0] w fun e w' => e = .returned (.bool true) ∧ Below w.heap.size w w' := by
  obtain ⟨fs, r', a', c', hp⟩ := pushed_any' (⟨#[]⟩ : ByteArray).data.toList 0 0 a0.data.toList
  have hbd := pushed_bd hp
  rw [size_data, size_data, size_data] at hbd
  have hz : (⟨#[]⟩ : ByteArray).size = 0 := rfl
  rw [hz] at hbd
  have HP := Lib.hid hp
  clear w0 hp
  obtain ⟨hb1, hb2, hg⟩ := hbd
  have HG := Lib.hid hg
  clear hg hz
  go_enter Try.func6, Try.ntmps6
  go_wp2_with fail
  refine (fed_any _).mono ?_
  rintro e v1 ⟨rfl, b1⟩
  go_wp2_with fail
  refine (new_is _).mono ?_
  rintro e v2 ⟨rfl, f2, b2, l2⟩
  go_wp2_with fail
  refine (push_is f2 a0 fs r' a' c' HP.out (by rw [show (⟨#[]⟩ : ByteArray).size = 0 from rfl]; omega) (by omega) (by omega)).mono ?_
  rintro e v3 ⟨v, rfl, o3, f3, g3⟩
  have hb := Lib.hid (below2 b1 (b2.grown g3 b2.size (fun k hk => by simp at hk; omega)))
  clear b1 b2 g3 f2 l2
  obtain ⟨ad, cap, hv⟩ := own_slice o3
  subst hv
  have O3 := Lib.hid o3
  have F3 := Lib.hid f3
  clear o3 f3
  go_wp2
  go_loopw [6, 22] (fun tv iv wr => ∃ (i : Nat), iv = .int .i64 (i : Int) ∧ i ≤ fs.length ∧ tv = .string (encsB (fs.take i)) ∧ Below v3.heap.size v3 wr) (fun _ iv _ => fs.length - (intOf iv).toNat)
  case atStart => exact ⟨0, rfl, by omega, rfl, Below.refl _ _⟩
  case round =>
    obtain ⟨i, rfl, hi, rfl, hbr⟩ := hrel
    by_cases h : (i : Int) < (fs.length : Int)
    · have hil : i < fs.length := by omega
      obtain ⟨g, rfl⟩ := row_at O3.out (by omega)
      obtain ⟨k0, k1, k2⟩ := row_cells (own_below O3.out hbr) rfl i hil
      obtain ⟨f, hf⟩ : ∃ f, fs[i] = f := ⟨_, rfl⟩
      rw [hf] at k0 k1 k2
      have hgf : goodFr f := HG.out f (by rw [← hf]; exact List.getElem_mem _)
      obtain ⟨v0, p0, c0⟩ := f
      have hc6 : c0.size ≤ 6000 := by rw [← size_data]; exact hgf.2.2.2.2
      have H1 := Lib.hid (encode_is _ _ c0 (by omega) _ _ (enc_good hgf))
      have HE := Lib.hid (show encsB (fs.take i) ++ encB v0 p0 c0 = encsB (fs.take (i + 1)) by
        rw [List.take_succ_eq_append_getElem hil, hf]; exact encsB_snoc _ (v0, p0, c0))
      obtain ⟨X, hX⟩ : ∃ X, encsB (fs.take i) = X := ⟨_, rfl⟩
      obtain ⟨Y, hY⟩ : ∃ Y, encB v0 p0 c0 = Y := ⟨_, rfl⟩
      have hXs : X.size ≤ 6018 * fs.length := by
        have hg : goods (fs.take i) := fun y hy => HG.out y (List.mem_of_mem_take hy)
        have h1 := (encs_bd hg).2
        have h2 : (fs.take i).length ≤ fs.length := by rw [List.length_take]; omega
        rw [← hX, encsB_size]; omega
      have hYs : Y.size ≤ 6018 := by rw [← hY]; exact (enc_bd hgf).1
      simp only at H1 k0 k1 k2
      rw [hX, hY] at HE
      rw [hY] at H1
      have hadd : ¬ (9223372036854775807 < X.size + Y.size) := by omega
      rw [hX]
      clear hX hY hgf hf hXs hYs
      go_wp2_with fail
      refine (H1.out _).mono ?_
      rintro e w2 ⟨rfl, b2⟩
      have hb3 := hbr.trans ((below2 (below_new wr (.cells #[.int .i64 (v0 : Int), .int .i64 (p0 : Int), .string c0] 33)) b2).mono hbr.size)
      clear b2
      go_wp2
      go_roundw
      case rel => exact ⟨i + 1, by simp, by omega, by rw [← HE.out], hb3⟩
      case measure => simp [intOf]; omega
    · obtain rfl : i = fs.length := by omega
      have f4 := feedAt_next F3.out hbr
      obtain ⟨_, ha', q, hq, hq0, hq1⟩ := pushed_first HP.out
      rw [List.take_length]
      obtain ⟨X, hX⟩ : ∃ X, encsB fs = X := ⟨_, rfl⟩
      have hXa : X.size = a' := by rw [← hX, encsB_size, ha']
      have hXe : a0.extract 0 X.size = X := by
        apply bytes_of
        rw [ext_data, List.drop_zero, ← size_data, ← hX, encsB_data, hq]; simp
      have hXq := eq_lists X
      have hXl : (X.size : Int) ≤ (a0.size : Int) := by omega
      have hQ := congrArg List.length hq
      rw [List.length_append, ← ha', size_data] at hQ
      rw [hX]
      subst hXa
      clear hq ha' hX
      by_cases hc : c' = 0
      · subst hc
        obtain ⟨h1, h2⟩ := hq0 rfl
        rw [size_data] at h2
        rw [← h1, size_data] at hQ
        clear hq0 hq1 h1
        have hr1 : (r'.size : Int) = (a0.size : Int) - (X.size : Int) := by omega
        have hr2 : IntKind.i64.wrap ((a0.size : Int) - (X.size : Int)) = (a0.size : Int) - (X.size : Int) := IntWalk.i64_in _ (by omega)
        have hr3 : (a0.size : Int) - (X.size : Int) ≤ 6020 := by omega
        clear hQ h2 hb1 hb2
        go_wp2_with fail
        refine (at_is f4).mono ?_
        rintro e v5 ⟨rfl, rfl⟩
        go_wp2_with fail
        refine (left_is f4).mono ?_
        rintro e v5 ⟨rfl, rfl⟩
        go_wp2_with fail
        refine (left_is f4).mono ?_
        rintro e v5 ⟨rfl, rfl⟩
        go_wp2
        go_ret
        exact ⟨rfl, below3 hb.out hbr⟩
      · have hr := hq1 hc
        obtain rfl : r' = ⟨#[]⟩ := bytes_of hr
        have hc' : ((c' : Int) != 0) = true := by simp; omega
        clear hq0 hq1 hc
        go_wp2_with fail
        refine (at_is f4).mono ?_
        rintro e v5 ⟨rfl, rfl⟩
        go_wp2_with fail
        refine (left_is f4).mono ?_
        rintro e v5 ⟨rfl, rfl⟩
        go_wp2
        go_ret
        exact ⟨rfl, below3 hb.out hbr⟩

theorem own : ownKnob Try.prog.godebug = none := by kernel_rfl
set_option maxRecDepth 100000 in
theorem lifted (os : Os) (started : os.Started) (H : Type) (enc : TypeId × Value → H) (F : Stop.Interp) :
    ReturnsInHanded {} Try.checked os 6 .any ((Rows.OpenSpec.upto Rows.feedPrefixSpec).pre6 enc Try.prog Try.f6 Rows.feedPrefixUptoRow.domain false) (((Rows.OpenSpec.upto Rows.feedPrefixSpec).at F).post enc Try.prog Try.f6 false true false false) := by
  refine returnsInHanded_of_cond (C := Try.checked) (s := Rows.OpenSpec.upto Rows.feedPrefixSpec) (k := Rows.uptoSmall) rfl own started (by kernel_rfl) Try.func6
    (OpenSpec.witness (enc := enc) (C := Try.checked) (s := Rows.OpenSpec.upto Rows.feedPrefixSpec) (k := Rows.uptoSmall) rfl false ⟨#[], #[.string ByteArray.empty], []⟩ 8 (by kernel_rfl) (by kernel_rfl) (by kernel_rfl)
      (x := ([.lit (.string [])], [], [])) (by kernel_rfl) rfl (by kernel_rfl)) ?_
  intro W base args ds gs before hval0 hW _ hk0 _
  have hval : ∀ (j : Nat) t v, Try.f6.params[j]? = some t → args[j]? = some v → Value.okWide Try.prog W .any base t v := hval0
  have hW' := hW
  obtain ⟨p, q, hA0, hV, rfl, hfz, hnd⟩ := hW
  have hA : DataW.TrodAll enc Try.prog W 0 (fun _ => true) true Try.f6.params.toList args.toList ds p := hA0
  rw [Try.params6] at hA hval
  obtain ⟨v0, vs0, d0, ds0, p0, q0, hargs, rfl, rfl, h0, r0⟩ := trodAll_cons hA
  obtain ⟨rfl, rfl, rfl⟩ := trodAll_nil r0
  obtain rfl : args = #[v0] := by cases args; simp_all
  obtain ⟨rfl, rfl⟩ := trodVars_none hV
  have hk := hk0
  obtain ⟨a0, rfl, rfl, rfl, w0⟩ := open_string Try.underlying9 (hval 0 9 v0 rfl rfl) h0
  have s0 : a0.size ≤ 1048576 := upto_string hk (j := 0) rfl
  clear hA0 hval0
  refine (walk a0 w0 s0 W).mono fun e W' ⟨he, bel⟩ => ?_
  subst he
  exact ⟨_, rfl, _, _, _, [], _, [], hW', trodAll_mk1 (shut_bool Try.underlying4 _), (trodAll_cons_mk (shut_string Try.underlying9 w0) trodAll_mk0), rfl, bel.frame _, fun h => by cases h⟩

theorem proved : Rows.FeedPrefixUptoSaid :=
  OpenClaim.holds_of_cond 6 Try.f6 rfl rfl rfl rfl rfl rfl rfl ⟨rfl, rfl, rfl, rfl, rfl⟩ rfl rfl rfl rfl rfl (by kernel_rfl) Try.func6 (by kernel_rfl)
    (of_decide_eq_true (by kernel_rfl)) (by unfold Func.isWrapper; first | (rw [if_pos (by decide +kernel)]; kernel_rfl) | (rw [if_neg (by decide +kernel)]; exact ⟨rfl, rfl⟩))
    (fun os started H enc _ F => lifted os started H enc F)
#print axioms proved
end Go.Proofs.Ytiaggbdkkbkclaa.feedPrefix
