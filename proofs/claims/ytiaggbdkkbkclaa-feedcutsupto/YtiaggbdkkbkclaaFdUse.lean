import Derived.Test.YtiaggbdkkbkclaaFdFeed
import Derived.Test.YtiaggbdkkbkclaaFrUse
namespace Go.Proofs.Ytiaggbdkkbkclaa
open Go.RowKit

theorem encB_F (f : Fr) : (encB f.1 f.2.1 f.2.2).data.toList = encF f := by rw [encB_data]; rfl
theorem nil_good : goodFr (1, 1, ⟨#[]⟩) := by unfold goodFr goodF; decide
theorem nil_size : (encB 1 1 ⟨#[]⟩).size = 9 := by rw [encB_size, num_lt (by decide)]; rfl
/-- The two pushes of the closed fact. -/
theorem fed_one : Pushed (⟨#[]⟩ : ByteArray).data.toList 0 0 ((encB 1 1 ⟨#[]⟩).extract 0 3).data.toList [] ((encB 1 1 ⟨#[]⟩).extract 0 3).data.toList 0 0 := by
  refine .inr ⟨rfl, ((encB 1 1 ⟨#[]⟩).extract 0 3).data.toList, 3, ⟨by simp [encs_nil], goods_nil, ?_, by omega⟩, by simp [encs_nil], .inr ⟨rfl, rfl, rfl⟩⟩
  rw [ext_data, encB_data, List.drop_zero]
  exact decL_short nil_good 3 (by have : 9 ≤ (encF (1, 1, ⟨#[]⟩)).length := (encF_bd nil_good).1; exact Nat.lt_of_lt_of_le (by omega) this)
theorem fed_two : Pushed ((encB 1 1 ⟨#[]⟩).extract 0 3).data.toList 0 0 ((encB 1 1 ⟨#[]⟩).extract 3 9).data.toList [(1, 1, ⟨#[]⟩)] (⟨#[]⟩ : ByteArray).data.toList 9 0 := by
  have e : ((encB 1 1 ⟨#[]⟩).extract 0 3).data.toList ++ ((encB 1 1 ⟨#[]⟩).extract 3 9).data.toList = encs [(1, 1, ⟨#[]⟩)] := by
    rw [ext_data, ext_data, List.drop_zero, List.take_of_length_le (i := 9) (by rw [size_data, nil_size]; omega), List.take_append_drop, encs_cons, encs_nil, List.append_nil]
    exact encB_F (1, 1, ⟨#[]⟩)
  refine .inr ⟨rfl, [], 3, ?_, ?_, .inr ⟨rfl, rfl, rfl⟩⟩
  · rw [e]
    exact split_encs (fun f hf => by rw [List.mem_singleton] at hf; subst hf; exact nil_good)
  · rw [encs_cons, encs_nil, List.append_nil, ← encB_F, size_data, nil_size]
set_option maxRecDepth 100000 in
set_option maxHeartbeats 1000000 in
theorem fed_any (w : World) : Calls Try.prog 14 #[] w fun e w' => e = .returned (.bool true) ∧ Below w.heap.size w w' := by
  have H1 := Lib.hid (fun w => encode_is 1 1 ⟨#[]⟩ (by decide) _ _ (enc_good nil_good) w)
  have hz := nil_size
  have P1 := Lib.hid fed_one
  have P2 := Lib.hid fed_two
  generalize encB 1 1 ⟨#[]⟩ = t at *
  obtain ⟨U, hU⟩ : ∃ U, t.extract 0 3 = U := ⟨_, rfl⟩
  obtain ⟨V, hV⟩ : ∃ V, t.extract 3 9 = V := ⟨_, rfl⟩
  have hUs : U.size = 3 := by rw [← hU, ByteArray.size_extract]; omega
  have hVs : V.size = 6 := by rw [← hV, ByteArray.size_extract]; omega
  rw [hU] at P1
  rw [hU, hV] at P2
  have HU := Lib.hid hUs
  have HV := Lib.hid hVs
  clear hUs hVs
  go_enter Try.func14, Try.ntmps14
  go_wp2_with fail
  refine (H1.out _).mono ?_
  rintro e w1 ⟨rfl, b1⟩
  go_wp2_with fail
  refine (new_is _).mono ?_
  rintro e w2 ⟨rfl, f2, b2, l2⟩
  go_wp2_with fail
  refine (push_is f2 U [] U 0 0 P1.out (by rw [HU.out]; decide) (by decide) (by decide)).mono ?_
  rintro e w3 ⟨v, rfl, o3, f3, g3⟩
  go_wp2_with fail
  refine (push_is f3 V [(1, 1, ⟨#[]⟩)] ⟨#[]⟩ 9 0 P2.out (by rw [HU.out, HV.out]; decide) (by decide) (by decide)).mono ?_
  rintro e w4 ⟨v', rfl, o4, f4, g4⟩
  obtain ⟨ad, cap, rfl⟩ := own_slice o3
  obtain ⟨ad', cap', rfl⟩ := own_slice o4
  have hb := below2 b1 (((b2.grown g3 b2.size (fun k hk => by simp at hk; omega)).grown g4 (Nat.le_trans b2.size g3.size) (fun k hk => by simp at hk; omega)))
  clear o3 o4 g3 g4 b1 b2 f2 f3
  go_wp2_with fail
  refine (at_is f4).mono ?_
  rintro e w5 ⟨rfl, rfl⟩
  go_wp2
  go_ret
  exact ⟨rfl, hb⟩
end Go.Proofs.Ytiaggbdkkbkclaa
