import Derived.Test.YtdbopgmckndmeaaDoorRead
namespace Go.Proofs.YtdbopgmckndmeaaDoor
open Go.RowKit

theorem ref_last {c k m : Nat} (hm : m < 128 ^ k) (hk : k ≤ 9) (h9 : k = 9 → c % 128 ≤ 1) : m + c % 128 * 128 ^ k < 18446744073709551616 := by
  by_cases h8 : k = 9
  · subst h8
    have := h9 rfl
    have e : (128 : Nat) ^ 9 = 9223372036854775808 := by decide
    rw [e] at *
    have : c % 128 * 9223372036854775808 ≤ 1 * 9223372036854775808 := Nat.mul_le_mul_right _ this
    omega
  · have : (128 : Nat) ^ k ≤ 128 ^ 8 := Nat.pow_le_pow_right (by omega) (by omega)
    have : c % 128 * 128 ^ k ≤ 127 * 128 ^ k := Nat.mul_le_mul_right _ (by omega)
    omega
theorem ref_add (m c U k : Nat) (hU : U = 128 ^ k) (hm : m < 128 ^ k) (hk : k ≤ 9) (h9 : k = 9 → c % 128 ≤ 1) : IntKind.u64.wrap ((m : Int) + IntKind.u64.wrap ((c : Int) % 128 * (U : Int))) = ((m + c % 128 * 128 ^ k : Nat) : Int) := by
  have h := ref_last (c := c) hm hk h9
  have e : (c : Int) % 128 * (U : Int) = ((c % 128 * 128 ^ k : Nat) : Int) := by rw [hU]; simp
  rw [e, IntKind.wrap_u64, IntKind.wrap_u64]; omega
theorem ref_zero (m c : Nat) (hm : m < 128 ^ 0) (hc : c % 128 = 0) : IntKind.u64.wrap (m : Int) = ((m + c % 128 * 128 ^ 0 : Nat) : Int) := by
  rw [IntKind.wrap_u64, hc]; omega
theorem ref_unit (U k : Nat) (hU : U = 128 ^ k) (hk : k < 9) : IntKind.u64.wrap ((U : Int) * 128) = ((128 ^ (k + 1) : Nat) : Int) := by
  have : (128 : Nat) ^ (k + 1) ≤ 128 ^ 9 := Nat.pow_le_pow_right (by omega) (by omega)
  have e : (128 : Nat) ^ (k + 1) = U * 128 := by rw [hU, Nat.pow_succ]
  rw [IntKind.wrap_u64]; omega
set_option maxRecDepth 100000 in
set_option maxHeartbeats 1000000 in
theorem rread_any (s : ByteArray) (w : World) (hs : s.size ≤ maxLen) :
    Calls Tryd.prog 106 #[.string s] w fun e w' => e = .returned (.tuple #[.int .u64 (rd s.data.toList).1, .int .i64 (rd s.data.toList).2.1, .int .i64 (rd s.data.toList).2.2]) ∧ w = w' := by
  unfold maxLen at hs
  go_enter Tryd.func106, Tryd.ntmps106
  go_wp2
  go_loop [5, 6, 7] (fun n u i => ∃ k m U : Nat, k ≤ 9 ∧ k ≤ s.size ∧ i = .int .i64 k ∧ n = .int .u64 m ∧ u = .int .u64 U ∧ Hid (U = 128 ^ k ∧ m < 128 ^ k ∧ rd s.data.toList = rdAt s.data.toList k m)) (fun _ _ i => 10 - (intOf i).toNat)
  case atStart => exact ⟨0, 0, 1, by omega, by omega, rfl, rfl, rfl, by decide, by decide, rfl⟩
  case round =>
    obtain ⟨k, m, U, hk, hks, rfl, rfl, rfl, H⟩ := hrel
    by_cases hks' : k < s.size
    · have hc0 : (s[k].toNat : Int) < 256 := by have := s[k].toNat_lt; omega
      by_cases hz : (s[k].toNat : Int) ≤ 0
      · by_cases hk0 : 0 < k
        · go_wp2
          all_goals go_ret3
          all_goals exact ⟨ret_3 0 0 4 (rd_form H.out.2.2 hks' (by omega) (by omega)) rfl rfl rfl, rfl⟩
        · obtain rfl : k = 0 := by omega
          go_wp2
          go_ret3
          exact ⟨ret_3 _ _ 0 (rd_last H.out.2.2 hks' (by omega) (by omega) (by omega)) (ref_zero m s[0].toNat H.out.2.1 (by omega)) (by omega) rfl, rfl⟩
      · by_cases h9 : 9 ≤ k
        · obtain rfl : k = 9 := by omega
          by_cases hc9 : (2 : Int) ≤ (s[9].toNat : Int)
          · go_wp2
            all_goals go_ret3
            all_goals exact ⟨ret_3 0 0 4 (rd_form H.out.2.2 hks' (by omega) (by omega)) rfl rfl rfl, rfl⟩
          · go_wp2
            go_ret3
            exact ⟨ret_3 _ _ 0 (rd_last H.out.2.2 hks' (by omega) (by omega) (by omega)) (ref_add m s[9].toNat U 9 H.out.1 H.out.2.1 (by omega) (by omega)) (by omega) rfl, rfl⟩
        · by_cases hc : (s[k].toNat : Int) < 128
          · go_wp2
            go_ret3
            exact ⟨ret_3 _ _ 0 (rd_last H.out.2.2 hks' (by omega) (by omega) (by omega)) (ref_add m s[k].toNat U k H.out.1 H.out.2.1 (by omega) (by omega)) (by omega) rfl, rfl⟩
          · go_wp2
            go_round
            case rel => exact ⟨k + 1, _, _, by omega, by omega, by go_num, by rw [ref_add m s[k].toNat U k H.out.1 H.out.2.1 (by omega) (by omega)], by rw [ref_unit U k H.out.1 (by omega)], rfl, lt_step H.out.2.1, rd_more H.out.2.2 hks' (by omega) (by omega)⟩
            case measure => simp [intOf]; omega
    · go_wp2
      go_ret3
      exact ⟨ret_3 0 0 3 (rd_short H.out.2.2 (by omega) hks') rfl rfl rfl, rfl⟩
end Go.Proofs.YtdbopgmckndmeaaDoor
