import Derived.Test.YtdbopgmckndmeaaDoorRows
import Derived.Test.YtdbopgmckndmeaaDoorPlain
import Derived.WalkKit
import Derived.WalkSpells
import Derived.ProofKit
import Derived.Below
import Derived.Lib.Hide
namespace Go.Proofs.YtdbopgmckndmeaaDoor
open Go.RowKit

def rdAt (l : List UInt8) (k n : Nat) : Nat × Nat × Nat := if k = 10 then (0, 0, 4) else rdGo (l.drop k) k n

theorem pow_7 (k : Nat) : (2 : Nat) ^ (7 * k) = 128 ^ k := by rw [Nat.pow_mul]
theorem or_step (m c k : Nat) (hm : m < 128 ^ k) (hk : k ≤ 9) (h9 : k = 9 → c % 128 ≤ 1) : bits .or .u64 (m : Int) (IntKind.u64.wrap ((c : Int) % 128 * 2 ^ (7 * k))) = ((m + c % 128 * 128 ^ k : Nat) : Int) := by
  have hp : (128 : Nat) ^ k * 128 ≤ 9223372036854775808 ∨ k = 9 := by
    by_cases h : k = 9
    · exact .inr h
    · left
      have : (128 : Nat) ^ k ≤ 128 ^ 8 := Nat.pow_le_pow_right (by omega) (by omega)
      omega
  have hb : m + c % 128 * 128 ^ k < 18446744073709551616 := by
    rcases hp with hp | rfl
    · have : c % 128 * 128 ^ k ≤ 127 * 128 ^ k := Nat.mul_le_mul_right _ (by omega)
      omega
    · have h1 := h9 rfl
      have e : (128 : Nat) ^ 9 = 9223372036854775808 := by decide
      rw [e] at *
      have : c % 128 * 9223372036854775808 ≤ 1 * 9223372036854775808 := Nat.mul_le_mul_right _ h1
      omega
  have e : (c : Int) % 128 * 2 ^ (7 * k) = ((c % 128 * 128 ^ k : Nat) : Int) := by
    rw [← pow_7]; simp
  rw [e, IntKind.wrap_u64, Int.emod_eq_of_lt (by omega) (by omega)]
  refine or_join_u64 m _ (7 * k) (by rw [pow_7]; exact hm) ?_ hb
  rw [pow_7]; exact Nat.mul_mod_left _ _

theorem or_nine (m c : Nat) (hm : m < 128 ^ 9) (h9 : c % 128 ≤ 1) : bits .or .u64 (m : Int) ((c : Int) % 128 * 9223372036854775808) = ((m + c % 128 * 128 ^ 9 : Nat) : Int) := by
  have h := or_step m c 9 hm (by omega) (fun _ => h9)
  rw [IntKind.wrap_u64] at h
  rw [← h]; congr 1; omega
theorem drop_at (s : ByteArray) (k : Nat) (h : k < s.size) : s.data.toList.drop k = s[k] :: s.data.toList.drop (k + 1) := by
  rw [List.drop_eq_getElem_cons (by simpa using h)]; rfl
theorem rd_short {s : ByteArray} {k m : Nat} (H : rd s.data.toList = rdAt s.data.toList k m) (hk : k < 10) (h : ¬ k < s.size) : rd s.data.toList = (0, 0, 3) := by
  rw [H, rdAt, if_neg (by omega), List.drop_of_length_le (by simpa using h)]; rfl
theorem rd_form {s : ByteArray} {k m : Nat} (H : rd s.data.toList = rdAt s.data.toList k m) (h : k < s.size) (hk : k < 10) (hc : s[k].toNat = 0 ∧ 0 < k ∨ k = 9 ∧ 2 ≤ s[k].toNat) : rd s.data.toList = (0, 0, 4) := by
  rw [H, rdAt, if_neg (by omega), drop_at s k h, rdGo, if_pos hc]
theorem rd_last {s : ByteArray} {k m : Nat} (H : rd s.data.toList = rdAt s.data.toList k m) (h : k < s.size) (hk : k < 10) (hc : ¬ (s[k].toNat = 0 ∧ 0 < k ∨ k = 9 ∧ 2 ≤ s[k].toNat)) (h1 : s[k].toNat < 128) : rd s.data.toList = (m + s[k].toNat % 128 * 128 ^ k, k + 1, 0) := by
  rw [H, rdAt, if_neg (by omega), drop_at s k h, rdGo, if_neg hc, if_pos h1, Nat.mod_eq_of_lt h1]
theorem rd_more {s : ByteArray} {k m : Nat} (H : rd s.data.toList = rdAt s.data.toList k m) (h : k < s.size) (hk : k < 10) (h1 : ¬ s[k].toNat < 128) : rd s.data.toList = rdAt s.data.toList (k + 1) (m + s[k].toNat % 128 * 128 ^ k) := by
  by_cases h9 : k = 9
  · rw [rd_form H h hk (by omega), rdAt, if_pos (by omega)]
  · rw [H, rdAt, rdAt, if_neg (by omega), if_neg (by omega), drop_at s k h, rdGo, if_neg (by omega), if_neg h1]
theorem rd_end {s : ByteArray} {k m : Nat} (H : rd s.data.toList = rdAt s.data.toList k m) (hk : k ≤ 10) (h : ¬ k < 10) : rd s.data.toList = (0, 0, 4) := by
  rw [H, rdAt, if_pos (by omega)]
theorem lt_step {m c k : Nat} (hm : m < 128 ^ k) : m + c % 128 * 128 ^ k < 128 ^ (k + 1) := by
  have : c % 128 * 128 ^ k ≤ 127 * 128 ^ k := Nat.mul_le_mul_right _ (by omega)
  rw [Nat.pow_succ]; omega
theorem ret_3 {r : Nat × Nat × Nat} {a b c : Int} (x y z : Nat) (h : r = (x, y, z)) (ha : a = x) (hb : b = y) (hc : c = z) : Ending.returned (.tuple #[.int .u64 a, .int .i64 b, .int .i64 c]) = .returned (.tuple #[.int .u64 r.1, .int .i64 r.2.1, .int .i64 r.2.2]) := by
  subst h ha hb hc; rfl

set_option maxRecDepth 100000 in
set_option maxHeartbeats 1000000 in
theorem read_any (s : ByteArray) (w : World) (hs : s.size ≤ maxLen) :
    Calls Tryd.prog 41 #[.string s] w fun e w' => e = .returned (.tuple #[.int .u64 (rd s.data.toList).1, .int .i64 (rd s.data.toList).2.1, .int .i64 (rd s.data.toList).2.2]) ∧ w = w' := by
  unfold maxLen at hs
  go_enter Tryd.func41, Tryd.ntmps41
  go_wp2
  go_loop [5, 8] (fun n i => ∃ k m : Nat, k ≤ 10 ∧ k ≤ s.size ∧ i = .int .i64 k ∧ n = .int .u64 m ∧ Hid (m < 128 ^ k ∧ rd s.data.toList = rdAt s.data.toList k m)) (fun _ i => 10 - (intOf i).toNat)
  case atStart => exact ⟨0, 0, by omega, by omega, rfl, rfl, by decide, rfl⟩
  case round =>
    obtain ⟨k, m, hk, hks, rfl, rfl, H⟩ := hrel
    by_cases hlt : k < 10
    · by_cases hks' : k < s.size
      · have hc0 : (s[k].toNat : Int) < 256 := by have := s[k].toNat_lt; omega
        have hg : bits BinOp.and IntKind.u8 (s[k].toNat : Int) 127 = (s[k].toNat : Int) % 128 := and127_u8 _ (by omega) (by omega)
        by_cases h9 : 9 ≤ k
        · obtain rfl : k = 9 := by omega
          by_cases hc9 : (1 : Int) < (s[9].toNat : Int) % 128
          · go_wp2
            go_ret3
            exact ⟨ret_3 0 0 4 (rd_form H.out.2 hks' hlt (by omega)) rfl rfl rfl, rfl⟩
          · have HS := Lib.hid (or_nine m s[9].toNat H.out.1 (by omega))
            by_cases hc : (s[9].toNat : Int) < 128
            · by_cases hz : (s[9].toNat : Int) ≤ 0
              · have hz' : (s[9].toNat : Int) % 128 = 0 := by omega
                go_wp2
                go_ret3
                exact ⟨ret_3 0 0 4 (rd_form H.out.2 hks' hlt (by omega)) rfl rfl rfl, rfl⟩
              · have hz' : ¬ (s[9].toNat : Int) % 128 = 0 := by omega
                go_wp2
                go_ret3
                exact ⟨ret_3 _ _ 0 (rd_last H.out.2 hks' hlt (by omega) (by omega)) HS.out (by omega) rfl, rfl⟩
            · go_wp2
              go_round
              case rel => exact ⟨10, _, by omega, by omega, by go_num, by rw [HS.out], lt_step H.out.1, rd_more H.out.2 hks' hlt (by omega)⟩
              case measure => simp [intOf]
        · have HS := Lib.hid (or_step m s[k].toNat k H.out.1 (by omega) (by omega))
          by_cases hc : (s[k].toNat : Int) < 128
          · by_cases hz : (s[k].toNat : Int) ≤ 0
            · by_cases hk0 : 0 < k
              · go_wp2
                go_ret3
                exact ⟨ret_3 0 0 4 (rd_form H.out.2 hks' hlt (by omega)) rfl rfl rfl, rfl⟩
              · go_wp2
                go_ret3
                exact ⟨ret_3 _ _ 0 (rd_last H.out.2 hks' hlt (by omega) (by omega)) (by have h := HS.out; rw [show (s[k].toNat : Int) % 128 = 0 from by omega, Int.zero_mul] at h; exact h) (by omega) rfl, rfl⟩
            · go_wp2
              go_ret3
              exact ⟨ret_3 _ _ 0 (rd_last H.out.2 hks' hlt (by omega) (by omega)) HS.out (by omega) rfl, rfl⟩
          · go_wp2
            go_round
            case rel => exact ⟨k + 1, _, by omega, by omega, by go_num, by rw [HS.out], lt_step H.out.1, rd_more H.out.2 hks' hlt (by omega)⟩
            case measure => simp [intOf]; omega
      · go_wp2
        go_ret3
        exact ⟨ret_3 0 0 3 (rd_short H.out.2 hlt hks') rfl rfl rfl, rfl⟩
    · go_wp2
      go_ret3
      exact ⟨ret_3 0 0 4 (rd_end H.out.2 hk hlt) rfl rfl rfl, rfl⟩
end Go.Proofs.YtdbopgmckndmeaaDoor
