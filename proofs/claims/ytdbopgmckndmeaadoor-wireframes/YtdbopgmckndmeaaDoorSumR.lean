import Derived.Test.YtdbopgmckndmeaaDoorPkSum
namespace Go.Proofs.YtdbopgmckndmeaaDoor
open Go.RowKit

theorem xor_in (x : Nat) (c : UInt8) (hx : x < 4294967296) : bits BinOp.xor IntKind.u32 (x : Int) ((c.toNat : Int) % 4294967296) = ((x ^^^ c.toNat : Nat) : Int) := by
  have h := byte_lt c
  rw [Int.emod_eq_of_lt (by omega) (by omega)]
  exact u32_xor_nat x c.toNat hx (by omega)
theorem ones_u32 (n : Nat) (h1 : n < 4294967296) : n ^^^ 4294967295 = 4294967295 - n := by
  have h := BitVec.toNat_not (x := BitVec.ofNat 32 n)
  rw [BitVec.toNat_ofNat, Nat.mod_eq_of_lt (by omega)] at h
  have h2 : (BitVec.allOnes 32 ^^^ BitVec.ofNat 32 n).toNat = 4294967295 ^^^ n := by
    rw [BitVec.toNat_xor, BitVec.toNat_allOnes, BitVec.toNat_ofNat, Nat.mod_eq_of_lt (by omega)]
  rw [Nat.xor_comm, ← h2, BitVec.allOnes_xor, h]

set_option maxRecDepth 100000 in
set_option maxHeartbeats 1000000 in
theorem rsum_is (s : ByteArray) (hs : s.size ≤ maxLen) (w : World) :
    Calls Tryd.prog 105 #[.string s] w fun e w' => e = .returned (.int .u32 (sum s.data.toList : Nat)) ∧ w = w' := by
  unfold maxLen at hs
  go_enter Tryd.func105, Tryd.ntmps105
  go_wp2
  go_loop [3, 8] (fun r i => ∃ k x : Nat, k ≤ s.size ∧ i = .int .i64 k ∧ r = .int .u32 x ∧ Hid (x < 4294967296 ∧ crc (s.data.toList.take k) 4294967295 = x)) (fun _ i => s.size - (intOf i).toNat)
  case atStart => exact ⟨0, 4294967295, by omega, rfl, rfl, by decide, rfl⟩
  case round =>
    obtain ⟨k, x, hk, rfl, rfl, H⟩ := hrel
    by_cases hlt : k < s.size
    · have hx := xor_in x s[k] H.out.1
      have HZ : Hid (x ^^^ s[k].toNat < 4294967296 ∧ crc (s.data.toList.take (k + 1)) 4294967295 = sh8 (x ^^^ s[k].toNat)) := ⟨xor_byte_lt H.out.1 _, crc_snoc s k x hlt H.out.2⟩
      clear H
      generalize x ^^^ s[k].toNat = z at *
      go_wp2
      go_loop [3, 5, 17] (fun r _ i => ∃ j y : Nat, j ≤ 8 ∧ i = .int .i64 j ∧ r = .int .u32 y ∧ Hid (y < 4294967296 ∧ shN (8 - j) y = sh8 z)) (fun _ _ i => 8 - (intOf i).toNat)
      case atStart => exact ⟨0, z, by omega, rfl, rfl, HZ.out.1, rfl⟩
      case round =>
        obtain ⟨j, y, hj, rfl, rfl, H⟩ := hrel
        by_cases hlt8 : j < 8
        · by_cases ho : y % 2 = 1
          · have ho' : ((y : Int) % 2 == 1) = true := by simp; omega
            have hp := xor_poly y H.out.1
            have H2 : Hid (y / 2 ^^^ 3988292384 < 4294967296 ∧ shN (8 - (j + 1)) (y / 2 ^^^ 3988292384) = sh8 z) := by
              have e : sh1 y = y / 2 ^^^ 3988292384 := by unfold sh1; rw [if_pos ho]
              rw [← e]; exact ⟨sh1_lt H.out.1, shN_step hlt8 H.out.2⟩
            have hq : IntKind.u32.wrap ((y : Int) / 2) = (y : Int) / 2 := IntWalk.u32_in _ (by have := H.out.1; omega)
            clear ho H
            generalize y / 2 ^^^ 3988292384 = y' at *
            go_wp2
            go_round
            case rel => exact ⟨j + 1, y', by omega, by go_num, rfl, H2⟩
            case measure => simp [intOf]; omega
          · have ho' : ((y : Int) % 2 == 1) = false := by simp; omega
            have hq : IntKind.u32.wrap ((y : Int) / 2) = (y : Int) / 2 := IntWalk.u32_in _ (by have := H.out.1; omega)
            have H2 : Hid (y / 2 < 4294967296 ∧ shN (8 - (j + 1)) (y / 2) = sh8 z) := by
              have e : sh1 y = y / 2 := by unfold sh1; rw [if_neg ho]
              rw [← e]; exact ⟨sh1_lt H.out.1, shN_step hlt8 H.out.2⟩
            clear ho H
            go_wp2
            go_round
            case rel => exact ⟨j + 1, y / 2, by omega, by go_num, by go_num, H2⟩
            case measure => simp [intOf]; omega
        · have H2 : Hid (y < 4294967296 ∧ crc (s.data.toList.take (k + 1)) 4294967295 = y) := by
            have h2 := H.out.2
            rw [show 8 - j = 0 from by omega] at h2
            exact ⟨H.out.1, by rw [HZ.out.2]; exact h2.symm⟩
          clear H HZ
          go_wp2
          go_round
          case rel => exact ⟨k + 1, y, by omega, by go_num, rfl, H2⟩
          case measure => simp [intOf]; omega
    · obtain rfl : k = s.size := by omega
      have hn : IntKind.u32.wrap (4294967295 - (x : Int)) = ((x ^^^ 4294967295 : Nat) : Int) := by
        have h1 := H.out.1
        rw [ones_u32 x h1, IntKind.wrap_u32']; omega
      have HS : Hid (x ^^^ 4294967295 = sum s.data.toList) := by
        have h2 := H.out.2
        rw [List.take_of_length_le (by simp)] at h2
        show _ = _
        rw [sum, h2]
      clear H
      generalize x ^^^ 4294967295 = z at *
      go_wp2
      go_ret
      exact ⟨by rw [← HS.out]; rfl, rfl⟩
end Go.Proofs.YtdbopgmckndmeaaDoor
