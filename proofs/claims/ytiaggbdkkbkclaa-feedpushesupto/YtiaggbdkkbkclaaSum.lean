import Derived.Test.YtiaggbdkkbkclaaRows
import Derived.Test.YtiaggbdkkbkclaaPlain
import Derived.Test.YtiaggbdkkbkclaaCrc
import Derived.WalkKit
import Derived.WalkSpells
import Derived.ProofKit
import Derived.Below
import Derived.Lib.Hide
import Derived.Laws.Rows
import Derived.Laws.Tables
namespace Go.Proofs.Ytiaggbdkkbkclaa
open Go.RowKit

theorem and1_u32 (n : Nat) (h : n < 4294967296) : bits BinOp.and IntKind.u32 (n : Int) 1 = (n : Int) % 2 := by
  have := u32_and_nat n 1 h (by omega)
  rw [nat_mask1] at this
  rw [show (1 : Int) = ((1 : Nat) : Int) from rfl, this]; omega
theorem xor_poly (n : Nat) (h : n < 4294967296) : bits BinOp.xor IntKind.u32 ((n : Int) / 2) 3988292384 = ((n / 2 ^^^ 3988292384 : Nat) : Int) := by
  have := u32_xor_nat (n / 2) 3988292384 (by omega) (by omega)
  rw [← this]; rfl
theorem shN_step {k y x : Nat} (hk : k < 8) (h : shN (8 - k) y = sh8 x) : shN (8 - (k + 1)) (sh1 y) = sh8 x := by
  rw [← h, show 8 - k = (8 - (k + 1)) + 1 from by omega]; rfl

set_option maxHeartbeats 400000 in
theorem shiftByte_is (x : Nat) (hx : x < 4294967296) (w : World) :
    Calls Try.prog 38 #[.int .u32 (x : Int)] w fun e w' => e = .returned (.int .u32 (sh8 x : Nat)) ∧ w = w' := by
  have HX := Lib.hid hx
  clear hx
  go_enter Try.func38, Try.ntmps38
  go_wp2
  go_loop [0, 4] (fun r i => ∃ k y : Nat, k ≤ 8 ∧ i = .int .i64 k ∧ r = .int .u32 y ∧ Hid (y < 4294967296 ∧ shN (8 - k) y = sh8 x)) (fun _ i => 8 - (intOf i).toNat)
  case atStart => exact ⟨0, x, by omega, rfl, rfl, HX.out, rfl⟩
  case round =>
    obtain ⟨k, y, hk, rfl, rfl, H⟩ := hrel
    by_cases hlt : k < 8
    · have ha := and1_u32 y H.out.1
      by_cases ho : y % 2 = 1
      · have ho' : ((y : Int) % 2 == 1) = true := by simp; omega
        have hp := xor_poly y H.out.1
        have H2 : Hid (y / 2 ^^^ 3988292384 < 4294967296 ∧ shN (8 - (k + 1)) (y / 2 ^^^ 3988292384) = sh8 x) := by
          have e : sh1 y = y / 2 ^^^ 3988292384 := by unfold sh1; rw [if_pos ho]
          rw [← e]; exact ⟨sh1_lt H.out.1, shN_step hlt H.out.2⟩
        clear ho H
        generalize y / 2 ^^^ 3988292384 = y' at *
        go_wp2
        go_round
        case rel => exact ⟨k + 1, y', by omega, by go_num, rfl, H2⟩
        case measure => simp [intOf]; omega
      · have ho' : ((y : Int) % 2 == 1) = false := by simp; omega
        have H2 : Hid (y / 2 < 4294967296 ∧ shN (8 - (k + 1)) (y / 2) = sh8 x) := by
          have e : sh1 y = y / 2 := by unfold sh1; rw [if_neg ho]
          rw [← e]; exact ⟨sh1_lt H.out.1, shN_step hlt H.out.2⟩
        clear ho H
        go_wp2
        go_round
        case rel => exact ⟨k + 1, y / 2, by omega, by go_num, by go_num, H2⟩
        case measure => simp [intOf]; omega
    · have hy : y = sh8 x := by
        have := H.out.2
        rw [show 8 - k = 0 from by omega] at this; exact this
      have HY := Lib.hid hy
      clear hy
      go_wp2
      go_ret
      exact ⟨by rw [← HY.out]; rfl, rfl⟩
end Go.Proofs.Ytiaggbdkkbkclaa
