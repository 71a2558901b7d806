import Derived.Test.YtiaggbdkkbkclaaFrEnc
import Derived.Test.YtiaggbdkkbkclaaChr
import Derived.Test.YtiaggbdkkbkclaaSumR
namespace Go.Proofs.Ytiaggbdkkbkclaa
open Go.RowKit

theorem outside_no (a lo hi : Int) (h : lo ≤ a ∧ a ≤ hi) (w : World) :
    Calls Try.prog 28 #[.int .i64 a, .int .i64 lo, .int .i64 hi] w fun e w' => e = .returned (.bool false) ∧ w = w' := by
  have h1 : decide (a < lo) = false := by simp; omega
  have h2 : decide (hi < a) = false := by simp; omega
  go_enter Try.func28, Try.ntmps28
  go_wp2
  go_ret
  exact ⟨rfl, rfl⟩
theorem outside_yes (a lo hi : Int) (h : ¬ (lo ≤ a ∧ a ≤ hi)) (w : World) :
    Calls Try.prog 28 #[.int .i64 a, .int .i64 lo, .int .i64 hi] w fun e w' => e = .returned (.bool true) ∧ w = w' := by
  by_cases h1 : a < lo
  · go_enter Try.func28, Try.ntmps28
    go_wp2
    go_ret
    exact ⟨rfl, rfl⟩
  · have h0 : decide (a < lo) = false := by simp; omega
    have h2 : decide (hi < a) = true := by simp; omega
    go_enter Try.func28, Try.ntmps28
    go_wp2
    go_ret
    exact ⟨rfl, rfl⟩
/-- One byte of a greater number. -/
theorem chr_mod (n : Nat) (w : World) : Calls Try.prog 36 #[.int .u64 (n : Int)] w fun e w' => e = .returned (.string ⟨#[UInt8.ofNat n]⟩) ∧ Below w.heap.size w w' := by
  obtain ⟨b, hb⟩ : ∃ b, b = UInt8.ofNat n := ⟨_, rfl⟩
  have hn : (n : Int) % 256 = (b.toNat : Int) := by rw [hb]; simp
  have hcv := run_string_own (w := w.alloc (.cells #[.int .u8 (b.toNat : Int)] 5)) (base := w.heap.size) (n := 1) (cap := 1) [b] rfl (World.ownsRow_lit w #[.int .u8 (b.toNat : Int)] 1 (Nat.le_refl _) (by decide) rfl)
  rw [← hb]
  clear hb
  go_enter Try.func36, Try.ntmps36
  go_wp2
  go_ret
  exact ⟨rfl, (Below.refl _ _).alloc (Nat.le_refl _) _⟩
theorem chr_at (n : Nat) (x : Int) (h : x = (n : Int)) (w : World) : Calls Try.prog 36 #[.int .u64 x] w fun e w' => e = .returned (.string ⟨#[UInt8.ofNat n]⟩) ∧ Below w.heap.size w w' := by
  subst h; exact chr_mod n w
set_option maxRecDepth 100000 in
set_option maxHeartbeats 400000 in
theorem sumText_is (s : ByteArray) (hs : s.size ≤ maxLen) (w : World) :
    Calls Try.prog 30 #[.string s] w fun e w' => e = .returned (.string (sumS s)) ∧ Below w.heap.size w w' := by
  have HS := Lib.hid (rsum_is s hs w)
  have hx := sum_lt s.data.toList
  obtain ⟨t, ht⟩ : ∃ t, sumS s = t := ⟨_, rfl⟩
  rw [ht]
  unfold sumS sum4 at ht
  generalize sum s.data.toList = x at *
  have H1 := Lib.hid (chr_at (x / 16777216) ((x : Int) / 16777216) (by omega))
  have H2 := Lib.hid (chr_at (x / 65536) ((x : Int) / 65536) (by omega))
  have H3 := Lib.hid (chr_at (x / 256) ((x : Int) / 256) (by omega))
  have H4 := Lib.hid (chr_at x (x : Int) rfl)
  have ht2 : (⟨#[UInt8.ofNat (x / 16777216)]⟩ : ByteArray) ++ ⟨#[UInt8.ofNat (x / 65536)]⟩ ++ ⟨#[UInt8.ofNat (x / 256)]⟩ ++ ⟨#[UInt8.ofNat x]⟩ = t := by
    rw [← ht]; rfl
  have s1 : (⟨#[UInt8.ofNat (x / 16777216)]⟩ : ByteArray).size ≤ 1 := Nat.le_refl 1
  have s2 : (⟨#[UInt8.ofNat (x / 65536)]⟩ : ByteArray).size ≤ 1 := Nat.le_refl 1
  have s3 : (⟨#[UInt8.ofNat (x / 256)]⟩ : ByteArray).size ≤ 1 := Nat.le_refl 1
  have s4 : (⟨#[UInt8.ofNat x]⟩ : ByteArray).size ≤ 1 := Nat.le_refl 1
  generalize (⟨#[UInt8.ofNat (x / 16777216)]⟩ : ByteArray) = t1 at *
  generalize (⟨#[UInt8.ofNat (x / 65536)]⟩ : ByteArray) = t2 at *
  generalize (⟨#[UInt8.ofNat (x / 256)]⟩ : ByteArray) = t3 at *
  generalize (⟨#[UInt8.ofNat x]⟩ : ByteArray) = t4 at *
  clear ht
  go_enter Try.func30, Try.ntmps30
  go_wp2_with fail
  refine HS.out.mono ?_
  rintro e w0 ⟨rfl, rfl⟩
  go_wp2_with fail
  refine (H1.out _).mono ?_
  rintro e w1 ⟨rfl, b1⟩
  go_wp2_with fail
  refine (H2.out _).mono ?_
  rintro e w2 ⟨rfl, b2⟩
  go_wp2_with fail
  refine (H3.out _).mono ?_
  rintro e w3 ⟨rfl, b3⟩
  go_wp2_with fail
  refine (H4.out _).mono ?_
  rintro e w4 ⟨rfl, b4⟩
  go_wp2
  go_ret
  exact ⟨rfl, below2 (below2 (below2 b1 b2) b3) b4⟩

end Go.Proofs.Ytiaggbdkkbkclaa
