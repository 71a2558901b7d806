/- Plain facts about numbers and bytes (no program): the varint bytes of a number, their reading, the zigzag numbers, and the bit operations that the program uses. -/
import Derived.Laws.BitsAllLaws
import Derived.Laws.Bits64
import Derived.IntWalk
namespace Go.Proofs.YtdbopgmckndmeaaDoor
open Go.RowKit

/-! ### bit operations on Int -/
theorem xor_ones_u64 (x : Int) (h0 : 0 ≤ x) (h1 : x < 18446744073709551616) : bits .xor .u64 IntKind.u64.max x = 18446744073709551615 - x := by
  obtain ⟨n, rfl⟩ := Int.eq_ofNat_of_zero_le h0
  have hm : IntKind.u64.max = ((18446744073709551615 : Nat) : Int) := by decide
  rw [hm, bits_xor_u64_nat _ _ (by omega) (by omega)]
  have : 18446744073709551615 ^^^ n = 18446744073709551615 - n := by
    have h := BitVec.toNat_not (x := BitVec.ofNat 64 n)
    rw [BitVec.toNat_ofNat, Nat.mod_eq_of_lt (by omega)] at h
    have h2 : (BitVec.allOnes 64 ^^^ BitVec.ofNat 64 n).toNat = 18446744073709551615 ^^^ n := by
      rw [BitVec.toNat_xor, BitVec.toNat_allOnes, BitVec.toNat_ofNat, Nat.mod_eq_of_lt (by omega)]
    rw [← h2, BitVec.allOnes_xor, h]
  rw [this]; omega

theorem xor_neg_i64 (x : Int) (h0 : 0 ≤ x) (h1 : x ≤ 9223372036854775807) : bits .xor .i64 (-1) x = -x - 1 := by
  obtain ⟨n, rfl⟩ := Int.eq_ofNat_of_zero_le h0
  have e : BitVec.ofInt 64 (-1) ^^^ BitVec.ofInt 64 (n : Int) = ~~~ (BitVec.ofNat 64 n) := by
    rw [BitVec.ofInt_natCast]
    have : BitVec.ofInt 64 (-1) = BitVec.allOnes 64 := by decide
    rw [this, BitVec.allOnes_xor]
  show IntKind.i64.wrap ((BitVec.ofInt 64 (-1) ^^^ BitVec.ofInt 64 (n : Int)).toNat : Int) = _
  rw [e, BitVec.toNat_not, BitVec.toNat_ofNat, Nat.mod_eq_of_lt (by omega), IntKind.wrap_i64]
  omega

theorem and1_u64 (x : Int) (h0 : 0 ≤ x) (h1 : x < 18446744073709551616) : bits .and .u64 x 1 = x % 2 := by
  obtain ⟨n, rfl⟩ := Int.eq_ofNat_of_zero_le h0
  have := u64_and_nat n 1 (by omega) (by omega)
  rw [nat_mask1] at this
  rw [show (1 : Int) = ((1 : Nat) : Int) from rfl, this]; omega

theorem and127_u8 (x : Int) (h0 : 0 ≤ x) (h1 : x < 256) : bits .and .u8 x 127 = x % 128 := by
  obtain ⟨n, rfl⟩ := Int.eq_ofNat_of_zero_le h0
  have := u8_and_nat n 127 (by omega) (by omega)
  rw [nat_mask7] at this
  rw [show (127 : Int) = ((127 : Nat) : Int) from rfl, this]; omega

theorem or128_u8 (x : Int) (h0 : 0 ≤ x) (h1 : x < 256) : bits .or .u8 x 128 = x % 128 + 128 := by
  obtain ⟨n, rfl⟩ := Int.eq_ofNat_of_zero_le h0
  have h : ∀ m, m < 256 → m ||| 128 = m % 128 + 128 := by decide +kernel
  rw [show (128 : Int) = ((128 : Nat) : Int) from rfl, u8_or_nat n 128 (by omega) (by omega), h n (by omega)]; omega

/-- 'a | b' where b is a multiple of 2^k and a is below it. -/
theorem or_join_u64 (a b : Nat) (k : Nat) (ha : a < 2 ^ k) (hb : b % 2 ^ k = 0) (hs : a + b < 18446744073709551616) : bits .or .u64 (a : Int) (b : Int) = ((a + b : Nat) : Int) := by
  rw [u64_or_nat a b (by omega) (by omega), Nat.or_comm, nat_join k b a hb ha, Nat.add_comm]

/-! ### zigzag -/
def zig (n : Int) : Int := if n < 0 then -2 * n - 1 else 2 * n
def zag (n : Int) : Int := if n % 2 = 0 then n / 2 else -(n / 2) - 1
theorem zag_zig (n : Int) : zag (zig n) = n := by unfold zag zig; split <;> split <;> omega
theorem zig_zag (n : Int) (h : 0 ≤ n) : zig (zag n) = n := by unfold zag zig; split <;> split <;> omega
theorem zig_odd (n : Int) : zig n % 2 = if n < 0 then 1 else 0 := by unfold zig; split <;> omega
theorem zig_lo (n : Int) : 0 ≤ zig n := by unfold zig; split <;> omega

/-! ### numbers as bytes -/
/-- The varint bytes of n. -/
def num (n : Nat) : List UInt8 := if n < 128 then [UInt8.ofNat n] else UInt8.ofNat (n % 128 + 128) :: num (n / 128)
termination_by n
decreasing_by omega
/-- Reading on at byte i, with the value n gathered so far: the value, the length, the error. -/
def rdGo : List UInt8 → Nat → Nat → Nat × Nat × Nat
  | [], _, _ => (0, 0, 3)
  | c :: r, i, n => if (c.toNat = 0 ∧ 0 < i) ∨ (i = 9 ∧ 2 ≤ c.toNat) then (0, 0, 4) else if c.toNat < 128 then (n + c.toNat * 128 ^ i, i + 1, 0) else rdGo r (i + 1) (n + c.toNat % 128 * 128 ^ i)
/-- What reading a number from s answers. -/
def rd (s : List UInt8) : Nat × Nat × Nat := rdGo s 0 0

theorem num_lt {n : Nat} (h : n < 128) : num n = [UInt8.ofNat n] := by rw [num, if_pos h]
theorem num_ge {n : Nat} (h : ¬ n < 128) : num n = UInt8.ofNat (n % 128 + 128) :: num (n / 128) := by rw [num, if_neg h]
theorem num_pos (n : Nat) : 1 ≤ (num n).length := by
  by_cases h : n < 128
  · rw [num_lt h]; simp
  · rw [num_ge h]; simp
theorem num_len (k : Nat) : ∀ n, n < 128 ^ (k + 1) → (num n).length ≤ k + 1 := by
  induction k with
  | zero => intro n h; rw [num_lt (by omega)]; simp
  | succ k ih =>
    intro n h
    by_cases h1 : n < 128
    · rw [num_lt h1]; simp
    · rw [num_ge h1]
      have : n / 128 < 128 ^ (k + 1) := by rw [Nat.div_lt_iff_lt_mul (by omega)]; rwa [Nat.pow_succ] at h
      have := ih _ this
      simp; omega
theorem num_len10 {n : Nat} (h : n < 18446744073709551616) : (num n).length ≤ 10 := num_len 9 n (by omega)

/-- What is read behind the bytes of n, whatever follows. -/
theorem rdGo_num : ∀ (k n i m : Nat) (more : List UInt8), n < 128 ^ (k + 1) → (0 < i → n ≠ 0) → i + k ≤ 9 → n * 128 ^ i < 18446744073709551616 → rdGo (num n ++ more) i m = (m + n * 128 ^ i, i + (num n).length, 0) := by
  intro k
  induction k with
  | zero =>
    intro n i m more h h0 hk hn
    have h1 : n < 128 := by omega
    rw [num_lt h1]
    have e : (UInt8.ofNat n).toNat = n := by simp; omega
    have h9 : i = 9 → n < 2 := by
      intro hi; subst hi
      have : (128 : Nat) ^ 9 = 9223372036854775808 := by decide
      rw [this] at hn; omega
    simp only [List.singleton_append, rdGo, e]
    rw [if_neg (by omega), if_pos h1]; simp
  | succ k ih =>
    intro n i m more h h0 hk hn
    by_cases h1 : n < 128
    · rw [num_lt h1]
      have e : (UInt8.ofNat n).toNat = n := by simp; omega
      have h9 : i = 9 → n < 2 := by omega
      simp only [List.singleton_append, rdGo, e]
      rw [if_neg (by omega), if_pos h1]; simp
    · rw [num_ge h1]
      have e : (UInt8.ofNat (n % 128 + 128)).toNat = n % 128 + 128 := by simp; omega
      simp only [List.cons_append, rdGo, e]
      rw [if_neg (by omega), if_neg (by omega)]
      have hlt : n / 128 < 128 ^ (k + 1) := by rw [Nat.div_lt_iff_lt_mul (by omega)]; rwa [Nat.pow_succ] at h
      have e2 : n / 128 * 128 ^ (i + 1) = (n / 128 * 128) * 128 ^ i := by rw [Nat.pow_succ]; rw [Nat.mul_comm (128 ^ i) 128, Nat.mul_assoc]
      have hle : n / 128 * 128 ^ (i + 1) ≤ n * 128 ^ i := by rw [e2]; exact Nat.mul_le_mul_right _ (by omega)
      rw [ih (n / 128) (i + 1) _ more hlt (by omega) (by omega) (by omega)]
      have e3 : (n % 128 + 128) % 128 = n % 128 := by omega
      rw [e3, e2]
      have e4 : m + n % 128 * 128 ^ i + n / 128 * 128 * 128 ^ i = m + n * 128 ^ i := by
        have : n * 128 ^ i = (n % 128 + n / 128 * 128) * 128 ^ i := by congr 1; omega
        rw [this, Nat.add_mul]; omega
      rw [e4]; simp; omega
theorem rd_num {n : Nat} (h : n < 18446744073709551616) (more : List UInt8) : rd (num n ++ more) = (n, (num n).length, 0) := by
  have := rdGo_num 9 n 0 0 more (by omega) (by omega) (by omega) (by omega)
  simpa [rd] using this

end Go.Proofs.YtdbopgmckndmeaaDoor
