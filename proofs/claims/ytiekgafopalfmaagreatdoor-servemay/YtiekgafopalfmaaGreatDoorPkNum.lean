import Derived.Laws.BitsAllLaws
import Derived.Laws.Bits64
import Derived.IntWalk
import Derived.Test.YtiekgafopalfmaaGreatDoorRows
import Derived.WalkKit
import Derived.WalkSpells
import Derived.ProofKit
import Derived.Below
import Derived.Lib.Hide
import Derived.Laws.IdiomStrings
/- Plain facts about numbers and bytes (no program): the varint bytes of a number, their reading, the zigzag numbers, and the bit operations that the program uses. -/
namespace Go.Proofs.YtiekgafopalfmaaGreatDoor
open Go.RowKit

/-! ### bit operations on Int -/
theorem xor_ones_u64 (x : Int) (h0 : 0 ≤ x) (h1 : x < 18446744073709551616) : bits .xor .u64 IntKind.u64.max x = 18446744073709551615 - x := by
  obtain ⟨n, rfl⟩ := Int.eq_ofNat_of_zero_le h0
  have hm : IntKind.u64.max = ((18446744073709551615 : Nat) : Int) := by decide
  rw [hm, bits_xor_u64_nat _ _ (by omega) (by omega)]
  have : 18446744073709551615 ^^^ n = 18446744073709551615 - n := by
    have h := BitVec.toNat_not (x := BitVec.ofNat 64 n)
    rw [BitVec.toNat_ofNat, Nat.mod_eq_of_lt (by omega)] at h
    have h2 : (BitVec.allOnes 64 ^^^ BitVec.ofNat 64 n).toNat = 18446744073709551615 ^^^ n := by
      rw [BitVec.toNat_xor, BitVec.toNat_allOnes, BitVec.toNat_ofNat, Nat.mod_eq_of_lt (by omega)]
    rw [← h2, BitVec.allOnes_xor, h]
  rw [this]; omega

theorem xor_neg_i64 (x : Int) (h0 : 0 ≤ x) (h1 : x ≤ 9223372036854775807) : bits .xor .i64 (-1) x = -x - 1 := by
  obtain ⟨n, rfl⟩ := Int.eq_ofNat_of_zero_le h0
  have e : BitVec.ofInt 64 (-1) ^^^ BitVec.ofInt 64 (n : Int) = ~~~ (BitVec.ofNat 64 n) := by
    rw [BitVec.ofInt_natCast]
    have : BitVec.ofInt 64 (-1) = BitVec.allOnes 64 := by decide
    rw [this, BitVec.allOnes_xor]
  show IntKind.i64.wrap ((BitVec.ofInt 64 (-1) ^^^ BitVec.ofInt 64 (n : Int)).toNat : Int) = _
  rw [e, BitVec.toNat_not, BitVec.toNat_ofNat, Nat.mod_eq_of_lt (by omega), IntKind.wrap_i64]
  omega

theorem and1_u64 (x : Int) (h0 : 0 ≤ x) (h1 : x < 18446744073709551616) : bits .and .u64 x 1 = x % 2 := by
  obtain ⟨n, rfl⟩ := Int.eq_ofNat_of_zero_le h0
  have := u64_and_nat n 1 (by omega) (by omega)
  rw [nat_mask1] at this
  rw [show (1 : Int) = ((1 : Nat) : Int) from rfl, this]; omega

theorem and127_u8 (x : Int) (h0 : 0 ≤ x) (h1 : x < 256) : bits .and .u8 x 127 = x % 128 := by
  obtain ⟨n, rfl⟩ := Int.eq_ofNat_of_zero_le h0
  have := u8_and_nat n 127 (by omega) (by omega)
  rw [nat_mask7] at this
  rw [show (127 : Int) = ((127 : Nat) : Int) from rfl, this]; omega

theorem or128_u8 (x : Int) (h0 : 0 ≤ x) (h1 : x < 256) : bits .or .u8 x 128 = x % 128 + 128 := by
  obtain ⟨n, rfl⟩ := Int.eq_ofNat_of_zero_le h0
  have h : ∀ m, m < 256 → m ||| 128 = m % 128 + 128 := by decide +kernel
  rw [show (128 : Int) = ((128 : Nat) : Int) from rfl, u8_or_nat n 128 (by omega) (by omega), h n (by omega)]; omega

/-- 'a | b' where b is a multiple of 2^k and a is below it. -/
theorem or_join_u64 (a b : Nat) (k : Nat) (ha : a < 2 ^ k) (hb : b % 2 ^ k = 0) (hs : a + b < 18446744073709551616) : bits .or .u64 (a : Int) (b : Int) = ((a + b : Nat) : Int) := by
  rw [u64_or_nat a b (by omega) (by omega), Nat.or_comm, nat_join k b a hb ha, Nat.add_comm]

/-! ### zigzag -/
def zig (n : Int) : Int := if n < 0 then -2 * n - 1 else 2 * n
def zag (n : Int) : Int := if n % 2 = 0 then n / 2 else -(n / 2) - 1
theorem zag_zig (n : Int) : zag (zig n) = n := by unfold zag zig; split <;> split <;> omega
theorem zig_zag (n : Int) (h : 0 ≤ n) : zig (zag n) = n := by unfold zag zig; split <;> split <;> omega
theorem zig_odd (n : Int) : zig n % 2 = if n < 0 then 1 else 0 := by unfold zig; split <;> omega
theorem zig_lo (n : Int) : 0 ≤ zig n := by unfold zig; split <;> omega

/-! ### numbers as bytes -/
/-- The varint bytes of n. -/
def num (n : Nat) : List UInt8 := if n < 128 then [UInt8.ofNat n] else UInt8.ofNat (n % 128 + 128) :: num (n / 128)
termination_by n
decreasing_by omega
/-- Reading on at byte i, with the value n gathered so far: the value, the length, the error. -/
def rdGo : List UInt8 → Nat → Nat → Nat × Nat × Nat
  | [], _, _ => (0, 0, 3)
  | c :: r, i, n => if (c.toNat = 0 ∧ 0 < i) ∨ (i = 9 ∧ 2 ≤ c.toNat) then (0, 0, 4) else if c.toNat < 128 then (n + c.toNat * 128 ^ i, i + 1, 0) else rdGo r (i + 1) (n + c.toNat % 128 * 128 ^ i)
/-- What reading a number from s answers. -/
def rd (s : List UInt8) : Nat × Nat × Nat := rdGo s 0 0

theorem num_lt {n : Nat} (h : n < 128) : num n = [UInt8.ofNat n] := by rw [num, if_pos h]
theorem num_ge {n : Nat} (h : ¬ n < 128) : num n = UInt8.ofNat (n % 128 + 128) :: num (n / 128) := by rw [num, if_neg h]
theorem num_pos (n : Nat) : 1 ≤ (num n).length := by
  by_cases h : n < 128
  · rw [num_lt h]; simp
  · rw [num_ge h]; simp
theorem num_len (k : Nat) : ∀ n, n < 128 ^ (k + 1) → (num n).length ≤ k + 1 := by
  induction k with
  | zero => intro n h; rw [num_lt (by omega)]; simp
  | succ k ih =>
    intro n h
    by_cases h1 : n < 128
    · rw [num_lt h1]; simp
    · rw [num_ge h1]
      have : n / 128 < 128 ^ (k + 1) := by rw [Nat.div_lt_iff_lt_mul (by omega)]; rwa [Nat.pow_succ] at h
      have := ih _ this
      simp; omega
theorem num_len10 {n : Nat} (h : n < 18446744073709551616) : (num n).length ≤ 10 := num_len 9 n (by omega)

/-- What is read behind the bytes of n, whatever follows. -/
theorem rdGo_num : ∀ (k n i m : Nat) (more : List UInt8), n < 128 ^ (k + 1) → (0 < i → n ≠ 0) → i + k ≤ 9 → n * 128 ^ i < 18446744073709551616 → rdGo (num n ++ more) i m = (m + n * 128 ^ i, i + (num n).length, 0) := by
  intro k
  induction k with
  | zero =>
    intro n i m more h h0 hk hn
    have h1 : n < 128 := by omega
    rw [num_lt h1]
    have e : (UInt8.ofNat n).toNat = n := by simp; omega
    have h9 : i = 9 → n < 2 := by
      intro hi; subst hi
      have : (128 : Nat) ^ 9 = 9223372036854775808 := by decide
      rw [this] at hn; omega
    simp only [List.singleton_append, rdGo, e]
    rw [if_neg (by omega), if_pos h1]; simp
  | succ k ih =>
    intro n i m more h h0 hk hn
    by_cases h1 : n < 128
    · rw [num_lt h1]
      have e : (UInt8.ofNat n).toNat = n := by simp; omega
      have h9 : i = 9 → n < 2 := by omega
      simp only [List.singleton_append, rdGo, e]
      rw [if_neg (by omega), if_pos h1]; simp
    · rw [num_ge h1]
      have e : (UInt8.ofNat (n % 128 + 128)).toNat = n % 128 + 128 := by simp; omega
      simp only [List.cons_append, rdGo, e]
      rw [if_neg (by omega), if_neg (by omega)]
      have hlt : n / 128 < 128 ^ (k + 1) := by rw [Nat.div_lt_iff_lt_mul (by omega)]; rwa [Nat.pow_succ] at h
      have e2 : n / 128 * 128 ^ (i + 1) = (n / 128 * 128) * 128 ^ i := by rw [Nat.pow_succ]; rw [Nat.mul_comm (128 ^ i) 128, Nat.mul_assoc]
      have hle : n / 128 * 128 ^ (i + 1) ≤ n * 128 ^ i := by rw [e2]; exact Nat.mul_le_mul_right _ (by omega)
      rw [ih (n / 128) (i + 1) _ more hlt (by omega) (by omega) (by omega)]
      have e3 : (n % 128 + 128) % 128 = n % 128 := by omega
      rw [e3, e2]
      have e4 : m + n % 128 * 128 ^ i + n / 128 * 128 * 128 ^ i = m + n * 128 ^ i := by
        have : n * 128 ^ i = (n % 128 + n / 128 * 128) * 128 ^ i := by congr 1; omega
        rw [this, Nat.add_mul]; omega
      rw [e4]; simp; omega
theorem rd_num {n : Nat} (h : n < 18446744073709551616) (more : List UInt8) : rd (num n ++ more) = (n, (num n).length, 0) := by
  have := rdGo_num 9 n 0 0 more (by omega) (by omega) (by omega) (by omega)
  simpa [rd] using this

end Go.Proofs.YtiekgafopalfmaaGreatDoor

/- Plain facts, more: lengths and order of varint bytes; what a successful reading says of the bytes. -/
namespace Go.Proofs.YtiekgafopalfmaaGreatDoor

theorem num_mono : ∀ (b a : Nat), a ≤ b → (num a).length ≤ (num b).length := by
  intro b
  induction b using Nat.strongRecOn with
  | ind b ih =>
    intro a h
    by_cases hb : b < 128
    · rw [num_lt hb, num_lt (n := a) (by omega)]; simp
    · by_cases ha : a < 128
      · rw [num_lt ha]; exact num_pos b
      · rw [num_ge hb, num_ge ha]
        have := ih (b / 128) (by omega) (a / 128) (by omega)
        simp; omega
theorem num_inj {a b : Nat} (ha : a < 18446744073709551616) (hb : b < 18446744073709551616) (h : num a = num b) : a = b := by
  have h1 := rd_num ha []
  have h2 := rd_num hb []
  rw [h] at h1
  have := h1.symm.trans h2
  simpa using congrArg Prod.fst this

theorem rdGo_err : ∀ (l : List UInt8) (i m : Nat), (rdGo l i m).2.2 ≠ 0 → (rdGo l i m).1 = 0 ∧ (rdGo l i m).2.1 = 0 := by
  intro l
  induction l with
  | nil => intro i m _; simp [rdGo]
  | cons c r ih =>
    intro i m h
    rw [rdGo] at h ⊢
    split
    · simp
    · rename_i h1
      rw [if_neg h1] at h
      split
      · rename_i h2; rw [if_pos h2] at h; exact absurd rfl h
      · rename_i h2; rw [if_neg h2] at h; exact ih _ _ h
theorem rdGo_codes : ∀ (l : List UInt8) (i m : Nat), (rdGo l i m).2.2 = 0 ∨ (rdGo l i m).2.2 = 3 ∨ (rdGo l i m).2.2 = 4 := by
  intro l
  induction l with
  | nil => intro i m; simp [rdGo]
  | cons c r ih =>
    intro i m
    rw [rdGo]
    split
    · simp
    · split
      · simp
      · exact ih _ _
theorem rdGo_ok : ∀ (l : List UInt8) (i m : Nat), i ≤ 9 → m < 128 ^ i → (rdGo l i m).2.2 = 0 →
    ∃ v, (rdGo l i m).1 = m + v * 128 ^ i ∧ (rdGo l i m).2.1 = i + (num v).length ∧ (num v).length ≤ l.length ∧ num v = l.take (num v).length ∧ (0 < i → v ≠ 0) ∧ v * 128 ^ i < 18446744073709551616 ∧ m + v * 128 ^ i < 18446744073709551616 ∧ ∀ j m', j < (num v).length → rdGo (l.take j) i m' = (0, 0, 3) := by
  intro l
  induction l with
  | nil => intro i m _ _ h; simp [rdGo] at h
  | cons c r ih =>
    intro i m hi hm h
    have hc := c.toNat_lt
    have p9 : i < 9 → (128 : Nat) ^ i * 128 ≤ 9223372036854775808 := by
      intro h9
      have : (128 : Nat) ^ i ≤ 128 ^ 8 := Nat.pow_le_pow_right (by omega) (by omega)
      omega
    have e9 : (128 : Nat) ^ 9 = 9223372036854775808 := by decide
    rw [rdGo] at h ⊢
    by_cases h1 : (c.toNat = 0 ∧ 0 < i) ∨ (i = 9 ∧ 2 ≤ c.toNat)
    · rw [if_pos h1] at h; simp at h
    · rw [if_neg h1] at h ⊢
      by_cases h2 : c.toNat < 128
      · rw [if_pos h2]
        have hn : num c.toNat = [c] := by rw [num_lt h2]; simp
        have hb : m + c.toNat * 128 ^ i < 18446744073709551616 := by
          by_cases h9 : i < 9
          · have := p9 h9
            have : c.toNat * 128 ^ i ≤ 127 * 128 ^ i := Nat.mul_le_mul_right _ (by omega)
            omega
          · obtain rfl : i = 9 := by omega
            rw [e9] at *
            have : c.toNat * 9223372036854775808 ≤ 1 * 9223372036854775808 := Nat.mul_le_mul_right _ (by omega)
            omega
        refine ⟨c.toNat, rfl, by rw [hn]; rfl, by rw [hn]; simp, by rw [hn]; simp, by omega, by omega, hb, ?_⟩
        intro j m' hj
        rw [hn] at hj
        obtain rfl : j = 0 := by simp at hj; omega
        simp [rdGo]
      · rw [if_neg h2] at h ⊢
        have hi9 : i < 9 := by omega
        have hm' : m + c.toNat % 128 * 128 ^ i < 128 ^ (i + 1) := by
          have : c.toNat % 128 * 128 ^ i ≤ 127 * 128 ^ i := Nat.mul_le_mul_right _ (by omega)
          rw [Nat.pow_succ]; omega
        obtain ⟨v, a1, a2, a3, a4, a5, a6, a7, a8⟩ := ih (i + 1) (m + c.toNat % 128 * 128 ^ i) (by omega) hm' h
        have hv := a5 (by omega)
        have hnum : num (c.toNat % 128 + 128 * v) = c :: num v := by
          rw [num_ge (by omega)]
          have e1 : (c.toNat % 128 + 128 * v) / 128 = v := by omega
          have e2 : (c.toNat % 128 + 128 * v) % 128 + 128 = c.toNat := by omega
          rw [e1, e2]; simp
        have e3 : (c.toNat % 128 + 128 * v) * 128 ^ i = c.toNat % 128 * 128 ^ i + v * 128 ^ (i + 1) := by
          rw [Nat.add_mul, Nat.pow_succ, Nat.mul_comm 128 v, Nat.mul_assoc, Nat.mul_comm 128 (128 ^ i)]
        refine ⟨c.toNat % 128 + 128 * v, by rw [a1, e3]; omega, by rw [a2, hnum]; simp; omega, by rw [hnum]; simpa using a3, by rw [hnum]; simpa using a4, by omega, by rw [e3]; omega, by rw [e3]; omega, ?_⟩
        intro j m' hj
        rw [hnum] at hj
        cases j with
        | zero => simp [rdGo]
        | succ j =>
          rw [List.take_succ_cons, rdGo, if_neg h1, if_neg h2]
          exact a8 j _ (by simpa using hj)
/-- What a successful reading says of the bytes. -/
theorem rd_ok {l : List UInt8} (h : (rd l).2.2 = 0) : (rd l).1 < 18446744073709551616 ∧ (rd l).2.1 = (num (rd l).1).length ∧ (rd l).2.1 ≤ l.length ∧ num (rd l).1 = l.take (rd l).2.1 ∧ ∀ j, j < (rd l).2.1 → rd (l.take j) = (0, 0, 3) := by
  obtain ⟨v, a1, a2, a3, a4, _, _, a7, a8⟩ := rdGo_ok l 0 0 (by omega) (by omega) h
  have e : (rd l).1 = v := by show (rdGo l 0 0).1 = v; rw [a1]; omega
  have e2 : (rd l).2.1 = (num v).length := by show (rdGo l 0 0).2.1 = _; rw [a2]; omega
  rw [e, e2]
  exact ⟨by omega, rfl, a3, a4, fun j hj => a8 j 0 hj⟩
theorem rd_err {l : List UInt8} (h : (rd l).2.2 ≠ 0) : (rd l).1 = 0 ∧ (rd l).2.1 = 0 := rdGo_err l 0 0 h
end Go.Proofs.YtiekgafopalfmaaGreatDoor

namespace Go.Proofs.YtiekgafopalfmaaGreatDoor
open Go.RowKit

/-- The cells of a row of bytes. -/
def byteCells (l : List UInt8) : List Value := l.map fun b => .int .u8 (b.toNat : Int)
theorem byteCells_append (a b : List UInt8) : byteCells (a ++ b) = byteCells a ++ byteCells b := by simp [byteCells]
theorem byteCells_length (a : List UInt8) : (byteCells a).length = a.length := by simp [byteCells]

theorem own_shape {w : World} {base e n : Nat} {v : Value} {xs : List Value} (h : w.ownsRow base e 1 v n xs) (hne : xs ≠ []) : ∃ g cap, v = .slice (some ⟨g, 0, none⟩) n cap := by
  have h1 := h.1
  rcases h.2 with ⟨_, h2⟩ | ⟨g, cap, cur, rfl, _⟩
  · subst h2; simp at h1; exact absurd h1 hne
  · exact ⟨g, cap, rfl⟩
theorem run_string_own {w : World} {base g cap n : Nat} (l : List UInt8) (hn : n = l.length) (h : w.ownsRow base 5 1 (.slice (some ⟨g, 0, none⟩) n cap) n (byteCells l)) :
    (convert 148 9 (.slice (some ⟨g, 0, none⟩) n cap)).run Tryz.prog w = .ok (.string ⟨l.toArray⟩) w := by
  subst hn
  refine run_convert_bytes_back w _ _ 5 ⟨g, 0, none⟩ cap l Tryz.underlying148 Tryz.underlying5 Tryz.underlying9 ?_
  intro j hj
  have := h.cellAt j (by omega)
  have e : (⟨g, 0, none⟩ : Addr).add j = ⟨g, j, none⟩ := by simp [Addr.add]; intro h0; exact h0.symm
  rw [e, this]; simp [byteCells, hj]

theorem Tryz.infoByte : (Tryz.prog.info? 5).map (fun i => (i.zero, i.size, i.bytes)) = some (some (.int .u8 0), 1, 1) := by kernel_rfl

theorem one_new (w : World) (b : UInt8) (t : TypeId) : ∀ j u, (byteCells [b])[j]? = some u → (w.alloc (.cells #[.int .u8 (b.toNat : Int)] t)).cell? ((⟨w.heap.size, 0, none⟩ : Addr).add j) = some u :=
  cell_one_new w _ t
theorem one_cell (b : UInt8) : ∀ u : Value, u ∈ byteCells [b] → u.oneCell' = true := by
  intro u hu; simp [byteCells] at hu; subst hu; rfl
theorem grown_below {B t n : Nat} {w wr w' : World} {v : Value} {xs : List Value} {o : Obj} (hbel : Below B w wr) (hB : B ≤ w.heap.size) (hown : wr.ownsRow B t 1 v n xs) (hg : (wr.alloc o).grownBy w' v.ownBlock) : Below B w w' := by
  have hs := hbel.size
  exact (hbel.alloc (by omega) o).grown hg (by simp; omega) (fun k hk => (hown.lt k hk).1)

theorem own_below {W W' : World} {B e size n : Nat} {v : Value} {xs : List Value} (h : W.ownsRow B e size v n xs) (hb : Below W.heap.size W W') : W'.ownsRow B e size v n xs := by
  refine h.kept (row := none) ⟨hb.os, hb.tape, hb.output, hb.size, fun k hk _ => hb.block k hk⟩ ?_
  cases hv : v.ownBlock with
  | none => exact .inl rfl
  | some k => exact .inr (by simp)
end Go.Proofs.YtiekgafopalfmaaGreatDoor

namespace Go.Proofs.YtiekgafopalfmaaGreatDoor
open Go.RowKit

theorem or_byte (m : Nat) : bits BinOp.or IntKind.u8 ((m : Int) % 256) 128 = ((UInt8.ofNat (m % 128 + 128)).toNat : Int) := by
  rw [or128_u8 _ (by omega) (by omega)]
  have : (UInt8.ofNat (m % 128 + 128)).toNat = m % 128 + 128 := by simp; omega
  rw [this]; omega
theorem low_byte (m : Nat) (h : m < 128) : (m : Int) = ((UInt8.ofNat m).toNat : Int) := by
  have : (UInt8.ofNat m).toNat = m := by simp; omega
  rw [this]

end Go.Proofs.YtiekgafopalfmaaGreatDoor

namespace Go.Proofs.YtiekgafopalfmaaGreatDoor
open Go.RowKit

theorem zig_neg {n : Int} (h0 : -9223372036854775808 ≤ n) (h : n < 0) : bits BinOp.xor IntKind.u64 IntKind.u64.max (IntKind.u64.wrap (IntKind.u64.wrap n * 2)) = zig n := by
  rw [IntKind.wrap_u64, IntKind.wrap_u64, xor_ones_u64 _ (by omega) (by omega)]
  unfold zig; rw [if_pos h]; omega
theorem zig_pos {n : Int} (h0 : n ≤ 9223372036854775807) (h : 0 ≤ n) : IntKind.u64.wrap (IntKind.u64.wrap n * 2) = zig n := by
  rw [IntKind.wrap_u64, IntKind.wrap_u64]
  unfold zig; rw [if_neg (by omega)]; omega
theorem i64_bd {n : Int} (h : (Lit.int .i64 n).wf = true) : -9223372036854775808 ≤ n ∧ n ≤ 9223372036854775807 := by
  simp [Lit.wf, IntKind.min, IntKind.max, IntKind.signed, IntKind.bits] at h; omega
theorem u64_bd {n : Int} (h : (Lit.int .u64 n).wf = true) : 0 ≤ n ∧ n < 18446744073709551616 := by
  simp [Lit.wf, IntKind.min, IntKind.max, IntKind.signed, IntKind.bits] at h; omega
theorem ret_int {k : IntKind} {a b : Int} (h : a = b) : Ending.returned (.int k a) = .returned (.int k b) := by rw [h]


theorem zig_wf {n : Int} (h : (Lit.int .i64 n).wf = true) : (Lit.int .u64 (zig n)).wf = true := by
  have := i64_bd h
  simp [Lit.wf, IntKind.min, IntKind.max, IntKind.signed, IntKind.bits]; unfold zig; split <;> omega
theorem zag_wf {n : Int} (h : (Lit.int .u64 n).wf = true) : (Lit.int .i64 (zag n)).wf = true := by
  have := u64_bd h
  simp [Lit.wf, IntKind.min, IntKind.max, IntKind.signed, IntKind.bits]; unfold zag; split <;> omega
end Go.Proofs.YtiekgafopalfmaaGreatDoor

namespace Go.Proofs.YtiekgafopalfmaaGreatDoor
open Go.RowKit

def rdAt (l : List UInt8) (k n : Nat) : Nat × Nat × Nat := if k = 10 then (0, 0, 4) else rdGo (l.drop k) k n

theorem pow_7 (k : Nat) : (2 : Nat) ^ (7 * k) = 128 ^ k := by rw [Nat.pow_mul]
theorem or_step (m c k : Nat) (hm : m < 128 ^ k) (hk : k ≤ 9) (h9 : k = 9 → c % 128 ≤ 1) : bits .or .u64 (m : Int) (IntKind.u64.wrap ((c : Int) % 128 * 2 ^ (7 * k))) = ((m + c % 128 * 128 ^ k : Nat) : Int) := by
  have hp : (128 : Nat) ^ k * 128 ≤ 9223372036854775808 ∨ k = 9 := by
    by_cases h : k = 9
    · exact .inr h
    · left
      have : (128 : Nat) ^ k ≤ 128 ^ 8 := Nat.pow_le_pow_right (by omega) (by omega)
      omega
  have hb : m + c % 128 * 128 ^ k < 18446744073709551616 := by
    rcases hp with hp | rfl
    · have : c % 128 * 128 ^ k ≤ 127 * 128 ^ k := Nat.mul_le_mul_right _ (by omega)
      omega
    · have h1 := h9 rfl
      have e : (128 : Nat) ^ 9 = 9223372036854775808 := by decide
      rw [e] at *
      have : c % 128 * 9223372036854775808 ≤ 1 * 9223372036854775808 := Nat.mul_le_mul_right _ h1
      omega
  have e : (c : Int) % 128 * 2 ^ (7 * k) = ((c % 128 * 128 ^ k : Nat) : Int) := by
    rw [← pow_7]; simp
  rw [e, IntKind.wrap_u64, Int.emod_eq_of_lt (by omega) (by omega)]
  refine or_join_u64 m _ (7 * k) (by rw [pow_7]; exact hm) ?_ hb
  rw [pow_7]; exact Nat.mul_mod_left _ _

theorem or_nine (m c : Nat) (hm : m < 128 ^ 9) (h9 : c % 128 ≤ 1) : bits .or .u64 (m : Int) ((c : Int) % 128 * 9223372036854775808) = ((m + c % 128 * 128 ^ 9 : Nat) : Int) := by
  have h := or_step m c 9 hm (by omega) (fun _ => h9)
  rw [IntKind.wrap_u64] at h
  rw [← h]; congr 1; omega
theorem drop_at (s : ByteArray) (k : Nat) (h : k < s.size) : s.data.toList.drop k = s[k] :: s.data.toList.drop (k + 1) := by
  rw [List.drop_eq_getElem_cons (by simpa using h)]; rfl
theorem rd_short {s : ByteArray} {k m : Nat} (H : rd s.data.toList = rdAt s.data.toList k m) (hk : k < 10) (h : ¬ k < s.size) : rd s.data.toList = (0, 0, 3) := by
  rw [H, rdAt, if_neg (by omega), List.drop_of_length_le (by simpa using h)]; rfl
theorem rd_form {s : ByteArray} {k m : Nat} (H : rd s.data.toList = rdAt s.data.toList k m) (h : k < s.size) (hk : k < 10) (hc : s[k].toNat = 0 ∧ 0 < k ∨ k = 9 ∧ 2 ≤ s[k].toNat) : rd s.data.toList = (0, 0, 4) := by
  rw [H, rdAt, if_neg (by omega), drop_at s k h, rdGo, if_pos hc]
theorem rd_last {s : ByteArray} {k m : Nat} (H : rd s.data.toList = rdAt s.data.toList k m) (h : k < s.size) (hk : k < 10) (hc : ¬ (s[k].toNat = 0 ∧ 0 < k ∨ k = 9 ∧ 2 ≤ s[k].toNat)) (h1 : s[k].toNat < 128) : rd s.data.toList = (m + s[k].toNat % 128 * 128 ^ k, k + 1, 0) := by
  rw [H, rdAt, if_neg (by omega), drop_at s k h, rdGo, if_neg hc, if_pos h1, Nat.mod_eq_of_lt h1]
theorem rd_more {s : ByteArray} {k m : Nat} (H : rd s.data.toList = rdAt s.data.toList k m) (h : k < s.size) (hk : k < 10) (h1 : ¬ s[k].toNat < 128) : rd s.data.toList = rdAt s.data.toList (k + 1) (m + s[k].toNat % 128 * 128 ^ k) := by
  by_cases h9 : k = 9
  · rw [rd_form H h hk (by omega), rdAt, if_pos (by omega)]
  · rw [H, rdAt, rdAt, if_neg (by omega), if_neg (by omega), drop_at s k h, rdGo, if_neg (by omega), if_neg h1]
theorem rd_end {s : ByteArray} {k m : Nat} (H : rd s.data.toList = rdAt s.data.toList k m) (hk : k ≤ 10) (h : ¬ k < 10) : rd s.data.toList = (0, 0, 4) := by
  rw [H, rdAt, if_pos (by omega)]
theorem lt_step {m c k : Nat} (hm : m < 128 ^ k) : m + c % 128 * 128 ^ k < 128 ^ (k + 1) := by
  have : c % 128 * 128 ^ k ≤ 127 * 128 ^ k := Nat.mul_le_mul_right _ (by omega)
  rw [Nat.pow_succ]; omega
theorem ret_3 {r : Nat × Nat × Nat} {a b c : Int} (x y z : Nat) (h : r = (x, y, z)) (ha : a = x) (hb : b = y) (hc : c = z) : Ending.returned (.tuple #[.int .u64 a, .int .i64 b, .int .i64 c]) = .returned (.tuple #[.int .u64 r.1, .int .i64 r.2.1, .int .i64 r.2.2]) := by
  subst h ha hb hc; rfl

end Go.Proofs.YtiekgafopalfmaaGreatDoor

namespace Go.Proofs.YtiekgafopalfmaaGreatDoor
open Go.RowKit

/-- The string of a number's bytes. -/
def numS (N : Nat) : ByteArray := ⟨(num N).toArray⟩
theorem numS_size (N : Nat) : (numS N).size = (num N).length := by simp [numS, ByteArray.size]
theorem numS_data (N : Nat) : (numS N).data.toList = num N := by simp [numS]
theorem app_data (s t : ByteArray) : (s ++ t).data.toList = s.data.toList ++ t.data.toList := by simp
end Go.Proofs.YtiekgafopalfmaaGreatDoor
