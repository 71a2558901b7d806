/- Plain facts, more: lengths and order of varint bytes; what a successful reading says of the bytes. -/
import Derived.Test.YtdbopgmckndmeaaDoorPlain
namespace Go.Proofs.YtdbopgmckndmeaaDoor

theorem num_mono : ∀ (b a : Nat), a ≤ b → (num a).length ≤ (num b).length := by
  intro b
  induction b using Nat.strongRecOn with
  | ind b ih =>
    intro a h
    by_cases hb : b < 128
    · rw [num_lt hb, num_lt (n := a) (by omega)]; simp
    · by_cases ha : a < 128
      · rw [num_lt ha]; exact num_pos b
      · rw [num_ge hb, num_ge ha]
        have := ih (b / 128) (by omega) (a / 128) (by omega)
        simp; omega
theorem num_inj {a b : Nat} (ha : a < 18446744073709551616) (hb : b < 18446744073709551616) (h : num a = num b) : a = b := by
  have h1 := rd_num ha []
  have h2 := rd_num hb []
  rw [h] at h1
  have := h1.symm.trans h2
  simpa using congrArg Prod.fst this

theorem rdGo_err : ∀ (l : List UInt8) (i m : Nat), (rdGo l i m).2.2 ≠ 0 → (rdGo l i m).1 = 0 ∧ (rdGo l i m).2.1 = 0 := by
  intro l
  induction l with
  | nil => intro i m _; simp [rdGo]
  | cons c r ih =>
    intro i m h
    rw [rdGo] at h ⊢
    split
    · simp
    · rename_i h1
      rw [if_neg h1] at h
      split
      · rename_i h2; rw [if_pos h2] at h; exact absurd rfl h
      · rename_i h2; rw [if_neg h2] at h; exact ih _ _ h
theorem rdGo_codes : ∀ (l : List UInt8) (i m : Nat), (rdGo l i m).2.2 = 0 ∨ (rdGo l i m).2.2 = 3 ∨ (rdGo l i m).2.2 = 4 := by
  intro l
  induction l with
  | nil => intro i m; simp [rdGo]
  | cons c r ih =>
    intro i m
    rw [rdGo]
    split
    · simp
    · split
      · simp
      · exact ih _ _
theorem rdGo_ok : ∀ (l : List UInt8) (i m : Nat), i ≤ 9 → m < 128 ^ i → (rdGo l i m).2.2 = 0 →
    ∃ v, (rdGo l i m).1 = m + v * 128 ^ i ∧ (rdGo l i m).2.1 = i + (num v).length ∧ (num v).length ≤ l.length ∧ num v = l.take (num v).length ∧ (0 < i → v ≠ 0) ∧ v * 128 ^ i < 18446744073709551616 ∧ m + v * 128 ^ i < 18446744073709551616 ∧ ∀ j m', j < (num v).length → rdGo (l.take j) i m' = (0, 0, 3) := by
  intro l
  induction l with
  | nil => intro i m _ _ h; simp [rdGo] at h
  | cons c r ih =>
    intro i m hi hm h
    have hc := c.toNat_lt
    have p9 : i < 9 → (128 : Nat) ^ i * 128 ≤ 9223372036854775808 := by
      intro h9
      have : (128 : Nat) ^ i ≤ 128 ^ 8 := Nat.pow_le_pow_right (by omega) (by omega)
      omega
    have e9 : (128 : Nat) ^ 9 = 9223372036854775808 := by decide
    rw [rdGo] at h ⊢
    by_cases h1 : (c.toNat = 0 ∧ 0 < i) ∨ (i = 9 ∧ 2 ≤ c.toNat)
    · rw [if_pos h1] at h; simp at h
    · rw [if_neg h1] at h ⊢
      by_cases h2 : c.toNat < 128
      · rw [if_pos h2]
        have hn : num c.toNat = [c] := by rw [num_lt h2]; simp
        have hb : m + c.toNat * 128 ^ i < 18446744073709551616 := by
          by_cases h9 : i < 9
          · have := p9 h9
            have : c.toNat * 128 ^ i ≤ 127 * 128 ^ i := Nat.mul_le_mul_right _ (by omega)
            omega
          · obtain rfl : i = 9 := by omega
            rw [e9] at *
            have : c.toNat * 9223372036854775808 ≤ 1 * 9223372036854775808 := Nat.mul_le_mul_right _ (by omega)
            omega
        refine ⟨c.toNat, rfl, by rw [hn]; rfl, by rw [hn]; simp, by rw [hn]; simp, by omega, by omega, hb, ?_⟩
        intro j m' hj
        rw [hn] at hj
        obtain rfl : j = 0 := by simp at hj; omega
        simp [rdGo]
      · rw [if_neg h2] at h ⊢
        have hi9 : i < 9 := by omega
        have hm' : m + c.toNat % 128 * 128 ^ i < 128 ^ (i + 1) := by
          have : c.toNat % 128 * 128 ^ i ≤ 127 * 128 ^ i := Nat.mul_le_mul_right _ (by omega)
          rw [Nat.pow_succ]; omega
        obtain ⟨v, a1, a2, a3, a4, a5, a6, a7, a8⟩ := ih (i + 1) (m + c.toNat % 128 * 128 ^ i) (by omega) hm' h
        have hv := a5 (by omega)
        have hnum : num (c.toNat % 128 + 128 * v) = c :: num v := by
          rw [num_ge (by omega)]
          have e1 : (c.toNat % 128 + 128 * v) / 128 = v := by omega
          have e2 : (c.toNat % 128 + 128 * v) % 128 + 128 = c.toNat := by omega
          rw [e1, e2]; simp
        have e3 : (c.toNat % 128 + 128 * v) * 128 ^ i = c.toNat % 128 * 128 ^ i + v * 128 ^ (i + 1) := by
          rw [Nat.add_mul, Nat.pow_succ, Nat.mul_comm 128 v, Nat.mul_assoc, Nat.mul_comm 128 (128 ^ i)]
        refine ⟨c.toNat % 128 + 128 * v, by rw [a1, e3]; omega, by rw [a2, hnum]; simp; omega, by rw [hnum]; simpa using a3, by rw [hnum]; simpa using a4, by omega, by rw [e3]; omega, by rw [e3]; omega, ?_⟩
        intro j m' hj
        rw [hnum] at hj
        cases j with
        | zero => simp [rdGo]
        | succ j =>
          rw [List.take_succ_cons, rdGo, if_neg h1, if_neg h2]
          exact a8 j _ (by simpa using hj)
/-- What a successful reading says of the bytes. -/
theorem rd_ok {l : List UInt8} (h : (rd l).2.2 = 0) : (rd l).1 < 18446744073709551616 ∧ (rd l).2.1 = (num (rd l).1).length ∧ (rd l).2.1 ≤ l.length ∧ num (rd l).1 = l.take (rd l).2.1 ∧ ∀ j, j < (rd l).2.1 → rd (l.take j) = (0, 0, 3) := by
  obtain ⟨v, a1, a2, a3, a4, _, _, a7, a8⟩ := rdGo_ok l 0 0 (by omega) (by omega) h
  have e : (rd l).1 = v := by show (rdGo l 0 0).1 = v; rw [a1]; omega
  have e2 : (rd l).2.1 = (num v).length := by show (rdGo l 0 0).2.1 = _; rw [a2]; omega
  rw [e, e2]
  exact ⟨by omega, rfl, a3, a4, fun j hj => a8 j 0 hj⟩
theorem rd_err {l : List UInt8} (h : (rd l).2.2 ≠ 0) : (rd l).1 = 0 ∧ (rd l).2.1 = 0 := rdGo_err l 0 0 h
end Go.Proofs.YtdbopgmckndmeaaDoor
