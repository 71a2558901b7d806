import Derived.Test.YtklpmhiaihabaaaGPkNum
import Derived.Lib.ValidLaws
import Derived.Test.YtklpmhiaihabaaaRows
import Derived.WalkKit
import Derived.WalkSpells
import Derived.ProofKit
import Derived.Below
import Derived.Lib.Hide
namespace Go.Proofs.Ytklpmhiaihabaaa
open Go.RowKit

theorem ref_last {c k m : Nat} (hm : m < 128 ^ k) (hk : k ≤ 9) (h9 : k = 9 → c % 128 ≤ 1) : m + c % 128 * 128 ^ k < 18446744073709551616 := by
  by_cases h8 : k = 9
  · subst h8
    have := h9 rfl
    have e : (128 : Nat) ^ 9 = 9223372036854775808 := by decide
    rw [e] at *
    have : c % 128 * 9223372036854775808 ≤ 1 * 9223372036854775808 := Nat.mul_le_mul_right _ this
    omega
  · have : (128 : Nat) ^ k ≤ 128 ^ 8 := Nat.pow_le_pow_right (by omega) (by omega)
    have : c % 128 * 128 ^ k ≤ 127 * 128 ^ k := Nat.mul_le_mul_right _ (by omega)
    omega
theorem ref_add (m c U k : Nat) (hU : U = 128 ^ k) (hm : m < 128 ^ k) (hk : k ≤ 9) (h9 : k = 9 → c % 128 ≤ 1) : IntKind.u64.wrap ((m : Int) + IntKind.u64.wrap ((c : Int) % 128 * (U : Int))) = ((m + c % 128 * 128 ^ k : Nat) : Int) := by
  have h := ref_last (c := c) hm hk h9
  have e : (c : Int) % 128 * (U : Int) = ((c % 128 * 128 ^ k : Nat) : Int) := by rw [hU]; simp
  rw [e, IntKind.wrap_u64, IntKind.wrap_u64]; omega
theorem ref_zero (m c : Nat) (hm : m < 128 ^ 0) (hc : c % 128 = 0) : IntKind.u64.wrap (m : Int) = ((m + c % 128 * 128 ^ 0 : Nat) : Int) := by
  rw [IntKind.wrap_u64, hc]; omega
theorem ref_unit (U k : Nat) (hU : U = 128 ^ k) (hk : k < 9) : IntKind.u64.wrap ((U : Int) * 128) = ((128 ^ (k + 1) : Nat) : Int) := by
  have : (128 : Nat) ^ (k + 1) ≤ 128 ^ 9 := Nat.pow_le_pow_right (by omega) (by omega)
  have e : (128 : Nat) ^ (k + 1) = U * 128 := by rw [hU, Nat.pow_succ]
  rw [IntKind.wrap_u64]; omega
end Go.Proofs.Ytklpmhiaihabaaa

namespace Go.Proofs.Ytklpmhiaihabaaa
open Go.RowKit

end Go.Proofs.Ytklpmhiaihabaaa

/- Plain facts on valid UTF-8 (no program): the library's word for it, step by step, as the reference takes the steps. -/
namespace Go.Proofs.Ytklpmhiaihabaaa
open Go.Lib

def at' (l : List UInt8) (k : Nat) : Nat := (l.getD k 0).toNat
theorem at_drop (l : List UInt8) (k j : Nat) : ((l.drop k).getD j 0).toNat = at' l (k + j) := by simp [at']
/-- A lead byte c of a rune of M + 1 bytes, the second of which lies from lo to hi. -/
def Lead (c M lo hi : Nat) : Prop := 128 ≤ c ∧ firstT c % 8 = M + 1 ∧ accLo (firstT c / 16) = lo ∧ accHi (firstT c / 16) = hi
/-- The j-th byte behind the lead byte at k is as it must be. -/
def Good (l : List UInt8) (k lo hi j : Nat) : Prop := (if j = 1 then lo else 128) ≤ at' l (k + j) ∧ at' l (k + j) ≤ (if j = 1 then hi else 191)
theorem valid_ascii (l : List UInt8) (k : Nat) (h : k < l.length) (hc : at' l k < 128) : validD (l.drop k) = validD (l.drop (k + 1)) := by
  rw [List.drop_eq_getElem_cons h]
  refine validD_cons _ _ ?_
  simpa [at', h] using hc
theorem drop_ne (l : List UInt8) (k : Nat) (h : k < l.length) : l.drop k ≠ [] := by
  intro e; have := congrArg List.length e; simp at this; omega
theorem lead_eq (l : List UInt8) (k : Nat) (h : k < l.length) (hc : 128 ≤ at' l k) :
    validD (l.drop k) = match checkN (l.length - k) (at' l (k + 1)) (at' l (k + 2)) (at' l (k + 3)) (firstT (at' l k) % 8) (accLo (firstT (at' l k) / 16)) (accHi (firstT (at' l k) / 16)) with
      | none => false
      | some m => validD (l.drop (k + m)) := by
  have := validD_lead (l.drop k) (drop_ne l k h) (by rw [at_drop]; exact hc)
  rw [at_drop, at_drop, at_drop, at_drop, List.length_drop] at this
  simp only [List.drop_drop] at this
  exact this
theorem valid_multi (l : List UInt8) (k M lo hi : Nat) (hM : M = 1 ∨ M = 2 ∨ M = 3) (h : k + M < l.length) (hL : Lead (at' l k) M lo hi) (hg : ∀ j, 1 ≤ j → j ≤ M → Good l k lo hi j) :
    validD (l.drop k) = validD (l.drop (k + (M + 1))) := by
  obtain ⟨hc, h8, hlo, hhi⟩ := hL
  rw [lead_eq l k (by omega) hc, h8, hlo, hhi]
  have g1 := hg 1 (by omega) (by omega)
  simp [Good] at g1
  rcases hM with rfl | rfl | rfl
  · unfold checkN; rw [if_pos (by omega), if_neg (by omega)]
  · have g2 := hg 2 (by omega) (by omega)
    simp [Good] at g2
    unfold checkN; rw [if_neg (by omega), if_pos (by omega), if_neg (by omega)]
  · have g2 := hg 2 (by omega) (by omega)
    have g3 := hg 3 (by omega) (by omega)
    simp [Good] at g2 g3
    unfold checkN; rw [if_neg (by omega), if_neg (by omega), if_pos (by omega), if_neg (by omega)]
theorem valid_bad (l : List UInt8) (k M lo hi : Nat) (hM : M = 1 ∨ M = 2 ∨ M = 3) (h : k < l.length) (hL : Lead (at' l k) M lo hi) (hb : ¬ k + M < l.length ∨ ∃ j, 1 ≤ j ∧ j ≤ M ∧ ¬ Good l k lo hi j) :
    validD (l.drop k) = false := by
  obtain ⟨hc, h8, hlo, hhi⟩ := hL
  rw [lead_eq l k h hc, h8, hlo, hhi]
  have key : l.length - k < M + 1 ∨ at' l (k + 1) < lo ∨ hi < at' l (k + 1) ∨ (2 ≤ M ∧ (at' l (k + 2) < 128 ∨ 191 < at' l (k + 2))) ∨ (3 ≤ M ∧ (at' l (k + 3) < 128 ∨ 191 < at' l (k + 3))) := by
    rcases hb with hb | ⟨j, j1, jM, hj⟩
    · omega
    · rcases (show j = 1 ∨ j = 2 ∨ j = 3 by omega) with rfl | rfl | rfl <;> simp [Good] at hj <;> omega
  rcases hM with rfl | rfl | rfl
  · unfold checkN; rw [if_pos (by omega), if_pos (by omega)]
  · unfold checkN; rw [if_neg (by omega), if_pos (by omega), if_pos (by omega)]
  · unfold checkN; rw [if_neg (by omega), if_neg (by omega), if_pos (by omega), if_pos (by omega)]
theorem valid_none (l : List UInt8) (k : Nat) (h : k < l.length) (hc : (128 ≤ at' l k ∧ at' l k < 194) ∨ 245 ≤ at' l k) : validD (l.drop k) = false := by
  have hlt : at' l k < 256 := (l.getD k 0).toNat_lt
  rw [lead_eq l k h (by omega)]
  have e : firstT (at' l k) % 8 ≠ 2 ∧ firstT (at' l k) % 8 ≠ 3 ∧ firstT (at' l k) % 8 ≠ 4 := by
    generalize at' l k = c at *
    have : ∀ c, c < 256 → ((128 ≤ c ∧ c < 194) ∨ 245 ≤ c) → firstT c % 8 ≠ 2 ∧ firstT c % 8 ≠ 3 ∧ firstT c % 8 ≠ 4 := by decide +kernel
    exact this c hlt hc
  simp only [checkN]
  rw [if_neg e.1, if_neg e.2.1, if_neg e.2.2]
theorem lead_C2 : ∀ c, c < 256 → 194 ≤ c → c ≤ 223 → Lead c 1 128 191 := by unfold Lead; decide +kernel
theorem lead_E0 : Lead 224 2 160 191 := by unfold Lead; decide +kernel
theorem lead_E1 : ∀ c, c < 256 → 225 ≤ c → c ≤ 236 → Lead c 2 128 191 := by unfold Lead; decide +kernel
theorem lead_ED : Lead 237 2 128 159 := by unfold Lead; decide +kernel
theorem lead_EE : ∀ c, c < 256 → 238 ≤ c → c ≤ 239 → Lead c 2 128 191 := by unfold Lead; decide +kernel
theorem lead_F0 : Lead 240 3 144 191 := by unfold Lead; decide +kernel
theorem lead_F1 : ∀ c, c < 256 → 241 ≤ c → c ≤ 243 → Lead c 3 128 191 := by unfold Lead; decide +kernel
theorem lead_F4 : Lead 244 3 128 143 := by unfold Lead; decide +kernel
end Go.Proofs.Ytklpmhiaihabaaa

namespace Go.Proofs.Ytklpmhiaihabaaa
open Go.RowKit Go.Lib

theorem at_byte (s : ByteArray) (k : Nat) (h : k < s.size) : at' s.data.toList k = s[k].toNat := by
  have h' : k < s.data.toList.length := by simpa using h
  unfold at'
  rw [List.getD_eq_getElem?_getD, List.getElem?_eq_getElem h']; rfl

/-- What the reference's loop over a rune's further bytes does, at a lead byte at k of M further bytes, the first of which lies from lo to hi. -/
def Tail (s : ByteArray) (k M lo hi : Nat) : Prop := k < s.size ∧ (M = 0 ∧ at' s.data.toList k < 128 ∨ (M = 1 ∨ M = 2 ∨ M = 3) ∧ Lead (at' s.data.toList k) M lo hi)
theorem tail_short {s : ByteArray} {k M lo hi : Nat} (h : Tail s k M lo hi) (hb : ¬ k + M < s.size) : validD (s.data.toList.drop k) = false := by
  obtain ⟨h0, ⟨rfl, _⟩ | ⟨hM, hL⟩⟩ := h
  · omega
  · exact valid_bad _ k M lo hi hM (by simpa using h0) hL (.inl (by simpa using hb))
theorem tail_bad {s : ByteArray} {k M lo hi j : Nat} (h : Tail s k M lo hi) (h1 : 1 ≤ j) (h2 : j ≤ M) (hb : ¬ Good s.data.toList k lo hi j) : validD (s.data.toList.drop k) = false := by
  obtain ⟨h0, ⟨rfl, _⟩ | ⟨hM, hL⟩⟩ := h
  · omega
  · exact valid_bad _ k M lo hi hM (by simpa using h0) hL (.inr ⟨j, h1, h2, hb⟩)
theorem tail_good {s : ByteArray} {k M lo hi : Nat} (h : Tail s k M lo hi) (hl : k + M < s.size) (hg : ∀ j, 1 ≤ j → j ≤ M → Good s.data.toList k lo hi j) : validD (s.data.toList.drop k) = validD (s.data.toList.drop (k + (M + 1))) := by
  obtain ⟨h0, ⟨rfl, hc⟩ | ⟨hM, hL⟩⟩ := h
  · exact valid_ascii _ k (by simpa using h0) hc
  · exact valid_multi _ k M lo hi hM (by simpa using hl) hL hg

end Go.Proofs.Ytklpmhiaihabaaa
