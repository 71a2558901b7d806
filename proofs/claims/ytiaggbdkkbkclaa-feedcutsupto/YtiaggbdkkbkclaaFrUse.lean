import Derived.Test.YtiaggbdkkbkclaaFrDec
import Derived.Test.YtiaggbdkkbkclaaRest
import Derived.Test.YtiaggbdkkbkclaaFrArg
namespace Go.Proofs.Ytiaggbdkkbkclaa
open Go.RowKit

theorem below_new (w : World) (o : Obj) : Below w.heap.size w (w.alloc o) := (Below.refl _ _).alloc (Nat.le_refl _) o
theorem enc_cases (v k : Int) (p : ByteArray) : (∃ a b : Nat, v = a ∧ k = b ∧ goodF a b p.data.toList ∧ enc v k p = (encB a b p, 0)) ∨ ∃ c, c ≠ 0 ∧ enc v k p = (⟨#[]⟩, c) := by
  unfold enc
  by_cases h1 : encOK v k = false
  · exact .inr ⟨1, by omega, by rw [if_pos h1]⟩
  by_cases h2 : 6000 < p.size
  · exact .inr ⟨2, by omega, by rw [if_neg h1, if_pos h2]⟩
  have h1' : encOK v k = true := by simpa using h1
  simp only [encOK, Bool.and_eq_true, decide_eq_true_eq] at h1'
  obtain ⟨a, rfl⟩ := Int.eq_ofNat_of_zero_le (show 0 ≤ v by omega)
  obtain ⟨b, rfl⟩ := Int.eq_ofNat_of_zero_le (show 0 ≤ k by omega)
  refine .inl ⟨a, b, rfl, rfl, ⟨by omega, by omega, by omega, by omega, by rw [size_data]; omega⟩, ?_⟩
  rw [if_neg h1, if_neg h2, Int.toNat_natCast, Int.toNat_natCast]
theorem enc_good {a b : Nat} {p : ByteArray} (h : goodF a b p.data.toList) : enc a b p = (encB a b p, 0) := by
  obtain ⟨h1, h2, h3, h4, h5⟩ := h
  rw [size_data] at h5
  unfold enc
  have : encOK a b = true := by simp [encOK]; omega
  rw [if_neg (by rw [this]; simp), if_neg (by omega), Int.toNat_natCast, Int.toNat_natCast]
theorem enc_bd {a b : Nat} {p : ByteArray} (h : goodF a b p.data.toList) : (encB a b p).size ≤ 6018 ∧ 9 ≤ (encB a b p).size := by
  have h5 := h.2.2.2.2
  rw [size_data] at h5
  rw [encB_size]
  have := num_len 1 p.size (by omega)
  have := num_pos p.size
  omega
theorem encode_is (v k : Int) (p : ByteArray) (hp : p.size ≤ 140737488355328) (t : ByteArray) (c : Nat) (h : enc v k p = (t, c)) (w : World) :
    Calls Try.prog 16 #[.agg #[.int .i64 v, .int .i64 k, .string p]] w fun e w' => e = .returned (.tuple #[.string t, .int .i64 (c : Int)]) ∧ Below w.heap.size w w' := by
  have := encode_any v k p hp w
  rwa [h] at this
theorem decode_enc {a b : Nat} {p : ByteArray} (h : goodF a b p.data.toList) (more : ByteArray) : decL (encB a b p ++ more).data.toList = (a, b, p.data.toList, (encB a b p).size, 0) := by
  rw [app_data, encB_data, decL_enc h, ← encB_data, size_data]

theorem fields {a0 b0 a1 b1 : Int} {c0 c1 : ByteArray} (h : ¬ (a0 = a1 ∧ b0 = b1 ∧ c0 = c1)) : (a0 == a1) = false ∨ (a0 = a1 ∧ (b0 == b1) = false) ∨ (a0 = a1 ∧ b0 = b1 ∧ (c0.toList == c1.toList) = false) := by
  by_cases h0 : a0 = a1
  · by_cases h1 : b0 = b1
    · exact .inr (.inr ⟨h0, h1, ne_lists (fun h2 => h ⟨h0, h1, h2⟩)⟩)
    · exact .inr (.inl ⟨h0, by simpa using h1⟩)
  · exact .inl (by simpa using h0)
end Go.Proofs.Ytiaggbdkkbkclaa
