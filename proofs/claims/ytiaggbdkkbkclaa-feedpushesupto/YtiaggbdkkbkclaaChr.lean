import Derived.Test.YtiaggbdkkbkclaaNumUse
namespace Go.Proofs.Ytiaggbdkkbkclaa
open Go.RowKit

theorem chr_any (x : Int) (h0 : 0 ≤ x) (h1 : x < 256) (w : World) : Calls Try.prog 36 #[.int .u64 x] w fun e w' => e = .returned (.string ⟨#[UInt8.ofNat x.toNat]⟩) ∧ Below w.heap.size w w' := by
  obtain ⟨n, rfl⟩ := Int.eq_ofNat_of_zero_le h0
  obtain ⟨b, hb⟩ : ∃ b, b = UInt8.ofNat n := ⟨_, rfl⟩
  have hn : (n : Int) = (b.toNat : Int) := by rw [hb]; simp; omega
  have hcv := run_string_own (w := w.alloc (.cells #[.int .u8 (b.toNat : Int)] 5)) (base := w.heap.size) (n := 1) (cap := 1) [b] rfl (World.ownsRow_lit w #[.int .u8 (b.toNat : Int)] 1 (Nat.le_refl _) (by decide) rfl)
  rw [Int.toNat_natCast, ← hb]
  clear hb h0
  go_enter Try.func36, Try.ntmps36
  go_wp2
  go_ret
  exact ⟨rfl, (Below.refl _ _).alloc (Nat.le_refl _) _⟩

theorem chr_nat (n : Nat) (h1 : n < 256) (w : World) : Calls Try.prog 36 #[.int .u64 (n : Int)] w fun e w' => e = .returned (.string ⟨#[UInt8.ofNat n]⟩) ∧ Below w.heap.size w w' := chr_any n (by omega) (by omega) w
end Go.Proofs.Ytiaggbdkkbkclaa
