import Derived.Test.YtdbopgmckndmeaaDoorNumUse
namespace Go.Proofs.YtdbopgmckndmeaaDoor
open Go.RowKit

theorem chr_any (x : Int) (h0 : 0 ≤ x) (h1 : x < 256) (w : World) : Calls Tryd.prog 77 #[.int .u64 x] w fun e w' => e = .returned (.string ⟨#[UInt8.ofNat x.toNat]⟩) ∧ Below w.heap.size w w' := by
  obtain ⟨n, rfl⟩ := Int.eq_ofNat_of_zero_le h0
  obtain ⟨b, hb⟩ : ∃ b, b = UInt8.ofNat n := ⟨_, rfl⟩
  have hn : (n : Int) = (b.toNat : Int) := by rw [hb]; simp; omega
  have hcv := run_string_own (w := w.alloc (.cells #[.int .u8 (b.toNat : Int)] 5)) (base := w.heap.size) (n := 1) (cap := 1) [b] rfl (World.ownsRow_lit w #[.int .u8 (b.toNat : Int)] 1 (Nat.le_refl _) (by decide) rfl)
  rw [Int.toNat_natCast, ← hb]
  clear hb h0
  go_enter Tryd.func77, Tryd.ntmps77
  go_wp2
  go_ret
  exact ⟨rfl, (Below.refl _ _).alloc (Nat.le_refl _) _⟩

theorem chr_nat (n : Nat) (h1 : n < 256) (w : World) : Calls Tryd.prog 77 #[.int .u64 (n : Int)] w fun e w' => e = .returned (.string ⟨#[UInt8.ofNat n]⟩) ∧ Below w.heap.size w w' := chr_any n (by omega) (by omega) w
theorem numS_ge {n : Nat} (h : ¬ n < 128) : (⟨#[UInt8.ofNat (n % 128 + 128)]⟩ : ByteArray) ++ numS (n / 128) = numS n := by
  rw [numS, numS, num_ge h]
  apply ByteArray.ext
  simp
set_option maxRecDepth 100000 in
theorem rnumber_is : ∀ (N : Nat), N < 18446744073709551616 → ∀ w : World,
    Calls Tryd.prog 78 #[.int .u64 (N : Int)] w fun e w' => e = .returned (.string (numS N)) ∧ Below w.heap.size w w' := by
  intro N
  induction N using Nat.strongRecOn with
  | ind N ih =>
    intro hN w
    by_cases h : N < 128
    · have HC := Lib.hid (chr_nat N (by omega))
      have hs : numS N = ⟨#[UInt8.ofNat N]⟩ := by rw [numS, num_lt h]
      rw [hs]
      clear ih hs hN
      go_enter Tryd.func78, Tryd.ntmps78
      go_wp2_with fail
      refine (HC.out _).mono ?_
      rintro e w2 ⟨rfl, hb2⟩
      go_wp2
      go_ret
      exact ⟨rfl, hb2⟩
    · have hC := chr_nat (N % 128 + 128) (by omega)
      rw [show ((N % 128 + 128 : Nat) : Int) = (N : Int) % 128 + 128 from by omega] at hC
      have hI := ih (N / 128) (by omega) (by omega)
      rw [show ((N / 128 : Nat) : Int) = (N : Int) / 128 from by omega] at hI
      have HC := Lib.hid hC
      have HI := Lib.hid hI
      clear hC hI
      have h10 : (numS (N / 128)).size ≤ 10 := by rw [numS_size]; exact num_len10 (by omega)
      rw [← numS_ge h]
      clear ih
      have hq : IntKind.u64.wrap ((N : Int) / 128) = (N : Int) / 128 := IntWalk.u64_in _ (by omega)
      have hr : IntKind.u64.wrap ((N : Int) % 128 + 128) = (N : Int) % 128 + 128 := IntWalk.u64_in _ (by omega)
      clear hN
      generalize numS (N / 128) = t at *
      generalize UInt8.ofNat (N % 128 + 128) = b at *
      have h1 : (⟨#[b]⟩ : ByteArray).size ≤ 1 := Nat.le_refl 1
      generalize (⟨#[b]⟩ : ByteArray) = u at *
      go_enter Tryd.func78, Tryd.ntmps78
      go_wp2_with fail
      refine (HC.out _).mono ?_
      rintro e w2 ⟨rfl, hb2⟩
      go_wp2_with fail
      refine (HI.out _).mono ?_
      rintro e w3 ⟨rfl, hb3⟩
      go_wp2
      go_ret
      exact ⟨rfl, hb2.trans (hb3.mono hb2.size)⟩
end Go.Proofs.YtdbopgmckndmeaaDoor
