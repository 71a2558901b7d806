import Derived.Test.YtdbopgmckndmeaaDoorPkFr
import Derived.Test.YtdbopgmckndmeaaDoorPkRef
import Derived.Test.YtdbopgmckndmeaaDoorSumR
namespace Go.Proofs.YtdbopgmckndmeaaDoor
open Go.RowKit

theorem outside_no (a lo hi : Int) (h : lo ≤ a ∧ a ≤ hi) (w : World) :
    Calls Tryd.prog 24 #[.int .i64 a, .int .i64 lo, .int .i64 hi] w fun e w' => e = .returned (.bool false) ∧ w = w' := by
  have h1 : decide (a < lo) = false := by simp; omega
  have h2 : decide (hi < a) = false := by simp; omega
  go_enter Tryd.func24, Tryd.ntmps24
  go_wp2
  go_ret
  exact ⟨rfl, rfl⟩
theorem outside_yes (a lo hi : Int) (h : ¬ (lo ≤ a ∧ a ≤ hi)) (w : World) :
    Calls Tryd.prog 24 #[.int .i64 a, .int .i64 lo, .int .i64 hi] w fun e w' => e = .returned (.bool true) ∧ w = w' := by
  by_cases h1 : a < lo
  · go_enter Tryd.func24, Tryd.ntmps24
    go_wp2
    go_ret
    exact ⟨rfl, rfl⟩
  · have h0 : decide (a < lo) = false := by simp; omega
    have h2 : decide (hi < a) = true := by simp; omega
    go_enter Tryd.func24, Tryd.ntmps24
    go_wp2
    go_ret
    exact ⟨rfl, rfl⟩
/-- One byte of a greater number. -/
theorem chr_mod (n : Nat) (w : World) : Calls Tryd.prog 77 #[.int .u64 (n : Int)] w fun e w' => e = .returned (.string ⟨#[UInt8.ofNat n]⟩) ∧ Below w.heap.size w w' := by
  obtain ⟨b, hb⟩ : ∃ b, b = UInt8.ofNat n := ⟨_, rfl⟩
  have hn : (n : Int) % 256 = (b.toNat : Int) := by rw [hb]; simp
  have hcv := run_string_own (w := w.alloc (.cells #[.int .u8 (b.toNat : Int)] 5)) (base := w.heap.size) (n := 1) (cap := 1) [b] rfl (World.ownsRow_lit w #[.int .u8 (b.toNat : Int)] 1 (Nat.le_refl _) (by decide) rfl)
  rw [← hb]
  clear hb
  go_enter Tryd.func77, Tryd.ntmps77
  go_wp2
  go_ret
  exact ⟨rfl, (Below.refl _ _).alloc (Nat.le_refl _) _⟩
theorem chr_at (n : Nat) (x : Int) (h : x = (n : Int)) (w : World) : Calls Tryd.prog 77 #[.int .u64 x] w fun e w' => e = .returned (.string ⟨#[UInt8.ofNat n]⟩) ∧ Below w.heap.size w w' := by
  subst h; exact chr_mod n w
set_option maxRecDepth 100000 in
set_option maxHeartbeats 400000 in
theorem sumText_is (s : ByteArray) (hs : s.size ≤ maxLen) (w : World) :
    Calls Tryd.prog 79 #[.string s] w fun e w' => e = .returned (.string (sumS s)) ∧ Below w.heap.size w w' := by
  have HS := Lib.hid (rsum_is s hs w)
  have hx := sum_lt s.data.toList
  obtain ⟨t, ht⟩ : ∃ t, sumS s = t := ⟨_, rfl⟩
  rw [ht]
  unfold sumS sum4 at ht
  generalize sum s.data.toList = x at *
  have H1 := Lib.hid (chr_at (x / 16777216) ((x : Int) / 16777216) (by omega))
  have H2 := Lib.hid (chr_at (x / 65536) ((x : Int) / 65536) (by omega))
  have H3 := Lib.hid (chr_at (x / 256) ((x : Int) / 256) (by omega))
  have H4 := Lib.hid (chr_at x (x : Int) rfl)
  have ht2 : (⟨#[UInt8.ofNat (x / 16777216)]⟩ : ByteArray) ++ ⟨#[UInt8.ofNat (x / 65536)]⟩ ++ ⟨#[UInt8.ofNat (x / 256)]⟩ ++ ⟨#[UInt8.ofNat x]⟩ = t := by
    rw [← ht]; rfl
  have s1 : (⟨#[UInt8.ofNat (x / 16777216)]⟩ : ByteArray).size ≤ 1 := Nat.le_refl 1
  have s2 : (⟨#[UInt8.ofNat (x / 65536)]⟩ : ByteArray).size ≤ 1 := Nat.le_refl 1
  have s3 : (⟨#[UInt8.ofNat (x / 256)]⟩ : ByteArray).size ≤ 1 := Nat.le_refl 1
  have s4 : (⟨#[UInt8.ofNat x]⟩ : ByteArray).size ≤ 1 := Nat.le_refl 1
  generalize (⟨#[UInt8.ofNat (x / 16777216)]⟩ : ByteArray) = t1 at *
  generalize (⟨#[UInt8.ofNat (x / 65536)]⟩ : ByteArray) = t2 at *
  generalize (⟨#[UInt8.ofNat (x / 256)]⟩ : ByteArray) = t3 at *
  generalize (⟨#[UInt8.ofNat x]⟩ : ByteArray) = t4 at *
  clear ht
  go_enter Tryd.func79, Tryd.ntmps79
  go_wp2_with fail
  refine HS.out.mono ?_
  rintro e w0 ⟨rfl, rfl⟩
  go_wp2_with fail
  refine (H1.out _).mono ?_
  rintro e w1 ⟨rfl, b1⟩
  go_wp2_with fail
  refine (H2.out _).mono ?_
  rintro e w2 ⟨rfl, b2⟩
  go_wp2_with fail
  refine (H3.out _).mono ?_
  rintro e w3 ⟨rfl, b3⟩
  go_wp2_with fail
  refine (H4.out _).mono ?_
  rintro e w4 ⟨rfl, b4⟩
  go_wp2
  go_ret
  exact ⟨rfl, below2 (below2 (below2 b1 b2) b3) b4⟩

set_option maxRecDepth 100000 in
set_option maxHeartbeats 1000000 in
theorem rencode_any (v k : Int) (p : ByteArray) (hp : p.size ≤ 140737488355328) (w : World) :
    Calls Tryd.prog 30 #[.agg #[.int .i64 v, .int .i64 k, .string p]] w fun e w' => e = .returned (.tuple #[.string (enc v k p).1, .int .i64 (enc v k p).2]) ∧ Below w.heap.size w w' := by
  obtain ⟨r, hr⟩ : ∃ r, enc v k p = r := ⟨_, rfl⟩
  rw [hr]
  unfold enc at hr
  by_cases hv : 1 ≤ v ∧ v ≤ 3
  · by_cases hk : 1 ≤ k ∧ k ≤ 4
    · rw [if_neg (by simp [encOK, hv, hk])] at hr
      by_cases h6 : 6000 < p.size
      · rw [if_pos h6] at hr
        have HR := Lib.hid hr.symm
        have H1 := Lib.hid (outside_no v 1 3 hv)
        have H2 := Lib.hid (outside_no k 1 4 hk)
        clear hr hv hk
        go_enter Tryd.func30, Tryd.ntmps30
        go_wp2_with fail
        refine (H1.out _).mono ?_
        rintro e w1 ⟨rfl, rfl⟩
        go_wp2_with fail
        refine (H2.out _).mono ?_
        rintro e w1 ⟨rfl, rfl⟩
        go_wp2
        go_ret2
        exact ⟨ret_s2 2 HR.out rfl, (Below.refl _ _).alloc (Nat.le_refl _) _⟩
      · rw [if_neg h6] at hr
        obtain ⟨a, rfl⟩ := Int.eq_ofNat_of_zero_le (show 0 ≤ v by omega)
        obtain ⟨b, rfl⟩ := Int.eq_ofNat_of_zero_le (show 0 ≤ k by omega)
        rw [Int.toNat_natCast, Int.toNat_natCast] at hr
        have HR := Lib.hid hr.symm
        have H1 := Lib.hid (outside_no a 1 3 hv)
        have H2 := Lib.hid (outside_no b 1 4 hk)
        have ha : a < 256 := by omega
        have hb : b < 256 := by omega
        obtain ⟨W0, hW0⟩ : ∃ W0, w.alloc (.cells #[.int .i64 (a : Int), .int .i64 (b : Int), .string p] 41) = W0 := ⟨_, rfl⟩
        have hc0 : W0.cell? ⟨w.heap.size, 0, none⟩ = some (.int .i64 (a : Int)) := by rw [← hW0]; exact cell_one_new0 _ _ _ _ _
        have hc1 : W0.cell? ⟨w.heap.size, 1, none⟩ = some (.int .i64 (b : Int)) := by rw [← hW0]; exact cell_one_new1 _ _ _ _ _
        have hc2 : W0.cell? ⟨w.heap.size, 2, none⟩ = some (.string p) := by rw [← hW0]; exact cell_one_new2 _ _ _ _ _
        have hb0 : Below w.heap.size w W0 := by rw [← hW0]; exact (Below.refl _ _).alloc (Nat.le_refl _) _
        have hlt : w.heap.size < W0.heap.size := by rw [← hW0]; simp
        have HN := Lib.hid (rnumber_is p.size (by omega))
        have HA := Lib.hid (chr_mod a)
        have HBb := Lib.hid (chr_mod b)
        have hn10 : (numS p.size).size ≤ 10 := by rw [numS_size]; exact num_len10 (by omega)
        have hB := bodyB_is a b p
        have hE := encB_is a b p
        have HS := Lib.hid (sumText_is (bodyB a b p) (by rw [bodyB_size, ← numS_size]; unfold maxLen; omega))
        have hBs : (bodyB a b p).size ≤ 7000 := by rw [bodyB_size, ← numS_size]; omega
        have hSs := sumS_size (bodyB a b p)
        have hT : (⟨#[66, 75]⟩ : ByteArray) ++ ⟨#[UInt8.ofNat a, UInt8.ofNat b]⟩ = ⟨#[66, 75]⟩ ++ ⟨#[UInt8.ofNat a]⟩ ++ ⟨#[UInt8.ofNat b]⟩ := rfl
        rw [hT] at hB
        generalize bodyB a b p = B at *
        generalize sumS B = S4 at *
        generalize encB a b p = E at *
        generalize numS p.size = N at *
        have s1 : (⟨#[UInt8.ofNat a]⟩ : ByteArray).size ≤ 1 := Nat.le_refl 1
        have s2 : (⟨#[UInt8.ofNat b]⟩ : ByteArray).size ≤ 1 := Nat.le_refl 1
        generalize (⟨#[UInt8.ofNat a]⟩ : ByteArray) = T1 at *
        generalize (⟨#[UInt8.ofNat b]⟩ : ByteArray) = T2 at *
        obtain ⟨D1, hD1⟩ : ∃ D1, (⟨#[66, 75]⟩ : ByteArray) ++ T1 = D1 := ⟨_, rfl⟩
        have hD1s : D1.size ≤ 3 := by rw [← hD1, ByteArray.size_append]; have : (⟨#[66, 75]⟩ : ByteArray).size = 2 := rfl; omega
        rw [hD1] at hB
        obtain ⟨D, hD⟩ : ∃ D, D1 ++ T2 = D := ⟨_, rfl⟩
        have hDs : D.size ≤ 4 := by rw [← hD, ByteArray.size_append]; omega
        rw [hD] at hB
        obtain ⟨M, hM⟩ : ∃ M, D ++ N = M := ⟨_, rfl⟩
        have hMs : M.size ≤ 14 := by rw [← hM, ByteArray.size_append]; omega
        rw [hM] at hB
        clear hr hv hk hT
        go_enter Tryd.func30, Tryd.ntmps30
        go_wp2_with fail
        refine (H1.out _).mono ?_
        rintro e w1 ⟨rfl, rfl⟩
        go_wp2_with fail
        refine (H2.out _).mono ?_
        rintro e w1 ⟨rfl, rfl⟩
        go_wp2_with fail
        clear hW0
        have hwp : IntKind.u64.wrap (p.size : Int) = (p.size : Int) := IntWalk.u64_in _ (by omega)
        have hwa : IntKind.u64.wrap (a : Int) = (a : Int) := IntWalk.u64_in _ (by omega)
        have hwb : IntKind.u64.wrap (b : Int) = (b : Int) := IntWalk.u64_in _ (by omega)
        have q0 : ¬ (9223372036854775807 < 2 + T1.size) := by omega
        have q1 : ¬ (9223372036854775807 < D1.size + T2.size) := by omega
        have q2 : ¬ (9223372036854775807 < D.size + N.size) := by omega
        have q3 : ¬ (9223372036854775807 < M.size + p.size) := by omega
        have h3 : Three w.heap.size (.int .i64 (a : Int)) (.int .i64 (b : Int)) (.string p) w W0 := ⟨⟨hc0, hc1, hc2⟩, hb0, hlt⟩
        go_region_held3 (fun w' => (w'.cell? ⟨w.heap.size, 0, none⟩ = some (.int .i64 (a : Int)) ∧ w'.cell? ⟨w.heap.size, 1, none⟩ = some (.int .i64 (b : Int)) ∧ w'.cell? ⟨w.heap.size, 2, none⟩ = some (.string p)) ∧ Below w.heap.size w w' ∧ w.heap.size < w'.heap.size) (first | exact h3.drew | exact h3 | exact Three.drew ‹_› | assumption)
          (first
            | (go_at_call 78; (with_reducible refine (HN.out _).mono ?_); rintro e w2 ⟨rfl, b2⟩; have hk2 := three_next (by first | exact h3.drew | assumption) b2; clear b2)
            | (go_at_call 77; (with_reducible refine (HA.out _).mono ?_); rintro e w2 ⟨rfl, b2⟩; have hk2 := three_next (by first | exact h3.drew | assumption) b2; clear b2)
            | (go_at_call 77; (with_reducible refine (HBb.out _).mono ?_); rintro e w2 ⟨rfl, b2⟩; have hk2 := three_next (by first | exact h3.drew | assumption) b2; clear b2))
        rename_i w2 hk2
        clear q0 q1 q2 q3 hwp hwa hwb
        go_wp2_with fail
        refine (HS.out _).mono ?_
        rintro e w3 ⟨rfl, b3⟩
        go_wp2
        go_ret2
        exact ⟨ret_s2 0 HR.out rfl, hk2.2.1.trans (b3.mono (Nat.le_of_lt hk2.2.2))⟩
    · rw [if_pos (by simp only [encOK, Bool.and_eq_false_iff, decide_eq_false_iff_not]; omega)] at hr
      have HR := Lib.hid hr.symm
      have H1 := Lib.hid (outside_no v 1 3 hv)
      have H2 := Lib.hid (outside_yes k 1 4 hk)
      clear hr hv hk
      go_enter Tryd.func30, Tryd.ntmps30
      go_wp2_with fail
      refine (H1.out _).mono ?_
      rintro e w1 ⟨rfl, rfl⟩
      go_wp2_with fail
      refine (H2.out _).mono ?_
      rintro e w1 ⟨rfl, rfl⟩
      go_wp2
      go_ret2
      exact ⟨ret_s2 1 HR.out rfl, (Below.refl _ _).alloc (Nat.le_refl _) _⟩
  · rw [if_pos (by simp only [encOK, Bool.and_eq_false_iff, decide_eq_false_iff_not]; omega)] at hr
    have HR := Lib.hid hr.symm
    have H1 := Lib.hid (outside_yes v 1 3 hv)
    clear hr hv
    go_enter Tryd.func30, Tryd.ntmps30
    go_wp2_with fail
    refine (H1.out _).mono ?_
    rintro e w1 ⟨rfl, rfl⟩
    go_wp2
    go_ret2
    exact ⟨ret_s2 1 HR.out rfl, (Below.refl _ _).alloc (Nat.le_refl _) _⟩
end Go.Proofs.YtdbopgmckndmeaaDoor
