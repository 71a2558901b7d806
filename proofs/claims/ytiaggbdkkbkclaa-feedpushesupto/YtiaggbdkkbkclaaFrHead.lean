import Derived.Test.YtiaggbdkkbkclaaFrEnc
import Derived.Deep.QuietTactic
import Derived.BigQuiet
namespace Go.Proofs.Ytiaggbdkkbkclaa
open Go.RowKit

theorem below_draws (B : Nat) (w : World) (n : Nat) : Below B w (w.drewN n) := ⟨rfl, rfl, rfl, Nat.le_refl _, fun _ _ => rfl⟩
def hdAt (k : Nat) (l : List UInt8) : Nat := if k = 0 then headE l else if k = 1 then hd1 l else if k = 2 then hd2 l else if k = 3 then hd3 l else 0
theorem hd_short {s : ByteArray} {k : Nat} (h : ¬ k < s.size) (hk : k < 4) (H : headE s.data.toList = hdAt k (s.data.toList.drop k)) : headE s.data.toList = 3 := by
  rw [H, List.drop_of_length_le (by simpa using h)]
  match k, hk with
  | 0, _ => rfl
  | 1, _ => rfl
  | 2, _ => rfl
  | 3, _ => rfl
theorem hd_0 {s : ByteArray} (h : 0 < s.size) (H : headE s.data.toList = hdAt 0 (s.data.toList.drop 0)) : headE s.data.toList = if s[0].toNat ≠ 66 then 4 else hdAt 1 (s.data.toList.drop 1) := by
  rw [H, drop_at s 0 h]
  have e : (s[0] = 66) ↔ (s[0].toNat = 66) := ⟨fun h => by rw [h]; rfl, fun h => UInt8.toNat_inj.1 h⟩
  show (if s[0] ≠ 66 then 4 else hd1 _) = _
  by_cases h' : s[0] = 66
  · rw [if_neg (by simpa using h'), if_neg (by simpa using e.1 h')]; rfl
  · rw [if_pos h', if_pos (fun h2 => h' (e.2 h2))]
theorem hd_1 {s : ByteArray} (h : 1 < s.size) (H : headE s.data.toList = hdAt 1 (s.data.toList.drop 1)) : headE s.data.toList = if s[1].toNat ≠ 75 then 4 else hdAt 2 (s.data.toList.drop 2) := by
  rw [H, drop_at s 1 h]
  have e : (s[1] = 75) ↔ (s[1].toNat = 75) := ⟨fun h => by rw [h]; rfl, fun h => UInt8.toNat_inj.1 h⟩
  show (if s[1] ≠ 75 then 4 else hd2 _) = _
  by_cases h' : s[1] = 75
  · rw [if_neg (by simpa using h'), if_neg (by simpa using e.1 h')]; rfl
  · rw [if_pos h', if_pos (fun h2 => h' (e.2 h2))]
theorem hd_2 {s : ByteArray} (h : 2 < s.size) (H : headE s.data.toList = hdAt 2 (s.data.toList.drop 2)) : headE s.data.toList = if ¬ (1 ≤ s[2].toNat ∧ s[2].toNat ≤ 3) then 1 else hdAt 3 (s.data.toList.drop 3) := by
  rw [H, drop_at s 2 h]; rfl
theorem hd_3 {s : ByteArray} (h : 3 < s.size) (H : headE s.data.toList = hdAt 3 (s.data.toList.drop 3)) : headE s.data.toList = if ¬ (1 ≤ s[3].toNat ∧ s[3].toNat ≤ 4) then 1 else hdAt 4 (s.data.toList.drop 4) := by
  rw [H, drop_at s 3 h]; rfl
theorem ret_nat {k : IntKind} {a : Int} {n m : Nat} (h : n = m) (ha : a = m) : Ending.returned (.int k a) = .returned (.int k (n : Int)) := by rw [h, ha]

set_option maxRecDepth 100000 in
set_option maxHeartbeats 1000000 in
theorem checkHead_any (s : ByteArray) (hs : s.size ≤ maxLen) (w : World) :
    Calls Try.prog 33 #[.string s] w fun e w' => e = .returned (.int .i64 (headE s.data.toList : Nat)) ∧ Below w.heap.size w w' := by
  unfold maxLen at hs
  obtain ⟨R, hR⟩ : ∃ R, headE s.data.toList = R := ⟨_, rfl⟩
  rw [hR]
  have HR := Lib.hid hR
  clear hR
  have hm0 : ((⟨#[66, 75]⟩ : ByteArray)[0].toNat : Int) = 66 := rfl
  have hm1 : ((⟨#[66, 75]⟩ : ByteArray)[1].toNat : Int) = 75 := rfl
  go_enter Try.func33, Try.ntmps33
  go_wp2
  go_loopw [4] (fun i wr => ∃ k : Nat, k ≤ 4 ∧ k ≤ s.size ∧ i = .int .i64 k ∧ Below w.heap.size w wr ∧ Hid (headE s.data.toList = hdAt k (s.data.toList.drop k))) (fun i _ => 4 - (intOf i).toNat)
  case atStart => exact ⟨0, by omega, by omega, rfl, Below.refl _ _, rfl⟩
  case round =>
    obtain ⟨k, hk, hks, rfl, hbel, H⟩ := hrel
    by_cases hlt : k < 4
    · by_cases hl : k < s.size
      · match k, hlt with
        | 0, _ =>
          have h2 := hd_0 hl H.out
          by_cases hc : (s[0].toNat : Int) = 66
          · have hc' : ((s[0].toNat : Int) != 66) = false := by simp; omega
            rw [if_neg (by omega)] at h2
            have H2 := Lib.hid h2
            clear h2 H hc
            go_wp2_with fail
            go_quiet (fail)
            go_wp2
            go_roundw
            case rel => exact ⟨1, by omega, by omega, by go_num, hbel.trans (below_draws _ _ _), H2⟩
            case measure => simp [intOf]
          · have hc' : ((s[0].toNat : Int) != 66) = true := by simp; omega
            rw [if_pos (by omega)] at h2
            have H2 := Lib.hid h2
            clear h2 H hc
            go_wp2_with fail
            go_quiet (fail)
            go_wp2
            go_ret
            exact ⟨ret_nat (HR.out.symm.trans H2.out) rfl, hbel.trans (below_draws _ _ _)⟩
        | 1, _ =>
          have h2 := hd_1 hl H.out
          have hli : (1 : Int) < (s.size : Int) := by omega
          by_cases hc : (s[1].toNat : Int) = 75
          · have hc' : ((s[1].toNat : Int) != 75) = false := by simp; omega
            rw [if_neg (by omega)] at h2
            have H2 := Lib.hid h2
            clear h2 H hc
            go_wp2_with fail
            go_quiet (fail)
            go_wp2
            go_roundw
            case rel => exact ⟨2, by omega, by omega, by go_num, hbel.trans (below_draws _ _ _), H2⟩
            case measure => simp [intOf]
          · have hc' : ((s[1].toNat : Int) != 75) = true := by simp; omega
            rw [if_pos (by omega)] at h2
            have H2 := Lib.hid h2
            clear h2 H hc
            go_wp2_with fail
            go_quiet (fail)
            go_wp2
            go_ret
            exact ⟨ret_nat (HR.out.symm.trans H2.out) rfl, hbel.trans (below_draws _ _ _)⟩
        | 2, _ =>
          have h2 := hd_2 hl H.out
          have hc0 : (s[2].toNat : Int) < 256 := by have := s[2].toNat_lt; omega
          by_cases hc : 1 ≤ (s[2].toNat : Int) ∧ (s[2].toNat : Int) ≤ 3
          · have HV := Lib.hid (isVersion_yes _ hc)
            rw [if_neg (by omega)] at h2
            have H2 := Lib.hid h2
            clear h2 H hc
            go_wp2_with fail
            go_quiet (fail)
            go_wp2_with fail
            refine (HV.out _).mono ?_
            rintro e w1 ⟨rfl, rfl⟩
            go_wp2
            go_roundw
            case rel => exact ⟨3, by omega, by omega, by go_num, hbel.trans (below_draws _ _ _), H2⟩
            case measure => simp [intOf]
          · have HV := Lib.hid (isVersion_no _ hc)
            rw [if_pos (by omega)] at h2
            have H2 := Lib.hid h2
            clear h2 H hc
            go_wp2_with fail
            go_quiet (fail)
            go_wp2_with fail
            refine (HV.out _).mono ?_
            rintro e w1 ⟨rfl, rfl⟩
            go_wp2
            go_ret
            exact ⟨ret_nat (HR.out.symm.trans H2.out) rfl, hbel.trans (below_draws _ _ _)⟩
        | 3, _ =>
          have h2 := hd_3 hl H.out
          have hc0 : (s[3].toNat : Int) < 256 := by have := s[3].toNat_lt; omega
          by_cases hc : 1 ≤ (s[3].toNat : Int) ∧ (s[3].toNat : Int) ≤ 4
          · have HV := Lib.hid (isKind_yes _ hc)
            rw [if_neg (by omega)] at h2
            have H2 := Lib.hid h2
            clear h2 H hc
            go_wp2_with fail
            go_quiet (fail)
            go_wp2_with fail
            refine (HV.out _).mono ?_
            rintro e w1 ⟨rfl, rfl⟩
            go_wp2
            go_roundw
            case rel => exact ⟨4, by omega, by omega, by go_num, hbel.trans (below_draws _ _ _), H2⟩
            case measure => simp [intOf]
          · have HV := Lib.hid (isKind_no _ hc)
            rw [if_pos (by omega)] at h2
            have H2 := Lib.hid h2
            clear h2 H hc
            go_wp2_with fail
            go_quiet (fail)
            go_wp2_with fail
            refine (HV.out _).mono ?_
            rintro e w1 ⟨rfl, rfl⟩
            go_wp2
            go_ret
            exact ⟨ret_nat (HR.out.symm.trans H2.out) rfl, hbel.trans (below_draws _ _ _)⟩
      · have H2 := Lib.hid (HR.out.symm.trans (hd_short hl hlt H.out))
        have he : ((k : Int) == (s.size : Int)) = true := by simp; omega
        clear H
        go_wp2
        go_ret
        exact ⟨ret_nat H2.out rfl, hbel⟩
    · obtain rfl : k = 4 := by omega
      have H2 : Hid (R = 0) := HR.out.symm.trans H.out
      clear H
      go_wp2
      go_ret
      exact ⟨ret_nat H2.out rfl, hbel⟩
end Go.Proofs.Ytiaggbdkkbkclaa
