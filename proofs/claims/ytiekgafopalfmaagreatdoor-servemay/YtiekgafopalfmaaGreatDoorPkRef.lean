import Derived.Test.YtiekgafopalfmaaGreatDoorPkNum
import Derived.Lib.ValidLaws
import Derived.Test.YtiekgafopalfmaaGreatDoorRows
import Derived.WalkKit
import Derived.WalkSpells
import Derived.ProofKit
import Derived.Below
import Derived.Lib.Hide
namespace Go.Proofs.YtiekgafopalfmaaGreatDoor
open Go.RowKit

theorem ref_last {c k m : Nat} (hm : m < 128 ^ k) (hk : k ≤ 9) (h9 : k = 9 → c % 128 ≤ 1) : m + c % 128 * 128 ^ k < 18446744073709551616 := by
  by_cases h8 : k = 9
  · subst h8
    have := h9 rfl
    have e : (128 : Nat) ^ 9 = 9223372036854775808 := by decide
    rw [e] at *
    have : c % 128 * 9223372036854775808 ≤ 1 * 9223372036854775808 := Nat.mul_le_mul_right _ this
    omega
  · have : (128 : Nat) ^ k ≤ 128 ^ 8 := Nat.pow_le_pow_right (by omega) (by omega)
    have : c % 128 * 128 ^ k ≤ 127 * 128 ^ k := Nat.mul_le_mul_right _ (by omega)
    omega
theorem ref_add (m c U k : Nat) (hU : U = 128 ^ k) (hm : m < 128 ^ k) (hk : k ≤ 9) (h9 : k = 9 → c % 128 ≤ 1) : IntKind.u64.wrap ((m : Int) + IntKind.u64.wrap ((c : Int) % 128 * (U : Int))) = ((m + c % 128 * 128 ^ k : Nat) : Int) := by
  have h := ref_last (c := c) hm hk h9
  have e : (c : Int) % 128 * (U : Int) = ((c % 128 * 128 ^ k : Nat) : Int) := by rw [hU]; simp
  rw [e, IntKind.wrap_u64, IntKind.wrap_u64]; omega
theorem ref_zero (m c : Nat) (hm : m < 128 ^ 0) (hc : c % 128 = 0) : IntKind.u64.wrap (m : Int) = ((m + c % 128 * 128 ^ 0 : Nat) : Int) := by
  rw [IntKind.wrap_u64, hc]; omega
theorem ref_unit (U k : Nat) (hU : U = 128 ^ k) (hk : k < 9) : IntKind.u64.wrap ((U : Int) * 128) = ((128 ^ (k + 1) : Nat) : Int) := by
  have : (128 : Nat) ^ (k + 1) ≤ 128 ^ 9 := Nat.pow_le_pow_right (by omega) (by omega)
  have e : (128 : Nat) ^ (k + 1) = U * 128 := by rw [hU, Nat.pow_succ]
  rw [IntKind.wrap_u64]; omega
end Go.Proofs.YtiekgafopalfmaaGreatDoor

namespace Go.Proofs.YtiekgafopalfmaaGreatDoor
open Go.RowKit

end Go.Proofs.YtiekgafopalfmaaGreatDoor

/- Plain facts on valid UTF-8 (no program): the library's word for it, step by step, as the reference takes the steps. -/
namespace Go.Proofs.YtiekgafopalfmaaGreatDoor
open Go.Lib

def at' (l : List UInt8) (k : Nat) : Nat := (l.getD k 0).toNat
theorem at_drop (l : List UInt8) (k j : Nat) : ((l.drop k).getD j 0).toNat = at' l (k + j) := by simp [at']
/-- A lead byte c of a rune of M + 1 bytes, the second of which lies from lo to hi. -/
def Lead (c M lo hi : Nat) : Prop := 128 ≤ c ∧ firstT c % 8 = M + 1 ∧ accLo (firstT c / 16) = lo ∧ accHi (firstT c / 16) = hi
/-- The j-th byte behind the lead byte at k is as it must be. -/
def Good (l : List UInt8) (k lo hi j : Nat) : Prop := (if j = 1 then lo else 128) ≤ at' l (k + j) ∧ at' l (k + j) ≤ (if j = 1 then hi else 191)
theorem valid_ascii (l : List UInt8) (k : Nat) (h : k < l.length) (hc : at' l k < 128) : validD (l.drop k) = validD (l.drop (k + 1)) := by
  rw [List.drop_eq_getElem_cons h]
  refine validD_cons _ _ ?_
  simpa [at', h] using hc
theorem drop_ne (l : List UInt8) (k : Nat) (h : k < l.length) : l.drop k ≠ [] := by
  intro e; have := congrArg List.length e; simp at this; omega
theorem lead_eq (l : List UInt8) (k : Nat) (h : k < l.length) (hc : 128 ≤ at' l k) :
    validD (l.drop k) = match checkN (l.length - k) (at' l (k + 1)) (at' l (k + 2)) (at' l (k + 3)) (firstT (at' l k) % 8) (accLo (firstT (at' l k) / 16)) (accHi (firstT (at' l k) / 16)) with
      | none => false
      | some m => validD (l.drop (k + m)) := by
  have := validD_lead (l.drop k) (drop_ne l k h) (by rw [at_drop]; exact hc)
  rw [at_drop, at_drop, at_drop, at_drop, List.length_drop] at this
  simp only [List.drop_drop] at this
  exact this
theorem valid_multi (l : List UInt8) (k M lo hi : Nat) (hM : M = 1 ∨ M = 2 ∨ M = 3) (h : k + M < l.length) (hL : Lead (at' l k) M lo hi) (hg : ∀ j, 1 ≤ j → j ≤ M → Good l k lo hi j) :
    validD (l.drop k) = validD (l.drop (k + (M + 1))) := by
  obtain ⟨hc, h8, hlo, hhi⟩ := hL
  rw [lead_eq l k (by omega) hc, h8, hlo, hhi]
  have g1 := hg 1 (by omega) (by omega)
  simp [Good] at g1
  rcases hM with rfl | rfl | rfl
  · unfold checkN; rw [if_pos (by omega), if_neg (by omega)]
  · have g2 := hg 2 (by omega) (by omega)
    simp [Good] at g2
    unfold checkN; rw [if_neg (by omega), if_pos (by omega), if_neg (by omega)]
  · have g2 := hg 2 (by omega) (by omega)
    have g3 := hg 3 (by omega) (by omega)
    simp [Good] at g2 g3
    unfold checkN; rw [if_neg (by omega), if_neg (by omega), if_pos (by omega), if_neg (by omega)]
theorem valid_bad (l : List UInt8) (k M lo hi : Nat) (hM : M = 1 ∨ M = 2 ∨ M = 3) (h : k < l.length) (hL : Lead (at' l k) M lo hi) (hb : ¬ k + M < l.length ∨ ∃ j, 1 ≤ j ∧ j ≤ M ∧ ¬ Good l k lo hi j) :
    validD (l.drop k) = false := by
  obtain ⟨hc, h8, hlo, hhi⟩ := hL
  rw [lead_eq l k h hc, h8, hlo, hhi]
  have key : l.length - k < M + 1 ∨ at' l (k + 1) < lo ∨ hi < at' l (k + 1) ∨ (2 ≤ M ∧ (at' l (k + 2) < 128 ∨ 191 < at' l (k + 2))) ∨ (3 ≤ M ∧ (at' l (k + 3) < 128 ∨ 191 < at' l (k + 3))) := by
    rcases hb with hb | ⟨j, j1, jM, hj⟩
    · omega
    · rcases (show j = 1 ∨ j = 2 ∨ j = 3 by omega) with rfl | rfl | rfl <;> simp [Good] at hj <;> omega
  rcases hM with rfl | rfl | rfl
  · unfold checkN; rw [if_pos (by omega), if_pos (by omega)]
  · unfold checkN; rw [if_neg (by omega), if_pos (by omega), if_pos (by omega)]
  · unfold checkN; rw [if_neg (by omega), if_neg (by omega), if_pos (by omega), if_pos (by omega)]
theorem valid_none (l : List UInt8) (k : Nat) (h : k < l.length) (hc : (128 ≤ at' l k ∧ at' l k < 194) ∨ 245 ≤ at' l k) : validD (l.drop k) = false := by
  have hlt : at' l k < 256 := (l.getD k 0).toNat_lt
  rw [lead_eq l k h (by omega)]
  have e : firstT (at' l k) % 8 ≠ 2 ∧ firstT (at' l k) % 8 ≠ 3 ∧ firstT (at' l k) % 8 ≠ 4 := by
    generalize at' l k = c at *
    have : ∀ c, c < 256 → ((128 ≤ c ∧ c < 194) ∨ 245 ≤ c) → firstT c % 8 ≠ 2 ∧ firstT c % 8 ≠ 3 ∧ firstT c % 8 ≠ 4 := by decide +kernel
    exact this c hlt hc
  simp only [checkN]
  rw [if_neg e.1, if_neg e.2.1, if_neg e.2.2]
theorem lead_C2 : ∀ c, c < 256 → 194 ≤ c → c ≤ 223 → Lead c 1 128 191 := by unfold Lead; decide +kernel
theorem lead_E0 : Lead 224 2 160 191 := by unfold Lead; decide +kernel
theorem lead_E1 : ∀ c, c < 256 → 225 ≤ c → c ≤ 236 → Lead c 2 128 191 := by unfold Lead; decide +kernel
theorem lead_ED : Lead 237 2 128 159 := by unfold Lead; decide +kernel
theorem lead_EE : ∀ c, c < 256 → 238 ≤ c → c ≤ 239 → Lead c 2 128 191 := by unfold Lead; decide +kernel
theorem lead_F0 : Lead 240 3 144 191 := by unfold Lead; decide +kernel
theorem lead_F1 : ∀ c, c < 256 → 241 ≤ c → c ≤ 243 → Lead c 3 128 191 := by unfold Lead; decide +kernel
theorem lead_F4 : Lead 244 3 128 143 := by unfold Lead; decide +kernel
end Go.Proofs.YtiekgafopalfmaaGreatDoor

namespace Go.Proofs.YtiekgafopalfmaaGreatDoor
open Go.RowKit Go.Lib

theorem at_byte (s : ByteArray) (k : Nat) (h : k < s.size) : at' s.data.toList k = s[k].toNat := by
  have h' : k < s.data.toList.length := by simpa using h
  unfold at'
  rw [List.getD_eq_getElem?_getD, List.getElem?_eq_getElem h']; rfl

/-- What the reference's loop over a rune's further bytes does, at a lead byte at k of M further bytes, the first of which lies from lo to hi. -/
def Tail (s : ByteArray) (k M lo hi : Nat) : Prop := k < s.size ∧ (M = 0 ∧ at' s.data.toList k < 128 ∨ (M = 1 ∨ M = 2 ∨ M = 3) ∧ Lead (at' s.data.toList k) M lo hi)
theorem tail_short {s : ByteArray} {k M lo hi : Nat} (h : Tail s k M lo hi) (hb : ¬ k + M < s.size) : validD (s.data.toList.drop k) = false := by
  obtain ⟨h0, ⟨rfl, _⟩ | ⟨hM, hL⟩⟩ := h
  · omega
  · exact valid_bad _ k M lo hi hM (by simpa using h0) hL (.inl (by simpa using hb))
theorem tail_bad {s : ByteArray} {k M lo hi j : Nat} (h : Tail s k M lo hi) (h1 : 1 ≤ j) (h2 : j ≤ M) (hb : ¬ Good s.data.toList k lo hi j) : validD (s.data.toList.drop k) = false := by
  obtain ⟨h0, ⟨rfl, _⟩ | ⟨hM, hL⟩⟩ := h
  · omega
  · exact valid_bad _ k M lo hi hM (by simpa using h0) hL (.inr ⟨j, h1, h2, hb⟩)
theorem tail_good {s : ByteArray} {k M lo hi : Nat} (h : Tail s k M lo hi) (hl : k + M < s.size) (hg : ∀ j, 1 ≤ j → j ≤ M → Good s.data.toList k lo hi j) : validD (s.data.toList.drop k) = validD (s.data.toList.drop (k + (M + 1))) := by
  obtain ⟨h0, ⟨rfl, hc⟩ | ⟨hM, hL⟩⟩ := h
  · exact valid_ascii _ k (by simpa using h0) hc
  · exact valid_multi _ k M lo hi hM (by simpa using hl) hL hg

set_option maxRecDepth 100000 in
set_option maxHeartbeats 4000000 in
theorem isUTF8_is (s : ByteArray) (hs : s.size ≤ 140737488355328) (w : World) :
    Calls Tryz.prog 94 #[.string s] w fun e w' => e = .returned (.bool (validD s.data.toList)) ∧ w = w' := by
  obtain ⟨V, hV⟩ : ∃ V, validD s.data.toList = V := ⟨_, rfl⟩
  rw [hV]
  have HV := Lib.hid hV
  clear hV
  go_enter Tryz.func94, Tryz.ntmps94
  go_wp2
  go_loop [3] (fun i => ∃ k : Nat, k ≤ s.size ∧ i = .int .i64 k ∧ Hid (validD (s.data.toList.drop k) = V)) (fun i => s.size - (intOf i).toNat)
  case atStart => exact ⟨0, by omega, rfl, HV.out⟩
  case round =>
    clear HV
    obtain ⟨k, hk, rfl, H⟩ := hrel
    by_cases hlt : k < s.size
    · have hc0 : (s[k].toNat : Int) < 256 := by have := s[k].toNat_lt; omega
      have HA := Lib.hid (at_byte s k hlt)
      rcases (show s[k].toNat < 128 ∨ (128 ≤ s[k].toNat ∧ s[k].toNat < 194) ∨ (194 ≤ s[k].toNat ∧ s[k].toNat ≤ 223) ∨ s[k].toNat = 224 ∨ (225 ≤ s[k].toNat ∧ s[k].toNat ≤ 236) ∨ s[k].toNat = 237 ∨ (238 ≤ s[k].toNat ∧ s[k].toNat ≤ 239) ∨ s[k].toNat = 240 ∨ (241 ≤ s[k].toNat ∧ s[k].toNat ≤ 243) ∨ s[k].toNat = 244 ∨ 245 ≤ s[k].toNat by omega) with h | h | h | h | h | h | h | h | h | h | h
      · have HX := Lib.hid ((valid_ascii _ k (by simpa using hlt) (by rw [HA.out]; exact h)).symm.trans H.out)
        clear HA
        go_wp2_with fail
        go_loop [6, 7, 8] (fun a b i => i = .int .i64 1) (fun _ _ _ => 0)
        case atStart => rfl
        case round =>
          subst hrel
          go_wp2
          go_round
          case rel => exact ⟨k + 1, by omega, by go_num, HX.out⟩
          case measure => simp [intOf]; omega
      · have HX : Hid (false = V) := (valid_none _ k (by simpa using hlt) (by rw [HA.out]; omega)).symm.trans H.out
        clear HA
        go_wp2
        go_ret
        exact ⟨by rw [← HX.out]; rfl, rfl⟩
      · have HT : Hid (Tail s k 1 128 191) := ⟨hlt, .inr ⟨by omega, by rw [HA.out]; exact lead_C2 _ s[k].toNat_lt h.1 h.2⟩⟩
        have c1 : 194 ≤ s[k].toNat := by omega
        have c2 : s[k].toNat ≤ 223 := by omega
        have e224 : ((s[k].toNat : Int) == 224) = false := beq_eq_false_iff_ne.2 (by omega)
        have e237 : ((s[k].toNat : Int) == 237) = false := beq_eq_false_iff_ne.2 (by omega)
        have e240 : ((s[k].toNat : Int) == 240) = false := beq_eq_false_iff_ne.2 (by omega)
        have e244 : ((s[k].toNat : Int) == 244) = false := beq_eq_false_iff_ne.2 (by omega)
        clear h
        clear HA
        by_cases hl : k + 1 < s.size
        · go_wp2_with fail
          go_loop [6, 7, 8] (fun a b i => ∃ j lo' hi' : Nat, 1 ≤ j ∧ j ≤ 2 ∧ a = .int .i64 lo' ∧ b = .int .i64 hi' ∧ i = .int .i64 j ∧ Hid (lo' = (if j = 1 then 128 else 128) ∧ hi' = (if j = 1 then 191 else 191) ∧ ∀ t, 1 ≤ t → t < j → Good s.data.toList k 128 191 t)) (fun _ _ i => 5 - (intOf i).toNat)
          case atStart => exact ⟨1, 128, 191, by omega, by omega, rfl, rfl, rfl, rfl, rfl, fun t h1 h2 => by omega⟩
          case round =>
            obtain ⟨j, lo', hi', h1, h2, rfl, rfl, rfl, HJ⟩ := hrel
            by_cases hj : j ≤ 1
            · have hkj : k + j < s.size := by omega
              have hcj : (s[k + j].toNat : Int) < 256 := by have := s[k + j].toNat_lt; omega
              have HB := Lib.hid (at_byte s (k + j) hkj)
              by_cases r1 : (s[k + j].toNat : Int) < (lo' : Int)
              · have hbad := tail_bad HT.out h1 hj (fun hg => by
                  have g := hg.1; rw [HB.out, ← HJ.out.1] at g; omega)
                have HX := Lib.hid (hbad.symm.trans H.out)
                clear hbad
                go_wp2
                go_ret
                exact ⟨by rw [← HX.out]; rfl, rfl⟩
              · by_cases r2 : (hi' : Int) < (s[k + j].toNat : Int)
                · have hbad := tail_bad HT.out h1 hj (fun hg => by
                    have g := hg.2; rw [HB.out, ← HJ.out.2.1] at g; omega)
                  have HX := Lib.hid (hbad.symm.trans H.out)
                  clear hbad
                  go_wp2
                  go_ret
                  exact ⟨by rw [← HX.out]; rfl, rfl⟩
                · have HG : Hid (∀ t, 1 ≤ t → t < j + 1 → Good s.data.toList k 128 191 t) := fun t t1 t2 => by
                    by_cases ht : t < j
                    · exact HJ.out.2.2 t t1 ht
                    · obtain rfl : t = j := by omega
                      refine ⟨?_, ?_⟩
                      · rw [HB.out, ← HJ.out.1]; omega
                      · rw [HB.out, ← HJ.out.2.1]; omega
                  clear HJ
                  go_wp2
                  go_round
                  case rel => exact ⟨j + 1, 128, 191, by omega, by omega, rfl, rfl, by go_num, by rw [if_neg (by omega)], by rw [if_neg (by omega)], HG.out⟩
                  case measure => simp [intOf]; omega
            · have HX := Lib.hid ((tail_good HT.out hl (fun t t1 t2 => HJ.out.2.2 t t1 (by omega))).symm.trans H.out)
              clear HJ
              go_wp2
              go_round
              case rel => exact ⟨k + (1 + 1), by omega, by go_num, HX.out⟩
              case measure => simp [intOf]; omega
        · have HX := Lib.hid ((tail_short HT.out hl).symm.trans H.out)
          go_wp2
          go_ret
          exact ⟨by rw [← HX.out]; rfl, rfl⟩
      · have HT : Hid (Tail s k 2 160 191) := ⟨hlt, .inr ⟨by omega, by rw [HA.out, h]; exact lead_E0⟩⟩
        have c1 : 224 ≤ s[k].toNat := by omega
        have c2 : s[k].toNat ≤ 224 := by omega
        have e224 : ((s[k].toNat : Int) == 224) = true := beq_iff_eq.2 (by omega)
        have e237 : ((s[k].toNat : Int) == 237) = false := beq_eq_false_iff_ne.2 (by omega)
        have e240 : ((s[k].toNat : Int) == 240) = false := beq_eq_false_iff_ne.2 (by omega)
        have e244 : ((s[k].toNat : Int) == 244) = false := beq_eq_false_iff_ne.2 (by omega)
        clear h
        clear HA
        by_cases hl : k + 2 < s.size
        · go_wp2_with fail
          go_loop [6, 7, 8] (fun a b i => ∃ j lo' hi' : Nat, 1 ≤ j ∧ j ≤ 3 ∧ a = .int .i64 lo' ∧ b = .int .i64 hi' ∧ i = .int .i64 j ∧ Hid (lo' = (if j = 1 then 160 else 128) ∧ hi' = (if j = 1 then 191 else 191) ∧ ∀ t, 1 ≤ t → t < j → Good s.data.toList k 160 191 t)) (fun _ _ i => 5 - (intOf i).toNat)
          case atStart => exact ⟨1, 160, 191, by omega, by omega, rfl, rfl, rfl, rfl, rfl, fun t h1 h2 => by omega⟩
          case round =>
            obtain ⟨j, lo', hi', h1, h2, rfl, rfl, rfl, HJ⟩ := hrel
            by_cases hj : j ≤ 2
            · have hkj : k + j < s.size := by omega
              have hcj : (s[k + j].toNat : Int) < 256 := by have := s[k + j].toNat_lt; omega
              have HB := Lib.hid (at_byte s (k + j) hkj)
              by_cases r1 : (s[k + j].toNat : Int) < (lo' : Int)
              · have hbad := tail_bad HT.out h1 hj (fun hg => by
                  have g := hg.1; rw [HB.out, ← HJ.out.1] at g; omega)
                have HX := Lib.hid (hbad.symm.trans H.out)
                clear hbad
                go_wp2
                go_ret
                exact ⟨by rw [← HX.out]; rfl, rfl⟩
              · by_cases r2 : (hi' : Int) < (s[k + j].toNat : Int)
                · have hbad := tail_bad HT.out h1 hj (fun hg => by
                    have g := hg.2; rw [HB.out, ← HJ.out.2.1] at g; omega)
                  have HX := Lib.hid (hbad.symm.trans H.out)
                  clear hbad
                  go_wp2
                  go_ret
                  exact ⟨by rw [← HX.out]; rfl, rfl⟩
                · have HG : Hid (∀ t, 1 ≤ t → t < j + 1 → Good s.data.toList k 160 191 t) := fun t t1 t2 => by
                    by_cases ht : t < j
                    · exact HJ.out.2.2 t t1 ht
                    · obtain rfl : t = j := by omega
                      refine ⟨?_, ?_⟩
                      · rw [HB.out, ← HJ.out.1]; omega
                      · rw [HB.out, ← HJ.out.2.1]; omega
                  clear HJ
                  go_wp2
                  go_round
                  case rel => exact ⟨j + 1, 128, 191, by omega, by omega, rfl, rfl, by go_num, by rw [if_neg (by omega)], by rw [if_neg (by omega)], HG.out⟩
                  case measure => simp [intOf]; omega
            · have HX := Lib.hid ((tail_good HT.out hl (fun t t1 t2 => HJ.out.2.2 t t1 (by omega))).symm.trans H.out)
              clear HJ
              go_wp2
              go_round
              case rel => exact ⟨k + (2 + 1), by omega, by go_num, HX.out⟩
              case measure => simp [intOf]; omega
        · have HX := Lib.hid ((tail_short HT.out hl).symm.trans H.out)
          go_wp2
          go_ret
          exact ⟨by rw [← HX.out]; rfl, rfl⟩
      · have HT : Hid (Tail s k 2 128 191) := ⟨hlt, .inr ⟨by omega, by rw [HA.out]; exact lead_E1 _ s[k].toNat_lt h.1 h.2⟩⟩
        have c1 : 225 ≤ s[k].toNat := by omega
        have c2 : s[k].toNat ≤ 236 := by omega
        have e224 : ((s[k].toNat : Int) == 224) = false := beq_eq_false_iff_ne.2 (by omega)
        have e237 : ((s[k].toNat : Int) == 237) = false := beq_eq_false_iff_ne.2 (by omega)
        have e240 : ((s[k].toNat : Int) == 240) = false := beq_eq_false_iff_ne.2 (by omega)
        have e244 : ((s[k].toNat : Int) == 244) = false := beq_eq_false_iff_ne.2 (by omega)
        clear h
        clear HA
        by_cases hl : k + 2 < s.size
        · go_wp2_with fail
          go_loop [6, 7, 8] (fun a b i => ∃ j lo' hi' : Nat, 1 ≤ j ∧ j ≤ 3 ∧ a = .int .i64 lo' ∧ b = .int .i64 hi' ∧ i = .int .i64 j ∧ Hid (lo' = (if j = 1 then 128 else 128) ∧ hi' = (if j = 1 then 191 else 191) ∧ ∀ t, 1 ≤ t → t < j → Good s.data.toList k 128 191 t)) (fun _ _ i => 5 - (intOf i).toNat)
          case atStart => exact ⟨1, 128, 191, by omega, by omega, rfl, rfl, rfl, rfl, rfl, fun t h1 h2 => by omega⟩
          case round =>
            obtain ⟨j, lo', hi', h1, h2, rfl, rfl, rfl, HJ⟩ := hrel
            by_cases hj : j ≤ 2
            · have hkj : k + j < s.size := by omega
              have hcj : (s[k + j].toNat : Int) < 256 := by have := s[k + j].toNat_lt; omega
              have HB := Lib.hid (at_byte s (k + j) hkj)
              by_cases r1 : (s[k + j].toNat : Int) < (lo' : Int)
              · have hbad := tail_bad HT.out h1 hj (fun hg => by
                  have g := hg.1; rw [HB.out, ← HJ.out.1] at g; omega)
                have HX := Lib.hid (hbad.symm.trans H.out)
                clear hbad
                go_wp2
                go_ret
                exact ⟨by rw [← HX.out]; rfl, rfl⟩
              · by_cases r2 : (hi' : Int) < (s[k + j].toNat : Int)
                · have hbad := tail_bad HT.out h1 hj (fun hg => by
                    have g := hg.2; rw [HB.out, ← HJ.out.2.1] at g; omega)
                  have HX := Lib.hid (hbad.symm.trans H.out)
                  clear hbad
                  go_wp2
                  go_ret
                  exact ⟨by rw [← HX.out]; rfl, rfl⟩
                · have HG : Hid (∀ t, 1 ≤ t → t < j + 1 → Good s.data.toList k 128 191 t) := fun t t1 t2 => by
                    by_cases ht : t < j
                    · exact HJ.out.2.2 t t1 ht
                    · obtain rfl : t = j := by omega
                      refine ⟨?_, ?_⟩
                      · rw [HB.out, ← HJ.out.1]; omega
                      · rw [HB.out, ← HJ.out.2.1]; omega
                  clear HJ
                  go_wp2
                  go_round
                  case rel => exact ⟨j + 1, 128, 191, by omega, by omega, rfl, rfl, by go_num, by rw [if_neg (by omega)], by rw [if_neg (by omega)], HG.out⟩
                  case measure => simp [intOf]; omega
            · have HX := Lib.hid ((tail_good HT.out hl (fun t t1 t2 => HJ.out.2.2 t t1 (by omega))).symm.trans H.out)
              clear HJ
              go_wp2
              go_round
              case rel => exact ⟨k + (2 + 1), by omega, by go_num, HX.out⟩
              case measure => simp [intOf]; omega
        · have HX := Lib.hid ((tail_short HT.out hl).symm.trans H.out)
          go_wp2
          go_ret
          exact ⟨by rw [← HX.out]; rfl, rfl⟩
      · have HT : Hid (Tail s k 2 128 159) := ⟨hlt, .inr ⟨by omega, by rw [HA.out, h]; exact lead_ED⟩⟩
        have c1 : 237 ≤ s[k].toNat := by omega
        have c2 : s[k].toNat ≤ 237 := by omega
        have e224 : ((s[k].toNat : Int) == 224) = false := beq_eq_false_iff_ne.2 (by omega)
        have e237 : ((s[k].toNat : Int) == 237) = true := beq_iff_eq.2 (by omega)
        have e240 : ((s[k].toNat : Int) == 240) = false := beq_eq_false_iff_ne.2 (by omega)
        have e244 : ((s[k].toNat : Int) == 244) = false := beq_eq_false_iff_ne.2 (by omega)
        clear h
        clear HA
        by_cases hl : k + 2 < s.size
        · go_wp2_with fail
          go_loop [6, 7, 8] (fun a b i => ∃ j lo' hi' : Nat, 1 ≤ j ∧ j ≤ 3 ∧ a = .int .i64 lo' ∧ b = .int .i64 hi' ∧ i = .int .i64 j ∧ Hid (lo' = (if j = 1 then 128 else 128) ∧ hi' = (if j = 1 then 159 else 191) ∧ ∀ t, 1 ≤ t → t < j → Good s.data.toList k 128 159 t)) (fun _ _ i => 5 - (intOf i).toNat)
          case atStart => exact ⟨1, 128, 159, by omega, by omega, rfl, rfl, rfl, rfl, rfl, fun t h1 h2 => by omega⟩
          case round =>
            obtain ⟨j, lo', hi', h1, h2, rfl, rfl, rfl, HJ⟩ := hrel
            by_cases hj : j ≤ 2
            · have hkj : k + j < s.size := by omega
              have hcj : (s[k + j].toNat : Int) < 256 := by have := s[k + j].toNat_lt; omega
              have HB := Lib.hid (at_byte s (k + j) hkj)
              by_cases r1 : (s[k + j].toNat : Int) < (lo' : Int)
              · have hbad := tail_bad HT.out h1 hj (fun hg => by
                  have g := hg.1; rw [HB.out, ← HJ.out.1] at g; omega)
                have HX := Lib.hid (hbad.symm.trans H.out)
                clear hbad
                go_wp2
                go_ret
                exact ⟨by rw [← HX.out]; rfl, rfl⟩
              · by_cases r2 : (hi' : Int) < (s[k + j].toNat : Int)
                · have hbad := tail_bad HT.out h1 hj (fun hg => by
                    have g := hg.2; rw [HB.out, ← HJ.out.2.1] at g; omega)
                  have HX := Lib.hid (hbad.symm.trans H.out)
                  clear hbad
                  go_wp2
                  go_ret
                  exact ⟨by rw [← HX.out]; rfl, rfl⟩
                · have HG : Hid (∀ t, 1 ≤ t → t < j + 1 → Good s.data.toList k 128 159 t) := fun t t1 t2 => by
                    by_cases ht : t < j
                    · exact HJ.out.2.2 t t1 ht
                    · obtain rfl : t = j := by omega
                      refine ⟨?_, ?_⟩
                      · rw [HB.out, ← HJ.out.1]; omega
                      · rw [HB.out, ← HJ.out.2.1]; omega
                  clear HJ
                  go_wp2
                  go_round
                  case rel => exact ⟨j + 1, 128, 191, by omega, by omega, rfl, rfl, by go_num, by rw [if_neg (by omega)], by rw [if_neg (by omega)], HG.out⟩
                  case measure => simp [intOf]; omega
            · have HX := Lib.hid ((tail_good HT.out hl (fun t t1 t2 => HJ.out.2.2 t t1 (by omega))).symm.trans H.out)
              clear HJ
              go_wp2
              go_round
              case rel => exact ⟨k + (2 + 1), by omega, by go_num, HX.out⟩
              case measure => simp [intOf]; omega
        · have HX := Lib.hid ((tail_short HT.out hl).symm.trans H.out)
          go_wp2
          go_ret
          exact ⟨by rw [← HX.out]; rfl, rfl⟩
      · have HT : Hid (Tail s k 2 128 191) := ⟨hlt, .inr ⟨by omega, by rw [HA.out]; exact lead_EE _ s[k].toNat_lt h.1 h.2⟩⟩
        have c1 : 238 ≤ s[k].toNat := by omega
        have c2 : s[k].toNat ≤ 239 := by omega
        have e224 : ((s[k].toNat : Int) == 224) = false := beq_eq_false_iff_ne.2 (by omega)
        have e237 : ((s[k].toNat : Int) == 237) = false := beq_eq_false_iff_ne.2 (by omega)
        have e240 : ((s[k].toNat : Int) == 240) = false := beq_eq_false_iff_ne.2 (by omega)
        have e244 : ((s[k].toNat : Int) == 244) = false := beq_eq_false_iff_ne.2 (by omega)
        clear h
        clear HA
        by_cases hl : k + 2 < s.size
        · go_wp2_with fail
          go_loop [6, 7, 8] (fun a b i => ∃ j lo' hi' : Nat, 1 ≤ j ∧ j ≤ 3 ∧ a = .int .i64 lo' ∧ b = .int .i64 hi' ∧ i = .int .i64 j ∧ Hid (lo' = (if j = 1 then 128 else 128) ∧ hi' = (if j = 1 then 191 else 191) ∧ ∀ t, 1 ≤ t → t < j → Good s.data.toList k 128 191 t)) (fun _ _ i => 5 - (intOf i).toNat)
          case atStart => exact ⟨1, 128, 191, by omega, by omega, rfl, rfl, rfl, rfl, rfl, fun t h1 h2 => by omega⟩
          case round =>
            obtain ⟨j, lo', hi', h1, h2, rfl, rfl, rfl, HJ⟩ := hrel
            by_cases hj : j ≤ 2
            · have hkj : k + j < s.size := by omega
              have hcj : (s[k + j].toNat : Int) < 256 := by have := s[k + j].toNat_lt; omega
              have HB := Lib.hid (at_byte s (k + j) hkj)
              by_cases r1 : (s[k + j].toNat : Int) < (lo' : Int)
              · have hbad := tail_bad HT.out h1 hj (fun hg => by
                  have g := hg.1; rw [HB.out, ← HJ.out.1] at g; omega)
                have HX := Lib.hid (hbad.symm.trans H.out)
                clear hbad
                go_wp2
                go_ret
                exact ⟨by rw [← HX.out]; rfl, rfl⟩
              · by_cases r2 : (hi' : Int) < (s[k + j].toNat : Int)
                · have hbad := tail_bad HT.out h1 hj (fun hg => by
                    have g := hg.2; rw [HB.out, ← HJ.out.2.1] at g; omega)
                  have HX := Lib.hid (hbad.symm.trans H.out)
                  clear hbad
                  go_wp2
                  go_ret
                  exact ⟨by rw [← HX.out]; rfl, rfl⟩
                · have HG : Hid (∀ t, 1 ≤ t → t < j + 1 → Good s.data.toList k 128 191 t) := fun t t1 t2 => by
                    by_cases ht : t < j
                    · exact HJ.out.2.2 t t1 ht
                    · obtain rfl : t = j := by omega
                      refine ⟨?_, ?_⟩
                      · rw [HB.out, ← HJ.out.1]; omega
                      · rw [HB.out, ← HJ.out.2.1]; omega
                  clear HJ
                  go_wp2
                  go_round
                  case rel => exact ⟨j + 1, 128, 191, by omega, by omega, rfl, rfl, by go_num, by rw [if_neg (by omega)], by rw [if_neg (by omega)], HG.out⟩
                  case measure => simp [intOf]; omega
            · have HX := Lib.hid ((tail_good HT.out hl (fun t t1 t2 => HJ.out.2.2 t t1 (by omega))).symm.trans H.out)
              clear HJ
              go_wp2
              go_round
              case rel => exact ⟨k + (2 + 1), by omega, by go_num, HX.out⟩
              case measure => simp [intOf]; omega
        · have HX := Lib.hid ((tail_short HT.out hl).symm.trans H.out)
          go_wp2
          go_ret
          exact ⟨by rw [← HX.out]; rfl, rfl⟩
      · have HT : Hid (Tail s k 3 144 191) := ⟨hlt, .inr ⟨by omega, by rw [HA.out, h]; exact lead_F0⟩⟩
        have c1 : 240 ≤ s[k].toNat := by omega
        have c2 : s[k].toNat ≤ 240 := by omega
        have e224 : ((s[k].toNat : Int) == 224) = false := beq_eq_false_iff_ne.2 (by omega)
        have e237 : ((s[k].toNat : Int) == 237) = false := beq_eq_false_iff_ne.2 (by omega)
        have e240 : ((s[k].toNat : Int) == 240) = true := beq_iff_eq.2 (by omega)
        have e244 : ((s[k].toNat : Int) == 244) = false := beq_eq_false_iff_ne.2 (by omega)
        clear h
        clear HA
        by_cases hl : k + 3 < s.size
        · go_wp2_with fail
          go_loop [6, 7, 8] (fun a b i => ∃ j lo' hi' : Nat, 1 ≤ j ∧ j ≤ 4 ∧ a = .int .i64 lo' ∧ b = .int .i64 hi' ∧ i = .int .i64 j ∧ Hid (lo' = (if j = 1 then 144 else 128) ∧ hi' = (if j = 1 then 191 else 191) ∧ ∀ t, 1 ≤ t → t < j → Good s.data.toList k 144 191 t)) (fun _ _ i => 5 - (intOf i).toNat)
          case atStart => exact ⟨1, 144, 191, by omega, by omega, rfl, rfl, rfl, rfl, rfl, fun t h1 h2 => by omega⟩
          case round =>
            obtain ⟨j, lo', hi', h1, h2, rfl, rfl, rfl, HJ⟩ := hrel
            by_cases hj : j ≤ 3
            · have hkj : k + j < s.size := by omega
              have hcj : (s[k + j].toNat : Int) < 256 := by have := s[k + j].toNat_lt; omega
              have HB := Lib.hid (at_byte s (k + j) hkj)
              by_cases r1 : (s[k + j].toNat : Int) < (lo' : Int)
              · have hbad := tail_bad HT.out h1 hj (fun hg => by
                  have g := hg.1; rw [HB.out, ← HJ.out.1] at g; omega)
                have HX := Lib.hid (hbad.symm.trans H.out)
                clear hbad
                go_wp2
                go_ret
                exact ⟨by rw [← HX.out]; rfl, rfl⟩
              · by_cases r2 : (hi' : Int) < (s[k + j].toNat : Int)
                · have hbad := tail_bad HT.out h1 hj (fun hg => by
                    have g := hg.2; rw [HB.out, ← HJ.out.2.1] at g; omega)
                  have HX := Lib.hid (hbad.symm.trans H.out)
                  clear hbad
                  go_wp2
                  go_ret
                  exact ⟨by rw [← HX.out]; rfl, rfl⟩
                · have HG : Hid (∀ t, 1 ≤ t → t < j + 1 → Good s.data.toList k 144 191 t) := fun t t1 t2 => by
                    by_cases ht : t < j
                    · exact HJ.out.2.2 t t1 ht
                    · obtain rfl : t = j := by omega
                      refine ⟨?_, ?_⟩
                      · rw [HB.out, ← HJ.out.1]; omega
                      · rw [HB.out, ← HJ.out.2.1]; omega
                  clear HJ
                  go_wp2
                  go_round
                  case rel => exact ⟨j + 1, 128, 191, by omega, by omega, rfl, rfl, by go_num, by rw [if_neg (by omega)], by rw [if_neg (by omega)], HG.out⟩
                  case measure => simp [intOf]; omega
            · have HX := Lib.hid ((tail_good HT.out hl (fun t t1 t2 => HJ.out.2.2 t t1 (by omega))).symm.trans H.out)
              clear HJ
              go_wp2
              go_round
              case rel => exact ⟨k + (3 + 1), by omega, by go_num, HX.out⟩
              case measure => simp [intOf]; omega
        · have HX := Lib.hid ((tail_short HT.out hl).symm.trans H.out)
          go_wp2
          go_ret
          exact ⟨by rw [← HX.out]; rfl, rfl⟩
      · have HT : Hid (Tail s k 3 128 191) := ⟨hlt, .inr ⟨by omega, by rw [HA.out]; exact lead_F1 _ s[k].toNat_lt h.1 h.2⟩⟩
        have c1 : 241 ≤ s[k].toNat := by omega
        have c2 : s[k].toNat ≤ 243 := by omega
        have e224 : ((s[k].toNat : Int) == 224) = false := beq_eq_false_iff_ne.2 (by omega)
        have e237 : ((s[k].toNat : Int) == 237) = false := beq_eq_false_iff_ne.2 (by omega)
        have e240 : ((s[k].toNat : Int) == 240) = false := beq_eq_false_iff_ne.2 (by omega)
        have e244 : ((s[k].toNat : Int) == 244) = false := beq_eq_false_iff_ne.2 (by omega)
        clear h
        clear HA
        by_cases hl : k + 3 < s.size
        · go_wp2_with fail
          go_loop [6, 7, 8] (fun a b i => ∃ j lo' hi' : Nat, 1 ≤ j ∧ j ≤ 4 ∧ a = .int .i64 lo' ∧ b = .int .i64 hi' ∧ i = .int .i64 j ∧ Hid (lo' = (if j = 1 then 128 else 128) ∧ hi' = (if j = 1 then 191 else 191) ∧ ∀ t, 1 ≤ t → t < j → Good s.data.toList k 128 191 t)) (fun _ _ i => 5 - (intOf i).toNat)
          case atStart => exact ⟨1, 128, 191, by omega, by omega, rfl, rfl, rfl, rfl, rfl, fun t h1 h2 => by omega⟩
          case round =>
            obtain ⟨j, lo', hi', h1, h2, rfl, rfl, rfl, HJ⟩ := hrel
            by_cases hj : j ≤ 3
            · have hkj : k + j < s.size := by omega
              have hcj : (s[k + j].toNat : Int) < 256 := by have := s[k + j].toNat_lt; omega
              have HB := Lib.hid (at_byte s (k + j) hkj)
              by_cases r1 : (s[k + j].toNat : Int) < (lo' : Int)
              · have hbad := tail_bad HT.out h1 hj (fun hg => by
                  have g := hg.1; rw [HB.out, ← HJ.out.1] at g; omega)
                have HX := Lib.hid (hbad.symm.trans H.out)
                clear hbad
                go_wp2
                go_ret
                exact ⟨by rw [← HX.out]; rfl, rfl⟩
              · by_cases r2 : (hi' : Int) < (s[k + j].toNat : Int)
                · have hbad := tail_bad HT.out h1 hj (fun hg => by
                    have g := hg.2; rw [HB.out, ← HJ.out.2.1] at g; omega)
                  have HX := Lib.hid (hbad.symm.trans H.out)
                  clear hbad
                  go_wp2
                  go_ret
                  exact ⟨by rw [← HX.out]; rfl, rfl⟩
                · have HG : Hid (∀ t, 1 ≤ t → t < j + 1 → Good s.data.toList k 128 191 t) := fun t t1 t2 => by
                    by_cases ht : t < j
                    · exact HJ.out.2.2 t t1 ht
                    · obtain rfl : t = j := by omega
                      refine ⟨?_, ?_⟩
                      · rw [HB.out, ← HJ.out.1]; omega
                      · rw [HB.out, ← HJ.out.2.1]; omega
                  clear HJ
                  go_wp2
                  go_round
                  case rel => exact ⟨j + 1, 128, 191, by omega, by omega, rfl, rfl, by go_num, by rw [if_neg (by omega)], by rw [if_neg (by omega)], HG.out⟩
                  case measure => simp [intOf]; omega
            · have HX := Lib.hid ((tail_good HT.out hl (fun t t1 t2 => HJ.out.2.2 t t1 (by omega))).symm.trans H.out)
              clear HJ
              go_wp2
              go_round
              case rel => exact ⟨k + (3 + 1), by omega, by go_num, HX.out⟩
              case measure => simp [intOf]; omega
        · have HX := Lib.hid ((tail_short HT.out hl).symm.trans H.out)
          go_wp2
          go_ret
          exact ⟨by rw [← HX.out]; rfl, rfl⟩
      · have HT : Hid (Tail s k 3 128 143) := ⟨hlt, .inr ⟨by omega, by rw [HA.out, h]; exact lead_F4⟩⟩
        have c1 : 244 ≤ s[k].toNat := by omega
        have c2 : s[k].toNat ≤ 244 := by omega
        have e224 : ((s[k].toNat : Int) == 224) = false := beq_eq_false_iff_ne.2 (by omega)
        have e237 : ((s[k].toNat : Int) == 237) = false := beq_eq_false_iff_ne.2 (by omega)
        have e240 : ((s[k].toNat : Int) == 240) = false := beq_eq_false_iff_ne.2 (by omega)
        have e244 : ((s[k].toNat : Int) == 244) = true := beq_iff_eq.2 (by omega)
        clear h
        clear HA
        by_cases hl : k + 3 < s.size
        · go_wp2_with fail
          go_loop [6, 7, 8] (fun a b i => ∃ j lo' hi' : Nat, 1 ≤ j ∧ j ≤ 4 ∧ a = .int .i64 lo' ∧ b = .int .i64 hi' ∧ i = .int .i64 j ∧ Hid (lo' = (if j = 1 then 128 else 128) ∧ hi' = (if j = 1 then 143 else 191) ∧ ∀ t, 1 ≤ t → t < j → Good s.data.toList k 128 143 t)) (fun _ _ i => 5 - (intOf i).toNat)
          case atStart => exact ⟨1, 128, 143, by omega, by omega, rfl, rfl, rfl, rfl, rfl, fun t h1 h2 => by omega⟩
          case round =>
            obtain ⟨j, lo', hi', h1, h2, rfl, rfl, rfl, HJ⟩ := hrel
            by_cases hj : j ≤ 3
            · have hkj : k + j < s.size := by omega
              have hcj : (s[k + j].toNat : Int) < 256 := by have := s[k + j].toNat_lt; omega
              have HB := Lib.hid (at_byte s (k + j) hkj)
              by_cases r1 : (s[k + j].toNat : Int) < (lo' : Int)
              · have hbad := tail_bad HT.out h1 hj (fun hg => by
                  have g := hg.1; rw [HB.out, ← HJ.out.1] at g; omega)
                have HX := Lib.hid (hbad.symm.trans H.out)
                clear hbad
                go_wp2
                go_ret
                exact ⟨by rw [← HX.out]; rfl, rfl⟩
              · by_cases r2 : (hi' : Int) < (s[k + j].toNat : Int)
                · have hbad := tail_bad HT.out h1 hj (fun hg => by
                    have g := hg.2; rw [HB.out, ← HJ.out.2.1] at g; omega)
                  have HX := Lib.hid (hbad.symm.trans H.out)
                  clear hbad
                  go_wp2
                  go_ret
                  exact ⟨by rw [← HX.out]; rfl, rfl⟩
                · have HG : Hid (∀ t, 1 ≤ t → t < j + 1 → Good s.data.toList k 128 143 t) := fun t t1 t2 => by
                    by_cases ht : t < j
                    · exact HJ.out.2.2 t t1 ht
                    · obtain rfl : t = j := by omega
                      refine ⟨?_, ?_⟩
                      · rw [HB.out, ← HJ.out.1]; omega
                      · rw [HB.out, ← HJ.out.2.1]; omega
                  clear HJ
                  go_wp2
                  go_round
                  case rel => exact ⟨j + 1, 128, 191, by omega, by omega, rfl, rfl, by go_num, by rw [if_neg (by omega)], by rw [if_neg (by omega)], HG.out⟩
                  case measure => simp [intOf]; omega
            · have HX := Lib.hid ((tail_good HT.out hl (fun t t1 t2 => HJ.out.2.2 t t1 (by omega))).symm.trans H.out)
              clear HJ
              go_wp2
              go_round
              case rel => exact ⟨k + (3 + 1), by omega, by go_num, HX.out⟩
              case measure => simp [intOf]; omega
        · have HX := Lib.hid ((tail_short HT.out hl).symm.trans H.out)
          go_wp2
          go_ret
          exact ⟨by rw [← HX.out]; rfl, rfl⟩
      · have HX : Hid (false = V) := (valid_none _ k (by simpa using hlt) (by rw [HA.out]; omega)).symm.trans H.out
        clear HA
        go_wp2
        go_ret
        exact ⟨by rw [← HX.out]; rfl, rfl⟩
    · obtain rfl : k = s.size := by omega
      have HX : Hid (true = V) := by
        have h := H.out
        rw [List.drop_of_length_le (by simp)] at h
        exact (validD_nil).symm.trans h
      go_wp2
      go_ret
      exact ⟨by rw [← HX.out]; rfl, rfl⟩
end Go.Proofs.YtiekgafopalfmaaGreatDoor
