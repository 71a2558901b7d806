/- utf8.ValidString at a string of up to 16 bytes, whatever the library's two tables hold. -/
import Derived.Test.YtklpmhiaihabaaaShelf
import Derived.Test.YtklpmhiaihabaaaRows
import Derived.WalkKit
import Derived.ProofKit
import Derived.Below
import Derived.LoopTactic
import Derived.Lib.Hide
import Derived.Shelf.Unicode.WordAny
import Derived.Test.YtklpmhiaihabaaaGPkNum
import Derived.Laws.BitsAllLaws
namespace Go.Proofs.Ytklpmhiaihabaaa
open Go.RowKit Go.Lib

/-- What the two tables hold. -/
structure Tb where
  f : Nat → Nat
  lo : Nat → Nat
  hi : Nat → Nat
/-- They lie so. -/
def TabAt (T : Tb) (w : World) : Prop :=
  (∀ i, i < 256 → w.cell? ⟨0, i, none⟩ = some (.int .u8 (T.f i : Int)) ∧ T.f i < 256) ∧
  (∀ i, i < 16 → w.cell? ⟨1, i * 2, none⟩ = some (.int .u8 (T.lo i : Int)) ∧ w.cell? ⟨1, i * 2 + 1, none⟩ = some (.int .u8 (T.hi i : Int)) ∧ T.lo i < 256 ∧ T.hi i < 256) ∧
  0 < w.heap.size ∧ 1 < w.heap.size
theorem TabAt.below {T : Tb} {w w' : World} (h : TabAt T w) (hb : Below w.heap.size w w') : TabAt T w' := by
  obtain ⟨h1, h2, h3, h4⟩ := h
  have hs := hb.size
  exact ⟨fun i hi => ⟨by rw [hb.cell (p := ⟨0, i, none⟩) h3]; exact (h1 i hi).1, (h1 i hi).2⟩,
    fun i hi => ⟨by rw [hb.cell (p := ⟨1, i * 2, none⟩) h4]; exact (h2 i hi).1, by rw [hb.cell (p := ⟨1, i * 2 + 1, none⟩) h4]; exact (h2 i hi).2.1, (h2 i hi).2.2⟩, by omega, by omega⟩
/-- The bytes of a string, and its first eight as one number. -/
def bt (s : ByteArray) (i : Nat) : Nat := (s.get! i).toNat
def wd (s : ByteArray) : Nat := Lib.leNat [s.get! 0, s.get! 1, s.get! 2, s.get! 3, s.get! 4, s.get! 5, s.get! 6, s.get! 7]
def from1 (s : ByteArray) (k : Nat) : ByteArray := s.extract k s.size
/-- What the program makes of a string, with such tables. -/
def vT (T : Tb) : Nat → ByteArray → Bool
  | 0, _ => true
  | n + 1, s =>
    if s.size = 0 then true
    else if bt s 0 < 128 then
      (if 8 < (from1 s 1).size ∧ (wd (from1 s 1) &&& 9259542123273814144) = 0 then vT T n (from1 (from1 s 1) 8) else vT T n (from1 s 1))
    else if T.f (bt s 0) % 8 = 2 then
      (if s.size < 2 ∨ bt s 1 < T.lo (T.f (bt s 0) / 16) ∨ T.hi (T.f (bt s 0) / 16) < bt s 1 then false else vT T n (from1 s 2))
    else if T.f (bt s 0) % 8 = 3 then
      (if s.size < 3 ∨ bt s 1 < T.lo (T.f (bt s 0) / 16) ∨ T.hi (T.f (bt s 0) / 16) < bt s 1 ∨ bt s 2 < 128 ∨ 191 < bt s 2 then false else vT T n (from1 s 3))
    else if T.f (bt s 0) % 8 = 4 then
      (if s.size < 4 ∨ bt s 1 < T.lo (T.f (bt s 0) / 16) ∨ T.hi (T.f (bt s 0) / 16) < bt s 1 ∨ bt s 2 < 128 ∨ 191 < bt s 2 ∨ bt s 3 < 128 ∨ 191 < bt s 3 then false else vT T n (from1 s 4))
    else false
theorem vT_nil (T : Tb) (n : Nat) (s : ByteArray) (h : s.size = 0) : vT T n s = true := by
  cases n with
  | zero => rfl
  | succ n => unfold vT; rw [if_pos h]
theorem size_from (s : ByteArray) (k : Nat) : (from1 s k).size = s.size - k := by unfold from1; rw [ByteArray.size_extract]; omega
set_option maxRecDepth 100000 in
theorem and7 : ∀ X : Fin 256, bits .and .u8 ((X.val : Nat) : Int) 7 = ((X.val % 8 : Nat) : Int) := by decide
theorem get_bt (s : ByteArray) (i : Nat) (h : i < s.size) : (s[i]).toNat = bt s i := by
  unfold bt
  rw [Utf8W.get!_of_lt s i h]
theorem below_drewN {B : Nat} {a w : World} (h : Below B a w) (q : Nat) : Below B a (w.drewN q) := by
  induction q with
  | zero => exact h
  | succ q ih => exact ih.drew
def lenOf (v : Value) : Nat := match v with | .string t => t.size | _ => 0
set_option maxRecDepth 100000 in
set_option maxHeartbeats 4000000 in
theorem validT_is (T : Tb) (s : ByteArray) (hs : s.size ≤ 16) (w : World) (hT : TabAt T w) :
    Calls Try.prog 113 #[.string s] w fun e w' => e = .returned (.bool (vT T 17 s)) ∧ Below w.heap.size w w' := by
  obtain ⟨V, hV⟩ : ∃ V, vT T 17 s = V := ⟨_, rfl⟩
  rw [hV]
  have HV := Lib.hid hV
  have HT := Lib.hid hT
  have h17 : s.size ≤ 17 := by omega
  clear hV hT
  go_enter Try.func113, Try.ntmps113
  go_wp2
  go_loopw [0] (fun sv wr => ∃ (t : ByteArray) (n : Nat), sv = .string t ∧ t.size ≤ 16 ∧ t.size ≤ n ∧ Hid (vT T n t = V) ∧ Below w.heap.size w wr) (fun sv _ => lenOf sv)
  case atStart => exact ⟨s, 17, rfl, hs, h17, HV, Below.refl _ _⟩
  case round =>
    clear HV hs h17
    obtain ⟨t, n, rfl, ht, hn, HVt, hbr⟩ := hrel
    by_cases h0 : t.size = 0
    · have hx := vT_nil T n t h0
      have HX := Lib.hid (hx.symm.trans HVt.out)
      obtain rfl : t = ⟨#[]⟩ := by
        apply ByteArray.ext
        exact Array.eq_empty_of_size_eq_zero h0
      clear hx hn h0 ht HVt
      go_wp2
      go_ret
      exact ⟨by rw [← HX.out]; rfl, hbr⟩
    · obtain ⟨n, rfl⟩ : ∃ m, n = m + 1 := ⟨n - 1, by omega⟩
      have hz : (0 : Int) < (t.size : Int) := by omega
      have hU := HVt.out
      unfold vT at hU
      rw [if_neg h0] at hU
      have c0 := get_bt t 0 (by omega)
      have c0l : bt t 0 < 256 := (t.get! 0).toNat_lt
      by_cases h1 : bt t 0 < 128
      · rw [if_pos h1] at hU
        have h1z : (bt t 0 : Int) < 128 := by omega
        have c0z : ((t[0]'(by omega)).toNat : Int) = (bt t 0 : Int) := by rw [c0]
        obtain ⟨t1, ht1⟩ : ∃ t1, from1 t 1 = t1 := ⟨_, rfl⟩
        have e1 : t.extract 1 t.size = t1 := ht1
        have z1 : t1.size + 1 = t.size := by rw [← ht1, size_from]; omega
        rw [ht1] at hU
        by_cases h8 : 8 < t1.size
        · have h8z : (8 : Int) < (t1.size : Int) := by omega
          have HW : Hid (∀ W : World, Calls Try.prog 115 #[.string t1] W fun e w' => e = .returned (.int .u64 (wd t1 : Int)) ∧ ∃ q, w' = W.drewN q) := fun W => Any.utf8_word { Try.laysValid with } t1 W (by omega)
          have hwl : wd t1 < 18446744073709551616 := Lib.word_lt t1
          have hand : bits .and .u64 (wd t1 : Int) 9259542123273814144 = ((wd t1 &&& 9259542123273814144 : Nat) : Int) := u64_and_nat (wd t1) 9259542123273814144 hwl (by omega)
          obtain ⟨A, hA⟩ : ∃ A, wd t1 = A := ⟨_, rfl⟩
          rw [hA] at hand hU HW
          obtain ⟨Z, hZ⟩ : ∃ Z, A &&& 9259542123273814144 = Z := ⟨_, rfl⟩
          rw [hZ] at hand hU
          clear hA hZ hwl
          by_cases hz0 : Z = 0
          · rw [if_pos ⟨h8, hz0⟩] at hU
            have hZ0 : ((Z : Int) == 0) = true := by simp [hz0]
            obtain ⟨t2, ht2⟩ : ∃ t2, from1 t1 8 = t2 := ⟨_, rfl⟩
            have e2 : t1.extract 8 t1.size = t2 := ht2
            have z2 : t2.size + 8 = t1.size := by rw [← ht2, size_from]; omega
            rw [ht2] at hU
            have HU := Lib.hid hU
            have h16 : decide ((16 : Int) < (t2.size : Int)) = false := by simp; omega
            have h8t : (8 : Int) ≤ (t1.size : Int) := by omega
            clear HVt hU hz0 ht1 ht2 h1
            go_wp2_with fail
            refine (HW.out _).mono ?_
            rintro e w2 ⟨rfl, q, rfl⟩
            go_wp2_with fail
            go_region
            go_wp2
            go_roundw
            case rel => exact ⟨t2, n, rfl, by omega, by omega, HU, (below_drewN hbr q).drew⟩
            case measure => simp only [lenOf]; omega
          · rw [if_neg (fun h => hz0 h.2)] at hU
            have hZ0 : ((Z : Int) == 0) = false := by simp; omega
            have HU := Lib.hid hU
            clear HVt hU hz0 ht1 h1
            go_wp2_with fail
            refine (HW.out _).mono ?_
            rintro e w2 ⟨rfl, q, rfl⟩
            go_wp2
            go_roundw
            case rel => exact ⟨t1, n, rfl, by omega, by omega, HU, below_drewN hbr q⟩
            case measure => simp only [lenOf]; omega
        · rw [if_neg (fun h => h8 h.1)] at hU
          have h8z : ¬ ((8 : Int) < (t1.size : Int)) := by omega
          have HU := Lib.hid hU
          clear HVt hU ht1 h1
          go_wp2
          go_roundw
          case rel => exact ⟨t1, n, rfl, by omega, by omega, HU, hbr⟩
          case measure => simp only [lenOf]; omega
      · rw [if_neg h1] at hU
        have h1z : ¬ ((bt t 0 : Int) < 128) := by omega
        have hb0 : (bt t 0 : Int) < 256 := by omega
        have c0z : ((t[0]'(by omega)).toNat : Int) = (bt t 0 : Int) := by rw [c0]
        have hTr := HT.out.below hbr
        obtain ⟨hf, hX⟩ := hTr.1 (bt t 0) c0l
        obtain ⟨X, hXX⟩ : ∃ X, T.f (bt t 0) = X := ⟨_, rfl⟩
        rw [hXX] at hf hX hU
        have hd : X / 16 < 16 := by omega
        obtain ⟨hlo, hhi, hl, hh⟩ := hTr.2.1 (X / 16) hd
        have h7 : bits .and .u8 (X : Int) 7 = ((X % 8 : Nat) : Int) := and7 ⟨X, hX⟩
        obtain ⟨L, hL⟩ : ∃ L, T.lo (X / 16) = L := ⟨_, rfl⟩
        obtain ⟨H, hH⟩ : ∃ H, T.hi (X / 16) = H := ⟨_, rfl⟩
        rw [hL] at hlo hl hU
        rw [hH] at hhi hh hU
        clear HVt hTr hXX hL hH
        have FB : Below w.heap.size w (wr.alloc (.cells #[.int .u8 (L : Int), .int .u8 (H : Int)] 160)) := hbr.alloc hbr.size _
        by_cases s2 : X % 8 = 2
        · rw [if_pos s2] at hU
          have s2z : ((X : Int) % 8 == 2) = true := by simp; omega
          clear s2
          by_cases q0 : t.size < 2
          · have q0z : decide ((t.size : Int) < 2) = true := by simp; omega
            have HU := Lib.hid (by rw [if_pos (.inl q0)] at hU; exact hU : false = V)
            clear hU
            go_wp2_with fail
            go_region
            go_wp2
            go_ret
            exact ⟨by rw [← HU.out]; rfl, FB.drew⟩
          have d1 := get_bt t 1 (by omega)
          have d1z : ((t[1]'(by omega)).toNat : Int) = (bt t 1 : Int) := by rw [d1]
          have d1l : (bt t 1 : Int) < 256 := by have h := (t.get! 1).toNat_lt; unfold bt; omega
          have q0z : decide ((t.size : Int) < 2) = false := by simp; omega
          have b1 : (1 : Int) < (t.size : Int) := by omega
          by_cases r0 : bt t 1 < L
          · have r0z : decide ((bt t 1 : Int) < (L : Int)) = true := by simp; omega
            have HU := Lib.hid (by rw [if_pos (.inr (.inl r0))] at hU; exact hU : false = V)
            clear hU
            go_wp2_with fail
            go_region
            go_wp2
            go_ret
            exact ⟨by rw [← HU.out]; rfl, FB.drew⟩
          have r0z : decide ((bt t 1 : Int) < (L : Int)) = false := by simp; omega
          by_cases r1 : H < bt t 1
          · have r1z : decide ((H : Int) < (bt t 1 : Int)) = true := by simp; omega
            have HU := Lib.hid (by rw [if_pos (.inr (.inr (r1)))] at hU; exact hU : false = V)
            clear hU
            go_wp2_with fail
            go_region
            go_wp2
            go_ret
            exact ⟨by rw [← HU.out]; rfl, FB.drew⟩
          have r1z : decide ((H : Int) < (bt t 1 : Int)) = false := by simp; omega
          rw [if_neg (by omega)] at hU
          obtain ⟨t1, ht1⟩ : ∃ t1, from1 t 2 = t1 := ⟨_, rfl⟩
          have e1 : t.extract 2 t.size = t1 := ht1
          have z1 : t1.size + 2 = t.size := by rw [← ht1, size_from]; omega
          rw [ht1] at hU
          have HU := Lib.hid hU
          clear hU ht1
          go_wp2_with fail
          go_region
          go_wp2
          go_roundw
          case rel => exact ⟨t1, n, rfl, by omega, by omega, HU, FB.drew⟩
          case measure => simp only [lenOf]; omega
        rw [if_neg s2] at hU
        have s2z : ((X : Int) % 8 == 2) = false := by simp; omega
        by_cases s3 : X % 8 = 3
        · rw [if_pos s3] at hU
          have s3z : ((X : Int) % 8 == 3) = true := by simp; omega
          clear s2 s3
          by_cases q0 : t.size < 3
          · have q0z : decide ((t.size : Int) < 3) = true := by simp; omega
            have HU := Lib.hid (by rw [if_pos (.inl q0)] at hU; exact hU : false = V)
            clear hU
            go_wp2_with fail
            go_region
            go_wp2
            go_ret
            exact ⟨by rw [← HU.out]; rfl, FB.drew⟩
          have d1 := get_bt t 1 (by omega)
          have d1z : ((t[1]'(by omega)).toNat : Int) = (bt t 1 : Int) := by rw [d1]
          have d1l : (bt t 1 : Int) < 256 := by have h := (t.get! 1).toNat_lt; unfold bt; omega
          have d2 := get_bt t 2 (by omega)
          have d2z : ((t[2]'(by omega)).toNat : Int) = (bt t 2 : Int) := by rw [d2]
          have d2l : (bt t 2 : Int) < 256 := by have h := (t.get! 2).toNat_lt; unfold bt; omega
          have q0z : decide ((t.size : Int) < 3) = false := by simp; omega
          have b1 : (1 : Int) < (t.size : Int) := by omega
          have b2 : (2 : Int) < (t.size : Int) := by omega
          by_cases r0 : bt t 1 < L
          · have r0z : decide ((bt t 1 : Int) < (L : Int)) = true := by simp; omega
            have HU := Lib.hid (by rw [if_pos (.inr (.inl r0))] at hU; exact hU : false = V)
            clear hU
            go_wp2_with fail
            go_region
            go_wp2
            go_ret
            exact ⟨by rw [← HU.out]; rfl, FB.drew⟩
          have r0z : decide ((bt t 1 : Int) < (L : Int)) = false := by simp; omega
          by_cases r1 : H < bt t 1
          · have r1z : decide ((H : Int) < (bt t 1 : Int)) = true := by simp; omega
            have HU := Lib.hid (by rw [if_pos (.inr (.inr (.inl r1)))] at hU; exact hU : false = V)
            clear hU
            go_wp2_with fail
            go_region
            go_wp2
            go_ret
            exact ⟨by rw [← HU.out]; rfl, FB.drew⟩
          have r1z : decide ((H : Int) < (bt t 1 : Int)) = false := by simp; omega
          by_cases r2 : bt t 2 < 128
          · have r2z : decide ((bt t 2 : Int) < (128 : Int)) = true := by simp; omega
            have HU := Lib.hid (by rw [if_pos (.inr (.inr (.inr (.inl r2))))] at hU; exact hU : false = V)
            clear hU
            go_wp2_with fail
            go_region
            go_wp2
            go_ret
            exact ⟨by rw [← HU.out]; rfl, FB.drew⟩
          have r2z : decide ((bt t 2 : Int) < (128 : Int)) = false := by simp; omega
          by_cases r3 : 191 < bt t 2
          · have r3z : decide ((191 : Int) < (bt t 2 : Int)) = true := by simp; omega
            have HU := Lib.hid (by rw [if_pos (.inr (.inr (.inr (.inr (r3)))))] at hU; exact hU : false = V)
            clear hU
            go_wp2_with fail
            go_region
            go_wp2
            go_ret
            exact ⟨by rw [← HU.out]; rfl, FB.drew⟩
          have r3z : decide ((191 : Int) < (bt t 2 : Int)) = false := by simp; omega
          rw [if_neg (by omega)] at hU
          obtain ⟨t1, ht1⟩ : ∃ t1, from1 t 3 = t1 := ⟨_, rfl⟩
          have e1 : t.extract 3 t.size = t1 := ht1
          have z1 : t1.size + 3 = t.size := by rw [← ht1, size_from]; omega
          rw [ht1] at hU
          have HU := Lib.hid hU
          clear hU ht1
          go_wp2_with fail
          go_region
          go_wp2
          go_roundw
          case rel => exact ⟨t1, n, rfl, by omega, by omega, HU, FB.drew⟩
          case measure => simp only [lenOf]; omega
        rw [if_neg s3] at hU
        have s3z : ((X : Int) % 8 == 3) = false := by simp; omega
        by_cases s4 : X % 8 = 4
        · rw [if_pos s4] at hU
          have s4z : ((X : Int) % 8 == 4) = true := by simp; omega
          clear s2 s3 s4
          by_cases q0 : t.size < 4
          · have q0z : decide ((t.size : Int) < 4) = true := by simp; omega
            have HU := Lib.hid (by rw [if_pos (.inl q0)] at hU; exact hU : false = V)
            clear hU
            go_wp2_with fail
            go_region
            go_wp2
            go_ret
            exact ⟨by rw [← HU.out]; rfl, FB.drew⟩
          have d1 := get_bt t 1 (by omega)
          have d1z : ((t[1]'(by omega)).toNat : Int) = (bt t 1 : Int) := by rw [d1]
          have d1l : (bt t 1 : Int) < 256 := by have h := (t.get! 1).toNat_lt; unfold bt; omega
          have d2 := get_bt t 2 (by omega)
          have d2z : ((t[2]'(by omega)).toNat : Int) = (bt t 2 : Int) := by rw [d2]
          have d2l : (bt t 2 : Int) < 256 := by have h := (t.get! 2).toNat_lt; unfold bt; omega
          have d3 := get_bt t 3 (by omega)
          have d3z : ((t[3]'(by omega)).toNat : Int) = (bt t 3 : Int) := by rw [d3]
          have d3l : (bt t 3 : Int) < 256 := by have h := (t.get! 3).toNat_lt; unfold bt; omega
          have q0z : decide ((t.size : Int) < 4) = false := by simp; omega
          have b1 : (1 : Int) < (t.size : Int) := by omega
          have b2 : (2 : Int) < (t.size : Int) := by omega
          have b3 : (3 : Int) < (t.size : Int) := by omega
          by_cases r0 : bt t 1 < L
          · have r0z : decide ((bt t 1 : Int) < (L : Int)) = true := by simp; omega
            have HU := Lib.hid (by rw [if_pos (.inr (.inl r0))] at hU; exact hU : false = V)
            clear hU
            go_wp2_with fail
            go_region
            go_wp2
            go_ret
            exact ⟨by rw [← HU.out]; rfl, FB.drew⟩
          have r0z : decide ((bt t 1 : Int) < (L : Int)) = false := by simp; omega
          by_cases r1 : H < bt t 1
          · have r1z : decide ((H : Int) < (bt t 1 : Int)) = true := by simp; omega
            have HU := Lib.hid (by rw [if_pos (.inr (.inr (.inl r1)))] at hU; exact hU : false = V)
            clear hU
            go_wp2_with fail
            go_region
            go_wp2
            go_ret
            exact ⟨by rw [← HU.out]; rfl, FB.drew⟩
          have r1z : decide ((H : Int) < (bt t 1 : Int)) = false := by simp; omega
          by_cases r2 : bt t 2 < 128
          · have r2z : decide ((bt t 2 : Int) < (128 : Int)) = true := by simp; omega
            have HU := Lib.hid (by rw [if_pos (.inr (.inr (.inr (.inl r2))))] at hU; exact hU : false = V)
            clear hU
            go_wp2_with fail
            go_region
            go_wp2
            go_ret
            exact ⟨by rw [← HU.out]; rfl, FB.drew⟩
          have r2z : decide ((bt t 2 : Int) < (128 : Int)) = false := by simp; omega
          by_cases r3 : 191 < bt t 2
          · have r3z : decide ((191 : Int) < (bt t 2 : Int)) = true := by simp; omega
            have HU := Lib.hid (by rw [if_pos (.inr (.inr (.inr (.inr (.inl r3)))))] at hU; exact hU : false = V)
            clear hU
            go_wp2_with fail
            go_region
            go_wp2
            go_ret
            exact ⟨by rw [← HU.out]; rfl, FB.drew⟩
          have r3z : decide ((191 : Int) < (bt t 2 : Int)) = false := by simp; omega
          by_cases r4 : bt t 3 < 128
          · have r4z : decide ((bt t 3 : Int) < (128 : Int)) = true := by simp; omega
            have HU := Lib.hid (by rw [if_pos (.inr (.inr (.inr (.inr (.inr (.inl r4))))))] at hU; exact hU : false = V)
            clear hU
            go_wp2_with fail
            go_region
            go_wp2
            go_ret
            exact ⟨by rw [← HU.out]; rfl, FB.drew⟩
          have r4z : decide ((bt t 3 : Int) < (128 : Int)) = false := by simp; omega
          by_cases r5 : 191 < bt t 3
          · have r5z : decide ((191 : Int) < (bt t 3 : Int)) = true := by simp; omega
            have HU := Lib.hid (by rw [if_pos (.inr (.inr (.inr (.inr (.inr (.inr (r5)))))))] at hU; exact hU : false = V)
            clear hU
            go_wp2_with fail
            go_region
            go_wp2
            go_ret
            exact ⟨by rw [← HU.out]; rfl, FB.drew⟩
          have r5z : decide ((191 : Int) < (bt t 3 : Int)) = false := by simp; omega
          rw [if_neg (by omega)] at hU
          obtain ⟨t1, ht1⟩ : ∃ t1, from1 t 4 = t1 := ⟨_, rfl⟩
          have e1 : t.extract 4 t.size = t1 := ht1
          have z1 : t1.size + 4 = t.size := by rw [← ht1, size_from]; omega
          rw [ht1] at hU
          have HU := Lib.hid hU
          clear hU ht1
          go_wp2_with fail
          go_region
          go_wp2
          go_roundw
          case rel => exact ⟨t1, n, rfl, by omega, by omega, HU, FB.drew⟩
          case measure => simp only [lenOf]; omega
        rw [if_neg s4] at hU
        have s4z : ((X : Int) % 8 == 4) = false := by simp; omega
        have HU := Lib.hid hU
        clear hU s2 s3 s4
        go_wp2
        go_ret
        exact ⟨by rw [← HU.out]; rfl, FB⟩
end Go.Proofs.Ytklpmhiaihabaaa
