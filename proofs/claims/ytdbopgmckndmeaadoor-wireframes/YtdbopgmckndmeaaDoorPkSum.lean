import Derived.Laws.BitsAllLaws
import Derived.Test.YtdbopgmckndmeaaDoorRows
import Derived.Test.YtdbopgmckndmeaaDoorPkNum
import Derived.WalkKit
import Derived.WalkSpells
import Derived.ProofKit
import Derived.Below
import Derived.Lib.Hide
import Derived.Laws.Rows
import Derived.Laws.Tables
import Derived.Laws.CopyOwn
/- Plain facts on the checksum's register (no program): the shifts are linear and lose nothing; so a changed byte, or two neighbours exchanged, always show. -/
namespace Go.Proofs.YtdbopgmckndmeaaDoor

def sh1 (x : Nat) : Nat := if x % 2 = 1 then (x / 2) ^^^ 3988292384 else x / 2
def shN : Nat → Nat → Nat
  | 0, x => x
  | n + 1, x => shN n (sh1 x)
def sh8 (x : Nat) : Nat := shN 8 x
def crc (l : List UInt8) (x : Nat) : Nat := l.foldl (fun y c => sh8 (y ^^^ c.toNat)) x
def sum (l : List UInt8) : Nat := crc l 4294967295 ^^^ 4294967295

theorem xor_div2 (a b : Nat) : (a ^^^ b) / 2 = a / 2 ^^^ b / 2 := by
  have h := Nat.shiftRight_xor_distrib (a := a) (b := b) (i := 1)
  simpa [Nat.shiftRight_eq_div_pow] using h
theorem xor_mod2 (a b : Nat) : (a ^^^ b) % 2 = (a % 2 + b % 2) % 2 := by
  have h := Nat.xor_mod_two_pow (a := a) (b := b) (n := 1)
  have e : (a ^^^ b) % 2 = a % 2 ^^^ b % 2 := by simpa using h
  rw [e]
  rcases Nat.mod_two_eq_zero_or_one a with h1 | h1 <;> rcases Nat.mod_two_eq_zero_or_one b with h2 | h2 <;> rw [h1, h2] <;> rfl
theorem sh1_lt {x : Nat} (h : x < 4294967296) : sh1 x < 4294967296 := by
  unfold sh1
  split
  · exact Nat.xor_lt_two_pow (n := 32) (by omega) (by omega)
  · omega
theorem sh1_xor (a b : Nat) : sh1 (a ^^^ b) = sh1 a ^^^ sh1 b := by
  unfold sh1
  rw [xor_mod2, xor_div2]
  generalize a / 2 = p
  generalize b / 2 = q
  generalize 3988292384 = P
  rcases Nat.mod_two_eq_zero_or_one a with h1 | h1 <;> rcases Nat.mod_two_eq_zero_or_one b with h2 | h2 <;> rw [h1, h2] <;> simp
  · rw [Nat.xor_assoc]
  · rw [Nat.xor_assoc, Nat.xor_assoc, Nat.xor_comm P q]
  · rw [Nat.xor_comm q P, ← Nat.xor_assoc (p ^^^ P) P q, Nat.xor_assoc p P P, Nat.xor_self, Nat.xor_zero]
theorem sh1_zero {z : Nat} (h : z < 4294967296) (h0 : sh1 z = 0) : z = 0 := by
  unfold sh1 at h0
  split at h0
  · have : z / 2 = 3988292384 := by
      have := congrArg (· ^^^ 3988292384) h0
      simpa [Nat.xor_assoc] using this
    omega
  · omega
theorem shN_lt : ∀ (n x : Nat), x < 4294967296 → shN n x < 4294967296
  | 0, _, h => h
  | n + 1, _, h => shN_lt n _ (sh1_lt h)
theorem shN_xor : ∀ (n a b : Nat), shN n (a ^^^ b) = shN n a ^^^ shN n b
  | 0, _, _ => rfl
  | n + 1, a, b => by rw [shN, shN, shN, sh1_xor, shN_xor n]
theorem shN_zero : ∀ (n z : Nat), z < 4294967296 → shN n z = 0 → z = 0
  | 0, _, _, h0 => h0
  | n + 1, _, h, h0 => sh1_zero h (shN_zero n _ (sh1_lt h) h0)
theorem shN_low : ∀ (n y : Nat), shN n (y * 2 ^ n) = y
  | 0, y => by simp [shN]
  | n + 1, y => by
    have e : sh1 (y * 2 ^ (n + 1)) = y * 2 ^ n := by
      have e1 : y * 2 ^ (n + 1) = y * 2 ^ n * 2 := by rw [Nat.pow_succ, Nat.mul_assoc]
      unfold sh1
      rw [e1, if_neg (by omega)]; omega
    rw [shN, e, shN_low n y]
theorem sh8_lt {x : Nat} (h : x < 4294967296) : sh8 x < 4294967296 := shN_lt 8 x h
theorem sh8_xor (a b : Nat) : sh8 (a ^^^ b) = sh8 a ^^^ sh8 b := shN_xor 8 a b
theorem sh8_high (y : Nat) : sh8 (y * 256) = y := shN_low 8 y
theorem eq_of_xor {a b : Nat} (h : a ^^^ b = 0) : a = b := by
  have := congrArg (· ^^^ b) h
  simpa [Nat.xor_assoc] using this
theorem sh8_inj {a b : Nat} (ha : a < 4294967296) (hb : b < 4294967296) (h : sh8 a = sh8 b) : a = b := by
  apply eq_of_xor
  refine shN_zero 8 _ (Nat.xor_lt_two_pow (n := 32) ha hb) ?_
  have := sh8_xor a b
  rw [h, Nat.xor_self] at this
  exact this
theorem byte_lt (c : UInt8) : c.toNat < 256 := c.toNat_lt
/-- The step by the table: the low eight bits by the table, the others moved down. -/
theorem sh8_table (x c : Nat) : sh8 (x ^^^ c) = sh8 (x % 256 ^^^ c) ^^^ x / 256 := by
  have e : x = x % 256 ^^^ x / 256 * 256 := by
    have h := nat_join 8 (x / 256 * 256) (x % 256) (by omega) (by omega)
    have hx : x / 256 * 256 ^^^ x % 256 = x / 256 * 256 ||| x % 256 := by
      apply Nat.eq_of_testBit_eq
      intro i
      rw [Nat.testBit_xor, Nat.testBit_or]
      have h1 : (x / 256 * 256).testBit i = (decide (8 ≤ i) && (x / 256).testBit (i - 8)) := by
        have := Nat.testBit_shiftLeft (x := x / 256) (i := 8) (j := i)
        rw [Nat.shiftLeft_eq] at this
        simpa using this
      have h2 : (x % 256).testBit i = (decide (i < 8) && x.testBit i) := Nat.testBit_mod_two_pow x 8 i
      rw [h1, h2]
      by_cases hi : i < 8
      · simp [hi, show ¬ 8 ≤ i by omega]
      · simp [hi]
    rw [Nat.xor_comm, hx, h]; omega
  have e2 : x ^^^ c = (x % 256 ^^^ c) ^^^ x / 256 * 256 := by
    conv => lhs; rw [e]
    rw [Nat.xor_assoc, Nat.xor_comm _ c, ← Nat.xor_assoc]
  rw [e2, sh8_xor, sh8_high]
theorem xor_byte_lt {x : Nat} (h : x < 4294967296) (c : UInt8) : x ^^^ c.toNat < 4294967296 :=
  Nat.xor_lt_two_pow (n := 32) h (by have := byte_lt c; omega)
theorem crc_cons (c : UInt8) (l : List UInt8) (x : Nat) : crc (c :: l) x = crc l (sh8 (x ^^^ c.toNat)) := rfl
theorem crc_append (a b : List UInt8) (x : Nat) : crc (a ++ b) x = crc b (crc a x) := by simp [crc, List.foldl_append]
theorem crc_lt : ∀ (l : List UInt8) (x : Nat), x < 4294967296 → crc l x < 4294967296
  | [], _, h => h
  | c :: l, _, h => crc_lt l _ (sh8_lt (xor_byte_lt h c))
theorem crc_inj : ∀ (l : List UInt8) (x y : Nat), x < 4294967296 → y < 4294967296 → crc l x = crc l y → x = y
  | [], _, _, _, _, h => h
  | c :: l, x, y, hx, hy, h => by
    have h1 := crc_inj l _ _ (sh8_lt (xor_byte_lt hx c)) (sh8_lt (xor_byte_lt hy c)) h
    have h2 := sh8_inj (xor_byte_lt hx c) (xor_byte_lt hy c) h1
    have := congrArg (· ^^^ c.toNat) h2
    simpa [Nat.xor_assoc] using this
theorem sum_lt (l : List UInt8) : sum l < 4294967296 := Nat.xor_lt_two_pow (n := 32) (crc_lt l _ (by decide)) (by decide)
theorem sum_eq {a b : List UInt8} : sum a = sum b ↔ crc a 4294967295 = crc b 4294967295 := by
  constructor
  · intro h
    have := congrArg (· ^^^ 4294967295) h
    simpa [sum, Nat.xor_assoc] using this
  · intro h; rw [sum, sum, h]
theorem top_lt : 4294967295 < 4294967296 := by decide
/-- The same behind both. -/
theorem sum_goesOn (a b m : List UInt8) : sum a = sum b ↔ sum (a ++ m) = sum (b ++ m) := by
  rw [sum_eq, sum_eq, crc_append, crc_append]
  constructor
  · intro h; rw [h]
  · exact crc_inj m _ _ (crc_lt a _ top_lt) (crc_lt b _ top_lt)
/-- One byte that is another one. -/
theorem sum_turned (p r : List UInt8) (c d : UInt8) : sum (p ++ c :: r) = sum (p ++ d :: r) ↔ c = d := by
  rw [sum_eq, crc_append, crc_append, crc_cons, crc_cons]
  constructor
  · intro h
    have hx := crc_lt p _ top_lt
    have h1 := crc_inj r _ _ (sh8_lt (xor_byte_lt hx c)) (sh8_lt (xor_byte_lt hx d)) h
    have h2 := sh8_inj (xor_byte_lt hx c) (xor_byte_lt hx d) h1
    have := congrArg (crc p 4294967295 ^^^ ·) h2
    simp only [← Nat.xor_assoc, Nat.xor_self, Nat.zero_xor] at this
    exact UInt8.toNat_inj.1 this
  · rintro rfl; rfl
/-- Two neighbours that change places. -/
theorem sum_swapped (p r : List UInt8) (c d : UInt8) : sum (p ++ c :: d :: r) = sum (p ++ d :: c :: r) ↔ c = d := by
  rw [sum_eq, crc_append, crc_append, crc_cons, crc_cons, crc_cons, crc_cons]
  constructor
  · intro h
    have hx := crc_lt p _ top_lt
    generalize crc p 4294967295 = x at *
    have h1 := crc_inj r _ _ (sh8_lt (xor_byte_lt (sh8_lt (xor_byte_lt hx c)) d)) (sh8_lt (xor_byte_lt (sh8_lt (xor_byte_lt hx d)) c)) h
    have h2 := sh8_inj (xor_byte_lt (sh8_lt (xor_byte_lt hx c)) d) (xor_byte_lt (sh8_lt (xor_byte_lt hx d)) c) h1
    rw [sh8_xor, sh8_xor] at h2
    have hc := byte_lt c
    have hd := byte_lt d
    apply UInt8.toNat_inj.1
    generalize c.toNat = C at *
    generalize d.toNat = D at *
    have h3 : sh8 C ^^^ D = sh8 D ^^^ C := by
      have := congrArg (sh8 x ^^^ ·) h2
      simpa only [← Nat.xor_assoc, Nat.xor_self, Nat.zero_xor] using this
    have h4 : sh8 (C ^^^ D) = C ^^^ D := by
      rw [sh8_xor]
      have := congrArg (fun t => t ^^^ (D ^^^ sh8 D)) h3
      have e1 : sh8 C ^^^ D ^^^ (D ^^^ sh8 D) = sh8 C ^^^ sh8 D := by rw [← Nat.xor_assoc, Nat.xor_assoc (sh8 C) D D, Nat.xor_self, Nat.xor_zero]
      have e2 : sh8 D ^^^ C ^^^ (D ^^^ sh8 D) = C ^^^ D := by
        rw [Nat.xor_comm (sh8 D) C, Nat.xor_assoc C, ← Nat.xor_assoc (sh8 D) D, Nat.xor_comm (sh8 D) D, Nat.xor_assoc D, Nat.xor_self, Nat.xor_zero]
      simp only [e1, e2] at this
      exact this
    have hl : C ^^^ D < 256 := Nat.xor_lt_two_pow (n := 8) hc hd
    have h5 : C ^^^ D = 0 := by
      generalize C ^^^ D = z at h4 hl ⊢
      have h6 := sh8_inj (a := z) (b := z * 256) (by omega) (by omega) (by rw [h4, sh8_high])
      omega
    exact eq_of_xor h5
  · rintro rfl; rfl
/-- Three strings of one length, turned into one another bit by bit. -/
def mix : List UInt8 → List UInt8 → List UInt8 → List UInt8
  | x :: a, y :: b, z :: c => (x ^^^ y ^^^ z) :: mix a b c
  | _, _, _ => []
theorem xor_swap (a b c d e f : Nat) : a ^^^ b ^^^ c ^^^ (d ^^^ e ^^^ f) = (a ^^^ d) ^^^ (b ^^^ e) ^^^ (c ^^^ f) := by
  apply Nat.eq_of_testBit_eq
  intro i
  simp only [Nat.testBit_xor]
  cases a.testBit i <;> cases b.testBit i <;> cases c.testBit i <;> cases d.testBit i <;> cases e.testBit i <;> cases f.testBit i <;> rfl
theorem crc_mix : ∀ (a b c : List UInt8) (x y z : Nat), a.length = b.length → b.length = c.length → crc (mix a b c) (x ^^^ y ^^^ z) = crc a x ^^^ crc b y ^^^ crc c z
  | [], [], [], _, _, _, _, _ => rfl
  | u :: a, v :: b, t :: c, x, y, z, h1, h2 => by
    rw [mix, crc_cons, crc_cons, crc_cons, crc_cons, UInt8.toNat_xor, UInt8.toNat_xor, xor_swap, sh8_xor, sh8_xor]
    exact crc_mix a b c _ _ _ (by simpa using h1) (by simpa using h2)
theorem sum_mix (a b c : List UInt8) (h1 : a.length = b.length) (h2 : b.length = c.length) : sum (mix a b c) = sum a ^^^ sum b ^^^ sum c := by
  have h := crc_mix a b c 4294967295 4294967295 4294967295 h1 h2
  rw [Nat.xor_self, Nat.zero_xor] at h
  rw [sum, sum, sum, sum, h]
  generalize crc a 4294967295 = x
  generalize crc b 4294967295 = y
  generalize crc c 4294967295 = z
  generalize 4294967295 = M
  apply Nat.eq_of_testBit_eq
  intro i
  simp only [Nat.testBit_xor]
  cases x.testBit i <;> cases y.testBit i <;> cases z.testBit i <;> cases M.testBit i <;> rfl
theorem sum_known : sum [49, 50, 51, 52, 53, 54, 55, 56, 57] = 3421780262 := by decide +kernel
theorem sum_nil : sum [] = 0 := by decide +kernel
end Go.Proofs.YtdbopgmckndmeaaDoor

namespace Go.Proofs.YtdbopgmckndmeaaDoor
open Go.RowKit

theorem and1_u32 (n : Nat) (h : n < 4294967296) : bits BinOp.and IntKind.u32 (n : Int) 1 = (n : Int) % 2 := by
  have := u32_and_nat n 1 h (by omega)
  rw [nat_mask1] at this
  rw [show (1 : Int) = ((1 : Nat) : Int) from rfl, this]; omega
theorem xor_poly (n : Nat) (h : n < 4294967296) : bits BinOp.xor IntKind.u32 ((n : Int) / 2) 3988292384 = ((n / 2 ^^^ 3988292384 : Nat) : Int) := by
  have := u32_xor_nat (n / 2) 3988292384 (by omega) (by omega)
  rw [← this]; rfl
theorem shN_step {k y x : Nat} (hk : k < 8) (h : shN (8 - k) y = sh8 x) : shN (8 - (k + 1)) (sh1 y) = sh8 x := by
  rw [← h, show 8 - k = (8 - (k + 1)) + 1 from by omega]; rfl

set_option maxHeartbeats 400000 in
theorem shiftByte_is (x : Nat) (hx : x < 4294967296) (w : World) :
    Calls Tryd.prog 123 #[.int .u32 (x : Int)] w fun e w' => e = .returned (.int .u32 (sh8 x : Nat)) ∧ w = w' := by
  have HX := Lib.hid hx
  clear hx
  go_enter Tryd.func123, Tryd.ntmps123
  go_wp2
  go_loop [0, 4] (fun r i => ∃ k y : Nat, k ≤ 8 ∧ i = .int .i64 k ∧ r = .int .u32 y ∧ Hid (y < 4294967296 ∧ shN (8 - k) y = sh8 x)) (fun _ i => 8 - (intOf i).toNat)
  case atStart => exact ⟨0, x, by omega, rfl, rfl, HX.out, rfl⟩
  case round =>
    obtain ⟨k, y, hk, rfl, rfl, H⟩ := hrel
    by_cases hlt : k < 8
    · have ha := and1_u32 y H.out.1
      by_cases ho : y % 2 = 1
      · have ho' : ((y : Int) % 2 == 1) = true := by simp; omega
        have hp := xor_poly y H.out.1
        have H2 : Hid (y / 2 ^^^ 3988292384 < 4294967296 ∧ shN (8 - (k + 1)) (y / 2 ^^^ 3988292384) = sh8 x) := by
          have e : sh1 y = y / 2 ^^^ 3988292384 := by unfold sh1; rw [if_pos ho]
          rw [← e]; exact ⟨sh1_lt H.out.1, shN_step hlt H.out.2⟩
        clear ho H
        generalize y / 2 ^^^ 3988292384 = y' at *
        go_wp2
        go_round
        case rel => exact ⟨k + 1, y', by omega, by go_num, rfl, H2⟩
        case measure => simp [intOf]; omega
      · have ho' : ((y : Int) % 2 == 1) = false := by simp; omega
        have H2 : Hid (y / 2 < 4294967296 ∧ shN (8 - (k + 1)) (y / 2) = sh8 x) := by
          have e : sh1 y = y / 2 := by unfold sh1; rw [if_neg ho]
          rw [← e]; exact ⟨sh1_lt H.out.1, shN_step hlt H.out.2⟩
        clear ho H
        go_wp2
        go_round
        case rel => exact ⟨k + 1, y / 2, by omega, by go_num, by go_num, H2⟩
        case measure => simp [intOf]; omega
    · have hy : y = sh8 x := by
        have := H.out.2
        rw [show 8 - k = 0 from by omega] at this; exact this
      have HY := Lib.hid hy
      clear hy
      go_wp2
      go_ret
      exact ⟨by rw [← HY.out]; rfl, rfl⟩
end Go.Proofs.YtdbopgmckndmeaaDoor

namespace Go.Proofs.YtdbopgmckndmeaaDoor
open Go.RowKit

/-- The table of the byte sums, its first k places filled. -/
def tab (k : Nat) : Array Value := ((List.range 256).map fun i => Value.int .u32 (if i < k then (sh8 i : Int) else 0)).toArray
theorem tab_size (k : Nat) : (tab k).size = 256 := by simp [tab]
theorem tab_at (k i : Nat) (h : i < 256) : (tab k)[i]? = some (.int .u32 (if i < k then (sh8 i : Int) else 0)) := by simp [tab, h]
theorem tab_set (k : Nat) (h : k < 256) : (tab k).setIfInBounds k (.int .u32 (sh8 k : Nat)) = tab (k + 1) := by
  apply Array.ext_getElem?
  intro i
  rw [Array.getElem?_setIfInBounds, tab_size]
  by_cases hi : i < 256
  · rw [tab_at k i hi, tab_at (k + 1) i hi]
    by_cases he : k = i
    · subst he; simp [h]
    · have e : (i < k + 1) = (i < k) := by apply propext; omega
      simp [he, e]
  · have hn : ∀ m, (tab m)[i]? = none := fun m => by rw [Array.getElem?_eq_none_iff, tab_size]; omega
    rw [hn, hn, if_neg (by omega)]
theorem run_zeroTab (w : World) : Sem.run Tryd.prog (zeroValue 137) w = .ok (.agg (tab 0)) w := by
  have e : Sem.run Tryd.prog (zeroValue 137) w = .ok (.agg (Array.replicate 256 (.int .u32 0))) w := by kernel_rfl
  have e2 : (Array.replicate 256 (.int .u32 0) : Array Value) = tab 0 := by
    apply Array.ext_getElem?
    intro i
    by_cases hi : i < 256
    · rw [tab_at 0 i hi]; simp [hi]
    · rw [Array.getElem?_eq_none_iff.2 (by simp; omega), Array.getElem?_eq_none_iff.2 (by rw [tab_size]; omega)]
  rw [e, e2]
theorem tab_all (k : Nat) : (tab k).all (·.oneCell') = true := by
  rw [Array.all_eq_true_iff_forall_mem]
  intro v hv
  simp [tab] at hv
  obtain ⟨i, _, rfl⟩ := hv
  rfl
theorem Tryd.infoTab (k : Nat) : (Tryd.prog.info? 137).map (·.size) = some (tab k).size := by
  rw [tab_size]; kernel_rfl

set_option maxRecDepth 100000 in
set_option maxHeartbeats 400000 in
theorem byteSums_is (w : World) :
    Calls Tryd.prog 109 #[] w fun e w' => e = .returned (.agg (tab 256)) ∧ Below w.heap.size w w' := by
  have hz := run_zeroTab
  go_enter Tryd.func109, Tryd.ntmps109
  go_wp2
  clear hz
  go_loopw [3] (fun i wr => ∃ k : Nat, k ≤ 256 ∧ i = .int .i64 k ∧ wr.heap[w.heap.size]? = some (.cells (tab 0) 137 (0, 0)) ∧ wr.heap[w.heap.size + 1]? = some (.cells (tab k) 137 (0, 0)) ∧ Below w.heap.size w wr) (fun i _ => 256 - (intOf i).toNat)
  case atStart => exact ⟨0, by omega, rfl, heap_alloc2_old _ _ _, heap_alloc2_new _ _ _, ((Below.refl _ _).alloc (Nat.le_refl _) _).alloc (by simp) _⟩
  case round =>
    obtain ⟨k, hk, rfl, h0, h1, hbel⟩ := hrel
    by_cases hlt : k < 256
    · have hc : wr.cell? ⟨w.heap.size + 1, k, none⟩ = some (.int .u32 0) := by
        rw [cell_of_row _ _ _ _ _ _ h1, tab_at k k hlt]; simp
      have hf : wr.frozen? ⟨w.heap.size + 1, k, none⟩ = false := frozen_of_row _ _ _ _ _ h1
      have H1 := Lib.hid h1
      have H0 := Lib.hid h0
      clear h0 h1
      go_wp2_with fail
      refine (shiftByte_is k (by omega) _).mono ?_
      rintro e w3 ⟨rfl, rfl⟩
      have HT := Lib.hid (tab_set k hlt)
      generalize sh8 k = v at *
      go_wp2
      go_roundw
      case rel => exact ⟨k + 1, by omega, by go_num, (heap_setCell_other _ _ _ _ (by simp)).trans H0.out, by rw [heap_setCell_same _ _ _ _ _ _ H1.out, HT.out], hbel.setCell (by simp) _⟩
      case measure => simp [intOf]; omega
    · obtain rfl : k = 256 := by omega
      have H1 := Lib.hid h1
      have H0 := Lib.hid h0
      clear h0 h1
      go_wp2_with (first | refine wpList_load_row rfl 137 _ rfl (w.heap.size + 1) rfl 137 (tab 256) (0, 0) _ H1.out Tryd.underlying137 rfl (Tryd.infoTab 256) ?_ | refine wpList_store_row rfl 137 _ _ rfl w.heap.size (tab 256) rfl rfl 137 (tab 0) H0.out (Tryd.infoTab 256) (by rw [tab_size, tab_size]) (tab_all 256) ?_)
      exact bodyPost_ret (v := .agg (tab 256)) (results_cell_row Tryd.results109 _ _ w.heap.size 137 (tab 256) (0, 0) _ rfl (setRow_heap _ _ _ _ _ _ H0.out) Tryd.underlying137 rfl (Tryd.infoTab 256)) rfl ⟨rfl, below_setRow hbel (Nat.le_refl _) _⟩
end Go.Proofs.YtdbopgmckndmeaaDoor

namespace Go.Proofs.YtdbopgmckndmeaaDoor
open Go.RowKit

theorem xor_u8 (x : Nat) (c : UInt8) : bits BinOp.xor IntKind.u8 ((x : Int) % 256) (c.toNat : Int) = ((x % 256 ^^^ c.toNat : Nat) : Int) := by
  have := u8_xor_nat (x % 256) c.toNat (by omega) (byte_lt c)
  rw [← this]; rfl
theorem xor_u32 (v x : Nat) (hv : v < 4294967296) (hx : x < 4294967296) : bits BinOp.xor IntKind.u32 (v : Int) ((x : Int) / 256) = ((v ^^^ x / 256 : Nat) : Int) := by
  have := u32_xor_nat v (x / 256) hv (by omega)
  rw [← this]; rfl
theorem not_u32 (x : Nat) (hx : x < 4294967296) : bits BinOp.xor IntKind.u32 IntKind.u32.max (x : Int) = ((x ^^^ 4294967295 : Nat) : Int) := by
  have := u32_xor_nat 4294967295 x (by omega) hx
  rw [Nat.xor_comm] at this
  rw [← this]; rfl
theorem take_snoc (s : ByteArray) (k : Nat) (h : k < s.size) : s.data.toList.take (k + 1) = s.data.toList.take k ++ [s[k]] := by
  rw [List.take_succ_eq_append_getElem (by simpa using h)]; rfl
theorem crc_snoc (s : ByteArray) (k x : Nat) (h : k < s.size) (hx : crc (s.data.toList.take k) 4294967295 = x) : crc (s.data.toList.take (k + 1)) 4294967295 = sh8 (x ^^^ s[k].toNat) := by
  rw [take_snoc s k h, crc_append, hx]; rfl

set_option maxRecDepth 100000 in
set_option maxHeartbeats 400000 in
theorem sum_is (s : ByteArray) (hs : s.size ≤ maxLen) (w : World) :
    Calls Tryd.prog 86 #[.string s] w fun e w' => e = .returned (.int .u32 (sum s.data.toList : Nat)) ∧ Below w.heap.size w w' := by
  unfold maxLen at hs
  have hz := run_zeroTab
  go_enter Tryd.func86, Tryd.ntmps86
  go_wp2_with fail
  refine (byteSums_is _).mono ?_
  rintro e w1 ⟨rfl, hb1⟩
  have hbel : Below w.heap.size w (w1.alloc (.cells (tab 0) 137)) := hb1.alloc hb1.size _
  go_wp2_with (refine wpList_store_row rfl 137 _ _ rfl w1.heap.size (tab 256) rfl rfl 137 (tab 0) (heap_alloc_new _ _) (Tryd.infoTab 256) (by rw [tab_size, tab_size]) (tab_all 256) ?_)
  clear hz
  go_loopw [4, 9] (fun r i wr => ∃ k x : Nat, k ≤ s.size ∧ i = .int .i64 k ∧ r = .int .u32 x ∧ wr.heap[w1.heap.size]? = some (.cells (tab 256) 137 (0, 0)) ∧ Below w.heap.size w wr ∧ Hid (x < 4294967296 ∧ crc (s.data.toList.take k) 4294967295 = x)) (fun _ i _ => s.size - (intOf i).toNat)
  case atStart => exact ⟨0, 4294967295, by omega, rfl, rfl, setRow_heap _ _ _ _ _ _ (heap_alloc_new _ _), below_setRow hbel hb1.size _, by decide, rfl⟩
  case round =>
    obtain ⟨k, x, hk, rfl, rfl, h1, hbr, H⟩ := hrel
    clear hbel hb1
    by_cases hlt : k < s.size
    · obtain ⟨d, hd⟩ : ∃ d, d = x % 256 ^^^ s[k].toNat := ⟨_, rfl⟩
      have hd8 : d < 256 := by rw [hd]; exact Nat.xor_lt_two_pow (n := 8) (by omega) (byte_lt _)
      have hx8 : bits BinOp.xor IntKind.u8 ((x : Int) % 256) (s[k].toNat : Int) = (d : Int) := by rw [hd]; exact xor_u8 _ _
      obtain ⟨v, hv⟩ : ∃ v, v = sh8 d := ⟨_, rfl⟩
      have hc : wr.cell? ⟨w1.heap.size, d, none⟩ = some (.int .u32 (v : Int)) := by
        rw [cell_of_row _ _ _ _ _ _ h1, tab_at 256 d hd8, if_pos hd8, hv]
      obtain ⟨y, hy⟩ : ∃ y, y = v ^^^ x / 256 := ⟨_, rfl⟩
      have hx32 : bits BinOp.xor IntKind.u32 (v : Int) ((x : Int) / 256) = (y : Int) := by
        rw [hy]; exact xor_u32 _ _ (by rw [hv]; exact sh8_lt (by omega)) H.out.1
      have H2 : Hid (y < 4294967296 ∧ crc (s.data.toList.take (k + 1)) 4294967295 = y) := by
        have e : y = sh8 (x ^^^ s[k].toNat) := by rw [hy, hv, hd]; exact (sh8_table _ _).symm
        have h2 := crc_snoc s k x hlt H.out.2
        rw [e]; exact ⟨sh8_lt (xor_byte_lt H.out.1 _), h2⟩
      have H1 := Lib.hid h1
      clear hd hv hy h1 H
      go_wp2
      go_roundw
      case rel => exact ⟨k + 1, y, by omega, by go_num, rfl, H1.out, hbr, H2⟩
      case measure => simp [intOf]; omega
    · obtain rfl : k = s.size := by omega
      have hn := not_u32 x H.out.1
      have HS : Hid (x ^^^ 4294967295 = sum s.data.toList) := by
        have h2 := H.out.2
        rw [List.take_of_length_le (by simp)] at h2
        show _ = _
        rw [sum, h2]
      clear H h1
      generalize x ^^^ 4294967295 = z at *
      go_wp2
      go_ret
      exact ⟨by rw [← HS.out]; rfl, hbr⟩
end Go.Proofs.YtdbopgmckndmeaaDoor

namespace Go.Proofs.YtdbopgmckndmeaaDoor
open Go.RowKit

theorem sum_val (s : ByteArray) (n : Nat) (h : sum s.data.toList = n) (hs : s.size ≤ maxLen) (w : World) :
    Calls Tryd.prog 86 #[.string s] w fun e w' => e = .returned (.int .u32 (n : Int)) ∧ Below w.heap.size w w' := by
  have := sum_is s hs w
  rwa [h] at this
theorem sum_nine (w : World) :
    Calls Tryd.prog 86 #[.string ⟨#[49, 50, 51, 52, 53, 54, 55, 56, 57]⟩] w fun e w' => e = .returned (.int .u32 3421780262) ∧ Below w.heap.size w w' :=
  sum_val ⟨#[49, 50, 51, 52, 53, 54, 55, 56, 57]⟩ 3421780262 sum_known (by decide) w
theorem below2 {a b c : World} (h1 : Below a.heap.size a b) (h2 : Below b.heap.size b c) : Below a.heap.size a c := h1.trans (h2.mono h1.size)
end Go.Proofs.YtdbopgmckndmeaaDoor
