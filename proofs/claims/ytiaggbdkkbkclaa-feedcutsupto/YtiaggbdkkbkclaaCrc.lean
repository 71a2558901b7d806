/- Plain facts on the checksum's register (no program): the shifts are linear and lose nothing; so a changed byte, or two neighbours exchanged, always show. -/
import Derived.Laws.BitsAllLaws
namespace Go.Proofs.Ytiaggbdkkbkclaa

def sh1 (x : Nat) : Nat := if x % 2 = 1 then (x / 2) ^^^ 3988292384 else x / 2
def shN : Nat → Nat → Nat
  | 0, x => x
  | n + 1, x => shN n (sh1 x)
def sh8 (x : Nat) : Nat := shN 8 x
def crc (l : List UInt8) (x : Nat) : Nat := l.foldl (fun y c => sh8 (y ^^^ c.toNat)) x
def sum (l : List UInt8) : Nat := crc l 4294967295 ^^^ 4294967295

theorem xor_div2 (a b : Nat) : (a ^^^ b) / 2 = a / 2 ^^^ b / 2 := by
  have h := Nat.shiftRight_xor_distrib (a := a) (b := b) (i := 1)
  simpa [Nat.shiftRight_eq_div_pow] using h
theorem xor_mod2 (a b : Nat) : (a ^^^ b) % 2 = (a % 2 + b % 2) % 2 := by
  have h := Nat.xor_mod_two_pow (a := a) (b := b) (n := 1)
  have e : (a ^^^ b) % 2 = a % 2 ^^^ b % 2 := by simpa using h
  rw [e]
  rcases Nat.mod_two_eq_zero_or_one a with h1 | h1 <;> rcases Nat.mod_two_eq_zero_or_one b with h2 | h2 <;> rw [h1, h2] <;> rfl
theorem sh1_lt {x : Nat} (h : x < 4294967296) : sh1 x < 4294967296 := by
  unfold sh1
  split
  · exact Nat.xor_lt_two_pow (n := 32) (by omega) (by omega)
  · omega
theorem sh1_xor (a b : Nat) : sh1 (a ^^^ b) = sh1 a ^^^ sh1 b := by
  unfold sh1
  rw [xor_mod2, xor_div2]
  generalize a / 2 = p
  generalize b / 2 = q
  generalize 3988292384 = P
  rcases Nat.mod_two_eq_zero_or_one a with h1 | h1 <;> rcases Nat.mod_two_eq_zero_or_one b with h2 | h2 <;> rw [h1, h2] <;> simp
  · rw [Nat.xor_assoc]
  · rw [Nat.xor_assoc, Nat.xor_assoc, Nat.xor_comm P q]
  · rw [Nat.xor_comm q P, ← Nat.xor_assoc (p ^^^ P) P q, Nat.xor_assoc p P P, Nat.xor_self, Nat.xor_zero]
theorem sh1_zero {z : Nat} (h : z < 4294967296) (h0 : sh1 z = 0) : z = 0 := by
  unfold sh1 at h0
  split at h0
  · have : z / 2 = 3988292384 := by
      have := congrArg (· ^^^ 3988292384) h0
      simpa [Nat.xor_assoc] using this
    omega
  · omega
theorem shN_lt : ∀ (n x : Nat), x < 4294967296 → shN n x < 4294967296
  | 0, _, h => h
  | n + 1, _, h => shN_lt n _ (sh1_lt h)
theorem shN_xor : ∀ (n a b : Nat), shN n (a ^^^ b) = shN n a ^^^ shN n b
  | 0, _, _ => rfl
  | n + 1, a, b => by rw [shN, shN, shN, sh1_xor, shN_xor n]
theorem shN_zero : ∀ (n z : Nat), z < 4294967296 → shN n z = 0 → z = 0
  | 0, _, _, h0 => h0
  | n + 1, _, h, h0 => sh1_zero h (shN_zero n _ (sh1_lt h) h0)
theorem shN_low : ∀ (n y : Nat), shN n (y * 2 ^ n) = y
  | 0, y => by simp [shN]
  | n + 1, y => by
    have e : sh1 (y * 2 ^ (n + 1)) = y * 2 ^ n := by
      have e1 : y * 2 ^ (n + 1) = y * 2 ^ n * 2 := by rw [Nat.pow_succ, Nat.mul_assoc]
      unfold sh1
      rw [e1, if_neg (by omega)]; omega
    rw [shN, e, shN_low n y]
theorem sh8_lt {x : Nat} (h : x < 4294967296) : sh8 x < 4294967296 := shN_lt 8 x h
theorem sh8_xor (a b : Nat) : sh8 (a ^^^ b) = sh8 a ^^^ sh8 b := shN_xor 8 a b
theorem sh8_high (y : Nat) : sh8 (y * 256) = y := shN_low 8 y
theorem eq_of_xor {a b : Nat} (h : a ^^^ b = 0) : a = b := by
  have := congrArg (· ^^^ b) h
  simpa [Nat.xor_assoc] using this
theorem sh8_inj {a b : Nat} (ha : a < 4294967296) (hb : b < 4294967296) (h : sh8 a = sh8 b) : a = b := by
  apply eq_of_xor
  refine shN_zero 8 _ (Nat.xor_lt_two_pow (n := 32) ha hb) ?_
  have := sh8_xor a b
  rw [h, Nat.xor_self] at this
  exact this
theorem byte_lt (c : UInt8) : c.toNat < 256 := c.toNat_lt
/-- The step by the table: the low eight bits by the table, the others moved down. -/
theorem sh8_table (x c : Nat) : sh8 (x ^^^ c) = sh8 (x % 256 ^^^ c) ^^^ x / 256 := by
  have e : x = x % 256 ^^^ x / 256 * 256 := by
    have h := nat_join 8 (x / 256 * 256) (x % 256) (by omega) (by omega)
    have hx : x / 256 * 256 ^^^ x % 256 = x / 256 * 256 ||| x % 256 := by
      apply Nat.eq_of_testBit_eq
      intro i
      rw [Nat.testBit_xor, Nat.testBit_or]
      have h1 : (x / 256 * 256).testBit i = (decide (8 ≤ i) && (x / 256).testBit (i - 8)) := by
        have := Nat.testBit_shiftLeft (x := x / 256) (i := 8) (j := i)
        rw [Nat.shiftLeft_eq] at this
        simpa using this
      have h2 : (x % 256).testBit i = (decide (i < 8) && x.testBit i) := Nat.testBit_mod_two_pow x 8 i
      rw [h1, h2]
      by_cases hi : i < 8
      · simp [hi, show ¬ 8 ≤ i by omega]
      · simp [hi]
    rw [Nat.xor_comm, hx, h]; omega
  have e2 : x ^^^ c = (x % 256 ^^^ c) ^^^ x / 256 * 256 := by
    conv => lhs; rw [e]
    rw [Nat.xor_assoc, Nat.xor_comm _ c, ← Nat.xor_assoc]
  rw [e2, sh8_xor, sh8_high]
theorem xor_byte_lt {x : Nat} (h : x < 4294967296) (c : UInt8) : x ^^^ c.toNat < 4294967296 :=
  Nat.xor_lt_two_pow (n := 32) h (by have := byte_lt c; omega)
theorem crc_cons (c : UInt8) (l : List UInt8) (x : Nat) : crc (c :: l) x = crc l (sh8 (x ^^^ c.toNat)) := rfl
theorem crc_append (a b : List UInt8) (x : Nat) : crc (a ++ b) x = crc b (crc a x) := by simp [crc, List.foldl_append]
theorem crc_lt : ∀ (l : List UInt8) (x : Nat), x < 4294967296 → crc l x < 4294967296
  | [], _, h => h
  | c :: l, _, h => crc_lt l _ (sh8_lt (xor_byte_lt h c))
theorem crc_inj : ∀ (l : List UInt8) (x y : Nat), x < 4294967296 → y < 4294967296 → crc l x = crc l y → x = y
  | [], _, _, _, _, h => h
  | c :: l, x, y, hx, hy, h => by
    have h1 := crc_inj l _ _ (sh8_lt (xor_byte_lt hx c)) (sh8_lt (xor_byte_lt hy c)) h
    have h2 := sh8_inj (xor_byte_lt hx c) (xor_byte_lt hy c) h1
    have := congrArg (· ^^^ c.toNat) h2
    simpa [Nat.xor_assoc] using this
theorem sum_lt (l : List UInt8) : sum l < 4294967296 := Nat.xor_lt_two_pow (n := 32) (crc_lt l _ (by decide)) (by decide)
theorem sum_eq {a b : List UInt8} : sum a = sum b ↔ crc a 4294967295 = crc b 4294967295 := by
  constructor
  · intro h
    have := congrArg (· ^^^ 4294967295) h
    simpa [sum, Nat.xor_assoc] using this
  · intro h; rw [sum, sum, h]
theorem top_lt : 4294967295 < 4294967296 := by decide
/-- The same behind both. -/
theorem sum_goesOn (a b m : List UInt8) : sum a = sum b ↔ sum (a ++ m) = sum (b ++ m) := by
  rw [sum_eq, sum_eq, crc_append, crc_append]
  constructor
  · intro h; rw [h]
  · exact crc_inj m _ _ (crc_lt a _ top_lt) (crc_lt b _ top_lt)
/-- One byte that is another one. -/
theorem sum_turned (p r : List UInt8) (c d : UInt8) : sum (p ++ c :: r) = sum (p ++ d :: r) ↔ c = d := by
  rw [sum_eq, crc_append, crc_append, crc_cons, crc_cons]
  constructor
  · intro h
    have hx := crc_lt p _ top_lt
    have h1 := crc_inj r _ _ (sh8_lt (xor_byte_lt hx c)) (sh8_lt (xor_byte_lt hx d)) h
    have h2 := sh8_inj (xor_byte_lt hx c) (xor_byte_lt hx d) h1
    have := congrArg (crc p 4294967295 ^^^ ·) h2
    simp only [← Nat.xor_assoc, Nat.xor_self, Nat.zero_xor] at this
    exact UInt8.toNat_inj.1 this
  · rintro rfl; rfl
/-- Two neighbours that change places. -/
theorem sum_swapped (p r : List UInt8) (c d : UInt8) : sum (p ++ c :: d :: r) = sum (p ++ d :: c :: r) ↔ c = d := by
  rw [sum_eq, crc_append, crc_append, crc_cons, crc_cons, crc_cons, crc_cons]
  constructor
  · intro h
    have hx := crc_lt p _ top_lt
    generalize crc p 4294967295 = x at *
    have h1 := crc_inj r _ _ (sh8_lt (xor_byte_lt (sh8_lt (xor_byte_lt hx c)) d)) (sh8_lt (xor_byte_lt (sh8_lt (xor_byte_lt hx d)) c)) h
    have h2 := sh8_inj (xor_byte_lt (sh8_lt (xor_byte_lt hx c)) d) (xor_byte_lt (sh8_lt (xor_byte_lt hx d)) c) h1
    rw [sh8_xor, sh8_xor] at h2
    have hc := byte_lt c
    have hd := byte_lt d
    apply UInt8.toNat_inj.1
    generalize c.toNat = C at *
    generalize d.toNat = D at *
    have h3 : sh8 C ^^^ D = sh8 D ^^^ C := by
      have := congrArg (sh8 x ^^^ ·) h2
      simpa only [← Nat.xor_assoc, Nat.xor_self, Nat.zero_xor] using this
    have h4 : sh8 (C ^^^ D) = C ^^^ D := by
      rw [sh8_xor]
      have := congrArg (fun t => t ^^^ (D ^^^ sh8 D)) h3
      have e1 : sh8 C ^^^ D ^^^ (D ^^^ sh8 D) = sh8 C ^^^ sh8 D := by rw [← Nat.xor_assoc, Nat.xor_assoc (sh8 C) D D, Nat.xor_self, Nat.xor_zero]
      have e2 : sh8 D ^^^ C ^^^ (D ^^^ sh8 D) = C ^^^ D := by
        rw [Nat.xor_comm (sh8 D) C, Nat.xor_assoc C, ← Nat.xor_assoc (sh8 D) D, Nat.xor_comm (sh8 D) D, Nat.xor_assoc D, Nat.xor_self, Nat.xor_zero]
      simp only [e1, e2] at this
      exact this
    have hl : C ^^^ D < 256 := Nat.xor_lt_two_pow (n := 8) hc hd
    have h5 : C ^^^ D = 0 := by
      generalize C ^^^ D = z at h4 hl ⊢
      have h6 := sh8_inj (a := z) (b := z * 256) (by omega) (by omega) (by rw [h4, sh8_high])
      omega
    exact eq_of_xor h5
  · rintro rfl; rfl
/-- Three strings of one length, turned into one another bit by bit. -/
def mix : List UInt8 → List UInt8 → List UInt8 → List UInt8
  | x :: a, y :: b, z :: c => (x ^^^ y ^^^ z) :: mix a b c
  | _, _, _ => []
theorem xor_swap (a b c d e f : Nat) : a ^^^ b ^^^ c ^^^ (d ^^^ e ^^^ f) = (a ^^^ d) ^^^ (b ^^^ e) ^^^ (c ^^^ f) := by
  apply Nat.eq_of_testBit_eq
  intro i
  simp only [Nat.testBit_xor]
  cases a.testBit i <;> cases b.testBit i <;> cases c.testBit i <;> cases d.testBit i <;> cases e.testBit i <;> cases f.testBit i <;> rfl
theorem crc_mix : ∀ (a b c : List UInt8) (x y z : Nat), a.length = b.length → b.length = c.length → crc (mix a b c) (x ^^^ y ^^^ z) = crc a x ^^^ crc b y ^^^ crc c z
  | [], [], [], _, _, _, _, _ => rfl
  | u :: a, v :: b, t :: c, x, y, z, h1, h2 => by
    rw [mix, crc_cons, crc_cons, crc_cons, crc_cons, UInt8.toNat_xor, UInt8.toNat_xor, xor_swap, sh8_xor, sh8_xor]
    exact crc_mix a b c _ _ _ (by simpa using h1) (by simpa using h2)
theorem sum_mix (a b c : List UInt8) (h1 : a.length = b.length) (h2 : b.length = c.length) : sum (mix a b c) = sum a ^^^ sum b ^^^ sum c := by
  have h := crc_mix a b c 4294967295 4294967295 4294967295 h1 h2
  rw [Nat.xor_self, Nat.zero_xor] at h
  rw [sum, sum, sum, sum, h]
  generalize crc a 4294967295 = x
  generalize crc b 4294967295 = y
  generalize crc c 4294967295 = z
  generalize 4294967295 = M
  apply Nat.eq_of_testBit_eq
  intro i
  simp only [Nat.testBit_xor]
  cases x.testBit i <;> cases y.testBit i <;> cases z.testBit i <;> cases M.testBit i <;> rfl
theorem sum_known : sum [49, 50, 51, 52, 53, 54, 55, 56, 57] = 3421780262 := by decide +kernel
theorem sum_nil : sum [] = 0 := by decide +kernel
end Go.Proofs.Ytiaggbdkkbkclaa
