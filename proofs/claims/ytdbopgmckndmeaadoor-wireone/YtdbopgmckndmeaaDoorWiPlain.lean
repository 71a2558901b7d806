/- Plain facts on the wire format of states (no program): its code, in a version. U stands for 'is valid UTF-8'. -/
import Derived.Test.YtdbopgmckndmeaaDoorWiCodec
import Derived.Test.YtdbopgmckndmeaaDoorPlainN
import Derived.Test.YtdbopgmckndmeaaDoorStPlain
namespace Go.Proofs.YtdbopgmckndmeaaDoor

/-- A number of at most 'most'. -/
def numD (most : Nat) : Dec Nat := fun l => if (rd l).2.2 ≠ 0 then .inl (rd l).2.2 else if most < (rd l).1 then .inl 2 else .inr ((rd l).1, l.drop (rd l).2.1)
theorem numC (most : Nat) (h : most < 18446744073709551616) : Codec (fun n : Nat => n ≤ most) num (numD most) where
  back := by
    intro n m hn
    unfold numD
    rw [rd_num (by omega) m, if_neg (by simp), if_neg (by omega)]
    simp
  sound := by
    intro l n m hd
    unfold numD at hd
    by_cases h0 : (rd l).2.2 ≠ 0
    · rw [if_pos h0] at hd; cases hd
    · rw [if_neg h0] at hd
      by_cases h1 : most < (rd l).1
      · rw [if_pos h1] at hd; cases hd
      · rw [if_neg h1] at hd
        simp only [Sum.inr.injEq, Prod.mk.injEq] at hd
        obtain ⟨rfl, rfl⟩ := hd
        have h2 := rd_ok (by simpa using h0)
        refine ⟨by omega, ?_⟩
        rw [h2.2.2.2.1, List.take_append_drop]
  cut := by
    intro n k hn hk
    have h2 := rd_ok (l := num n) (by have := rd_num (n := n) (by omega) []; rw [List.append_nil] at this; rw [this])
    have h3 : rd (num n) = (n, (num n).length, 0) := by have := rd_num (n := n) (by omega) []; rwa [List.append_nil] at this
    have h4 := h2.2.2.2.2 k (by rw [h3]; exact hk)
    unfold numD
    rw [h4]; simp
section
variable (U : ByteArray → Bool)
/-- A text. -/
def textE (s : ByteArray) : List UInt8 := num s.size ++ s.data.toList
def textD : Dec ByteArray := bindD (numD 16) fun n => fun l => if l.length < n then .inl 3 else if U ⟨(l.take n).toArray⟩ = true then .inr (⟨(l.take n).toArray⟩, l.drop n) else .inl 4
theorem bytesC (n : Nat) : Codec (fun s : ByteArray => s.size = n ∧ U s = true) (fun s => s.data.toList) (fun l => if l.length < n then .inl 3 else if U ⟨(l.take n).toArray⟩ = true then .inr (⟨(l.take n).toArray⟩, l.drop n) else .inl 4) where
  back := by
    rintro ⟨⟨s⟩⟩ m ⟨hn, hu⟩
    have hn : s.length = n := hn
    have e : (s ++ m).take n = s := by rw [← hn]; simp
    simp only
    rw [if_neg (by simp; omega), e, if_pos hu, ← hn]
    simp
  sound := by
    intro l s m h
    by_cases h1 : l.length < n
    · rw [if_pos h1] at h; cases h
    · rw [if_neg h1] at h
      by_cases h2 : U ⟨(l.take n).toArray⟩ = true
      · rw [if_pos h2] at h
        simp only [Sum.inr.injEq, Prod.mk.injEq] at h
        obtain ⟨rfl, rfl⟩ := h
        refine ⟨⟨?_, h2⟩, by simp⟩
        show (l.take n).toArray.size = n
        simp; omega
      · rw [if_neg h2] at h; cases h
  cut := by
    rintro s k ⟨hn, _⟩ hk
    have hl : s.data.toList.length = s.size := by rw [Array.length_toList]; rfl
    rw [if_pos (by rw [List.length_take]; omega)]
theorem textC : Codec (fun s : ByteArray => isNote U s = true) textE (textD U) := by
  have c := Codec.seq (numC 16 (by omega)) (fun n _ => bytesC U n)
  have c2 := Codec.iso c (fun x => x.2) (fun s => (s.size, s)) (fun s => isNote U s = true) (fun s hs => by
    simp only [isNote, Bool.and_eq_true, decide_eq_true_eq] at hs
    exact ⟨⟨hs.1, rfl, hs.2⟩, rfl⟩) (fun x hx => by
    obtain ⟨n, s⟩ := x
    obtain ⟨h1, h2, h3⟩ := hx
    simp only at h1 h2 h3
    subst h2
    exact ⟨by simp [isNote, h1, h3], rfl⟩)
  have e : textD U = bindD (bindD (numD 16) fun a => bindD (fun l => if l.length < a then .inl 3 else if U ⟨(l.take a).toArray⟩ = true then .inr (⟨(l.take a).toArray⟩, l.drop a) else .inl 4) fun b => pureD (a, b)) fun a => pureD a.2 := by
    funext l
    unfold textD bindD
    cases numD 16 l with
    | inl e => rfl
    | inr x =>
      simp only
      split
      · rfl
      · split <;> rfl
  rw [e]
  exact c2
end
/-- A number that is not negative, up to 2^62; one with a sign. -/
def intE (n : Int) : List UInt8 := num n.toNat
def intD : Dec Int := bindD (numD 4611686018427387904) fun n => pureD (n : Int)
theorem intC : Codec (fun n : Int => 0 ≤ n ∧ n ≤ 4611686018427387904) intE intD :=
  Codec.iso (numC 4611686018427387904 (by omega)) (fun n => (n : Int)) Int.toNat _ (fun n h => ⟨by omega, by omega⟩) (fun n h => ⟨⟨by omega, by omega⟩, by omega⟩)
def zigE (n : Int) : List UInt8 := num (zig n).toNat
def zigD : Dec Int := bindD (numD 4611686018427387904) fun n => pureD (zag (n : Int))
theorem zigC : Codec (fun n : Int => zig n ≤ 4611686018427387904) zigE zigD :=
  Codec.iso (numC 4611686018427387904 (by omega)) (fun n => zag (n : Int)) (fun n => (zig n).toNat) _ (fun n h => by
    have h0 := zig_lo n
    have e : (((zig n).toNat : Nat) : Int) = zig n := by omega
    exact ⟨by omega, by rw [e, zag_zig]⟩) (fun n h => by
    have e : zig (zag (n : Int)) = (n : Int) := zig_zag _ (by omega)
    exact ⟨by rw [e]; omega, by rw [e]; omega⟩)
end Go.Proofs.YtdbopgmckndmeaaDoor
