import Derived.Test.YtdbopgmckndmeaaDoorPkNum
import Derived.Test.YtdbopgmckndmeaaDoorPkSum
import Derived.Test.YtdbopgmckndmeaaDoorRows
import Derived.WalkKit
import Derived.WalkSpells
import Derived.ProofKit
import Derived.Below
import Derived.Lib.Hide
import Derived.Deep.RegionHeld3
import Derived.Deep.QuietTactic
import Derived.BigQuiet
import Derived.Test.YtdbopgmckndmeaaDoorPkTxt
import Derived.RegionTactic
import Derived.BigRegion
import Derived.Lib.SmallJoins
import Derived.OpenShut
import Derived.ShutString
import Derived.SizedLaws
import Derived.ChangeOld
import Derived.Test.YtdbopgmckndmeaaDoorRest
/- Plain facts on frames (no program): the bytes of a frame, what decoding answers, and that a changed byte always shows. -/
namespace Go.Proofs.YtdbopgmckndmeaaDoor

/-- The four bytes of a number below 2^32, the most significant first. -/
def be4 (x : Nat) : List UInt8 := [UInt8.ofNat (x / 16777216), UInt8.ofNat (x / 65536), UInt8.ofNat (x / 256), UInt8.ofNat x]
def sum4 (l : List UInt8) : List UInt8 := be4 (sum l)
theorem be4_length (x : Nat) : (be4 x).length = 4 := rfl
theorem sum4_length (l : List UInt8) : (sum4 l).length = 4 := rfl
theorem ofNat_eq {a b : Nat} (h : UInt8.ofNat a = UInt8.ofNat b) : a % 256 = b % 256 := by
  have := congrArg UInt8.toNat h
  simpa using this
theorem be4_inj {x y : Nat} (hx : x < 4294967296) (hy : y < 4294967296) (h : be4 x = be4 y) : x = y := by
  simp only [be4, List.cons.injEq, and_true] at h
  obtain ⟨h1, h2, h3, h4⟩ := h
  have a1 := ofNat_eq h1
  have a2 := ofNat_eq h2
  have a3 := ofNat_eq h3
  have a4 := ofNat_eq h4
  omega
theorem sum4_inj {a b : List UInt8} (h : sum4 a = sum4 b) : sum a = sum b := be4_inj (sum_lt a) (sum_lt b) h

/-- The bytes of a frame ahead of its checksum; the whole frame. -/
def bodyL (v k : Nat) (p : List UInt8) : List UInt8 := 66 :: 75 :: UInt8.ofNat v :: UInt8.ofNat k :: (num p.length ++ p)
def encL (v k : Nat) (p : List UInt8) : List UInt8 := bodyL v k p ++ sum4 (bodyL v k p)
def goodF (v k : Nat) (p : List UInt8) : Prop := 1 ≤ v ∧ v ≤ 3 ∧ 1 ≤ k ∧ k ≤ 4 ∧ p.length ≤ 6000
/-- The error of the four bytes ahead of the length (0: none), from the fourth, the third, the second, the first byte on. -/
def hd3 : List UInt8 → Nat
  | [] => 3
  | d :: _ => if ¬ (1 ≤ d.toNat ∧ d.toNat ≤ 4) then 1 else 0
def hd2 : List UInt8 → Nat
  | [] => 3
  | c :: r => if ¬ (1 ≤ c.toNat ∧ c.toNat ≤ 3) then 1 else hd3 r
def hd1 : List UInt8 → Nat
  | [] => 3
  | b :: r => if b ≠ 75 then 4 else hd2 r
def headE : List UInt8 → Nat
  | [] => 3
  | a :: r => if a ≠ 66 then 4 else hd1 r
/-- What decoding answers: version, kind, payload, length, error. -/
def decL (l : List UInt8) : Nat × Nat × List UInt8 × Nat × Nat :=
  if headE l ≠ 0 then (0, 0, [], 0, headE l)
  else if (rd (l.drop 4)).2.2 ≠ 0 then (0, 0, [], 0, (rd (l.drop 4)).2.2)
  else if 6000 < (rd (l.drop 4)).1 then (0, 0, [], 0, 2)
  else if l.length < 8 + (rd (l.drop 4)).2.1 + (rd (l.drop 4)).1 then (0, 0, [], 0, 3)
  else if (l.drop (4 + (rd (l.drop 4)).2.1 + (rd (l.drop 4)).1)).take 4 ≠ sum4 (l.take (4 + (rd (l.drop 4)).2.1 + (rd (l.drop 4)).1)) then (0, 0, [], 0, 5)
  else ((l.getD 2 0).toNat, (l.getD 3 0).toNat, (l.drop (4 + (rd (l.drop 4)).2.1)).take (rd (l.drop 4)).1, 8 + (rd (l.drop 4)).2.1 + (rd (l.drop 4)).1, 0)

theorem bodyL_length (v k : Nat) (p : List UInt8) : (bodyL v k p).length = 4 + (num p.length).length + p.length := by simp [bodyL]; omega
theorem encL_length (v k : Nat) (p : List UInt8) : (encL v k p).length = 8 + (num p.length).length + p.length := by simp [encL, bodyL_length, sum4_length]; omega
theorem byte_of {n : Nat} (h : n < 256) : (UInt8.ofNat n).toNat = n := by simp; omega

/-- The five things that the first four bytes can be. -/
theorem headE_zero {l : List UInt8} (h : headE l = 0) : ∃ c d r, l = 66 :: 75 :: c :: d :: r ∧ 1 ≤ c.toNat ∧ c.toNat ≤ 3 ∧ 1 ≤ d.toNat ∧ d.toNat ≤ 4 := by
  match l, h with
  | [], h => simp [headE] at h
  | [a], h => simp only [headE, hd1] at h; split at h <;> simp at h
  | [a, b], h => simp only [headE, hd1, hd2] at h; split at h <;> (try split at h) <;> simp at h
  | [a, b, c], h => simp only [headE, hd1, hd2, hd3] at h; split at h <;> (try split at h) <;> (try split at h) <;> simp at h
  | a :: b :: c :: d :: r, h =>
    simp only [headE, hd1, hd2, hd3] at h
    split at h
    · simp at h
    · rename_i ha
      split at h
      · simp at h
      · rename_i hb
        split at h
        · simp at h
        · rename_i hc
          split at h
          · simp at h
          · rename_i hd
            have ha : a = 66 := by simpa using ha
            have hb : b = 75 := by simpa using hb
            subst ha hb
            exact ⟨c, d, r, rfl, by omega, by omega, by omega, by omega⟩
theorem headE_good {c d : UInt8} {r : List UInt8} (h : 1 ≤ c.toNat ∧ c.toNat ≤ 3 ∧ 1 ≤ d.toNat ∧ d.toNat ≤ 4) : headE (66 :: 75 :: c :: d :: r) = 0 := by
  simp only [headE, hd1, hd2, hd3]
  rw [if_neg (by simp), if_neg (by simp), if_neg (by omega), if_neg (by omega)]

theorem decL_enc {v k : Nat} {p : List UInt8} (h : goodF v k p) (more : List UInt8) : decL (encL v k p ++ more) = (v, k, p, (encL v k p).length, 0) := by
  obtain ⟨h1, h2, h3, h4, h5⟩ := h
  have hl := bodyL_length v k p
  have e0 : encL v k p ++ more = 66 :: 75 :: UInt8.ofNat v :: UInt8.ofNat k :: (num p.length ++ (p ++ (sum4 (bodyL v k p) ++ more))) := by simp [encL, bodyL]
  have e1 : encL v k p ++ more = bodyL v k p ++ (sum4 (bodyL v k p) ++ more) := by simp [encL]
  have hv : (UInt8.ofNat v).toNat = v := byte_of (by omega)
  have hk : (UInt8.ofNat k).toNat = k := byte_of (by omega)
  have hh : headE (encL v k p ++ more) = 0 := by
    rw [e0]; exact headE_good ⟨by omega, by omega, by omega, by omega⟩
  have hd : (encL v k p ++ more).drop 4 = num p.length ++ (p ++ (sum4 (bodyL v k p) ++ more)) := by rw [e0]; rfl
  have hr : rd ((encL v k p ++ more).drop 4) = (p.length, (num p.length).length, 0) := by rw [hd]; exact rd_num (by omega) _
  have hlen : (encL v k p ++ more).length = 8 + (num p.length).length + p.length + more.length := by rw [List.length_append, encL_length]
  unfold decL
  rw [hr, hh]
  simp only
  rw [if_neg (by simp), if_neg (by simp), if_neg (by omega), if_neg (by omega)]
  have ht : (encL v k p ++ more).take (4 + (num p.length).length + p.length) = bodyL v k p := by
    rw [e1, ← hl]; simp
  have ht2 : (encL v k p ++ more).drop (4 + (num p.length).length + p.length) = sum4 (bodyL v k p) ++ more := by
    rw [e1, ← hl]; simp
  have ht3 : (sum4 (bodyL v k p) ++ more).take 4 = sum4 (bodyL v k p) := by
    rw [show (4 : Nat) = (sum4 (bodyL v k p)).length from rfl]; simp
  rw [ht, ht2, ht3, if_neg (by simp)]
  have hp : ((encL v k p ++ more).drop (4 + (num p.length).length)).take p.length = p := by
    have : (encL v k p ++ more).drop (4 + (num p.length).length) = p ++ (sum4 (bodyL v k p) ++ more) := by
      rw [← List.drop_drop, hd]; simp
    rw [this]; simp
  have g2 : (encL v k p ++ more).getD 2 0 = UInt8.ofNat v := by rw [e0]; rfl
  have g3 : (encL v k p ++ more).getD 3 0 = UInt8.ofNat k := by rw [e0]; rfl
  rw [hp, g2, g3, hv, hk, encL_length]

theorem decL_err {l : List UInt8} (h : (decL l).2.2.2.2 ≠ 0) : decL l = (0, 0, [], 0, (decL l).2.2.2.2) := by
  unfold decL at h ⊢
  split
  · rfl
  · split
    · rfl
    · split
      · rfl
      · split
        · rfl
        · split
          · rfl
          · rename_i h1 h2 h3 h4 h5
            rw [if_neg h1, if_neg h2, if_neg h3, if_neg h4, if_neg h5] at h
            exact absurd rfl h
/-- What a successful decoding says of the bytes. -/
theorem decL_ok {l : List UInt8} (h : (decL l).2.2.2.2 = 0) : ∃ v k p more, goodF v k p ∧ l = encL v k p ++ more := by
  unfold decL at h
  by_cases h1 : headE l ≠ 0
  · rw [if_pos h1] at h; exact absurd h h1
  rw [if_neg h1] at h
  have h1 : headE l = 0 := by simpa using h1
  by_cases h2 : (rd (l.drop 4)).2.2 ≠ 0
  · rw [if_pos h2] at h; exact absurd h h2
  rw [if_neg h2] at h
  have h2 : (rd (l.drop 4)).2.2 = 0 := by simpa using h2
  by_cases h3 : 6000 < (rd (l.drop 4)).1
  · rw [if_pos h3] at h; exact absurd h (by simp)
  rw [if_neg h3] at h
  by_cases h4 : l.length < 8 + (rd (l.drop 4)).2.1 + (rd (l.drop 4)).1
  · rw [if_pos h4] at h; exact absurd h (by simp)
  rw [if_neg h4] at h
  by_cases h5 : (l.drop (4 + (rd (l.drop 4)).2.1 + (rd (l.drop 4)).1)).take 4 ≠ sum4 (l.take (4 + (rd (l.drop 4)).2.1 + (rd (l.drop 4)).1))
  · rw [if_pos h5] at h; exact absurd h (by simp)
  have h5 : (l.drop (4 + (rd (l.drop 4)).2.1 + (rd (l.drop 4)).1)).take 4 = sum4 (l.take (4 + (rd (l.drop 4)).2.1 + (rd (l.drop 4)).1)) := by simpa using h5
  obtain ⟨c, d, r, rfl, hc1, hc2, hd1, hd2⟩ := headE_zero h1
  have hr := rd_ok h2
  simp only [List.drop_succ_cons, List.drop_zero] at hr h2 h3 h4 h5
  generalize (rd r).1 = n at *
  generalize (rd r).2.1 = m at *
  obtain ⟨hn, hm, hml, hnum, _⟩ := hr
  simp only [List.length_cons] at h4
  have hpl : ((r.drop m).take n).length = n := by simp; omega
  refine ⟨c.toNat, d.toNat, (r.drop m).take n, (r.drop (m + n)).drop 4, ⟨hc1, hc2, hd1, hd2, by omega⟩, ?_⟩
  have hb : bodyL c.toNat d.toNat ((r.drop m).take n) = (66 :: 75 :: c :: d :: r).take (4 + m + n) := by
    rw [bodyL, hpl, hnum, show 4 + m + n = (m + n) + 4 from by omega]
    simp [List.take_add]
  have hdr : (66 :: 75 :: c :: d :: r).drop (4 + m + n) = r.drop (m + n) := by
    rw [show 4 + m + n = (m + n) + 4 from by omega]; rfl
  rw [hdr] at h5
  rw [encL, hb, ← h5, List.append_assoc, List.take_append_drop, ← hdr, List.take_append_drop]
theorem decL_is {l : List UInt8} (h : (decL l).2.2.2.2 = 0) : ∃ v k p more, goodF v k p ∧ l = encL v k p ++ more ∧ decL l = (v, k, p, (encL v k p).length, 0) := by
  obtain ⟨v, k, p, more, hg, hl⟩ := decL_ok h
  exact ⟨v, k, p, more, hg, hl, by rw [hl]; exact decL_enc hg more⟩
theorem encL_inj {v k v' k' : Nat} {p p' more more' : List UInt8} (h : goodF v k p) (h' : goodF v' k' p') (e : encL v k p ++ more = encL v' k' p' ++ more') : v = v' ∧ k = k' ∧ p = p' := by
  have e1 := decL_enc h more
  rw [e, decL_enc h' more'] at e1
  simp only [Prod.mk.injEq] at e1
  exact ⟨e1.1.symm, e1.2.1.symm, e1.2.2.1.symm⟩
/-- Fewer bytes are too few. -/
theorem decL_short {v k : Nat} {p : List UInt8} (h : goodF v k p) (j : Nat) (hj : j < (encL v k p).length) : decL ((encL v k p).take j) = (0, 0, [], 0, 3) := by
  have hg := h
  obtain ⟨h1, h2, h3, h4, h5⟩ := h
  have hv : (UInt8.ofNat v).toNat = v := byte_of (by omega)
  have hk : (UInt8.ofNat k).toNat = k := byte_of (by omega)
  have e0 : encL v k p = 66 :: 75 :: UInt8.ofNat v :: UInt8.ofNat k :: (num p.length ++ (p ++ sum4 (bodyL v k p))) := by simp [encL, bodyL]
  have hl := encL_length v k p
  rw [e0] at hj ⊢
  match j, hj with
  | 0, _ => simp [decL, headE]
  | 1, _ => simp [decL, headE, hd1]
  | 2, _ => simp [decL, headE, hd1, hd2]
  | 3, _ =>
    have : headE ((66 :: 75 :: UInt8.ofNat v :: UInt8.ofNat k :: (num p.length ++ (p ++ sum4 (bodyL v k p)))).take 3) = 3 := by
      simp only [List.take_succ_cons, List.take_zero, headE, hd1, hd2, hd3, hv]
      rw [if_neg (by simp), if_neg (by simp), if_neg (by omega)]
    unfold decL; rw [this]; simp
  | i + 4, hj =>
    obtain ⟨L, hL⟩ : ∃ L, (66 :: 75 :: UInt8.ofNat v :: UInt8.ofNat k :: (num p.length ++ (p ++ sum4 (bodyL v k p)))).take (i + 4) = L := ⟨_, rfl⟩
    rw [hL]
    have hLl : L.length = i + 4 := by rw [← hL, List.length_take]; omega
    have hh : headE L = 0 := by
      rw [← hL]
      simp only [List.take_succ_cons]
      exact headE_good ⟨by omega, by omega, by omega, by omega⟩
    have hd : L.drop 4 = (num p.length ++ (p ++ sum4 (bodyL v k p))).take i := by rw [← hL]; simp
    rw [e0] at hl
    simp only [List.length_cons, List.length_append, sum4_length] at hl hj
    have hn := rd_num (n := p.length) (by omega) []
    rw [List.append_nil] at hn
    unfold decL
    rw [hh, if_neg (by simp)]
    by_cases hi : i < (num p.length).length
    · have hr : rd (L.drop 4) = (0, 0, 3) := by
        rw [hd, List.take_append_of_le_length (by omega)]
        exact (rd_ok (l := num p.length) (by rw [hn])).2.2.2.2 i (by rw [hn]; exact hi)
      rw [hr]; simp
    · have hr : rd (L.drop 4) = (p.length, (num p.length).length, 0) := by
        rw [hd, List.take_append, List.take_of_length_le (by omega)]; exact rd_num (by omega) _
      rw [hr]
      simp only
      rw [if_neg (by simp), if_neg (by omega), if_pos (by omega)]
theorem turned_sum {A B q r : List UInt8} {b c : UInt8} (hl : A.length = B.length) (h1 : A ++ sum4 A = q ++ b :: r) (h2 : B ++ sum4 B = q ++ c :: r) : b = c := by
  rcases List.append_eq_append_iff.1 h1 with ⟨a', rfl, e⟩ | ⟨c', rfl, e⟩
  · rw [List.append_assoc] at h2
    obtain ⟨rfl, e2⟩ := List.append_inj h2 hl.symm
    rw [e] at e2
    have := List.append_cancel_left e2
    simp at this
    exact this
  · cases c' with
    | nil =>
      simp only [List.append_nil, List.nil_append] at hl e
      obtain ⟨rfl, e2⟩ := List.append_inj h2 hl.symm
      rw [← e] at e2
      simp at e2
      exact e2
    | cons d r' =>
      simp only [List.cons_append, List.cons.injEq] at e
      obtain ⟨rfl, rfl⟩ := e
      have e3 : q ++ c :: (r' ++ sum4 (q ++ b :: r')) = (q ++ c :: r') ++ sum4 (q ++ b :: r') := by simp
      rw [e3] at h2
      obtain ⟨rfl, e2⟩ := List.append_inj h2 (by rw [← hl]; simp)
      exact ((sum_turned q r' c b).1 (sum4_inj e2)).symm
/-- One byte that is another one. -/
theorem decL_turned {v k : Nat} {p : List UInt8} (h : goodF v k p) (q r : List UInt8) (b c : UInt8) (ht : encL v k p = q ++ b :: r) (hbc : c ≠ b) (hok : (decL (q ++ c :: r)).2.2.2.2 = 0) :
    ∃ v' k' p', decL (q ++ c :: r) = (v', k', p', (encL v' k' p').length, 0) ∧ ¬ (v' = v ∧ k' = k ∧ p' = p) ∧ 4 ≤ q.length ∧ q.length < 4 + (num p.length).length := by
  obtain ⟨v', k', p', more, hg', hl, hd⟩ := decL_is hok
  have hlt : (encL v k p).length = (q ++ c :: r).length := by rw [ht]; simp
  refine ⟨v', k', p', hd, ?_, ?_⟩
  · rintro ⟨rfl, rfl, rfl⟩
    have : more = [] := by
      have := congrArg List.length hl
      rw [@List.length_append UInt8 (encL v' k' p') _] at this
      exact List.eq_nil_of_length_eq_zero (by omega)
    subst this
    rw [List.append_nil, ht] at hl
    have := List.append_cancel_left hl
    simp at this
    exact hbc this
  · -- elsewhere the length is the same, and the sum tells
    apply Classical.byContradiction
    intro hout
    have hnum : rd ((q ++ c :: r).drop 4) = (p.length, (num p.length).length, 0) := by
      have e0 : (encL v k p).drop 4 = num p.length ++ (p ++ sum4 (bodyL v k p)) := by simp [encL, bodyL]
      rw [ht] at e0
      by_cases hq : q.length < 4
      · have e1 : (q ++ c :: r).drop 4 = (q ++ b :: r).drop 4 := by
          rw [List.drop_append, List.drop_append, List.drop_of_length_le (by omega)]
          obtain ⟨m, hm⟩ : ∃ m, 4 - q.length = m + 1 := ⟨3 - q.length, by omega⟩
          rw [hm]; simp
        rw [e1, e0]; exact rd_num (by have := h.2.2.2.2; omega) _
      · have hq2 : 4 + (num p.length).length ≤ q.length := by omega
        have e1 : (q ++ b :: r).drop 4 = q.drop 4 ++ b :: r := List.drop_append_of_le_length (by omega)
        have e2 : (q ++ c :: r).drop 4 = q.drop 4 ++ c :: r := List.drop_append_of_le_length (by omega)
        rw [e1] at e0
        have e3 : q.drop 4 = num p.length ++ (q.drop 4).drop (num p.length).length := by
          have := congrArg (List.take (num p.length).length) e0
          rw [List.take_append_of_le_length (by simp; omega), List.take_append_of_le_length (by omega), List.take_length] at this
          conv => lhs; rw [← List.take_append_drop (num p.length).length (q.drop 4)]
          rw [this]
        rw [e2, e3, List.append_assoc]; exact rd_num (by have := h.2.2.2.2; omega) _
    have hnum' : rd ((q ++ c :: r).drop 4) = (p'.length, (num p'.length).length, 0) := by
      have : (q ++ c :: r).drop 4 = num p'.length ++ (p' ++ (sum4 (bodyL v' k' p') ++ more)) := by rw [hl]; simp [encL, bodyL]
      rw [this]; exact rd_num (by have := hg'.2.2.2.2; omega) _
    rw [hnum] at hnum'
    have hpl : p.length = p'.length := by simpa using congrArg Prod.fst hnum'
    have hbl : (bodyL v k p).length = (bodyL v' k' p').length := by rw [bodyL_length, bodyL_length, hpl]
    have : more = [] := by
      have := congrArg List.length hl
      rw [@List.length_append UInt8 (encL v' k' p') _, encL_length] at this
      rw [encL_length] at hlt
      rw [← hpl] at this
      exact List.eq_nil_of_length_eq_zero (by omega)
    subst this
    rw [List.append_nil] at hl
    exact hbc (turned_sum hbl ht hl.symm).symm
end Go.Proofs.YtdbopgmckndmeaaDoor

namespace Go.Proofs.YtdbopgmckndmeaaDoor
open Go.RowKit

theorem cell_one_new0 (w : World) (x y z : Value) (t : TypeId) : (w.alloc (.cells #[x, y, z] t)).cell? ⟨w.heap.size, 0, none⟩ = some x := by go_simp
theorem cell_one_new1 (w : World) (x y z : Value) (t : TypeId) : (w.alloc (.cells #[x, y, z] t)).cell? ⟨w.heap.size, 1, none⟩ = some y := by go_simp
theorem cell_one_new2 (w : World) (x y z : Value) (t : TypeId) : (w.alloc (.cells #[x, y, z] t)).cell? ⟨w.heap.size, 2, none⟩ = some z := by go_simp
/-- Three cells of one block, as they lie: kept behind a call that makes memory. -/
def Three (b : Nat) (x y z : Value) (w w' : World) : Prop := (w'.cell? ⟨b, 0, none⟩ = some x ∧ w'.cell? ⟨b, 1, none⟩ = some y ∧ w'.cell? ⟨b, 2, none⟩ = some z) ∧ Below b w w' ∧ b < w'.heap.size
theorem three_next {b : Nat} {x y z : Value} {w w' w2 : World} (h : Three b x y z w w') (b2 : Below w'.heap.size w' w2) : Three b x y z w w2 := by
  have hs := b2.size
  obtain ⟨⟨h0, h1, h2⟩, hb, hl⟩ := h
  exact ⟨⟨by rw [b2.cell (p := ⟨b, 0, none⟩) hl]; exact h0, by rw [b2.cell (p := ⟨b, 1, none⟩) hl]; exact h1, by rw [b2.cell (p := ⟨b, 2, none⟩) hl]; exact h2⟩, hb.trans (b2.mono (Nat.le_of_lt hl)), Nat.lt_of_lt_of_le hl hs⟩
theorem Three.drew {b : Nat} {x y z : Value} {w w' : World} (h : Three b x y z w w') : Three b x y z w w'.drew := ⟨h.1, h.2.1.drew, h.2.2⟩
theorem three_new (w : World) (x y z : Value) (t : TypeId) : Three w.heap.size x y z w (w.alloc (.cells #[x, y, z] t)) :=
  ⟨⟨cell_one_new0 _ _ _ _ _, cell_one_new1 _ _ _ _ _, cell_one_new2 _ _ _ _ _⟩, (Below.refl _ _).alloc (Nat.le_refl _) _, by simp⟩
/-- The same block, and that it may be written. -/
def Own3 (b : Nat) (x y z : Value) (w w' : World) : Prop := Three b x y z w w' ∧ w'.frozen? ⟨b, 0, none⟩ = false ∧ w'.frozen? ⟨b, 1, none⟩ = false ∧ w'.frozen? ⟨b, 2, none⟩ = false
theorem Own3.drew {b : Nat} {x y z : Value} {w w' : World} (h : Own3 b x y z w w') : Own3 b x y z w w'.drew := ⟨h.1.drew, h.2⟩
theorem own3_new (w : World) (x y z : Value) (t : TypeId) : Own3 w.heap.size x y z w (w.alloc (.cells #[x, y, z] t)) :=
  ⟨three_new _ _ _ _ _, by go_simp, by go_simp, by go_simp⟩
theorem own3_next {b : Nat} {x y z : Value} {w w' w2 : World} (h : Own3 b x y z w w') (b2 : Below w'.heap.size w' w2) : Own3 b x y z w w2 := by
  have hl := h.1.2.2
  obtain ⟨h3, f0, f1, f2⟩ := h
  exact ⟨three_next h3 b2, by rw [b2.frozen (p := ⟨b, 0, none⟩) hl]; exact f0, by rw [b2.frozen (p := ⟨b, 1, none⟩) hl]; exact f1, by rw [b2.frozen (p := ⟨b, 2, none⟩) hl]; exact f2⟩
/-- The block written anew, cell by cell. -/
def set3 (w : World) (b : Nat) (x y z : Value) : World := ((w.setCell ⟨b, 0, none⟩ x).setCell ⟨b, 1, none⟩ y).setCell ⟨b, 2, none⟩ z
theorem own3_set {b : Nat} {x y z : Value} {w w2 : World} (o : Own3 b x y z w w2) (x' y' z' : Value) : Own3 b x' y' z' w (set3 w2 b x' y' z') := by
  obtain ⟨⟨⟨k0, k1, k2⟩, hb, hlt⟩, f0, f1, f2⟩ := o
  refine ⟨⟨⟨?_, ?_, ?_⟩, ((hb.setCell (Nat.le_refl _) _).setCell (Nat.le_refl _) _).setCell (Nat.le_refl _) _, ?_⟩, ?_, ?_, ?_⟩
  · unfold set3; go_simp
  · unfold set3; go_simp
  · unfold set3; go_simp
  · unfold set3; go_simp
  · unfold set3; go_simp
  · unfold set3; go_simp
  · unfold set3; go_simp
end Go.Proofs.YtdbopgmckndmeaaDoor

namespace Go.Proofs.YtdbopgmckndmeaaDoor
open Go.RowKit

theorem isVersion_yes (v : Int) (h : 1 ≤ v ∧ v ≤ 3) (w : World) :
    Calls Tryd.prog 74 #[.int .i64 v] w fun e w' => e = .returned (.bool true) ∧ w = w' := by
  have h1 := h.1
  have h2 : decide (v ≤ 3) = true := by simp; omega
  go_enter Tryd.func74, Tryd.ntmps74
  go_wp2
  go_ret
  exact ⟨rfl, rfl⟩
theorem isVersion_no (v : Int) (h : ¬ (1 ≤ v ∧ v ≤ 3)) (w : World) :
    Calls Tryd.prog 74 #[.int .i64 v] w fun e w' => e = .returned (.bool false) ∧ w = w' := by
  by_cases h1 : 1 ≤ v
  · have h2 : decide (v ≤ 3) = false := by simp; omega
    go_enter Tryd.func74, Tryd.ntmps74
    go_wp2
    go_ret
    exact ⟨rfl, rfl⟩
  · have h2 : decide (1 ≤ v) = false := by simp; omega
    go_enter Tryd.func74, Tryd.ntmps74
    go_wp2
    go_ret
    exact ⟨rfl, rfl⟩
theorem isKind_yes (v : Int) (h : 1 ≤ v ∧ v ≤ 4) (w : World) :
    Calls Tryd.prog 75 #[.int .i64 v] w fun e w' => e = .returned (.bool true) ∧ w = w' := by
  have h1 := h.1
  have h2 : decide (v ≤ 4) = true := by simp; omega
  go_enter Tryd.func75, Tryd.ntmps75
  go_wp2
  go_ret
  exact ⟨rfl, rfl⟩
theorem isKind_no (v : Int) (h : ¬ (1 ≤ v ∧ v ≤ 4)) (w : World) :
    Calls Tryd.prog 75 #[.int .i64 v] w fun e w' => e = .returned (.bool false) ∧ w = w' := by
  by_cases h1 : 1 ≤ v
  · have h2 : decide (v ≤ 4) = false := by simp; omega
    go_enter Tryd.func75, Tryd.ntmps75
    go_wp2
    go_ret
    exact ⟨rfl, rfl⟩
  · have h2 : decide (1 ≤ v) = false := by simp; omega
    go_enter Tryd.func75, Tryd.ntmps75
    go_wp2
    go_ret
    exact ⟨rfl, rfl⟩

/-- The string of a checksum's four bytes. -/
def sumS (s : ByteArray) : ByteArray := ⟨(sum4 s.data.toList).toArray⟩
theorem sumS_size (s : ByteArray) : (sumS s).size = 4 := rfl
theorem sumS_data (s : ByteArray) : (sumS s).data.toList = sum4 s.data.toList := by simp [sumS]
theorem run_string_four (wx : World) (a b c d : UInt8) : (convert 47 9 (.slice (some ⟨wx.heap.size, 0, none⟩) 4 4)).run Tryd.prog (wx.alloc (.cells #[.int .u8 (a.toNat : Int), .int .u8 (b.toNat : Int), .int .u8 (c.toNat : Int), .int .u8 (d.toNat : Int)] 5)) = .ok (.string ⟨#[a, b, c, d]⟩) (wx.alloc (.cells #[.int .u8 (a.toNat : Int), .int .u8 (b.toNat : Int), .int .u8 (c.toNat : Int), .int .u8 (d.toNat : Int)] 5)) :=
  run_string_own (base := wx.heap.size) [a, b, c, d] rfl (World.ownsRow_lit wx #[.int .u8 (a.toNat : Int), .int .u8 (b.toNat : Int), .int .u8 (c.toNat : Int), .int .u8 (d.toNat : Int)] 4 (Nat.le_refl _) (by decide) rfl)
theorem run_string_sum (x : Nat) (hx : x < 4294967296) (wx : World) : (convert 47 9 (.slice (some ⟨wx.heap.size, 0, none⟩) 4 4)).run Tryd.prog (wx.alloc (.cells #[.int .u8 ((x : Int) / 16777216), .int .u8 ((x : Int) / 65536 % 256), .int .u8 ((x : Int) / 256 % 256), .int .u8 ((x : Int) % 256)] 5)) = .ok (.string ⟨(be4 x).toArray⟩) (wx.alloc (.cells #[.int .u8 ((x : Int) / 16777216), .int .u8 ((x : Int) / 65536 % 256), .int .u8 ((x : Int) / 256 % 256), .int .u8 ((x : Int) % 256)] 5)) := by
  have h := run_string_four wx (UInt8.ofNat (x / 16777216)) (UInt8.ofNat (x / 65536)) (UInt8.ofNat (x / 256)) (UInt8.ofNat x)
  have e1 : ((UInt8.ofNat (x / 16777216)).toNat : Int) = (x : Int) / 16777216 := by simp; omega
  have e2 : ((UInt8.ofNat (x / 65536)).toNat : Int) = (x : Int) / 65536 % 256 := by simp
  have e3 : ((UInt8.ofNat (x / 256)).toNat : Int) = (x : Int) / 256 % 256 := by simp
  have e4 : ((UInt8.ofNat x).toNat : Int) = (x : Int) % 256 := by simp
  rw [e1, e2, e3, e4] at h
  exact h
set_option maxRecDepth 100000 in
set_option maxHeartbeats 400000 in
theorem sumBytes_is (s : ByteArray) (hs : s.size ≤ maxLen) (w : World) :
    Calls Tryd.prog 42 #[.string s] w fun e w' => e = .returned (.string (sumS s)) ∧ Below w.heap.size w w' := by
  have HS := Lib.hid (sum_is s hs w)
  have hx := sum_lt s.data.toList
  obtain ⟨t, ht⟩ : ∃ t, sumS s = t := ⟨_, rfl⟩
  rw [ht]
  unfold sumS sum4 at ht
  generalize sum s.data.toList = x at *
  have hcv := run_string_sum x hx
  rw [ht] at hcv
  clear ht
  go_enter Tryd.func42, Tryd.ntmps42
  go_wp2_with fail
  refine HS.out.mono ?_
  rintro e w1 ⟨rfl, b1⟩
  go_wp2
  go_ret
  exact ⟨rfl, b1.alloc b1.size _⟩

/-- What Encode answers. -/
def encB (v k : Nat) (p : ByteArray) : ByteArray := ⟨(encL v k p.data.toList).toArray⟩
def bodyB (v k : Nat) (p : ByteArray) : ByteArray := ⟨(bodyL v k p.data.toList).toArray⟩
theorem encB_data (v k : Nat) (p : ByteArray) : (encB v k p).data.toList = encL v k p.data.toList := by simp [encB]
theorem bodyB_data (v k : Nat) (p : ByteArray) : (bodyB v k p).data.toList = bodyL v k p.data.toList := by simp [bodyB]
theorem bytes_of {a b : ByteArray} (h : a.data.toList = b.data.toList) : a = b := WideShapes.bytes_inj h
theorem size_data (s : ByteArray) : s.data.toList.length = s.size := by simp
theorem encB_size (v k : Nat) (p : ByteArray) : (encB v k p).size = 8 + (num p.size).length + p.size := by
  rw [← size_data, encB_data, encL_length, size_data]
theorem bodyB_size (v k : Nat) (p : ByteArray) : (bodyB v k p).size = 4 + (num p.size).length + p.size := by
  rw [← size_data, bodyB_data, bodyL_length, size_data]
theorem bodyB_is (v k : Nat) (p : ByteArray) : ⟨#[66, 75]⟩ ++ ⟨#[UInt8.ofNat v, UInt8.ofNat k]⟩ ++ numS p.size ++ p = bodyB v k p := by
  apply bytes_of
  rw [bodyB_data, app_data, app_data, app_data, numS_data, bodyL, size_data]; simp
theorem encB_is (v k : Nat) (p : ByteArray) : bodyB v k p ++ sumS (bodyB v k p) = encB v k p := by
  apply bytes_of
  rw [encB_data, app_data, sumS_data, bodyB_data, encL]
def encOK (v k : Int) : Bool := decide (1 ≤ v) && decide (v ≤ 3) && decide (1 ≤ k) && decide (k ≤ 4)
def enc (v k : Int) (p : ByteArray) : ByteArray × Nat :=
  if encOK v k = false then (⟨#[]⟩, 1) else if 6000 < p.size then (⟨#[]⟩, 2) else (encB v.toNat k.toNat p, 0)
theorem run_string_two (wx : World) (a b : Nat) (ha : a < 256) (hb : b < 256) : (convert 47 9 (.slice (some ⟨wx.heap.size, 0, none⟩) 2 2)).run Tryd.prog (wx.alloc (.cells #[.int .u8 (a : Int), .int .u8 (b : Int)] 5)) = .ok (.string ⟨#[UInt8.ofNat a, UInt8.ofNat b]⟩) (wx.alloc (.cells #[.int .u8 (a : Int), .int .u8 (b : Int)] 5)) := by
  have h := run_string_own (w := wx.alloc (.cells #[.int .u8 ((UInt8.ofNat a).toNat : Int), .int .u8 ((UInt8.ofNat b).toNat : Int)] 5)) (base := wx.heap.size) (n := 2) (cap := 2) [UInt8.ofNat a, UInt8.ofNat b] rfl (World.ownsRow_lit wx #[.int .u8 ((UInt8.ofNat a).toNat : Int), .int .u8 ((UInt8.ofNat b).toNat : Int)] 2 (Nat.le_refl _) (by decide) rfl)
  rw [byte_of ha, byte_of hb] at h
  exact h
theorem cell_two_new (w : World) (x y z : Value) (t : TypeId) (o : Obj) : ((w.alloc (.cells #[x, y, z] t)).alloc o).cell? ⟨w.heap.size, 2, none⟩ = some z := by go_simp
theorem kept_cell {w W0 w2 : World} {v : Value} {j : Nat} (hc : W0.cell? ⟨w.heap.size, j, none⟩ = some v) (hb : Below w.heap.size w W0) (hlt : w.heap.size < W0.heap.size) (b2 : Below W0.drew.heap.size W0.drew w2) : w2.cell? ⟨w.heap.size, j, none⟩ = some v ∧ Below w.heap.size w w2 ∧ w.heap.size < w2.heap.size := by
  have hs := b2.size
  refine ⟨?_, hb.drew.trans (b2.mono (Nat.le_of_lt hlt)), Nat.lt_of_lt_of_le hlt hs⟩
  rw [b2.cell (p := ⟨w.heap.size, j, none⟩) hlt]; exact hc
theorem ret_s2 {p : ByteArray × Nat} {a : ByteArray} {b : Int} (n : Nat) (h : p = (a, n)) (hb : b = n) : Ending.returned (.tuple #[.string a, .int .i64 b]) = .returned (.tuple #[.string p.1, .int .i64 p.2]) := by
  subst h hb; rfl

set_option maxRecDepth 100000 in
set_option maxHeartbeats 1000000 in
theorem encode_any (v k : Int) (p : ByteArray) (hp : p.size ≤ 140737488355328) (w : World) :
    Calls Tryd.prog 29 #[.agg #[.int .i64 v, .int .i64 k, .string p]] w fun e w' => e = .returned (.tuple #[.string (enc v k p).1, .int .i64 (enc v k p).2]) ∧ Below w.heap.size w w' := by
  obtain ⟨r, hr⟩ : ∃ r, enc v k p = r := ⟨_, rfl⟩
  rw [hr]
  unfold enc at hr
  by_cases hv : 1 ≤ v ∧ v ≤ 3
  · by_cases hk : 1 ≤ k ∧ k ≤ 4
    · rw [if_neg (by simp [encOK, hv, hk])] at hr
      by_cases h6 : 6000 < p.size
      · rw [if_pos h6] at hr
        have HR := Lib.hid hr.symm
        have H1 := Lib.hid (isVersion_yes v hv)
        have H2 := Lib.hid (isKind_yes k hk)
        clear hr hv hk
        go_enter Tryd.func29, Tryd.ntmps29
        go_wp2_with fail
        refine (H1.out _).mono ?_
        rintro e w1 ⟨rfl, rfl⟩
        go_wp2_with fail
        refine (H2.out _).mono ?_
        rintro e w1 ⟨rfl, rfl⟩
        go_wp2
        go_ret2
        exact ⟨ret_s2 2 HR.out rfl, (Below.refl _ _).alloc (Nat.le_refl _) _⟩
      · rw [if_neg h6] at hr
        obtain ⟨a, rfl⟩ := Int.eq_ofNat_of_zero_le (show 0 ≤ v by omega)
        obtain ⟨b, rfl⟩ := Int.eq_ofNat_of_zero_le (show 0 ≤ k by omega)
        rw [Int.toNat_natCast, Int.toNat_natCast] at hr
        have HR := Lib.hid hr.symm
        have H1 := Lib.hid (isVersion_yes a hv)
        have H2 := Lib.hid (isKind_yes b hk)
        have ha : a < 256 := by omega
        have hb : b < 256 := by omega
        have hcv := run_string_two (w.alloc (.cells #[.int .i64 (a : Int), .int .i64 (b : Int), .string p] 41)) a b ha hb
        rw [World.size_alloc] at hcv
        obtain ⟨W0, hW0⟩ : ∃ W0, (w.alloc (.cells #[.int .i64 (a : Int), .int .i64 (b : Int), .string p] 41)).alloc (.cells #[.int .u8 (a : Int), .int .u8 (b : Int)] 5) = W0 := ⟨_, rfl⟩
        rw [hW0] at hcv
        have hc : W0.cell? ⟨w.heap.size, 2, none⟩ = some (.string p) := by rw [← hW0]; exact cell_two_new _ _ _ _ _ _
        have hb0 : Below w.heap.size w W0 := by rw [← hW0]; exact ((Below.refl _ _).alloc (Nat.le_refl _) _).alloc (by simp) _
        have hlt : w.heap.size < W0.heap.size := by rw [← hW0]; simp; omega
        have HN := Lib.hid (number_is p.size (by omega))
        have hn10 : (numS p.size).size ≤ 10 := by rw [numS_size]; exact num_len10 (by omega)
        have hB := bodyB_is a b p
        have hE := encB_is a b p
        have HS := Lib.hid (sumBytes_is (bodyB a b p) (by rw [bodyB_size, ← numS_size]; unfold maxLen; omega))
        have hBs : (bodyB a b p).size ≤ 7000 := by rw [bodyB_size, ← numS_size]; omega
        have hSs := sumS_size (bodyB a b p)
        generalize bodyB a b p = B at *
        generalize sumS B = S4 at *
        generalize encB a b p = E at *
        generalize numS p.size = N at *
        obtain ⟨T, hT⟩ : ∃ T, (⟨#[UInt8.ofNat a, UInt8.ofNat b]⟩ : ByteArray) = T := ⟨_, rfl⟩
        have hTs : T.size ≤ 2 := by rw [← hT]; exact Nat.le_refl 2
        rw [hT] at hB hcv
        obtain ⟨D, hD⟩ : ∃ D, (⟨#[66, 75]⟩ : ByteArray) ++ T = D := ⟨_, rfl⟩
        have hDs : D.size ≤ 4 := by rw [← hD, ByteArray.size_append]; have : (⟨#[66, 75]⟩ : ByteArray).size = 2 := rfl; omega
        rw [hD] at hB
        obtain ⟨M, hM⟩ : ∃ M, D ++ N = M := ⟨_, rfl⟩
        have hMs : M.size ≤ 14 := by rw [← hM, ByteArray.size_append]; omega
        rw [hM] at hB
        clear hr hv hk hT
        go_enter Tryd.func29, Tryd.ntmps29
        go_wp2_with fail
        refine (H1.out _).mono ?_
        rintro e w1 ⟨rfl, rfl⟩
        go_wp2_with fail
        refine (H2.out _).mono ?_
        rintro e w1 ⟨rfl, rfl⟩
        go_wp2_with fail
        clear hW0 hcv
        have hwp : IntKind.u64.wrap (p.size : Int) = (p.size : Int) := IntWalk.u64_in _ (by omega)
        have q1 : ¬ (9223372036854775807 < D.size + N.size) := by omega
        have q2 : ¬ (9223372036854775807 < M.size + p.size) := by omega
        go_region_held3 (fun w' => w'.cell? ⟨w.heap.size, 2, none⟩ = some (.string p) ∧ Below w.heap.size w w' ∧ w.heap.size < w'.heap.size) (first | exact ⟨hc, hb0, hlt⟩ | exact ⟨hc, hb0.drew, hlt⟩ | assumption)
          (first | (go_at_call 76; (with_reducible refine (HN.out _).mono ?_); rintro e w2 ⟨rfl, b2⟩; have hk2 := kept_cell hc hb0 hlt b2; clear b2))
        rename_i w2 hk2
        clear q1 q2 hwp
        go_wp2_with fail
        refine (HS.out _).mono ?_
        rintro e w3 ⟨rfl, b3⟩
        go_wp2
        go_ret2
        exact ⟨ret_s2 0 HR.out rfl, hk2.2.1.trans (b3.mono (Nat.le_of_lt hk2.2.2))⟩
    · rw [if_pos (by simp only [encOK, Bool.and_eq_false_iff, decide_eq_false_iff_not]; omega)] at hr
      have HR := Lib.hid hr.symm
      have H1 := Lib.hid (isVersion_yes v hv)
      have H2 := Lib.hid (isKind_no k hk)
      clear hr hv hk
      go_enter Tryd.func29, Tryd.ntmps29
      go_wp2_with fail
      refine (H1.out _).mono ?_
      rintro e w1 ⟨rfl, rfl⟩
      go_wp2_with fail
      refine (H2.out _).mono ?_
      rintro e w1 ⟨rfl, rfl⟩
      go_wp2
      go_ret2
      exact ⟨ret_s2 1 HR.out rfl, (Below.refl _ _).alloc (Nat.le_refl _) _⟩
  · rw [if_pos (by simp only [encOK, Bool.and_eq_false_iff, decide_eq_false_iff_not]; omega)] at hr
    have HR := Lib.hid hr.symm
    have H1 := Lib.hid (isVersion_no v hv)
    clear hr hv
    go_enter Tryd.func29, Tryd.ntmps29
    go_wp2_with fail
    refine (H1.out _).mono ?_
    rintro e w1 ⟨rfl, rfl⟩
    go_wp2
    go_ret2
    exact ⟨ret_s2 1 HR.out rfl, (Below.refl _ _).alloc (Nat.le_refl _) _⟩
end Go.Proofs.YtdbopgmckndmeaaDoor

namespace Go.Proofs.YtdbopgmckndmeaaDoor
open Go.RowKit

theorem below_draws (B : Nat) (w : World) (n : Nat) : Below B w (w.drewN n) := ⟨rfl, rfl, rfl, Nat.le_refl _, fun _ _ => rfl⟩
def hdAt (k : Nat) (l : List UInt8) : Nat := if k = 0 then headE l else if k = 1 then hd1 l else if k = 2 then hd2 l else if k = 3 then hd3 l else 0
theorem hd_short {s : ByteArray} {k : Nat} (h : ¬ k < s.size) (hk : k < 4) (H : headE s.data.toList = hdAt k (s.data.toList.drop k)) : headE s.data.toList = 3 := by
  rw [H, List.drop_of_length_le (by simpa using h)]
  match k, hk with
  | 0, _ => rfl
  | 1, _ => rfl
  | 2, _ => rfl
  | 3, _ => rfl
theorem hd_0 {s : ByteArray} (h : 0 < s.size) (H : headE s.data.toList = hdAt 0 (s.data.toList.drop 0)) : headE s.data.toList = if s[0].toNat ≠ 66 then 4 else hdAt 1 (s.data.toList.drop 1) := by
  rw [H, drop_at s 0 h]
  have e : (s[0] = 66) ↔ (s[0].toNat = 66) := ⟨fun h => by rw [h]; rfl, fun h => UInt8.toNat_inj.1 h⟩
  show (if s[0] ≠ 66 then 4 else hd1 _) = _
  by_cases h' : s[0] = 66
  · rw [if_neg (by simpa using h'), if_neg (by simpa using e.1 h')]; rfl
  · rw [if_pos h', if_pos (fun h2 => h' (e.2 h2))]
theorem hd_1 {s : ByteArray} (h : 1 < s.size) (H : headE s.data.toList = hdAt 1 (s.data.toList.drop 1)) : headE s.data.toList = if s[1].toNat ≠ 75 then 4 else hdAt 2 (s.data.toList.drop 2) := by
  rw [H, drop_at s 1 h]
  have e : (s[1] = 75) ↔ (s[1].toNat = 75) := ⟨fun h => by rw [h]; rfl, fun h => UInt8.toNat_inj.1 h⟩
  show (if s[1] ≠ 75 then 4 else hd2 _) = _
  by_cases h' : s[1] = 75
  · rw [if_neg (by simpa using h'), if_neg (by simpa using e.1 h')]; rfl
  · rw [if_pos h', if_pos (fun h2 => h' (e.2 h2))]
theorem hd_2 {s : ByteArray} (h : 2 < s.size) (H : headE s.data.toList = hdAt 2 (s.data.toList.drop 2)) : headE s.data.toList = if ¬ (1 ≤ s[2].toNat ∧ s[2].toNat ≤ 3) then 1 else hdAt 3 (s.data.toList.drop 3) := by
  rw [H, drop_at s 2 h]; rfl
theorem hd_3 {s : ByteArray} (h : 3 < s.size) (H : headE s.data.toList = hdAt 3 (s.data.toList.drop 3)) : headE s.data.toList = if ¬ (1 ≤ s[3].toNat ∧ s[3].toNat ≤ 4) then 1 else hdAt 4 (s.data.toList.drop 4) := by
  rw [H, drop_at s 3 h]; rfl
theorem ret_nat {k : IntKind} {a : Int} {n m : Nat} (h : n = m) (ha : a = m) : Ending.returned (.int k a) = .returned (.int k (n : Int)) := by rw [h, ha]

set_option maxRecDepth 100000 in
set_option maxHeartbeats 1000000 in
theorem checkHead_any (s : ByteArray) (hs : s.size ≤ maxLen) (w : World) :
    Calls Tryd.prog 40 #[.string s] w fun e w' => e = .returned (.int .i64 (headE s.data.toList : Nat)) ∧ Below w.heap.size w w' := by
  unfold maxLen at hs
  obtain ⟨R, hR⟩ : ∃ R, headE s.data.toList = R := ⟨_, rfl⟩
  rw [hR]
  have HR := Lib.hid hR
  clear hR
  have hm0 : ((⟨#[66, 75]⟩ : ByteArray)[0].toNat : Int) = 66 := rfl
  have hm1 : ((⟨#[66, 75]⟩ : ByteArray)[1].toNat : Int) = 75 := rfl
  go_enter Tryd.func40, Tryd.ntmps40
  go_wp2
  go_loopw [4] (fun i wr => ∃ k : Nat, k ≤ 4 ∧ k ≤ s.size ∧ i = .int .i64 k ∧ Below w.heap.size w wr ∧ Hid (headE s.data.toList = hdAt k (s.data.toList.drop k))) (fun i _ => 4 - (intOf i).toNat)
  case atStart => exact ⟨0, by omega, by omega, rfl, Below.refl _ _, rfl⟩
  case round =>
    obtain ⟨k, hk, hks, rfl, hbel, H⟩ := hrel
    by_cases hlt : k < 4
    · by_cases hl : k < s.size
      · match k, hlt with
        | 0, _ =>
          have h2 := hd_0 hl H.out
          by_cases hc : (s[0].toNat : Int) = 66
          · have hc' : ((s[0].toNat : Int) != 66) = false := by simp; omega
            rw [if_neg (by omega)] at h2
            have H2 := Lib.hid h2
            clear h2 H hc
            go_wp2_with fail
            go_quiet (fail)
            go_wp2
            go_roundw
            case rel => exact ⟨1, by omega, by omega, by go_num, hbel.trans (below_draws _ _ _), H2⟩
            case measure => simp [intOf]
          · have hc' : ((s[0].toNat : Int) != 66) = true := by simp; omega
            rw [if_pos (by omega)] at h2
            have H2 := Lib.hid h2
            clear h2 H hc
            go_wp2_with fail
            go_quiet (fail)
            go_wp2
            go_ret
            exact ⟨ret_nat (HR.out.symm.trans H2.out) rfl, hbel.trans (below_draws _ _ _)⟩
        | 1, _ =>
          have h2 := hd_1 hl H.out
          have hli : (1 : Int) < (s.size : Int) := by omega
          by_cases hc : (s[1].toNat : Int) = 75
          · have hc' : ((s[1].toNat : Int) != 75) = false := by simp; omega
            rw [if_neg (by omega)] at h2
            have H2 := Lib.hid h2
            clear h2 H hc
            go_wp2_with fail
            go_quiet (fail)
            go_wp2
            go_roundw
            case rel => exact ⟨2, by omega, by omega, by go_num, hbel.trans (below_draws _ _ _), H2⟩
            case measure => simp [intOf]
          · have hc' : ((s[1].toNat : Int) != 75) = true := by simp; omega
            rw [if_pos (by omega)] at h2
            have H2 := Lib.hid h2
            clear h2 H hc
            go_wp2_with fail
            go_quiet (fail)
            go_wp2
            go_ret
            exact ⟨ret_nat (HR.out.symm.trans H2.out) rfl, hbel.trans (below_draws _ _ _)⟩
        | 2, _ =>
          have h2 := hd_2 hl H.out
          have hc0 : (s[2].toNat : Int) < 256 := by have := s[2].toNat_lt; omega
          by_cases hc : 1 ≤ (s[2].toNat : Int) ∧ (s[2].toNat : Int) ≤ 3
          · have HV := Lib.hid (isVersion_yes _ hc)
            rw [if_neg (by omega)] at h2
            have H2 := Lib.hid h2
            clear h2 H hc
            go_wp2_with fail
            go_quiet (fail)
            go_wp2_with fail
            refine (HV.out _).mono ?_
            rintro e w1 ⟨rfl, rfl⟩
            go_wp2
            go_roundw
            case rel => exact ⟨3, by omega, by omega, by go_num, hbel.trans (below_draws _ _ _), H2⟩
            case measure => simp [intOf]
          · have HV := Lib.hid (isVersion_no _ hc)
            rw [if_pos (by omega)] at h2
            have H2 := Lib.hid h2
            clear h2 H hc
            go_wp2_with fail
            go_quiet (fail)
            go_wp2_with fail
            refine (HV.out _).mono ?_
            rintro e w1 ⟨rfl, rfl⟩
            go_wp2
            go_ret
            exact ⟨ret_nat (HR.out.symm.trans H2.out) rfl, hbel.trans (below_draws _ _ _)⟩
        | 3, _ =>
          have h2 := hd_3 hl H.out
          have hc0 : (s[3].toNat : Int) < 256 := by have := s[3].toNat_lt; omega
          by_cases hc : 1 ≤ (s[3].toNat : Int) ∧ (s[3].toNat : Int) ≤ 4
          · have HV := Lib.hid (isKind_yes _ hc)
            rw [if_neg (by omega)] at h2
            have H2 := Lib.hid h2
            clear h2 H hc
            go_wp2_with fail
            go_quiet (fail)
            go_wp2_with fail
            refine (HV.out _).mono ?_
            rintro e w1 ⟨rfl, rfl⟩
            go_wp2
            go_roundw
            case rel => exact ⟨4, by omega, by omega, by go_num, hbel.trans (below_draws _ _ _), H2⟩
            case measure => simp [intOf]
          · have HV := Lib.hid (isKind_no _ hc)
            rw [if_pos (by omega)] at h2
            have H2 := Lib.hid h2
            clear h2 H hc
            go_wp2_with fail
            go_quiet (fail)
            go_wp2_with fail
            refine (HV.out _).mono ?_
            rintro e w1 ⟨rfl, rfl⟩
            go_wp2
            go_ret
            exact ⟨ret_nat (HR.out.symm.trans H2.out) rfl, hbel.trans (below_draws _ _ _)⟩
      · have H2 := Lib.hid (HR.out.symm.trans (hd_short hl hlt H.out))
        have he : ((k : Int) == (s.size : Int)) = true := by simp; omega
        clear H
        go_wp2
        go_ret
        exact ⟨ret_nat H2.out rfl, hbel⟩
    · obtain rfl : k = 4 := by omega
      have H2 : Hid (R = 0) := HR.out.symm.trans H.out
      clear H
      go_wp2
      go_ret
      exact ⟨ret_nat H2.out rfl, hbel⟩
end Go.Proofs.YtdbopgmckndmeaaDoor

namespace Go.Proofs.YtdbopgmckndmeaaDoor
open Go.RowKit

theorem fail_is (c : Int) (w : World) :
    Calls Tryd.prog 39 #[.int .i64 c] w fun e w' => e = .returned (.tuple #[.agg #[.int .i64 0, .int .i64 0, .string ⟨#[]⟩], .int .i64 0, .int .i64 c]) ∧ Below w.heap.size w w' := by
  go_enter Tryd.func39, Tryd.ntmps39
  go_wp2
  exact bodyPost_ret (v := .tuple #[.agg #[.int .i64 0, .int .i64 0, .string ⟨#[]⟩], .int .i64 0, .int .i64 c]) (by simp [results, Tryd.results39, go_sem]) rfl ⟨rfl, (Below.refl _ _).alloc (Nat.le_refl _) _⟩
theorem drop_data (s : ByteArray) (k : Nat) : (s.extract k s.size).data.toList = s.data.toList.drop k := by
  rw [ByteArray.data_extract, Array.toList_extract, List.extract_eq_take_drop, List.take_of_length_le (by simp)]

set_option maxRecDepth 100000 in
set_option maxHeartbeats 1000000 in
theorem decode_head (s : ByteArray) (hs : s.size ≤ 1152921504606846976) (h : headE s.data.toList ≠ 0) (w : World) :
    Calls Tryd.prog 20 #[.string s] w fun e w' => e = .returned (.tuple #[.agg #[.int .i64 0, .int .i64 0, .string ⟨#[]⟩], .int .i64 0, .int .i64 (headE s.data.toList : Nat)]) ∧ Below w.heap.size w w' := by
  have HH := Lib.hid (checkHead_any s (by unfold maxLen; omega))
  generalize headE s.data.toList = c at *
  have hc : ((c : Int) != 0) = true := by simp; omega
  clear h
  go_enter Tryd.func20, Tryd.ntmps20
  go_wp2_with fail
  refine (HH.out _).mono ?_
  rintro e w1 ⟨rfl, b1⟩
  have o1 := own3_next (own3_new _ _ _ _ _) b1
  clear b1
  go_wp2_with fail
  refine (fail_is _ _).mono ?_
  rintro e w2 ⟨rfl, b2⟩
  have o2 := own3_next o1 b2
  clear b2 o1
  have o3 := own3_set o2 (.int .i64 0) (.int .i64 0) (.string ⟨#[]⟩)
  obtain ⟨⟨⟨k0, k1, k2⟩, hb, hlt⟩, f0, f1, f2⟩ := o2
  go_wp2
  obtain ⟨⟨⟨q0, q1, q2⟩, hb3, _⟩, _⟩ := o3
  unfold set3 at q0 q1 q2 hb3
  exact bodyPost_ret (v := .tuple #[.agg #[.int .i64 0, .int .i64 0, .string ⟨#[]⟩], .int .i64 0, .int .i64 (c : Int)]) (by simp [results, Tryd.results20, go_sem, q0, q1, q2]) rfl ⟨rfl, hb3⟩
theorem head_size {l : List UInt8} (h : headE l = 0) : 4 ≤ l.length := by
  obtain ⟨c, d, r, rfl, _⟩ := headE_zero h
  simp
theorem checkHead_ok (s : ByteArray) (hs : s.size ≤ maxLen) (h : headE s.data.toList = 0) (w : World) :
    Calls Tryd.prog 40 #[.string s] w fun e w' => e = .returned (.int .i64 0) ∧ Below w.heap.size w w' := by
  have := checkHead_any s hs w
  rwa [h] at this

set_option maxRecDepth 100000 in
set_option maxHeartbeats 1000000 in
theorem decode_read (s : ByteArray) (hs : s.size ≤ 1152921504606846976) (h : headE s.data.toList = 0) (N m c : Nat) (hr : rd (s.data.toList.drop 4) = (N, m, c)) (hc : c ≠ 0) (w : World) :
    Calls Tryd.prog 20 #[.string s] w fun e w' => e = .returned (.tuple #[.agg #[.int .i64 0, .int .i64 0, .string ⟨#[]⟩], .int .i64 0, .int .i64 (c : Int)]) ∧ Below w.heap.size w w' := by
  have HH := Lib.hid (checkHead_ok s (by unfold maxLen; omega) h)
  have h4 : 4 ≤ s.size := by rw [← size_data]; exact head_size h
  rw [← drop_data] at hr
  obtain ⟨T, hT⟩ : ∃ T, s.extract 4 s.size = T := ⟨_, rfl⟩
  rw [hT] at hr
  have hTs : T.size ≤ 1152921504606846976 := by rw [← hT, ByteArray.size_extract]; omega
  have HD := Lib.hid (read_is T N m c hr (by unfold maxLen; omega))
  have hc' : ((c : Int) != 0) = true := by simp; omega
  clear h hr hc
  go_enter Tryd.func20, Tryd.ntmps20
  go_wp2_with fail
  refine (HH.out _).mono ?_
  rintro e w1 ⟨rfl, b1⟩
  have o1 := own3_next (own3_new _ _ _ _ _) b1
  clear b1
  go_wp2_with fail
  refine (HD.out _).mono ?_
  rintro e w0 ⟨rfl, rfl⟩
  go_wp2_with fail
  refine (fail_is _ _).mono ?_
  rintro e w2 ⟨rfl, b2⟩
  have o2 := own3_next o1 b2
  clear b2 o1
  have o3 := own3_set o2 (.int .i64 0) (.int .i64 0) (.string ⟨#[]⟩)
  obtain ⟨⟨⟨k0, k1, k2⟩, hb, hlt⟩, f0, f1, f2⟩ := o2
  go_wp2
  obtain ⟨⟨⟨q0, q1, q2⟩, hb3, _⟩, _⟩ := o3
  unfold set3 at q0 q1 q2 hb3
  exact bodyPost_ret (v := .tuple #[.agg #[.int .i64 0, .int .i64 0, .string ⟨#[]⟩], .int .i64 0, .int .i64 (c : Int)]) (by simp [results, Tryd.results20, go_sem, q0, q1, q2]) rfl ⟨rfl, hb3⟩

set_option maxRecDepth 100000 in
set_option maxHeartbeats 1000000 in
theorem decode_large (s : ByteArray) (hs : s.size ≤ 1152921504606846976) (h : headE s.data.toList = 0) (N m : Nat) (hr : rd (s.data.toList.drop 4) = (N, m, 0)) (hN : 6000 < N) (w : World) :
    Calls Tryd.prog 20 #[.string s] w fun e w' => e = .returned (.tuple #[.agg #[.int .i64 0, .int .i64 0, .string ⟨#[]⟩], .int .i64 0, .int .i64 2]) ∧ Below w.heap.size w w' := by
  have HH := Lib.hid (checkHead_ok s (by unfold maxLen; omega) h)
  have h4 : 4 ≤ s.size := by rw [← size_data]; exact head_size h
  rw [← drop_data] at hr
  obtain ⟨T, hT⟩ : ∃ T, s.extract 4 s.size = T := ⟨_, rfl⟩
  rw [hT] at hr
  have hTs : T.size ≤ 1152921504606846976 := by rw [← hT, ByteArray.size_extract]; omega
  have HD := Lib.hid (read_is T N m 0 hr (by unfold maxLen; omega))
  clear h hr
  go_enter Tryd.func20, Tryd.ntmps20
  go_wp2_with fail
  refine (HH.out _).mono ?_
  rintro e w1 ⟨rfl, b1⟩
  have o1 := own3_next (own3_new _ _ _ _ _) b1
  clear b1
  go_wp2_with fail
  refine (HD.out _).mono ?_
  rintro e w0 ⟨rfl, rfl⟩
  go_wp2_with fail
  refine (fail_is _ _).mono ?_
  rintro e w2 ⟨rfl, b2⟩
  have o2 := own3_next o1 b2
  clear b2 o1
  have o3 := own3_set o2 (.int .i64 0) (.int .i64 0) (.string ⟨#[]⟩)
  obtain ⟨⟨⟨k0, k1, k2⟩, hb, hlt⟩, f0, f1, f2⟩ := o2
  go_wp2
  obtain ⟨⟨⟨q0, q1, q2⟩, hb3, _⟩, _⟩ := o3
  unfold set3 at q0 q1 q2 hb3
  exact bodyPost_ret (v := .tuple #[.agg #[.int .i64 0, .int .i64 0, .string ⟨#[]⟩], .int .i64 0, .int .i64 2]) (by simp [results, Tryd.results20, go_sem, q0, q1, q2]) rfl ⟨rfl, hb3⟩

set_option maxRecDepth 100000 in
set_option maxHeartbeats 1000000 in
theorem decode_few (s : ByteArray) (hs : s.size ≤ 1152921504606846976) (h : headE s.data.toList = 0) (N m : Nat) (hr : rd (s.data.toList.drop 4) = (N, m, 0)) (hN : ¬ 6000 < N) (hm : m ≤ 10) (hl : s.size < 8 + m + N) (w : World) :
    Calls Tryd.prog 20 #[.string s] w fun e w' => e = .returned (.tuple #[.agg #[.int .i64 0, .int .i64 0, .string ⟨#[]⟩], .int .i64 0, .int .i64 3]) ∧ Below w.heap.size w w' := by
  have HH := Lib.hid (checkHead_ok s (by unfold maxLen; omega) h)
  have h4 : 4 ≤ s.size := by rw [← size_data]; exact head_size h
  rw [← drop_data] at hr
  obtain ⟨T, hT⟩ : ∃ T, s.extract 4 s.size = T := ⟨_, rfl⟩
  rw [hT] at hr
  have hTs : T.size ≤ 1152921504606846976 := by rw [← hT, ByteArray.size_extract]; omega
  have HD := Lib.hid (read_is T N m 0 hr (by unfold maxLen; omega))
  clear h hr
  go_enter Tryd.func20, Tryd.ntmps20
  go_wp2_with fail
  refine (HH.out _).mono ?_
  rintro e w1 ⟨rfl, b1⟩
  have o1 := own3_next (own3_new _ _ _ _ _) b1
  clear b1
  go_wp2_with fail
  refine (HD.out _).mono ?_
  rintro e w0 ⟨rfl, rfl⟩
  go_wp2_with fail
  refine (fail_is _ _).mono ?_
  rintro e w2 ⟨rfl, b2⟩
  have o2 := own3_next o1 b2
  clear b2 o1
  have o3 := own3_set o2 (.int .i64 0) (.int .i64 0) (.string ⟨#[]⟩)
  obtain ⟨⟨⟨k0, k1, k2⟩, hb, hlt⟩, f0, f1, f2⟩ := o2
  go_wp2
  obtain ⟨⟨⟨q0, q1, q2⟩, hb3, _⟩, _⟩ := o3
  unfold set3 at q0 q1 q2 hb3
  exact bodyPost_ret (v := .tuple #[.agg #[.int .i64 0, .int .i64 0, .string ⟨#[]⟩], .int .i64 0, .int .i64 3]) (by simp [results, Tryd.results20, go_sem, q0, q1, q2]) rfl ⟨rfl, hb3⟩

theorem ne_lists {a b : ByteArray} (h : a ≠ b) : (a.toList == b.toList) = false := by
  rw [ByteArray.toList_eq, ByteArray.toList_eq]
  have : ¬ a.data.toList = b.data.toList := fun e => h (bytes_of e)
  simpa using this
theorem eq_lists (a : ByteArray) : (a.toList == a.toList) = true := by simp
set_option maxRecDepth 100000 in
set_option maxHeartbeats 1000000 in
theorem decode_sum (s : ByteArray) (hs : s.size ≤ 1152921504606846976) (h : headE s.data.toList = 0) (N m E : Nat) (hr : rd (s.data.toList.drop 4) = (N, m, 0)) (hN : ¬ 6000 < N) (hm : m ≤ 10) (hE : 4 + m + N = E) (hl : E + 4 ≤ s.size)
    (hne : s.extract E (E + 4) ≠ sumS (s.extract 0 E)) (w : World) :
    Calls Tryd.prog 20 #[.string s] w fun e w' => e = .returned (.tuple #[.agg #[.int .i64 0, .int .i64 0, .string ⟨#[]⟩], .int .i64 0, .int .i64 5]) ∧ Below w.heap.size w w' := by
  have HH := Lib.hid (checkHead_ok s (by unfold maxLen; omega) h)
  have h4 : 4 ≤ s.size := by rw [← size_data]; exact head_size h
  rw [← drop_data] at hr
  obtain ⟨T, hT⟩ : ∃ T, s.extract 4 s.size = T := ⟨_, rfl⟩
  rw [hT] at hr
  have hTs : T.size ≤ 1152921504606846976 := by rw [← hT, ByteArray.size_extract]; omega
  have HD := Lib.hid (read_is T N m 0 hr (by unfold maxLen; omega))
  obtain ⟨U, hU⟩ : ∃ U, s.extract 0 E = U := ⟨_, rfl⟩
  obtain ⟨V, hV⟩ : ∃ V, s.extract E (E + 4) = V := ⟨_, rfl⟩
  rw [hU, hV] at hne
  have HS := Lib.hid (sumBytes_is U (by rw [← hU, ByteArray.size_extract]; unfold maxLen; omega))
  generalize sumS U = S4 at *
  have hq := ne_lists hne
  have hE1 : (E : Int) ≤ 6014 := by omega
  have hE4 : (4 : Int) ≤ (E : Int) := by omega
  have hEs : (E : Int) + 4 ≤ (s.size : Int) := by omega
  have hEi : 4 + (m : Int) + (N : Int) = (E : Int) := by omega
  clear h hr hne hE hl
  go_enter Tryd.func20, Tryd.ntmps20
  go_wp2_with fail
  refine (HH.out _).mono ?_
  rintro e w1 ⟨rfl, b1⟩
  have o1 := own3_next (own3_new _ _ _ _ _) b1
  clear b1
  go_wp2_with fail
  refine (HD.out _).mono ?_
  rintro e w0 ⟨rfl, rfl⟩
  go_wp2_with fail
  clear hEi hT
  have r1 : (0 : Int) ≤ (E : Int) + 4 := by omega
  have r2 : (E : Int) ≤ (E : Int) + 4 := by omega
  have r3 : (E : Int) ≤ (s.size : Int) := by omega
  have r5 : IntKind.i64.wrap ((E : Int) + 4) = (E : Int) + 4 := IntWalk.i64_in _ (by omega)
  have r4 : ((E : Int) + 4).toNat = E + 4 := by omega
  go_region_held3 (fun w' => Own3 w.heap.size (.int .i64 0) (.int .i64 0) (.string ⟨#[]⟩) w w') (first | exact o1 | exact o1.drew | assumption)
    (first | (go_at_call 42; (with_reducible refine (HS.out _).mono ?_); rintro e w2 ⟨rfl, b2⟩; have o2 := own3_next o1.drew b2; clear b2))
  rename_i w2 o2
  clear r1 r2 r3 r4 r5 o1
  go_wp2_with fail
  refine (fail_is _ _).mono ?_
  rintro e w3 ⟨rfl, b3⟩
  have o4 := own3_next o2 b3
  clear b3 o2
  have o3 := own3_set o4 (.int .i64 0) (.int .i64 0) (.string ⟨#[]⟩)
  obtain ⟨⟨⟨k0, k1, k2⟩, hb, hlt⟩, f0, f1, f2⟩ := o4
  go_wp2
  obtain ⟨⟨⟨q0, q1, q2⟩, hb3, _⟩, _⟩ := o3
  unfold set3 at q0 q1 q2 hb3
  exact bodyPost_ret (v := .tuple #[.agg #[.int .i64 0, .int .i64 0, .string ⟨#[]⟩], .int .i64 0, .int .i64 5]) (by simp [results, Tryd.results20, go_sem, q0, q1, q2]) rfl ⟨rfl, hb3⟩

set_option maxRecDepth 100000 in
set_option maxHeartbeats 1000000 in
theorem decode_good (s : ByteArray) (hs : s.size ≤ 1152921504606846976) (h : headE s.data.toList = 0) (N m E : Nat) (hr : rd (s.data.toList.drop 4) = (N, m, 0)) (hN : ¬ 6000 < N) (hm : m ≤ 10) (hE : 4 + m + N = E) (hl : E + 4 ≤ s.size)
    (hne : s.extract E (E + 4) = sumS (s.extract 0 E)) (p : ByteArray) (hp : s.extract (4 + m) E = p) (v k : Nat) (hv : s.data.toList.getD 2 0 = UInt8.ofNat v) (hk : s.data.toList.getD 3 0 = UInt8.ofNat k) (hv2 : v < 256) (hk2 : k < 256) (w : World) :
    Calls Tryd.prog 20 #[.string s] w fun e w' => e = .returned (.tuple #[.agg #[.int .i64 (v : Int), .int .i64 (k : Int), .string p], .int .i64 ((E : Int) + 4), .int .i64 0]) ∧ Below w.heap.size w w' := by
  have HH := Lib.hid (checkHead_ok s (by unfold maxLen; omega) h)
  have h4 : 4 ≤ s.size := by rw [← size_data]; exact head_size h
  rw [← drop_data] at hr
  obtain ⟨T, hT⟩ : ∃ T, s.extract 4 s.size = T := ⟨_, rfl⟩
  rw [hT] at hr
  have hTs : T.size ≤ 1152921504606846976 := by rw [← hT, ByteArray.size_extract]; omega
  have HD := Lib.hid (read_is T N m 0 hr (by unfold maxLen; omega))
  obtain ⟨U, hU⟩ : ∃ U, s.extract 0 E = U := ⟨_, rfl⟩
  obtain ⟨V, hV⟩ : ∃ V, s.extract E (E + 4) = V := ⟨_, rfl⟩
  rw [hU, hV] at hne
  have HS := Lib.hid (sumBytes_is U (by rw [← hU, ByteArray.size_extract]; unfold maxLen; omega))
  rw [← hne] at HS
  have HC := Lib.hid (clone_is p (by rw [← hp, ByteArray.size_extract]; omega))
  have hq := eq_lists V
  have hE1 : (E : Int) ≤ 6014 := by omega
  have hE4 : (4 : Int) + (m : Int) ≤ (E : Int) := by omega
  have hEs : (E : Int) + 4 ≤ (s.size : Int) := by omega
  have hEi : 4 + (m : Int) + (N : Int) = (E : Int) := by omega
  have s2 : 2 < s.size := by omega
  have s3 : 3 < s.size := by omega
  have hv' : (s[2].toNat : Int) = (v : Int) := by
    have : s[2] = UInt8.ofNat v := by rw [← hv]; simp [List.getD, s2]; rfl
    rw [this, byte_of hv2]
  have hk' : (s[3].toNat : Int) = (k : Int) := by
    have : s[3] = UInt8.ofNat k := by rw [← hk]; simp [List.getD, s3]; rfl
    rw [this, byte_of hk2]
  clear h hr hne hE hl hv hk
  go_enter Tryd.func20, Tryd.ntmps20
  go_wp2_with fail
  refine (HH.out _).mono ?_
  rintro e w1 ⟨rfl, b1⟩
  have o1 := own3_next (own3_new _ _ _ _ _) b1
  clear b1
  go_wp2_with fail
  refine (HD.out _).mono ?_
  rintro e w0 ⟨rfl, rfl⟩
  go_wp2_with fail
  clear hEi hT
  have r1 : (0 : Int) ≤ (E : Int) + 4 := by omega
  have r2 : (E : Int) ≤ (E : Int) + 4 := by omega
  have r3 : (E : Int) ≤ (s.size : Int) := by omega
  have r5 : IntKind.i64.wrap ((E : Int) + 4) = (E : Int) + 4 := IntWalk.i64_in _ (by omega)
  have r4 : ((E : Int) + 4).toNat = E + 4 := by omega
  go_region_held3 (fun w' => Own3 w.heap.size (.int .i64 0) (.int .i64 0) (.string ⟨#[]⟩) w w') (first | exact o1 | exact o1.drew | assumption)
    (first | (go_at_call 42; (with_reducible refine (HS.out _).mono ?_); rintro e w2 ⟨rfl, b2⟩; have o2 := own3_next o1.drew b2; clear b2))
  rename_i w2 o2
  clear r1 r2 r3 r4 r5 o1
  go_wp2_with fail
  refine (HC.out _).mono ?_
  rintro e w3 ⟨rfl, b3⟩
  have o4 := own3_next o2 b3
  clear b3 o2
  go_wp2_with fail
  have o3 := own3_set o4 (.int .i64 (v : Int)) (.int .i64 (k : Int)) (.string p)
  obtain ⟨⟨⟨k0, k1, k2⟩, hb, hlt⟩, f0, f1, f2⟩ := o4
  have i2 : (2 : Int) < (s.size : Int) := by omega
  have i3 : (3 : Int) < (s.size : Int) := by omega
  have r5 : IntKind.i64.wrap ((E : Int) + 4) = (E : Int) + 4 := IntWalk.i64_in _ (by omega)
  go_region
  clear r5
  go_wp2
  obtain ⟨⟨⟨q0, q1, q2⟩, hb3, _⟩, _⟩ := o3.drew
  unfold set3 at q0 q1 q2 hb3
  exact bodyPost_ret (v := .tuple #[.agg #[.int .i64 (v : Int), .int .i64 (k : Int), .string p], .int .i64 ((E : Int) + 4), .int .i64 0]) (by simp [results, Tryd.results20, go_sem, q0, q1, q2]) rfl ⟨rfl, hb3⟩

theorem ext_data (s : ByteArray) (i k : Nat) : (s.extract i k).data.toList = (s.data.toList.take k).drop i := by
  simp [ByteArray.data_extract, List.drop_take]
theorem empty_of {p : ByteArray} (h : [] = p.data.toList) : p = ⟨#[]⟩ := bytes_of h.symm
/-- Decode, by what it answers. -/
theorem decode_is (s : ByteArray) (hs : s.size ≤ 1152921504606846976) (v k : Nat) (p : ByteArray) (n c : Nat) (h : decL s.data.toList = (v, k, p.data.toList, n, c)) (w : World) :
    Calls Tryd.prog 20 #[.string s] w fun e w' => e = .returned (.tuple #[.agg #[.int .i64 (v : Int), .int .i64 (k : Int), .string p], .int .i64 (n : Int), .int .i64 (c : Int)]) ∧ Below w.heap.size w w' := by
  unfold decL at h
  by_cases h1 : headE s.data.toList ≠ 0
  · rw [if_pos h1] at h
    simp only [Prod.mk.injEq] at h
    obtain ⟨rfl, rfl, hp, rfl, rfl⟩ := h
    obtain rfl := empty_of hp
    exact decode_head s hs h1 w
  rw [if_neg h1] at h
  have h1 : headE s.data.toList = 0 := by simpa using h1
  obtain ⟨N, m, c', hr⟩ : ∃ N m c', rd (s.data.toList.drop 4) = (N, m, c') := ⟨_, _, _, rfl⟩
  rw [hr] at h
  simp only at h
  by_cases h2 : c' ≠ 0
  · rw [if_pos h2] at h
    simp only [Prod.mk.injEq] at h
    obtain ⟨rfl, rfl, hp, rfl, rfl⟩ := h
    obtain rfl := empty_of hp
    exact decode_read s hs h1 N m c' hr h2 w
  rw [if_neg h2] at h
  have h2 : c' = 0 := by simpa using h2
  subst h2
  have hm : m ≤ 10 := by
    have ho := rd_ok (l := s.data.toList.drop 4) (by rw [hr])
    rw [hr] at ho
    have h1 := ho.2.1
    have h2 := num_len10 ho.1
    simp only at h1 h2; omega
  by_cases h3 : 6000 < N
  · rw [if_pos h3] at h
    simp only [Prod.mk.injEq] at h
    obtain ⟨rfl, rfl, hp, rfl, rfl⟩ := h
    obtain rfl := empty_of hp
    exact decode_large s hs h1 N m hr h3 w
  rw [if_neg h3, size_data] at h
  by_cases h4 : s.size < 8 + m + N
  · rw [if_pos h4] at h
    simp only [Prod.mk.injEq] at h
    obtain ⟨rfl, rfl, hp, rfl, rfl⟩ := h
    obtain rfl := empty_of hp
    exact decode_few s hs h1 N m hr h3 hm h4 w
  rw [if_neg h4] at h
  obtain ⟨E, hE⟩ : ∃ E, 4 + m + N = E := ⟨_, rfl⟩
  rw [hE] at h
  have e1 : (s.extract E (E + 4)).data.toList = (s.data.toList.drop E).take 4 := by
    rw [ext_data, List.drop_take]; congr 1; omega
  have e2 : (sumS (s.extract 0 E)).data.toList = sum4 (s.data.toList.take E) := by
    rw [sumS_data, ext_data]; rfl
  by_cases h5 : (s.data.toList.drop E).take 4 ≠ sum4 (s.data.toList.take E)
  · rw [if_pos h5] at h
    simp only [Prod.mk.injEq] at h
    obtain ⟨rfl, rfl, hp, rfl, rfl⟩ := h
    obtain rfl := empty_of hp
    exact decode_sum s hs h1 N m E hr h3 hm hE (by omega) (fun hh => h5 (by rw [← e1, ← e2, hh])) w
  rw [if_neg h5] at h
  have h5 : (s.data.toList.drop E).take 4 = sum4 (s.data.toList.take E) := by simpa using h5
  simp only [Prod.mk.injEq] at h
  obtain ⟨rfl, rfl, hp, rfl, rfl⟩ := h
  have hp2 : s.extract (4 + m) E = p := by
    apply bytes_of
    rw [← hp, ext_data, List.drop_take]; congr 1; omega
  have := decode_good s hs h1 N m E hr h3 hm hE (by omega) (bytes_of (by rw [e1, e2, h5])) p hp2 _ _ (UInt8.ofNat_toNat).symm (UInt8.ofNat_toNat).symm (UInt8.toNat_lt _) (UInt8.toNat_lt _) w
  rw [show ((8 + m + N : Nat) : Int) = (E : Int) + 4 from by omega]
  exact this
end Go.Proofs.YtdbopgmckndmeaaDoor

namespace Go.Proofs.YtdbopgmckndmeaaDoor
open Go.ChangeShapes Go.WideShapes Go.RowKit Go.Joins

section
variable {H : Type} {enc : TypeId × Value → H} {w : World} {base : Nat} {spare : Nat → Bool} {held : Bool}
set_option maxRecDepth 100000 in
/-- A frame that came in by value. -/
theorem open_frame {r : Reach} {b0 : Nat} {v : Value} {d : DataW H} {ps : List MemPlace} (hv : Value.okWide Tryd.prog w r b0 41 v) (h : DataW.Trod enc Tryd.prog w base spare held 41 v d ps) :
    ∃ (a b : Int) (s : ByteArray), v = .agg #[.int .i64 a, .int .i64 b, .string s] ∧ d = .agg [.lit (.int .i64 a), .lit (.int .i64 b), .lit (.string s.data.toList)] ∧ ps = [] ∧ ((Lit.int .i64 a).wf = true ∧ (Lit.int .i64 b).wf = true ∧ s.size ≤ maxLen) := by
  obtain ⟨v0, v1, v2, y0, y1, y2, n, rfl, rfl, rfl, t0, t1, t2⟩ := open_agg3 Tryd.underlying41 (by kernel_rfl) (by kernel_rfl) hv h
  obtain ⟨a, e0, rfl, w0⟩ := DataW.trod_int Tryd.underlying3 t0
  obtain ⟨b, e1, rfl, w1⟩ := DataW.trod_int Tryd.underlying3 t1
  obtain ⟨s, e2, rfl, w2⟩ := DataW.trod_string Tryd.underlying9 t2
  simp only [List.cons.injEq, and_true] at e0 e1 e2
  subst e0 e1 e2
  exact ⟨a, b, s, rfl, rfl, rfl, w0, w1, w2⟩
set_option maxRecDepth 100000 in
theorem shut_frame {a b : Int} {s : ByteArray} (h : (Lit.int .i64 a).wf = true ∧ (Lit.int .i64 b).wf = true ∧ s.size ≤ maxLen) :
    DataW.Trod enc Tryd.prog w base spare held 41 (.agg #[.int .i64 a, .int .i64 b, .string s]) (.agg [.lit (.int .i64 a), .lit (.int .i64 b), .lit (.string s.data.toList)]) [] :=
  shut_agg3 (y0 := (.lit (.int .i64 a), [])) (y1 := (.lit (.int .i64 b), [])) (y2 := (.lit (.string s.data.toList), [])) Tryd.underlying41 (by kernel_rfl) (by kernel_rfl)
    ⟨1, by simp [DataW.trod, Tryd.underlying3, h.1]⟩ ⟨1, by simp [DataW.trod, Tryd.underlying3, h.2.1]⟩ ⟨1, by simp [DataW.trod, Tryd.underlying9, h.2.2]⟩
end
set_option maxRecDepth 100000 in
theorem sized_frame {H : Type} {ts : List TypeId} {ds : List (DataW H)} (h : (DataW.weightsEach Tryd.prog ts ds).all (· ≤ reachBytes) = true) {j : Nat} {x y : DataW H} {bytes : List UInt8} (ht : ts[j]? = some 41) (hd : ds[j]? = some (.agg [x, y, .lit (.string bytes)])) : bytes.length ≤ reachBytes := by
  have := List.all_eq_true.1 h _ (DataW.weights_mem_each ht hd bytes.length (by simp [DataW.weights, DataW.weightsEach, Tryd.underlying41]))
  simpa using this
set_option maxRecDepth 100000 in
theorem reach_le {a : ByteArray} (s : a.data.toList.length ≤ reachBytes) : a.size ≤ 140737488351232 := by simpa [reachBytes] using s
end Go.Proofs.YtdbopgmckndmeaaDoor

namespace Go.Proofs.YtdbopgmckndmeaaDoor
open Go.RowKit

theorem below_new (w : World) (o : Obj) : Below w.heap.size w (w.alloc o) := (Below.refl _ _).alloc (Nat.le_refl _) o
theorem enc_cases (v k : Int) (p : ByteArray) : (∃ a b : Nat, v = a ∧ k = b ∧ goodF a b p.data.toList ∧ enc v k p = (encB a b p, 0)) ∨ ∃ c, c ≠ 0 ∧ enc v k p = (⟨#[]⟩, c) := by
  unfold enc
  by_cases h1 : encOK v k = false
  · exact .inr ⟨1, by omega, by rw [if_pos h1]⟩
  by_cases h2 : 6000 < p.size
  · exact .inr ⟨2, by omega, by rw [if_neg h1, if_pos h2]⟩
  have h1' : encOK v k = true := by simpa using h1
  simp only [encOK, Bool.and_eq_true, decide_eq_true_eq] at h1'
  obtain ⟨a, rfl⟩ := Int.eq_ofNat_of_zero_le (show 0 ≤ v by omega)
  obtain ⟨b, rfl⟩ := Int.eq_ofNat_of_zero_le (show 0 ≤ k by omega)
  refine .inl ⟨a, b, rfl, rfl, ⟨by omega, by omega, by omega, by omega, by rw [size_data]; omega⟩, ?_⟩
  rw [if_neg h1, if_neg h2, Int.toNat_natCast, Int.toNat_natCast]
theorem enc_good {a b : Nat} {p : ByteArray} (h : goodF a b p.data.toList) : enc a b p = (encB a b p, 0) := by
  obtain ⟨h1, h2, h3, h4, h5⟩ := h
  rw [size_data] at h5
  unfold enc
  have : encOK a b = true := by simp [encOK]; omega
  rw [if_neg (by rw [this]; simp), if_neg (by omega), Int.toNat_natCast, Int.toNat_natCast]
theorem enc_bd {a b : Nat} {p : ByteArray} (h : goodF a b p.data.toList) : (encB a b p).size ≤ 6018 ∧ 9 ≤ (encB a b p).size := by
  have h5 := h.2.2.2.2
  rw [size_data] at h5
  rw [encB_size]
  have := num_len 1 p.size (by omega)
  have := num_pos p.size
  omega
theorem encode_is (v k : Int) (p : ByteArray) (hp : p.size ≤ 140737488355328) (t : ByteArray) (c : Nat) (h : enc v k p = (t, c)) (w : World) :
    Calls Tryd.prog 29 #[.agg #[.int .i64 v, .int .i64 k, .string p]] w fun e w' => e = .returned (.tuple #[.string t, .int .i64 (c : Int)]) ∧ Below w.heap.size w w' := by
  have := encode_any v k p hp w
  rwa [h] at this
theorem decode_enc {a b : Nat} {p : ByteArray} (h : goodF a b p.data.toList) (more : ByteArray) : decL (encB a b p ++ more).data.toList = (a, b, p.data.toList, (encB a b p).size, 0) := by
  rw [app_data, encB_data, decL_enc h, ← encB_data, size_data]

theorem fields {a0 b0 a1 b1 : Int} {c0 c1 : ByteArray} (h : ¬ (a0 = a1 ∧ b0 = b1 ∧ c0 = c1)) : (a0 == a1) = false ∨ (a0 = a1 ∧ (b0 == b1) = false) ∨ (a0 = a1 ∧ b0 = b1 ∧ (c0.toList == c1.toList) = false) := by
  by_cases h0 : a0 = a1
  · by_cases h1 : b0 = b1
    · exact .inr (.inr ⟨h0, h1, ne_lists (fun h2 => h ⟨h0, h1, h2⟩)⟩)
    · exact .inr (.inl ⟨h0, by simpa using h1⟩)
  · exact .inl (by simpa using h0)
end Go.Proofs.YtdbopgmckndmeaaDoor
