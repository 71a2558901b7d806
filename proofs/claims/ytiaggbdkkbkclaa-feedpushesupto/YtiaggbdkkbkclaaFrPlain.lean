/- Plain facts on frames (no program): the bytes of a frame, what decoding answers, and that a changed byte always shows. -/
import Derived.Test.YtiaggbdkkbkclaaPlainN
import Derived.Test.YtiaggbdkkbkclaaCrc
namespace Go.Proofs.Ytiaggbdkkbkclaa

/-- The four bytes of a number below 2^32, the most significant first. -/
def be4 (x : Nat) : List UInt8 := [UInt8.ofNat (x / 16777216), UInt8.ofNat (x / 65536), UInt8.ofNat (x / 256), UInt8.ofNat x]
def sum4 (l : List UInt8) : List UInt8 := be4 (sum l)
theorem be4_length (x : Nat) : (be4 x).length = 4 := rfl
theorem sum4_length (l : List UInt8) : (sum4 l).length = 4 := rfl
theorem ofNat_eq {a b : Nat} (h : UInt8.ofNat a = UInt8.ofNat b) : a % 256 = b % 256 := by
  have := congrArg UInt8.toNat h
  simpa using this
theorem be4_inj {x y : Nat} (hx : x < 4294967296) (hy : y < 4294967296) (h : be4 x = be4 y) : x = y := by
  simp only [be4, List.cons.injEq, and_true] at h
  obtain ⟨h1, h2, h3, h4⟩ := h
  have a1 := ofNat_eq h1
  have a2 := ofNat_eq h2
  have a3 := ofNat_eq h3
  have a4 := ofNat_eq h4
  omega
theorem sum4_inj {a b : List UInt8} (h : sum4 a = sum4 b) : sum a = sum b := be4_inj (sum_lt a) (sum_lt b) h

/-- The bytes of a frame ahead of its checksum; the whole frame. -/
def bodyL (v k : Nat) (p : List UInt8) : List UInt8 := 66 :: 75 :: UInt8.ofNat v :: UInt8.ofNat k :: (num p.length ++ p)
def encL (v k : Nat) (p : List UInt8) : List UInt8 := bodyL v k p ++ sum4 (bodyL v k p)
def goodF (v k : Nat) (p : List UInt8) : Prop := 1 ≤ v ∧ v ≤ 3 ∧ 1 ≤ k ∧ k ≤ 4 ∧ p.length ≤ 6000
/-- The error of the four bytes ahead of the length (0: none), from the fourth, the third, the second, the first byte on. -/
def hd3 : List UInt8 → Nat
  | [] => 3
  | d :: _ => if ¬ (1 ≤ d.toNat ∧ d.toNat ≤ 4) then 1 else 0
def hd2 : List UInt8 → Nat
  | [] => 3
  | c :: r => if ¬ (1 ≤ c.toNat ∧ c.toNat ≤ 3) then 1 else hd3 r
def hd1 : List UInt8 → Nat
  | [] => 3
  | b :: r => if b ≠ 75 then 4 else hd2 r
def headE : List UInt8 → Nat
  | [] => 3
  | a :: r => if a ≠ 66 then 4 else hd1 r
/-- What decoding answers: version, kind, payload, length, error. -/
def decL (l : List UInt8) : Nat × Nat × List UInt8 × Nat × Nat :=
  if headE l ≠ 0 then (0, 0, [], 0, headE l)
  else if (rd (l.drop 4)).2.2 ≠ 0 then (0, 0, [], 0, (rd (l.drop 4)).2.2)
  else if 6000 < (rd (l.drop 4)).1 then (0, 0, [], 0, 2)
  else if l.length < 8 + (rd (l.drop 4)).2.1 + (rd (l.drop 4)).1 then (0, 0, [], 0, 3)
  else if (l.drop (4 + (rd (l.drop 4)).2.1 + (rd (l.drop 4)).1)).take 4 ≠ sum4 (l.take (4 + (rd (l.drop 4)).2.1 + (rd (l.drop 4)).1)) then (0, 0, [], 0, 5)
  else ((l.getD 2 0).toNat, (l.getD 3 0).toNat, (l.drop (4 + (rd (l.drop 4)).2.1)).take (rd (l.drop 4)).1, 8 + (rd (l.drop 4)).2.1 + (rd (l.drop 4)).1, 0)

theorem bodyL_length (v k : Nat) (p : List UInt8) : (bodyL v k p).length = 4 + (num p.length).length + p.length := by simp [bodyL]; omega
theorem encL_length (v k : Nat) (p : List UInt8) : (encL v k p).length = 8 + (num p.length).length + p.length := by simp [encL, bodyL_length, sum4_length]; omega
theorem byte_of {n : Nat} (h : n < 256) : (UInt8.ofNat n).toNat = n := by simp; omega

/-- The five things that the first four bytes can be. -/
theorem headE_zero {l : List UInt8} (h : headE l = 0) : ∃ c d r, l = 66 :: 75 :: c :: d :: r ∧ 1 ≤ c.toNat ∧ c.toNat ≤ 3 ∧ 1 ≤ d.toNat ∧ d.toNat ≤ 4 := by
  match l, h with
  | [], h => simp [headE] at h
  | [a], h => simp only [headE, hd1] at h; split at h <;> simp at h
  | [a, b], h => simp only [headE, hd1, hd2] at h; split at h <;> (try split at h) <;> simp at h
  | [a, b, c], h => simp only [headE, hd1, hd2, hd3] at h; split at h <;> (try split at h) <;> (try split at h) <;> simp at h
  | a :: b :: c :: d :: r, h =>
    simp only [headE, hd1, hd2, hd3] at h
    split at h
    · simp at h
    · rename_i ha
      split at h
      · simp at h
      · rename_i hb
        split at h
        · simp at h
        · rename_i hc
          split at h
          · simp at h
          · rename_i hd
            have ha : a = 66 := by simpa using ha
            have hb : b = 75 := by simpa using hb
            subst ha hb
            exact ⟨c, d, r, rfl, by omega, by omega, by omega, by omega⟩
theorem headE_good {c d : UInt8} {r : List UInt8} (h : 1 ≤ c.toNat ∧ c.toNat ≤ 3 ∧ 1 ≤ d.toNat ∧ d.toNat ≤ 4) : headE (66 :: 75 :: c :: d :: r) = 0 := by
  simp only [headE, hd1, hd2, hd3]
  rw [if_neg (by simp), if_neg (by simp), if_neg (by omega), if_neg (by omega)]

theorem decL_enc {v k : Nat} {p : List UInt8} (h : goodF v k p) (more : List UInt8) : decL (encL v k p ++ more) = (v, k, p, (encL v k p).length, 0) := by
  obtain ⟨h1, h2, h3, h4, h5⟩ := h
  have hl := bodyL_length v k p
  have e0 : encL v k p ++ more = 66 :: 75 :: UInt8.ofNat v :: UInt8.ofNat k :: (num p.length ++ (p ++ (sum4 (bodyL v k p) ++ more))) := by simp [encL, bodyL]
  have e1 : encL v k p ++ more = bodyL v k p ++ (sum4 (bodyL v k p) ++ more) := by simp [encL]
  have hv : (UInt8.ofNat v).toNat = v := byte_of (by omega)
  have hk : (UInt8.ofNat k).toNat = k := byte_of (by omega)
  have hh : headE (encL v k p ++ more) = 0 := by
    rw [e0]; exact headE_good ⟨by omega, by omega, by omega, by omega⟩
  have hd : (encL v k p ++ more).drop 4 = num p.length ++ (p ++ (sum4 (bodyL v k p) ++ more)) := by rw [e0]; rfl
  have hr : rd ((encL v k p ++ more).drop 4) = (p.length, (num p.length).length, 0) := by rw [hd]; exact rd_num (by omega) _
  have hlen : (encL v k p ++ more).length = 8 + (num p.length).length + p.length + more.length := by rw [List.length_append, encL_length]
  unfold decL
  rw [hr, hh]
  simp only
  rw [if_neg (by simp), if_neg (by simp), if_neg (by omega), if_neg (by omega)]
  have ht : (encL v k p ++ more).take (4 + (num p.length).length + p.length) = bodyL v k p := by
    rw [e1, ← hl]; simp
  have ht2 : (encL v k p ++ more).drop (4 + (num p.length).length + p.length) = sum4 (bodyL v k p) ++ more := by
    rw [e1, ← hl]; simp
  have ht3 : (sum4 (bodyL v k p) ++ more).take 4 = sum4 (bodyL v k p) := by
    rw [show (4 : Nat) = (sum4 (bodyL v k p)).length from rfl]; simp
  rw [ht, ht2, ht3, if_neg (by simp)]
  have hp : ((encL v k p ++ more).drop (4 + (num p.length).length)).take p.length = p := by
    have : (encL v k p ++ more).drop (4 + (num p.length).length) = p ++ (sum4 (bodyL v k p) ++ more) := by
      rw [← List.drop_drop, hd]; simp
    rw [this]; simp
  have g2 : (encL v k p ++ more).getD 2 0 = UInt8.ofNat v := by rw [e0]; rfl
  have g3 : (encL v k p ++ more).getD 3 0 = UInt8.ofNat k := by rw [e0]; rfl
  rw [hp, g2, g3, hv, hk, encL_length]

theorem decL_err {l : List UInt8} (h : (decL l).2.2.2.2 ≠ 0) : decL l = (0, 0, [], 0, (decL l).2.2.2.2) := by
  unfold decL at h ⊢
  split
  · rfl
  · split
    · rfl
    · split
      · rfl
      · split
        · rfl
        · split
          · rfl
          · rename_i h1 h2 h3 h4 h5
            rw [if_neg h1, if_neg h2, if_neg h3, if_neg h4, if_neg h5] at h
            exact absurd rfl h
/-- What a successful decoding says of the bytes. -/
theorem decL_ok {l : List UInt8} (h : (decL l).2.2.2.2 = 0) : ∃ v k p more, goodF v k p ∧ l = encL v k p ++ more := by
  unfold decL at h
  by_cases h1 : headE l ≠ 0
  · rw [if_pos h1] at h; exact absurd h h1
  rw [if_neg h1] at h
  have h1 : headE l = 0 := by simpa using h1
  by_cases h2 : (rd (l.drop 4)).2.2 ≠ 0
  · rw [if_pos h2] at h; exact absurd h h2
  rw [if_neg h2] at h
  have h2 : (rd (l.drop 4)).2.2 = 0 := by simpa using h2
  by_cases h3 : 6000 < (rd (l.drop 4)).1
  · rw [if_pos h3] at h; exact absurd h (by simp)
  rw [if_neg h3] at h
  by_cases h4 : l.length < 8 + (rd (l.drop 4)).2.1 + (rd (l.drop 4)).1
  · rw [if_pos h4] at h; exact absurd h (by simp)
  rw [if_neg h4] at h
  by_cases h5 : (l.drop (4 + (rd (l.drop 4)).2.1 + (rd (l.drop 4)).1)).take 4 ≠ sum4 (l.take (4 + (rd (l.drop 4)).2.1 + (rd (l.drop 4)).1))
  · rw [if_pos h5] at h; exact absurd h (by simp)
  have h5 : (l.drop (4 + (rd (l.drop 4)).2.1 + (rd (l.drop 4)).1)).take 4 = sum4 (l.take (4 + (rd (l.drop 4)).2.1 + (rd (l.drop 4)).1)) := by simpa using h5
  obtain ⟨c, d, r, rfl, hc1, hc2, hd1, hd2⟩ := headE_zero h1
  have hr := rd_ok h2
  simp only [List.drop_succ_cons, List.drop_zero] at hr h2 h3 h4 h5
  generalize (rd r).1 = n at *
  generalize (rd r).2.1 = m at *
  obtain ⟨hn, hm, hml, hnum, _⟩ := hr
  simp only [List.length_cons] at h4
  have hpl : ((r.drop m).take n).length = n := by simp; omega
  refine ⟨c.toNat, d.toNat, (r.drop m).take n, (r.drop (m + n)).drop 4, ⟨hc1, hc2, hd1, hd2, by omega⟩, ?_⟩
  have hb : bodyL c.toNat d.toNat ((r.drop m).take n) = (66 :: 75 :: c :: d :: r).take (4 + m + n) := by
    rw [bodyL, hpl, hnum, show 4 + m + n = (m + n) + 4 from by omega]
    simp [List.take_add]
  have hdr : (66 :: 75 :: c :: d :: r).drop (4 + m + n) = r.drop (m + n) := by
    rw [show 4 + m + n = (m + n) + 4 from by omega]; rfl
  rw [hdr] at h5
  rw [encL, hb, ← h5, List.append_assoc, List.take_append_drop, ← hdr, List.take_append_drop]
theorem decL_is {l : List UInt8} (h : (decL l).2.2.2.2 = 0) : ∃ v k p more, goodF v k p ∧ l = encL v k p ++ more ∧ decL l = (v, k, p, (encL v k p).length, 0) := by
  obtain ⟨v, k, p, more, hg, hl⟩ := decL_ok h
  exact ⟨v, k, p, more, hg, hl, by rw [hl]; exact decL_enc hg more⟩
theorem encL_inj {v k v' k' : Nat} {p p' more more' : List UInt8} (h : goodF v k p) (h' : goodF v' k' p') (e : encL v k p ++ more = encL v' k' p' ++ more') : v = v' ∧ k = k' ∧ p = p' := by
  have e1 := decL_enc h more
  rw [e, decL_enc h' more'] at e1
  simp only [Prod.mk.injEq] at e1
  exact ⟨e1.1.symm, e1.2.1.symm, e1.2.2.1.symm⟩
/-- Fewer bytes are too few. -/
theorem decL_short {v k : Nat} {p : List UInt8} (h : goodF v k p) (j : Nat) (hj : j < (encL v k p).length) : decL ((encL v k p).take j) = (0, 0, [], 0, 3) := by
  have hg := h
  obtain ⟨h1, h2, h3, h4, h5⟩ := h
  have hv : (UInt8.ofNat v).toNat = v := byte_of (by omega)
  have hk : (UInt8.ofNat k).toNat = k := byte_of (by omega)
  have e0 : encL v k p = 66 :: 75 :: UInt8.ofNat v :: UInt8.ofNat k :: (num p.length ++ (p ++ sum4 (bodyL v k p))) := by simp [encL, bodyL]
  have hl := encL_length v k p
  rw [e0] at hj ⊢
  match j, hj with
  | 0, _ => simp [decL, headE]
  | 1, _ => simp [decL, headE, hd1]
  | 2, _ => simp [decL, headE, hd1, hd2]
  | 3, _ =>
    have : headE ((66 :: 75 :: UInt8.ofNat v :: UInt8.ofNat k :: (num p.length ++ (p ++ sum4 (bodyL v k p)))).take 3) = 3 := by
      simp only [List.take_succ_cons, List.take_zero, headE, hd1, hd2, hd3, hv]
      rw [if_neg (by simp), if_neg (by simp), if_neg (by omega)]
    unfold decL; rw [this]; simp
  | i + 4, hj =>
    obtain ⟨L, hL⟩ : ∃ L, (66 :: 75 :: UInt8.ofNat v :: UInt8.ofNat k :: (num p.length ++ (p ++ sum4 (bodyL v k p)))).take (i + 4) = L := ⟨_, rfl⟩
    rw [hL]
    have hLl : L.length = i + 4 := by rw [← hL, List.length_take]; omega
    have hh : headE L = 0 := by
      rw [← hL]
      simp only [List.take_succ_cons]
      exact headE_good ⟨by omega, by omega, by omega, by omega⟩
    have hd : L.drop 4 = (num p.length ++ (p ++ sum4 (bodyL v k p))).take i := by rw [← hL]; simp
    rw [e0] at hl
    simp only [List.length_cons, List.length_append, sum4_length] at hl hj
    have hn := rd_num (n := p.length) (by omega) []
    rw [List.append_nil] at hn
    unfold decL
    rw [hh, if_neg (by simp)]
    by_cases hi : i < (num p.length).length
    · have hr : rd (L.drop 4) = (0, 0, 3) := by
        rw [hd, List.take_append_of_le_length (by omega)]
        exact (rd_ok (l := num p.length) (by rw [hn])).2.2.2.2 i (by rw [hn]; exact hi)
      rw [hr]; simp
    · have hr : rd (L.drop 4) = (p.length, (num p.length).length, 0) := by
        rw [hd, List.take_append, List.take_of_length_le (by omega)]; exact rd_num (by omega) _
      rw [hr]
      simp only
      rw [if_neg (by simp), if_neg (by omega), if_pos (by omega)]
theorem turned_sum {A B q r : List UInt8} {b c : UInt8} (hl : A.length = B.length) (h1 : A ++ sum4 A = q ++ b :: r) (h2 : B ++ sum4 B = q ++ c :: r) : b = c := by
  rcases List.append_eq_append_iff.1 h1 with ⟨a', rfl, e⟩ | ⟨c', rfl, e⟩
  · rw [List.append_assoc] at h2
    obtain ⟨rfl, e2⟩ := List.append_inj h2 hl.symm
    rw [e] at e2
    have := List.append_cancel_left e2
    simp at this
    exact this
  · cases c' with
    | nil =>
      simp only [List.append_nil, List.nil_append] at hl e
      obtain ⟨rfl, e2⟩ := List.append_inj h2 hl.symm
      rw [← e] at e2
      simp at e2
      exact e2
    | cons d r' =>
      simp only [List.cons_append, List.cons.injEq] at e
      obtain ⟨rfl, rfl⟩ := e
      have e3 : q ++ c :: (r' ++ sum4 (q ++ b :: r')) = (q ++ c :: r') ++ sum4 (q ++ b :: r') := by simp
      rw [e3] at h2
      obtain ⟨rfl, e2⟩ := List.append_inj h2 (by rw [← hl]; simp)
      exact ((sum_turned q r' c b).1 (sum4_inj e2)).symm
/-- One byte that is another one. -/
theorem decL_turned {v k : Nat} {p : List UInt8} (h : goodF v k p) (q r : List UInt8) (b c : UInt8) (ht : encL v k p = q ++ b :: r) (hbc : c ≠ b) (hok : (decL (q ++ c :: r)).2.2.2.2 = 0) :
    ∃ v' k' p', decL (q ++ c :: r) = (v', k', p', (encL v' k' p').length, 0) ∧ ¬ (v' = v ∧ k' = k ∧ p' = p) ∧ 4 ≤ q.length ∧ q.length < 4 + (num p.length).length := by
  obtain ⟨v', k', p', more, hg', hl, hd⟩ := decL_is hok
  have hlt : (encL v k p).length = (q ++ c :: r).length := by rw [ht]; simp
  refine ⟨v', k', p', hd, ?_, ?_⟩
  · rintro ⟨rfl, rfl, rfl⟩
    have : more = [] := by
      have := congrArg List.length hl
      rw [List.length_append (as := encL v' k' p')] at this
      exact List.eq_nil_of_length_eq_zero (by omega)
    subst this
    rw [List.append_nil, ht] at hl
    have := List.append_cancel_left hl
    simp at this
    exact hbc this
  · -- elsewhere the length is the same, and the sum tells
    apply Classical.byContradiction
    intro hout
    have hnum : rd ((q ++ c :: r).drop 4) = (p.length, (num p.length).length, 0) := by
      have e0 : (encL v k p).drop 4 = num p.length ++ (p ++ sum4 (bodyL v k p)) := by simp [encL, bodyL]
      rw [ht] at e0
      by_cases hq : q.length < 4
      · have e1 : (q ++ c :: r).drop 4 = (q ++ b :: r).drop 4 := by
          rw [List.drop_append, List.drop_append, List.drop_of_length_le (by omega)]
          obtain ⟨m, hm⟩ : ∃ m, 4 - q.length = m + 1 := ⟨3 - q.length, by omega⟩
          rw [hm]; simp
        rw [e1, e0]; exact rd_num (by have := h.2.2.2.2; omega) _
      · have hq2 : 4 + (num p.length).length ≤ q.length := by omega
        have e1 : (q ++ b :: r).drop 4 = q.drop 4 ++ b :: r := List.drop_append_of_le_length (by omega)
        have e2 : (q ++ c :: r).drop 4 = q.drop 4 ++ c :: r := List.drop_append_of_le_length (by omega)
        rw [e1] at e0
        have e3 : q.drop 4 = num p.length ++ (q.drop 4).drop (num p.length).length := by
          have := congrArg (List.take (num p.length).length) e0
          rw [List.take_append_of_le_length (by simp; omega), List.take_append_of_le_length (by omega), List.take_length] at this
          conv => lhs; rw [← List.take_append_drop (num p.length).length (q.drop 4)]
          rw [this]
        rw [e2, e3, List.append_assoc]; exact rd_num (by have := h.2.2.2.2; omega) _
    have hnum' : rd ((q ++ c :: r).drop 4) = (p'.length, (num p'.length).length, 0) := by
      have : (q ++ c :: r).drop 4 = num p'.length ++ (p' ++ (sum4 (bodyL v' k' p') ++ more)) := by rw [hl]; simp [encL, bodyL]
      rw [this]; exact rd_num (by have := hg'.2.2.2.2; omega) _
    rw [hnum] at hnum'
    have hpl : p.length = p'.length := by simpa using congrArg Prod.fst hnum'
    have hbl : (bodyL v k p).length = (bodyL v' k' p').length := by rw [bodyL_length, bodyL_length, hpl]
    have : more = [] := by
      have := congrArg List.length hl
      rw [List.length_append (as := encL v' k' p'), encL_length] at this
      rw [encL_length] at hlt
      rw [← hpl] at this
      exact List.eq_nil_of_length_eq_zero (by omega)
    subst this
    rw [List.append_nil] at hl
    exact hbc (turned_sum hbl ht hl.symm).symm
end Go.Proofs.Ytiaggbdkkbkclaa
