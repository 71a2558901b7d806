/- Plain facts on streams of frames (no program): every row of bytes is frames, one behind the other, and a rest that is no frame; what more bytes do to it. -/
import Derived.Test.YtiaggbdkkbkclaaFrPlain
namespace Go.Proofs.Ytiaggbdkkbkclaa

/-- A frame: version, kind, payload. -/
abbrev Fr := Nat × Nat × ByteArray
def encF (f : Fr) : List UInt8 := encL f.1 f.2.1 f.2.2.data.toList
def goodFr (f : Fr) : Prop := goodF f.1 f.2.1 f.2.2.data.toList
def encs (fs : List Fr) : List UInt8 := fs.flatMap encF
def goods (fs : List Fr) : Prop := ∀ f ∈ fs, goodFr f
/-- The bytes l are the frames fs and r, where decoding r fails with the error c. -/
def Split (l : List UInt8) (fs : List Fr) (r : List UInt8) (c : Nat) : Prop := l = encs fs ++ r ∧ goods fs ∧ decL r = (0, 0, [], 0, c) ∧ c ≠ 0

theorem encs_nil : encs [] = [] := rfl
theorem encs_cons (f : Fr) (fs : List Fr) : encs (f :: fs) = encF f ++ encs fs := by simp [encs]
theorem encs_append (fs gs : List Fr) : encs (fs ++ gs) = encs fs ++ encs gs := by simp [encs]
theorem goods_append {fs gs : List Fr} (h : goods fs) (k : goods gs) : goods (fs ++ gs) := fun f hf => by
  rcases List.mem_append.1 hf with h1 | h1
  · exact h f h1
  · exact k f h1
theorem goods_cons {f : Fr} {fs : List Fr} (h : goods (f :: fs)) : goodFr f ∧ goods fs := ⟨h f (by simp), fun g hg => h g (by simp [hg])⟩
theorem encF_bd {f : Fr} (h : goodFr f) : 9 ≤ (encF f).length ∧ (encF f).length ≤ 6018 := by
  have h5 := h.2.2.2.2
  have h1 := num_len 1 f.2.2.data.toList.length (by omega)
  have h2 := num_pos f.2.2.data.toList.length
  rw [encF, encL_length]
  omega
theorem encs_bd {fs : List Fr} (h : goods fs) : 9 * fs.length ≤ (encs fs).length ∧ (encs fs).length ≤ 6018 * fs.length := by
  induction fs with
  | nil => simp [encs]
  | cons f fs ih =>
    have h1 := goods_cons h
    have h2 := ih h1.2
    have h3 := encF_bd h1.1
    rw [encs_cons, List.length_append, List.length_cons]
    omega
theorem goods_nil : goods [] := fun f hf => by cases hf
theorem decL_nil : decL [] = (0, 0, [], 0, 3) := by simp [decL, headE]
theorem split_any (l : List UInt8) : ∃ fs r c, Split l fs r c := by
  obtain ⟨n, hn⟩ : ∃ n, l.length ≤ n := ⟨_, Nat.le_refl _⟩
  induction n generalizing l with
  | zero =>
    obtain rfl : l = [] := List.eq_nil_of_length_eq_zero (by omega)
    exact ⟨[], [], 3, rfl, goods_nil, decL_nil, by omega⟩
  | succ n ih =>
    by_cases h : (decL l).2.2.2.2 = 0
    · obtain ⟨v, k, p, more, hg, rfl⟩ := decL_ok h
      have hf : goodFr (v, k, ⟨p.toArray⟩) := by simpa [goodFr] using hg
      have he : encF (v, k, ⟨p.toArray⟩) = encL v k p := by simp [encF]
      have hb := encF_bd hf
      rw [he] at hb
      obtain ⟨fs, r, c, h1, h2, h3, h4⟩ := ih more (by rw [List.length_append] at hn; omega)
      refine ⟨(v, k, ⟨p.toArray⟩) :: fs, r, c, ?_, ?_, h3, h4⟩
      · rw [encs_cons, he, h1, List.append_assoc]
      · intro g hg'
        rcases List.mem_cons.1 hg' with rfl | h5
        · exact hf
        · exact h2 g h5
    · exact ⟨[], l, _, rfl, goods_nil, decL_err h, h⟩
theorem fr_ext {f g : Fr} (h1 : f.1 = g.1) (h2 : f.2.1 = g.2.1) (h3 : f.2.2.data.toList = g.2.2.data.toList) : f = g := by
  obtain ⟨a, b, ⟨⟨c⟩⟩⟩ := f
  obtain ⟨a', b', ⟨⟨c'⟩⟩⟩ := g
  simp only at h1 h2 h3
  subst h1 h2 h3
  rfl
theorem decL_encF {f : Fr} (h : goodFr f) (more : List UInt8) : decL (encF f ++ more) = (f.1, f.2.1, f.2.2.data.toList, (encF f).length, 0) := decL_enc h more
theorem split_one {l : List UInt8} {fs fs' : List Fr} {r r' : List UInt8} {c c' : Nat} (h : Split l fs r c) (k : Split l fs' r' c') : fs = fs' ∧ r = r' ∧ c = c' := by
  induction fs generalizing l fs' with
  | nil =>
    obtain ⟨h1, _, h3, h4⟩ := h
    rw [encs_nil, List.nil_append] at h1
    subst h1
    cases fs' with
    | nil =>
      obtain ⟨k1, _, k3, k4⟩ := k
      rw [encs_nil, List.nil_append] at k1
      subst k1
      rw [h3] at k3
      simp only [Prod.mk.injEq, true_and] at k3
      exact ⟨rfl, rfl, k3⟩
    | cons f fs' =>
      obtain ⟨k1, k2, _, _⟩ := k
      rw [encs_cons, List.append_assoc] at k1
      rw [k1, decL_encF (goods_cons k2).1] at h3
      simp only [Prod.mk.injEq] at h3
      omega
  | cons f fs ih =>
    obtain ⟨h1, h2, h3, h4⟩ := h
    rw [encs_cons, List.append_assoc] at h1
    cases fs' with
    | nil =>
      obtain ⟨k1, _, k3, k4⟩ := k
      rw [encs_nil, List.nil_append] at k1
      rw [← k1, h1, decL_encF (goods_cons h2).1] at k3
      simp only [Prod.mk.injEq] at k3
      omega
    | cons f' fs' =>
      obtain ⟨k1, k2, k3, k4⟩ := k
      rw [encs_cons, List.append_assoc] at k1
      have e := h1.symm.trans k1
      obtain ⟨e1, e2, e3⟩ := encL_inj (goods_cons h2).1 (goods_cons k2).1 e
      obtain rfl := fr_ext e1 e2 e3
      have e4 := List.append_cancel_left e
      obtain ⟨rfl, rfl, rfl⟩ := ih (l := encs fs ++ r) ⟨rfl, (goods_cons h2).2, h3, h4⟩ ⟨e4, (goods_cons k2).2, k3, k4⟩
      exact ⟨rfl, rfl, rfl⟩

/-- More bytes change nothing but what was too short. -/
theorem headE_more {l : List UInt8} (m : List UInt8) (h : headE l ≠ 3) : headE (l ++ m) = headE l := by
  match l, h with
  | [], h => simp [headE] at h
  | [a], h =>
    simp only [List.cons_append, List.nil_append, headE, hd1] at h ⊢
    split
    · rfl
    · rename_i h1; rw [if_neg h1] at h; simp at h
  | [a, b], h =>
    simp only [List.cons_append, List.nil_append, headE, hd1, hd2] at h ⊢
    split
    · rfl
    · rename_i h1
      rw [if_neg h1] at h
      split
      · rfl
      · rename_i h2; rw [if_neg h2] at h; simp at h
  | [a, b, c], h =>
    simp only [List.cons_append, List.nil_append, headE, hd1, hd2, hd3] at h ⊢
    split
    · rfl
    · rename_i h1
      rw [if_neg h1] at h
      split
      · rfl
      · rename_i h2
        rw [if_neg h2] at h
        split
        · rfl
        · rename_i h3; rw [if_neg h3] at h; simp at h
  | a :: b :: c :: d :: r, h => simp [headE, hd1, hd2, hd3]
theorem headE_three {l : List UInt8} (h : headE l = 3) : l.length < 4 := by
  match l, h with
  | [], _ => simp
  | [a], _ => simp
  | [a, b], _ => simp
  | [a, b, c], _ => simp
  | a :: b :: c :: d :: r, h =>
    simp only [headE, hd1, hd2, hd3] at h
    repeat' split at h
    all_goals simp at h
theorem headE_len {l : List UInt8} (h : headE l = 0) : 4 ≤ l.length := by
  obtain ⟨c, d, r, rfl, _⟩ := headE_zero h
  simp
theorem rdGo_more (l m : List UInt8) (k x : Nat) (h : (rdGo l k x).2.2 ≠ 3) : rdGo (l ++ m) k x = rdGo l k x := by
  induction l generalizing k x with
  | nil => simp [rdGo] at h
  | cons b r ih =>
    simp only [List.cons_append, rdGo] at h ⊢
    split
    · rfl
    · rename_i h1
      rw [if_neg h1] at h
      split
      · rfl
      · rename_i h2
        rw [if_neg h2] at h
        exact ih _ _ h
theorem rdGo_three (l : List UInt8) (k x : Nat) (hk : k ≤ 9) (h : (rdGo l k x).2.2 = 3) : l.length + k ≤ 9 := by
  induction l generalizing k x with
  | nil => simpa using hk
  | cons b r ih =>
    simp only [rdGo] at h
    split at h
    · simp at h
    · rename_i h1
      split at h
      · simp at h
      · rename_i h2
        have := ih (k + 1) _ (by omega) h
        simp only [List.length_cons]
        omega
theorem rd_longer {l : List UInt8} (m : List UInt8) (h : (rd l).2.2 ≠ 3) : rd (l ++ m) = rd l := rdGo_more l m 0 0 h
theorem rd_three {l : List UInt8} (h : (rd l).2.2 = 3) : l.length ≤ 9 := by simpa using rdGo_three l 0 0 (by omega) h
theorem decL_more {l : List UInt8} (m : List UInt8) {c : Nat} (h : decL l = (0, 0, [], 0, c)) (h3 : c ≠ 3) : decL (l ++ m) = (0, 0, [], 0, c) := by
  unfold decL at h ⊢
  by_cases h1 : headE l ≠ 0
  · rw [if_pos h1] at h
    simp only [Prod.mk.injEq, true_and] at h
    have e := headE_more m (l := l) (by omega)
    rw [e, if_pos h1, h]
  rw [if_neg h1] at h
  have e := headE_more m (l := l) (by omega)
  rw [e, if_neg h1]
  have hl := headE_len (l := l) (by omega)
  have hd : (l ++ m).drop 4 = l.drop 4 ++ m := List.drop_append_of_le_length hl
  rw [hd]
  by_cases h2 : (rd (l.drop 4)).2.2 ≠ 0
  · rw [if_pos h2] at h
    simp only [Prod.mk.injEq, true_and] at h
    rw [rd_longer m (by omega), if_pos h2, h]
  rw [if_neg h2] at h
  have h2' : (rd (l.drop 4)).2.2 = 0 := by simpa using h2
  rw [rd_longer m (by omega), if_neg h2]
  by_cases h4 : 6000 < (rd (l.drop 4)).1
  · rw [if_pos h4] at h ⊢
    exact h
  rw [if_neg h4] at h ⊢
  by_cases h5 : l.length < 8 + (rd (l.drop 4)).2.1 + (rd (l.drop 4)).1
  · rw [if_pos h5] at h
    simp only [Prod.mk.injEq, true_and] at h
    omega
  rw [if_neg h5] at h
  rw [if_neg (by rw [List.length_append]; omega)]
  have e1 : ((l ++ m).drop (4 + (rd (l.drop 4)).2.1 + (rd (l.drop 4)).1)).take 4 = (l.drop (4 + (rd (l.drop 4)).2.1 + (rd (l.drop 4)).1)).take 4 := by
    rw [List.drop_append_of_le_length (by omega), List.take_append_of_le_length (by rw [List.length_drop]; omega)]
  have e2 : (l ++ m).take (4 + (rd (l.drop 4)).2.1 + (rd (l.drop 4)).1) = l.take (4 + (rd (l.drop 4)).2.1 + (rd (l.drop 4)).1) := List.take_append_of_le_length (by omega)
  rw [e1, e2]
  by_cases h6 : (l.drop (4 + (rd (l.drop 4)).2.1 + (rd (l.drop 4)).1)).take 4 ≠ sum4 (l.take (4 + (rd (l.drop 4)).2.1 + (rd (l.drop 4)).1))
  · rw [if_pos h6] at h ⊢
    exact h
  · rw [if_neg h6] at h
    simp only [Prod.mk.injEq] at h
    omega
/-- What is too short is shorter than the longest frame. -/
theorem decL_three {l : List UInt8} (h : decL l = (0, 0, [], 0, 3)) : l.length ≤ 6017 := by
  unfold decL at h
  by_cases h1 : headE l ≠ 0
  · rw [if_pos h1] at h
    simp only [Prod.mk.injEq, true_and] at h
    have := headE_three h
    omega
  rw [if_neg h1] at h
  by_cases h2 : (rd (l.drop 4)).2.2 ≠ 0
  · rw [if_pos h2] at h
    simp only [Prod.mk.injEq, true_and] at h
    have := rd_three h
    rw [List.length_drop] at this
    omega
  rw [if_neg h2] at h
  have h2' : (rd (l.drop 4)).2.2 = 0 := by simpa using h2
  have ho := rd_ok h2'
  have hm := num_len10 ho.1
  by_cases h4 : 6000 < (rd (l.drop 4)).1
  · rw [if_pos h4] at h
    simp only [Prod.mk.injEq, true_and] at h
    omega
  rw [if_neg h4] at h
  by_cases h5 : l.length < 8 + (rd (l.drop 4)).2.1 + (rd (l.drop 4)).1
  · omega
  rw [if_neg h5] at h
  split at h
  · simp only [Prod.mk.injEq, true_and] at h
    omega
  · simp only [Prod.mk.injEq] at h
    omega
theorem split_bad {l : List UInt8} {fs : List Fr} {r : List UInt8} {c : Nat} (h : Split l fs r c) (hc : c ≠ 3) (m : List UInt8) : Split (l ++ m) fs (r ++ m) c := by
  obtain ⟨rfl, h2, h3, h4⟩ := h
  exact ⟨by rw [List.append_assoc], h2, decL_more m h3 hc, h4⟩
theorem split_on {l : List UInt8} {fs fs' : List Fr} {r r' : List UInt8} {c c' : Nat} {m : List UInt8} (h : Split l fs r c) (k : Split (r ++ m) fs' r' c') : Split (l ++ m) (fs ++ fs') r' c' := by
  obtain ⟨rfl, h2, h3, h4⟩ := h
  obtain ⟨k1, k2, k3, k4⟩ := k
  exact ⟨by rw [List.append_assoc, k1, encs_append, List.append_assoc], goods_append h2 k2, k3, k4⟩
theorem split_encs {fs : List Fr} (h : goods fs) : Split (encs fs) fs [] 3 := ⟨by simp, h, decL_nil, by omega⟩

/-- What a feed holds: the bytes behind its position, the position, its error; what Push answers and leaves. -/
def Pushed (r : List UInt8) (a c : Nat) (s : List UInt8) (fs : List Fr) (r' : List UInt8) (a' c' : Nat) : Prop :=
  (c ≠ 0 ∧ fs = [] ∧ r' = r ∧ a' = a ∧ c' = c) ∨
  (c = 0 ∧ ∃ q e, Split (r ++ s) fs q e ∧ a' = a + (encs fs).length ∧ ((e ≠ 3 ∧ r' = [] ∧ c' = e) ∨ (e = 3 ∧ r' = q ∧ c' = 0)))
theorem pushed_any (r : List UInt8) (a c : Nat) (s : List UInt8) : ∃ fs r' a' c', Pushed r a c s fs r' a' c' := by
  by_cases hc : c = 0
  · obtain ⟨fs, q, e, h⟩ := split_any (r ++ s)
    by_cases he : e = 3
    · exact ⟨fs, q, _, 0, .inr ⟨hc, q, e, h, rfl, .inr ⟨he, rfl, rfl⟩⟩⟩
    · exact ⟨fs, [], _, e, .inr ⟨hc, q, e, h, rfl, .inl ⟨he, rfl, rfl⟩⟩⟩
  · exact ⟨[], r, a, c, .inl ⟨hc, rfl, rfl, rfl, rfl⟩⟩
theorem pushed_any' (r : List UInt8) (a c : Nat) (s : List UInt8) : ∃ (fs : List Fr) (r' : ByteArray) (a' c' : Nat), Pushed r a c s fs r'.data.toList a' c' := by
  obtain ⟨fs, r', a', c', h⟩ := pushed_any r a c s
  exact ⟨fs, ⟨r'.toArray⟩, a', c', by simpa using h⟩
theorem pushed_bd {r : List UInt8} {a c : Nat} {s : List UInt8} {fs : List Fr} {r' : List UInt8} {a' c' : Nat} (h : Pushed r a c s fs r' a' c') : 9 * fs.length ≤ r.length + s.length ∧ a' + r'.length ≤ a + r.length + s.length ∧ goods fs := by
  rcases h with ⟨_, rfl, rfl, rfl, _⟩ | ⟨_, q, e, hS, rfl, hE⟩
  · exact ⟨by simp, by omega, goods_nil⟩
  · have h1 := congrArg List.length hS.1
    have h2 := encs_bd hS.2.1
    rw [List.length_append, List.length_append] at h1
    rcases hE with ⟨_, rfl, _⟩ | ⟨_, rfl, _⟩
    · exact ⟨by omega, by simp only [List.length_nil]; omega, hS.2.1⟩
    · exact ⟨by omega, by omega, hS.2.1⟩
theorem pushed_stuck {c : Nat} (hc : c ≠ 0) (r : List UInt8) (a : Nat) (s : List UInt8) : Pushed r a c s [] r a c := .inl ⟨hc, rfl, rfl, rfl, rfl⟩
theorem pushed_bad {r : List UInt8} {a : Nat} {s : List UInt8} {fs : List Fr} {r' : List UInt8} {a' c' : Nat} (h : Pushed r a 0 s fs r' a' c') (hc : c' ≠ 0) : r' = [] := by
  rcases h with ⟨h0, _⟩ | ⟨_, q, e, hS, rfl, ⟨_, h1, _⟩ | ⟨_, _, h2⟩⟩
  · omega
  · exact h1
  · omega
/-- What Push did to a feed that had received nothing before. -/
theorem pushed_first {s : List UInt8} {fs : List Fr} {r' : List UInt8} {a' c' : Nat} (h : Pushed [] 0 0 s fs r' a' c') : goods fs ∧ a' = (encs fs).length ∧ (∃ q, s = encs fs ++ q ∧ (c' = 0 → r' = q ∧ r'.length ≤ 6017) ∧ (c' ≠ 0 → r' = [])) := by
  rcases h with ⟨h0, _⟩ | ⟨_, q, e, hS, rfl, hE⟩
  · omega
  · rw [List.nil_append] at hS
    refine ⟨hS.2.1, by omega, q, hS.1, ?_⟩
    rcases hE with ⟨h1, rfl, rfl⟩ | ⟨rfl, rfl, rfl⟩
    · exact ⟨fun h => absurd h hS.2.2.2, fun _ => rfl⟩
    · exact ⟨fun _ => ⟨rfl, decL_three hS.2.2.1⟩, fun h => absurd rfl h⟩
end Go.Proofs.Ytiaggbdkkbkclaa
