/- What Parse must answer, and that the reference's way answers so (no program); the readers' loops ask for no more than the text has. -/
import Derived.Test.YthbgaphidojneaaGreatDoorJsRead
import Derived.Test.YthbgaphidojneaaGreatDoorPkWi1
namespace Go.Proofs.YthbgaphidojneaaGreatDoor

open Classical in
/-- What Parse answers of a text. U stands for 'is valid UTF-8'. -/
noncomputable def jparR (U : ByteArray → Bool) (t : List UInt8) : StD × Nat :=
  if 60000 < t.length then (zeroSt, 2) else if h : ∃ s, checkE U s = 0 ∧ stJ s = t then (Classical.choose h, 0) else (zeroSt, 4)
theorem jpar_large {U : ByteArray → Bool} {t : List UInt8} (h : 60000 < t.length) : jparR U t = (zeroSt, 2) := by unfold jparR; rw [if_pos h]
theorem jpar_ok {U : ByteArray → Bool} {s : StD} (hc : checkE U s = 0) (h : (stJ s).length ≤ 60000) : jparR U (stJ s) = (s, 0) := by
  have hx : ∃ s', checkE U s' = 0 ∧ stJ s' = stJ s := ⟨s, hc, rfl⟩
  unfold jparR
  rw [if_neg (by omega), dif_pos hx, stJ_inj (Classical.choose_spec hx).2]
theorem jpar_no {U : ByteArray → Bool} {t : List UInt8} (h : t.length ≤ 60000) (hn : ∀ s, checkE U s = 0 → stJ s ≠ t) : jparR U t = (zeroSt, 4) := by
  unfold jparR
  rw [if_neg (by omega), dif_neg (by rintro ⟨s, h1, h2⟩; exact hn s h1 h2)]
/-- An answer without an error is told again as the text. -/
theorem jpar_inv {U : ByteArray → Bool} {t : List UInt8} {s : StD} (h : jparR U t = (s, 0)) : checkE U s = 0 ∧ stJ s = t := by
  unfold jparR at h
  split at h
  · simp at h
  · split at h
    · rename_i hx
      simp only [Prod.mk.injEq, and_true] at h
      rw [← h]
      exact Classical.choose_spec hx
    · simp at h
theorem jpar_err {U : ByteArray → Bool} {t : List UInt8} {s : StD} {c : Nat} (h : jparR U t = (s, c)) (hc : c ≠ 0) : s = zeroSt := by
  unfold jparR at h
  split at h
  · simp only [Prod.mk.injEq] at h; exact h.1.symm
  · split at h
    · simp only [Prod.mk.injEq] at h; exact absurd h.2.symm hc
    · simp only [Prod.mk.injEq] at h; exact h.1.symm
/-- The reference's way: read, then told again. -/
theorem jpar_read {U : ByteArray → Bool} {t : List UInt8} {s : StD} (hl : t.length ≤ 60000) (hc : checkE U s = 0) (ht : stJ s = t) : jparR U t = (s, 0) := by subst ht; exact jpar_ok hc hl
theorem jpar_fail {U : ByteArray → Bool} {t : List UInt8} (hl : t.length ≤ 60000) (h : ∀ s, stP t = .inr (s, []) → checkE U s = 0 → stJ s ≠ t) : jparR U t = (zeroSt, 4) := by
  refine jpar_no hl (fun s hc ht => ?_)
  have e := stP_valid ((check_zero U s).1 hc) []
  rw [List.append_nil, ht] at e
  exact h s e hc ht
/-! ### the loops -/
theorem stepQ_short {l m : List UInt8} {o : Option UInt8} (h : stepQ l = .inr (o, m)) : m.length < l.length := by
  have dl : ∀ (k : Nat) (p : List UInt8), p.length = k + 1 → l.take (k + 1) = p → (l.drop (k + 1)).length < l.length := by
    intro k p hp e
    have h1 : (l.take (k + 1)).length = k + 1 := by rw [e, hp]
    rw [List.length_take] at h1
    rw [List.length_drop]
    omega
  unfold stepQ at h
  split at h
  · rename_i h1
    simp only [Sum.inr.injEq, Prod.mk.injEq] at h
    rw [← h.2]; exact dl 0 [34] rfl h1
  · split at h
    · rename_i h1
      simp only [Sum.inr.injEq, Prod.mk.injEq] at h
      rw [← h.2]; exact dl 1 [92, 34] rfl h1
    · split at h
      · rename_i h1
        simp only [Sum.inr.injEq, Prod.mk.injEq] at h
        rw [← h.2]; exact dl 1 [92, 92] rfl h1
      · split at h
        · rename_i d hd
          simp only [Sum.inr.injEq, Prod.mk.injEq] at h
          unfold escAt at hd
          have h1 := List.find?_some hd
          have h2 : d < 32 := by simpa using List.mem_of_find?_eq_some hd
          simp only [decide_eq_true_eq] at h1
          rw [← h.2]; exact dl 5 _ (by rw [escB_low (by simp; omega)]; rfl) h1
        · split at h
          · simp at h
          · split at h
            · simp at h
            · simp only [Sum.inr.injEq, Prod.mk.injEq] at h
              rw [← h.2]; simp
/-- The quoted text's loop: any fuel above the text's length does. -/
theorem quoGo_more : ∀ (n : Nat) (l : List UInt8) (f g : Nat) (out : List UInt8), l.length ≤ n → n < f → n < g → quoGo f out l = quoGo g out l := by
  intro n
  induction n with
  | zero =>
    intro l f g out hl hf hg
    obtain rfl : l = [] := List.eq_nil_of_length_eq_zero (by omega)
    cases f with
    | zero => omega
    | succ f =>
      cases g with
      | zero => omega
      | succ g => rfl
  | succ n ih =>
    intro l f g out hl hf hg
    cases f with
    | zero => omega
    | succ f =>
      cases g with
      | zero => omega
      | succ g =>
        rw [quoGo, quoGo]
        cases hs : stepQ l with
        | inl e => rfl
        | inr x =>
          obtain ⟨o, m⟩ := x
          have := stepQ_short hs
          cases o with
          | none => rfl
          | some c => exact ih m f g (out ++ [c]) (by omega) (by omega) (by omega)
/-- The loop's equation, as a walk meets it. -/
def quoAt (out l : List UInt8) : Sum Nat (List UInt8 × List UInt8) := quoGo (l.length + 1) out l
theorem quoAt_step (out l : List UInt8) : quoAt out l = match stepQ l with
    | .inl e => .inl e
    | .inr (none, m) => .inr (out, m)
    | .inr (some c, m) => quoAt (out ++ [c]) m := by
  unfold quoAt
  rw [quoGo]
  cases hs : stepQ l with
  | inl e => rfl
  | inr x =>
    obtain ⟨o, m⟩ := x
    have := stepQ_short hs
    cases o with
    | none => rfl
    | some c => exact quoGo_more m.length m _ _ _ (Nat.le_refl _) (by omega) (by omega)
end Go.Proofs.YthbgaphidojneaaGreatDoor
