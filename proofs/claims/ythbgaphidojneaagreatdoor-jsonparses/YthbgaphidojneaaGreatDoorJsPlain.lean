/- Plain facts on the JSON form of states (no program): it can be told apart from its first byte on. -/
import Derived.Lib.Strings
namespace Go.Proofs.YthbgaphidojneaaGreatDoor

/-- What is told behind one another can be told apart: a prefix code. -/
def PF {α : Type} (P : α → Prop) (f : α → List UInt8) : Prop := ∀ a b m n, P a → P b → f a ++ m = f b ++ n → a = b ∧ m = n
theorem pf_inj {α : Type} {P : α → Prop} {f : α → List UInt8} (h : PF P f) {a b : α} (ha : P a) (hb : P b) (e : f a = f b) : a = b := (h a b [] [] ha hb (by rw [e])).1
theorem pf_cut {α : Type} {P : α → Prop} {f : α → List UInt8} (h : PF P f) {a b : α} (ha : P a) (hb : P b) {k : Nat} (hk : k < (f a).length) : f b ≠ (f a).take k := by
  intro e
  have h1 := h b a ((f a).drop k) [] hb ha (by rw [e, List.append_nil, List.take_append_drop])
  have h2 := congrArg List.length h1.2
  rw [List.length_drop, List.length_nil] at h2
  omega
theorem pf_more {α : Type} {P : α → Prop} {f : α → List UInt8} (h : PF P f) {a b : α} (ha : P a) (hb : P b) {m : List UInt8} (hm : m ≠ []) : f b ≠ f a ++ m := by
  intro e
  have h1 := h b a [] m hb ha (by rw [List.append_nil]; exact e)
  exact hm h1.2.symm
theorem pf_lit {α : Type} {P : α → Prop} {f : α → List UInt8} (p : List UInt8) (h : PF P f) : PF P (fun a => p ++ f a) := by
  intro a b m n ha hb e
  simp only [List.append_assoc] at e
  exact h a b m n ha hb (List.append_cancel_left e)
theorem pf_end {α : Type} {P : α → Prop} {f : α → List UInt8} (p : List UInt8) (h : PF P f) : PF P (fun a => f a ++ p) := by
  intro a b m n ha hb e
  simp only [List.append_assoc] at e
  obtain ⟨h1, h2⟩ := h a b _ _ ha hb e
  exact ⟨h1, List.append_cancel_left h2⟩
theorem pf_seq {α β : Type} {P : α → Prop} {Q : β → Prop} {f : α → List UInt8} {g : β → List UInt8} (h : PF P f) (k : PF Q g) : PF (fun x : α × β => P x.1 ∧ Q x.2) (fun x => f x.1 ++ g x.2) := by
  rintro ⟨a, b⟩ ⟨c, d⟩ m n ⟨h1, h2⟩ ⟨h3, h4⟩ e
  simp only [List.append_assoc] at e
  obtain ⟨e1, e2⟩ := h a c _ _ h1 h3 e
  obtain ⟨e3, e4⟩ := k b d _ _ h2 h4 e2
  exact ⟨by rw [show a = c from e1, show b = d from e3], e4⟩
theorem pf_iso {α β : Type} {P : α → Prop} {f : α → List UInt8} (h : PF P f) (g : β → α) (hg : ∀ x y, g x = g y → x = y) : PF (fun b => P (g b)) (fun b => f (g b)) := by
  intro a b m n ha hb e
  obtain ⟨e1, e2⟩ := h (g a) (g b) m n ha hb e
  exact ⟨hg a b e1, e2⟩
/-! ### quoted strings -/
def hexB (n : Nat) : UInt8 := if n < 10 then UInt8.ofNat (48 + n) else UInt8.ofNat (87 + n)
def escB (c : UInt8) : List UInt8 := if c = 34 ∨ c = 92 then [92, c] else if c.toNat < 32 then [92, 117, 48, 48, hexB (c.toNat / 16), hexB (c.toNat % 16)] else [c]
def escL (s : List UInt8) : List UInt8 := s.flatMap escB
def quoteL (s : List UInt8) : List UInt8 := 34 :: (escL s ++ [34])
theorem hexB_inj : ∀ a b : Fin 16, hexB a.val = hexB b.val → a = b := by decide
theorem escB_ne (c : UInt8) : ∃ x r, escB c = x :: r ∧ x ≠ 34 := by
  unfold escB
  by_cases h1 : c = 34 ∨ c = 92
  · rw [if_pos h1]; exact ⟨92, [c], rfl, by decide⟩
  · rw [if_neg h1]
    by_cases h2 : c.toNat < 32
    · rw [if_pos h2]; exact ⟨_, _, rfl, by decide⟩
    · rw [if_neg h2]; exact ⟨c, [], rfl, fun e => h1 (.inl e)⟩
theorem u8_of {a b : UInt8} (h : a.toNat = b.toNat) : a = b := UInt8.toNat_inj.1 h
theorem escB_pf {a b : UInt8} {m n : List UInt8} (e : escB a ++ m = escB b ++ n) : a = b ∧ m = n := by
  unfold escB at e
  by_cases a1 : a = 34 ∨ a = 92
  · rw [if_pos a1] at e
    by_cases b1 : b = 34 ∨ b = 92
    · rw [if_pos b1] at e
      simp only [List.cons_append, List.nil_append, List.cons.injEq, true_and] at e
      exact e
    · rw [if_neg b1] at e
      by_cases b2 : b.toNat < 32
      · rw [if_pos b2] at e
        simp only [List.cons_append, List.nil_append, List.cons.injEq, true_and] at e
        rcases a1 with rfl | rfl
        · exact absurd e.1 (by decide)
        · exact absurd e.1 (by decide)
      · rw [if_neg b2] at e
        simp only [List.cons_append, List.nil_append, List.cons.injEq] at e
        exact absurd (.inr e.1.symm) b1
  · rw [if_neg a1] at e
    by_cases a2 : a.toNat < 32
    · rw [if_pos a2] at e
      by_cases b1 : b = 34 ∨ b = 92
      · rw [if_pos b1] at e
        simp only [List.cons_append, List.nil_append, List.cons.injEq, true_and] at e
        rcases b1 with rfl | rfl
        · exact absurd e.1 (by decide)
        · exact absurd e.1 (by decide)
      · rw [if_neg b1] at e
        by_cases b2 : b.toNat < 32
        · rw [if_pos b2] at e
          simp only [List.cons_append, List.nil_append, List.cons.injEq, true_and] at e
          have h1 := hexB_inj ⟨a.toNat / 16, by omega⟩ ⟨b.toNat / 16, by omega⟩ e.1
          have h2 := hexB_inj ⟨a.toNat % 16, by omega⟩ ⟨b.toNat % 16, by omega⟩ e.2.1
          simp only [Fin.mk.injEq] at h1 h2
          exact ⟨u8_of (by omega), e.2.2⟩
        · rw [if_neg b2] at e
          simp only [List.cons_append, List.nil_append, List.cons.injEq] at e
          exact absurd (.inr e.1.symm) b1
    · rw [if_neg a2] at e
      by_cases b1 : b = 34 ∨ b = 92
      · rw [if_pos b1] at e
        simp only [List.cons_append, List.nil_append, List.cons.injEq] at e
        exact absurd (.inr e.1) a1
      · rw [if_neg b1] at e
        by_cases b2 : b.toNat < 32
        · rw [if_pos b2] at e
          simp only [List.cons_append, List.nil_append, List.cons.injEq] at e
          exact absurd (.inr e.1) a1
        · rw [if_neg b2] at e
          simp only [List.cons_append, List.nil_append, List.cons.injEq] at e
          exact e
theorem esc_pf : ∀ (s t : List UInt8) (m n : List UInt8), escL s ++ 34 :: m = escL t ++ 34 :: n → s = t ∧ m = n
  | [], [], m, n, e => by simpa [escL] using e
  | [], c :: t, m, n, e => by
    obtain ⟨x, r, hx, hne⟩ := escB_ne c
    simp only [escL, List.flatMap_nil, List.nil_append, List.flatMap_cons, hx, List.cons_append, List.cons.injEq] at e
    exact absurd e.1.symm hne
  | c :: s, [], m, n, e => by
    obtain ⟨x, r, hx, hne⟩ := escB_ne c
    simp only [escL, List.flatMap_nil, List.nil_append, List.flatMap_cons, hx, List.cons_append, List.cons.injEq] at e
    exact absurd e.1 hne
  | c :: s, d :: t, m, n, e => by
    simp only [escL, List.flatMap_cons, List.append_assoc] at e
    obtain ⟨rfl, e2⟩ := escB_pf e
    obtain ⟨rfl, h⟩ := esc_pf s t m n e2
    exact ⟨rfl, h⟩
theorem quote_pf : PF (fun _ : List UInt8 => True) quoteL := by
  intro a b m n _ _ e
  simp only [quoteL, List.cons_append, List.append_assoc, List.nil_append, List.cons.injEq, true_and] at e
  exact esc_pf a b m n e
theorem esc_append (a b : List UInt8) : escL (a ++ b) = escL a ++ escL b := by simp [escL]
/-! ### numbers in decimal -/
def digN (n : Nat) : List UInt8 := if n < 10 then [UInt8.ofNat (48 + n)] else digN (n / 10) ++ [UInt8.ofNat (48 + n % 10)]
termination_by n
decreasing_by omega
theorem digN_lt {n : Nat} (h : n < 10) : digN n = [UInt8.ofNat (48 + n)] := by rw [digN, if_pos h]
theorem digN_ge {n : Nat} (h : ¬ n < 10) : digN n = digN (n / 10) ++ [UInt8.ofNat (48 + n % 10)] := by rw [digN, if_neg h]
theorem digN_pos (n : Nat) : 1 ≤ (digN n).length := by
  by_cases h : n < 10
  · rw [digN_lt h]; simp
  · rw [digN_ge h]; simp
theorem dig_byte {a b : Nat} (ha : a < 10) (hb : b < 10) (h : UInt8.ofNat (48 + a) = UInt8.ofNat (48 + b)) : a = b := by
  have := congrArg UInt8.toNat h
  simp at this
  omega
theorem digN_inj : ∀ (a b : Nat), digN a = digN b → a = b := by
  intro a
  induction a using Nat.strongRecOn with
  | ind a ih =>
    intro b e
    by_cases ha : a < 10
    · by_cases hb : b < 10
      · rw [digN_lt ha, digN_lt hb] at e
        simp only [List.cons.injEq, and_true] at e
        exact dig_byte ha hb e
      · rw [digN_lt ha, digN_ge hb] at e
        have h1 := congrArg List.length e
        have h2 := digN_pos (b / 10)
        simp only [List.length_cons, List.length_nil, List.length_append] at h1
        omega
    · by_cases hb : b < 10
      · rw [digN_ge ha, digN_lt hb] at e
        have h1 := congrArg List.length e
        have h2 := digN_pos (a / 10)
        simp only [List.length_cons, List.length_nil, List.length_append] at h1
        omega
      · rw [digN_ge ha, digN_ge hb] at e
        obtain ⟨e1, e2⟩ := List.append_inj' e rfl
        simp only [List.cons.injEq, and_true] at e2
        have h1 := ih (a / 10) (by omega) (b / 10) e1
        have h2 := dig_byte (Nat.mod_lt _ (by omega)) (Nat.mod_lt _ (by omega)) e2
        omega
theorem digN_mem : ∀ (n : Nat) (x : UInt8), x ∈ digN n → 48 ≤ x.toNat ∧ x.toNat ≤ 57 := by
  intro n
  induction n using Nat.strongRecOn with
  | ind n ih =>
    intro x hx
    by_cases h : n < 10
    · rw [digN_lt h] at hx
      simp only [List.mem_cons, List.not_mem_nil, or_false] at hx
      subst hx
      simp
      omega
    · rw [digN_ge h] at hx
      rcases List.mem_append.1 hx with hx | hx
      · exact ih _ (by omega) x hx
      · simp only [List.mem_cons, List.not_mem_nil, or_false] at hx
        subst hx
        simp
        omega
def digZ (n : Int) : List UInt8 := if n < 0 then 45 :: digN (-n).toNat else digN n.toNat
theorem digZ_mem (n : Int) (x : UInt8) (h : x ∈ digZ n) : x.toNat = 45 ∨ (48 ≤ x.toNat ∧ x.toNat ≤ 57) := by
  unfold digZ at h
  split at h
  · rcases List.mem_cons.1 h with rfl | h
    · exact .inl rfl
    · exact .inr (digN_mem _ _ h)
  · exact .inr (digN_mem _ _ h)
theorem digN_head (n : Nat) : ∃ x r, digN n = x :: r ∧ x ≠ 45 := by
  cases h : digN n with
  | nil => have := digN_pos n; rw [h] at this; simp at this
  | cons x r =>
    refine ⟨x, r, rfl, fun e => ?_⟩
    have := digN_mem n x (by rw [h]; simp)
    rw [e] at this
    simp at this
theorem digZ_inj {a b : Int} (e : digZ a = digZ b) : a = b := by
  unfold digZ at e
  by_cases ha : a < 0
  · rw [if_pos ha] at e
    by_cases hb : b < 0
    · rw [if_pos hb] at e
      simp only [List.cons.injEq, true_and] at e
      have := digN_inj _ _ e
      omega
    · rw [if_neg hb] at e
      obtain ⟨x, r, h, hne⟩ := digN_head b.toNat
      rw [h] at e
      simp only [List.cons.injEq] at e
      exact absurd e.1.symm hne
  · rw [if_neg ha] at e
    by_cases hb : b < 0
    · rw [if_pos hb] at e
      obtain ⟨x, r, h, hne⟩ := digN_head a.toNat
      rw [h] at e
      simp only [List.cons.injEq] at e
      exact absurd e.1 hne
    · rw [if_neg hb] at e
      have := digN_inj _ _ e
      omega
theorem split_at (c : UInt8) : ∀ (a b m n : List UInt8), c ∉ a → c ∉ b → a ++ c :: m = b ++ c :: n → a = b ∧ m = n
  | [], [], m, n, _, _, e => by simpa using e
  | [], y :: b, m, n, _, hb, e => by
    simp only [List.nil_append, List.cons_append, List.cons.injEq] at e
    exact absurd (by rw [e.1]; simp) hb
  | x :: a, [], m, n, ha, _, e => by
    simp only [List.nil_append, List.cons_append, List.cons.injEq] at e
    exact absurd (by rw [e.1]; simp) ha
  | x :: a, y :: b, m, n, ha, hb, e => by
    simp only [List.cons_append, List.cons.injEq] at e
    obtain ⟨h1, h2⟩ := split_at c a b m n (fun h => ha (by simp [h])) (fun h => hb (by simp [h])) e.2
    exact ⟨by rw [e.1, h1], h2⟩
/-- A number and the byte behind it. -/
theorem num_pf (c : UInt8) (hc : c.toNat ≠ 45 ∧ ¬ (48 ≤ c.toNat ∧ c.toNat ≤ 57)) : PF (fun _ : Int => True) (fun n => digZ n ++ [c]) := by
  intro a b m n _ _ e
  simp only [List.append_assoc, List.cons_append, List.nil_append] at e
  have no : ∀ z : Int, c ∉ digZ z := fun z h => by
    rcases digZ_mem z c h with h | h
    · exact hc.1 h
    · exact hc.2 h
  obtain ⟨h1, h2⟩ := split_at c _ _ m n (no a) (no b) e
  exact ⟨digZ_inj h1, h2⟩
/-! ### lists, with commas, up to a bracket -/
def tailL {α : Type} (f : α → List UInt8) : List α → List UInt8
  | [] => [93]
  | x :: l => 44 :: (f x ++ tailL f l)
def listL {α : Type} (f : α → List UInt8) : List α → List UInt8
  | [] => [93]
  | x :: l => f x ++ tailL f l
theorem tail_pf {α : Type} {P : α → Prop} {f : α → List UInt8} (h : PF P f) : ∀ (a b : List α) (m n : List UInt8), (∀ x ∈ a, P x) → (∀ x ∈ b, P x) → tailL f a ++ m = tailL f b ++ n → a = b ∧ m = n
  | [], [], m, n, _, _, e => by simpa [tailL] using e
  | [], y :: b, m, n, _, _, e => by simp [tailL] at e
  | x :: a, [], m, n, _, _, e => by simp [tailL] at e
  | x :: a, y :: b, m, n, ha, hb, e => by
    simp only [tailL, List.cons_append, List.append_assoc, List.cons.injEq, true_and] at e
    obtain ⟨rfl, e2⟩ := h x y _ _ (ha x (by simp)) (hb y (by simp)) e
    obtain ⟨rfl, e3⟩ := tail_pf h a b m n (fun z hz => ha z (by simp [hz])) (fun z hz => hb z (by simp [hz])) e2
    exact ⟨rfl, e3⟩
theorem list_pf {α : Type} {P : α → Prop} {f : α → List UInt8} (h : PF P f) (h0 : ∀ x, ∃ c r, f x = c :: r ∧ c ≠ 93) : PF (fun l : List α => ∀ x ∈ l, P x) (listL f) := by
  intro a b m n ha hb e
  cases a with
  | nil =>
    cases b with
    | nil => simpa [listL] using e
    | cons y b =>
      obtain ⟨c, r, hy, hne⟩ := h0 y
      simp only [listL, hy, List.cons_append, List.nil_append, List.cons.injEq] at e
      exact absurd e.1.symm hne
  | cons x a =>
    cases b with
    | nil =>
      obtain ⟨c, r, hx, hne⟩ := h0 x
      simp only [listL, hx, List.cons_append, List.nil_append, List.cons.injEq] at e
      exact absurd e.1 hne
    | cons y b =>
      simp only [listL, List.append_assoc] at e
      obtain ⟨rfl, e2⟩ := h x y _ _ (ha x (by simp)) (hb y (by simp)) e
      obtain ⟨rfl, e3⟩ := tail_pf h a b m n (fun z hz => ha z (by simp [hz])) (fun z hz => hb z (by simp [hz])) e2
      exact ⟨rfl, e3⟩
end Go.Proofs.YthbgaphidojneaaGreatDoor
