/- Plain facts on rows that are put, taken away, compared and applied (no program). -/
import Derived.Test.YtfbakobmlbjncaaGreatDoorPkSt1
namespace Go.Proofs.YtfbakobmlbjncaaGreatDoor

section
variable {α : Type} {key : α → ByteArray}
/-- Rows with ascending keys are told by their members. -/
theorem asc_ext : ∀ {l m : List α}, Asc key l → Asc key m → (∀ x, x ∈ l ↔ x ∈ m) → l = m
  | [], [], _, _, _ => rfl
  | [], y :: m, _, _, h => by have := (h y).2 (List.mem_cons_self ..); cases this
  | x :: l, [], _, _, h => by have := (h x).1 (List.mem_cons_self ..); cases this
  | x :: l, y :: m, hl, hm, h => by
    have hl' := List.pairwise_cons.1 hl
    have hm' := List.pairwise_cons.1 hm
    have hxy : x = y := by
      rcases List.mem_cons.1 ((h x).1 (List.mem_cons_self ..)) with e | e
      · exact e
      · rcases List.mem_cons.1 ((h y).2 (List.mem_cons_self ..)) with e' | e'
        · exact e'.symm
        · exact absurd (lt_trans (hl'.1 y e') (hm'.1 x e)) (lt_irrefl _)
    subst hxy
    refine congrArg (x :: ·) (asc_ext hl'.2 hm'.2 (fun z => ⟨fun hz => ?_, fun hz => ?_⟩))
    · rcases List.mem_cons.1 ((h z).1 (List.mem_cons_of_mem _ hz)) with rfl | e
      · exact absurd (hl'.1 z hz) (lt_irrefl _)
      · exact e
    · rcases List.mem_cons.1 ((h z).2 (List.mem_cons_of_mem _ hz)) with rfl | e
      · exact absurd (hm'.1 z hz) (lt_irrefl _)
      · exact e
open Classical in
/-- A row put in its place. -/
noncomputable def putL (key : α → ByteArray) (x : α) : List α → List α
  | [] => [x]
  | y :: l => if lt (key y) (key x) then y :: putL key x l else if key y = key x then x :: l else x :: y :: l
theorem put_mem : ∀ {l : List α}, Asc key l → ∀ (x z : α), z ∈ putL key x l ↔ z = x ∨ (z ∈ l ∧ key z ≠ key x)
  | [], _, x, z => by simp [putL]
  | y :: l, h, x, z => by
    have h' := List.pairwise_cons.1 h
    unfold putL
    by_cases h1 : lt (key y) (key x)
    · rw [if_pos h1, List.mem_cons, put_mem h'.2 x z, List.mem_cons]
      constructor
      · rintro (rfl | rfl | ⟨a, b⟩)
        · exact .inr ⟨.inl rfl, lt_ne h1⟩
        · exact .inl rfl
        · exact .inr ⟨.inr a, b⟩
      · rintro (rfl | ⟨rfl | a, b⟩)
        · exact .inr (.inl rfl)
        · exact .inl rfl
        · exact .inr (.inr ⟨a, b⟩)
    · rw [if_neg h1]
      by_cases h2 : key y = key x
      · rw [if_pos h2, List.mem_cons, List.mem_cons]
        constructor
        · rintro (rfl | a)
          · exact .inl rfl
          · exact .inr ⟨.inr a, fun e => lt_ne (h'.1 z a) (by rw [h2, e])⟩
        · rintro (rfl | ⟨rfl | a, b⟩)
          · exact .inl rfl
          · exact absurd h2 b
          · exact .inr a
      · rw [if_neg h2, List.mem_cons, List.mem_cons]
        have h3 : lt (key x) (key y) := by
          rcases lt_or h2 with h | h
          · exact absurd h h1
          · exact h
        constructor
        · rintro (rfl | rfl | a)
          · exact .inl rfl
          · exact .inr ⟨.inl rfl, h2⟩
          · exact .inr ⟨.inr a, fun e => lt_ne (lt_trans h3 (h'.1 z a)) e.symm⟩
        · rintro (rfl | ⟨a, _⟩)
          · exact .inl rfl
          · exact .inr a
theorem put_asc : ∀ {l : List α}, Asc key l → ∀ x : α, Asc key (putL key x l)
  | [], _, x => by unfold putL; exact List.pairwise_singleton _ _
  | y :: l, h, x => by
    have h' := List.pairwise_cons.1 h
    unfold putL
    by_cases h1 : lt (key y) (key x)
    · rw [if_pos h1]
      refine List.pairwise_cons.2 ⟨fun z hz => ?_, put_asc h'.2 x⟩
      rcases (put_mem h'.2 x z).1 hz with rfl | ⟨a, _⟩
      · exact h1
      · exact h'.1 z a
    · rw [if_neg h1]
      by_cases h2 : key y = key x
      · rw [if_pos h2]
        exact List.pairwise_cons.2 ⟨fun z hz => by rw [← h2]; exact h'.1 z hz, h'.2⟩
      · rw [if_neg h2]
        have h3 : lt (key x) (key y) := by
          rcases lt_or h2 with h | h
          · exact absurd h h1
          · exact h
        refine List.pairwise_cons.2 ⟨fun z hz => ?_, h⟩
        rcases List.mem_cons.1 hz with rfl | a
        · exact h3
        · exact lt_trans h3 (h'.1 z a)
/-- Rows put one by one. -/
noncomputable def putsL (key : α → ByteArray) (l : List α) (xs : List α) : List α := xs.foldl (fun l x => putL key x l) l
theorem puts_asc : ∀ (xs : List α) {l : List α}, Asc key l → Asc key (putsL key l xs)
  | [], _, h => h
  | x :: xs, _, h => puts_asc xs (put_asc h x)
theorem puts_mem : ∀ {xs : List α} {l : List α}, Asc key l → Asc key xs → ∀ z, z ∈ putsL key l xs ↔ z ∈ xs ∨ (z ∈ l ∧ ∀ x ∈ xs, key z ≠ key x)
  | [], l, _, _, z => by simp [putsL]
  | x :: xs, l, h, hx, z => by
    have hx' := List.pairwise_cons.1 hx
    have e : putsL key l (x :: xs) = putsL key (putL key x l) xs := rfl
    rw [e, puts_mem (put_asc h x) hx'.2 z, put_mem h x z]
    constructor
    · rintro (a | ⟨rfl | ⟨a, b⟩, c⟩)
      · exact .inl (List.mem_cons_of_mem _ a)
      · exact .inl (List.mem_cons_self ..)
      · refine .inr ⟨a, fun y hy => ?_⟩
        rcases List.mem_cons.1 hy with rfl | hy
        · exact b
        · exact c y hy
    · rintro (a | ⟨a, b⟩)
      · rcases List.mem_cons.1 a with rfl | a
        · exact .inr ⟨.inl rfl, fun y hy => lt_ne (hx'.1 y hy)⟩
        · exact .inl a
      · exact .inr ⟨.inr ⟨a, b x (List.mem_cons_self ..)⟩, fun y hy => b y (List.mem_cons_of_mem _ hy)⟩
open Classical in
/-- Rows taken away by their keys; what is new; what is gone. -/
noncomputable def lessL (key : α → ByteArray) (l : List α) (gone : List ByteArray) : List α := l.filter fun x => decide (key x ∉ gone)
open Classical in
noncomputable def newL (a b : List α) : List α := b.filter fun x => decide (x ∉ a)
open Classical in
noncomputable def goneL (key : α → ByteArray) (a b : List α) : List ByteArray := (a.filter fun x => decide (∀ y ∈ b, key y ≠ key x)).map key
theorem less_asc {l : List α} (h : Asc key l) (gone : List ByteArray) : Asc key (lessL key l gone) := asc_sub h List.filter_sublist
theorem new_asc {a b : List α} (h : Asc key b) : Asc key (newL a b) := asc_sub h List.filter_sublist
theorem less_mem (l : List α) (gone : List ByteArray) (z : α) : z ∈ lessL key l gone ↔ z ∈ l ∧ key z ∉ gone := by simp [lessL]
theorem new_mem (a b : List α) (z : α) : z ∈ newL a b ↔ z ∈ b ∧ z ∉ a := by simp [newL]
theorem gone_mem (a b : List α) (k : ByteArray) : k ∈ goneL key a b ↔ ∃ x ∈ a, key x = k ∧ ∀ y ∈ b, key y ≠ k := by
  simp only [goneL, List.mem_map, List.mem_filter, decide_eq_true_eq]
  constructor
  · rintro ⟨x, ⟨h1, h2⟩, rfl⟩; exact ⟨x, h1, rfl, h2⟩
  · rintro ⟨x, h1, rfl, h2⟩; exact ⟨x, ⟨h1, h2⟩, rfl⟩
/-- A delta's part applied. -/
noncomputable def applyL (key : α → ByteArray) (l : List α) (gone : List ByteArray) (xs : List α) : List α := putsL key (lessL key l gone) xs
theorem apply_asc {l : List α} (h : Asc key l) (gone : List ByteArray) (xs : List α) : Asc key (applyL key l gone xs) := puts_asc xs (less_asc h gone)
theorem apply_mem {l xs : List α} (h : Asc key l) (hx : Asc key xs) (gone : List ByteArray) (z : α) : z ∈ applyL key l gone xs ↔ z ∈ xs ∨ (z ∈ l ∧ key z ∉ gone ∧ ∀ x ∈ xs, key z ≠ key x) := by
  unfold applyL
  rw [puts_mem (less_asc h gone) hx, less_mem]
  constructor
  · rintro (a | ⟨⟨a, b⟩, c⟩)
    · exact .inl a
    · exact .inr ⟨a, b, c⟩
  · rintro (a | ⟨a, b, c⟩)
    · exact .inl a
    · exact .inr ⟨⟨a, b⟩, c⟩
/-- What was told between two lists brings the one to the other. -/
theorem apply_diff {a b : List α} (ha : Asc key a) (hb : Asc key b) : applyL key a (goneL key a b) (newL a b) = b := by
  refine asc_ext (apply_asc ha _ _) hb (fun z => ?_)
  rw [apply_mem ha (new_asc hb), new_mem, gone_mem]
  constructor
  · rintro (⟨h, _⟩ | ⟨h1, h2, h3⟩)
    · exact h
    · -- z is an old row whose key stands in b
      have h4 : ∃ y ∈ b, key y = key z := Classical.byContradiction fun hn => h2 ⟨z, h1, rfl, fun y hy e => hn ⟨y, hy, e⟩⟩
      obtain ⟨y, hy, e⟩ := h4
      by_cases hya : y ∈ a
      · have := asc_one ha hya h1 e
        rwa [this] at hy
      · exact absurd e.symm (h3 y ((new_mem a b y).2 ⟨hy, hya⟩))
  · intro hz
    by_cases hza : z ∈ a
    · refine .inr ⟨hza, ?_, fun x hx e => ?_⟩
      · rintro ⟨x, _, e, hne⟩
        exact hne z hz rfl
      · obtain ⟨hx1, hx2⟩ := (new_mem a b x).1 hx
        have := asc_one hb hz hx1 e
        rw [this] at hza
        exact hx2 hza
    · exact .inl ⟨hz, hza⟩
/-- Nothing changed: nothing is told. -/
theorem new_self (a : List α) : newL a a = [] := by simp [newL]
theorem gone_self (a : List α) : goneL key a a = [] := by
  simp only [goneL, List.map_eq_nil_iff, List.filter_eq_nil_iff, decide_eq_true_eq]
  intro x hx h
  exact h x hx rfl
theorem gone_asc {a : List α} (h : Asc key a) (b : List α) : Asc id (goneL key a b) := by
  unfold goneL Asc
  rw [List.pairwise_map]
  exact asc_sub h List.filter_sublist
/-- What is told is none of what is gone. -/
theorem new_gone {a b : List α} {x : α} (h : x ∈ newL a b) : key x ∉ goneL key a b := by
  rw [gone_mem]
  rintro ⟨_, _, _, h3⟩
  exact h3 x ((new_mem a b x).1 h).1 rfl
/-- All is gone: nothing is left. -/
theorem apply_all (a : List α) : applyL key a (a.map key) [] = [] := by
  simp only [applyL, putsL, List.foldl_nil, lessL, List.filter_eq_nil_iff, decide_eq_true_eq]
  intro x hx h
  exact h (List.mem_map_of_mem hx)
end
end Go.Proofs.YtfbakobmlbjncaaGreatDoor
