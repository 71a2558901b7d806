/- Plain facts on codes of bytes (no program): what is told is read back, what is read was told so, and what is cut off is too short. -/
import Derived.Test.YtdbopgmckndmeaaDoorRows
namespace Go.Proofs.YtdbopgmckndmeaaDoor

/-- A reader: an error's number, or what was read and what is left. -/
abbrev Dec (α : Type) := List UInt8 → Sum Nat (α × List UInt8)
def pureD {α : Type} (a : α) : Dec α := fun l => .inr (a, l)
def failD {α : Type} (e : Nat) : Dec α := fun _ => .inl e
def bindD {α β : Type} (d : Dec α) (f : α → Dec β) : Dec β := fun l => match d l with | .inl e => .inl e | .inr (a, m) => f a m
theorem bindD_ok {α β : Type} {d : Dec α} {f : α → Dec β} {l m : List UInt8} {a : α} (h : d l = .inr (a, m)) : bindD d f l = f a m := by simp [bindD, h]
theorem bindD_err {α β : Type} {d : Dec α} {f : α → Dec β} {l : List UInt8} {e : Nat} (h : d l = .inl e) : bindD d f l = .inl e := by simp [bindD, h]
theorem bindD_inv {α β : Type} {d : Dec α} {f : α → Dec β} {l r : List UInt8} {b : β} (h : bindD d f l = .inr (b, r)) : ∃ a m, d l = .inr (a, m) ∧ f a m = .inr (b, r) := by
  unfold bindD at h
  cases hd : d l with
  | inl e => rw [hd] at h; cases h
  | inr x => rw [hd] at h; exact ⟨x.1, x.2, rfl, h⟩
/-- Things with P are told by 'enc' and read by 'dec'. -/
structure Codec {α : Type} (P : α → Prop) (enc : α → List UInt8) (dec : Dec α) : Prop where
  back : ∀ a m, P a → dec (enc a ++ m) = .inr (a, m)
  sound : ∀ l a m, dec l = .inr (a, m) → P a ∧ l = enc a ++ m
  cut : ∀ a k, P a → k < (enc a).length → dec ((enc a).take k) = .inl 3
/-- One thing, then another one that may hang on it. -/
theorem Codec.seq {α β : Type} {P : α → Prop} {ea : α → List UInt8} {da : Dec α} {Q : α → β → Prop} {eb : α → β → List UInt8} {db : α → Dec β} (ca : Codec P ea da) (cb : ∀ a, P a → Codec (Q a) (eb a) (db a)) :
    Codec (fun x : α × β => P x.1 ∧ Q x.1 x.2) (fun x => ea x.1 ++ eb x.1 x.2) (bindD da fun a => bindD (db a) fun b => pureD (a, b)) where
  back := by
    rintro ⟨a, b⟩ m ⟨hp, hq⟩
    simp only [List.append_assoc]
    rw [bindD_ok (ca.back a _ hp), bindD_ok ((cb a hp).back b m hq)]
    rfl
  sound := by
    rintro l ⟨a, b⟩ m h
    obtain ⟨a', m', h1, h2⟩ := bindD_inv h
    obtain ⟨b', m'', h3, h4⟩ := bindD_inv h2
    simp only [pureD, Sum.inr.injEq, Prod.mk.injEq] at h4
    obtain ⟨⟨rfl, rfl⟩, rfl⟩ := h4
    obtain ⟨hp, rfl⟩ := ca.sound _ _ _ h1
    obtain ⟨hq, rfl⟩ := (cb a' hp).sound _ _ _ h3
    exact ⟨⟨hp, hq⟩, by rw [List.append_assoc]⟩
  cut := by
    rintro ⟨a, b⟩ k ⟨hp, hq⟩ hk
    simp only [List.length_append] at hk hp hq ⊢
    by_cases h : k < (ea a).length
    · rw [List.take_append_of_le_length (by omega), bindD_err (ca.cut a k hp h)]
    · rw [List.take_append, List.take_of_length_le (by omega), bindD_ok (ca.back a _ hp), bindD_err ((cb a hp).cut b _ hq (by omega))]
/-- Seen as another type. -/
theorem Codec.iso {α β : Type} {P : α → Prop} {ea : α → List UInt8} {da : Dec α} (ca : Codec P ea da) (f : α → β) (g : β → α) (Q : β → Prop) (hg : ∀ b, Q b → P (g b) ∧ f (g b) = b) (hf : ∀ a, P a → Q (f a) ∧ g (f a) = a) :
    Codec Q (fun b => ea (g b)) (bindD da fun a => pureD (f a)) where
  back := by
    intro b m hq
    rw [bindD_ok (ca.back _ m (hg b hq).1)]
    simp [pureD, (hg b hq).2]
  sound := by
    intro l b m h
    obtain ⟨a, m', h1, h2⟩ := bindD_inv h
    simp only [pureD, Sum.inr.injEq, Prod.mk.injEq] at h2
    obtain ⟨rfl, rfl⟩ := h2
    obtain ⟨hp, rfl⟩ := ca.sound _ _ _ h1
    exact ⟨(hf a hp).1, by rw [(hf a hp).2]⟩
  cut := by
    intro b k hq hk
    rw [bindD_err (ca.cut _ k (hg b hq).1 hk)]
/-- Nothing is told; one thing is read. -/
theorem Codec.none {α : Type} (z : α) : Codec (fun a => a = z) (fun _ => []) (pureD z) where
  back := by rintro a m rfl; rfl
  sound := by
    intro l a m h
    simp only [pureD, Sum.inr.injEq, Prod.mk.injEq] at h
    exact ⟨h.1.symm, by simp [h.2]⟩
  cut := by intro a k _ hk; simp at hk
/-- n things, one behind the other. -/
def repD {α : Type} (d : Dec α) : Nat → Dec (List α)
  | 0 => pureD []
  | n + 1 => bindD d fun a => bindD (repD d n) fun r => pureD (a :: r)
theorem Codec.rep {α : Type} {P : α → Prop} {enc : α → List UInt8} {dec : Dec α} (c : Codec P enc dec) (n : Nat) : Codec (fun l : List α => l.length = n ∧ ∀ x ∈ l, P x) (fun l => l.flatMap enc) (repD dec n) := by
  induction n with
  | zero =>
    constructor
    · rintro a m ⟨h, _⟩
      obtain rfl := List.eq_nil_of_length_eq_zero h
      rfl
    · intro l a m h
      simp only [repD, pureD, Sum.inr.injEq, Prod.mk.injEq] at h
      obtain ⟨rfl, rfl⟩ := h
      exact ⟨⟨rfl, fun x hx => (by cases hx)⟩, rfl⟩
    · rintro a k ⟨h, _⟩ hk
      obtain rfl := List.eq_nil_of_length_eq_zero h
      simp at hk
  | succ n ih =>
    constructor
    · rintro a m ⟨h, hp⟩
      cases a with
      | nil => simp at h
      | cons x r =>
        have hr : r.length = n ∧ ∀ y ∈ r, P y := ⟨by simpa using h, fun y hy => hp y (by simp [hy])⟩
        simp only [List.flatMap_cons, List.append_assoc, repD]
        rw [bindD_ok (c.back x _ (hp x (by simp))), bindD_ok (ih.back r m hr)]
        rfl
    · intro l a m h
      simp only [repD] at h
      obtain ⟨x, m', h1, h2⟩ := bindD_inv h
      obtain ⟨r, m'', h3, h4⟩ := bindD_inv h2
      simp only [pureD, Sum.inr.injEq, Prod.mk.injEq] at h4
      obtain ⟨rfl, rfl⟩ := h4
      obtain ⟨hp, rfl⟩ := c.sound _ _ _ h1
      obtain ⟨⟨hl, hq⟩, rfl⟩ := ih.sound _ _ _ h3
      refine ⟨⟨by simp [hl], fun y hy => ?_⟩, by simp only [List.flatMap_cons, List.append_assoc]⟩
      rcases List.mem_cons.1 hy with rfl | hy
      · exact hp
      · exact hq y hy
    · rintro a k ⟨h, hp⟩ hk
      cases a with
      | nil => simp at h
      | cons x r =>
        have hr : r.length = n ∧ ∀ y ∈ r, P y := ⟨by simpa using h, fun y hy => hp y (by simp [hy])⟩
        simp only [List.flatMap_cons, List.length_append] at hk
        simp only [List.flatMap_cons, repD]
        by_cases h2 : k < (enc x).length
        · rw [List.take_append_of_le_length (by omega), bindD_err (c.cut x k (hp x (by simp)) h2)]
        · rw [List.take_append, List.take_of_length_le (by omega), bindD_ok (c.back x _ (hp x (by simp))), bindD_err (ih.cut r _ hr (by omega))]
/-- What is told alike is alike. -/
theorem Codec.inj {α : Type} {P : α → Prop} {enc : α → List UInt8} {dec : Dec α} (c : Codec P enc dec) {a b : α} (ha : P a) (hb : P b) (h : enc a = enc b) : a = b := by
  have h1 := c.back a [] ha
  rw [h, c.back b [] hb] at h1
  simp only [Sum.inr.injEq, Prod.mk.injEq, and_true] at h1
  exact h1.symm
end Go.Proofs.YtdbopgmckndmeaaDoor
