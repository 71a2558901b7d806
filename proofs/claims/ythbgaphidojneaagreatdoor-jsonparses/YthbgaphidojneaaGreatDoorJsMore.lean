/- The JSON form of a state that may be is short; the readers' lists (no program). -/
import Derived.Test.YthbgaphidojneaaGreatDoorJsSpec
namespace Go.Proofs.YthbgaphidojneaaGreatDoor

/-! ### readers that take something -/
def Shr {α : Type} (d : Dec α) : Prop := ∀ l x m, d l = .inr (x, m) → m.length < l.length
def Shr0 {α : Type} (d : Dec α) : Prop := ∀ l x m, d l = .inr (x, m) → m.length ≤ l.length
theorem shr_weak {α : Type} {d : Dec α} (h : Shr d) : Shr0 d := fun l x m e => Nat.le_of_lt (h l x m e)
theorem shr_pure {α : Type} (a : α) : Shr0 (pureD a) := by
  intro l x m e
  simp only [pureD, Sum.inr.injEq, Prod.mk.injEq] at e
  rw [e.2]; exact Nat.le_refl _
theorem shr_bind {α β : Type} {d : Dec α} {f : α → Dec β} (h : Shr d) (k : ∀ a, Shr0 (f a)) : Shr (bindD d f) := by
  intro l x m e
  obtain ⟨a, r, h1, h2⟩ := bindD_inv e
  exact Nat.lt_of_le_of_lt (k a r x m h2) (h l a r h1)
theorem shr0_bind {α β : Type} {d : Dec α} {f : α → Dec β} (h : Shr0 d) (k : ∀ a, Shr0 (f a)) : Shr0 (bindD d f) := by
  intro l x m e
  obtain ⟨a, r, h1, h2⟩ := bindD_inv e
  exact Nat.le_trans (k a r x m h2) (h l a r h1)
theorem shr_lit (c : UInt8) (p : List UInt8) : Shr (litD (c :: p)) := by
  intro l x m e
  unfold litD at e
  split at e
  · rename_i h1
    simp only [Sum.inr.injEq, Prod.mk.injEq] at e
    have h2 := congrArg List.length h1
    rw [List.length_take] at h2
    rw [← e.2, List.length_drop]
    simp only [List.length_cons] at h2 ⊢
    omega
  · simp at e
theorem digGo_le : ∀ (f n : Nat) (l : List UInt8), (digGo f n l).2 ≤ l.length
  | 0, n, l => by simp [digGo]
  | f + 1, n, [] => by simp [digGo]
  | f + 1, n, c :: l => by
    simp only [digGo]
    split
    · have := digGo_le f (10 * n + (c.toNat - 48)) l
      simp only [List.length_cons]; omega
    · simp
theorem shr_fin (b : Bool) : Shr (digFin b) := by
  intro l x m e
  unfold digFin at e
  split at e
  · simp at e
  · rename_i h1
    simp only [Sum.inr.injEq, Prod.mk.injEq] at e
    have h2 := digGo_le 18 0 l
    rw [← e.2, List.length_drop]
    omega
theorem shr_dig : Shr digD := by
  intro l x m e
  unfold digD at e
  split at e
  · have := shr_fin true _ x m e
    rw [List.length_tail] at this
    omega
  · exact shr_fin false _ x m e
theorem quoAt_short : ∀ (n : Nat) (l out x m : List UInt8), l.length ≤ n → quoAt out l = .inr (x, m) → m.length < l.length := by
  intro n
  induction n with
  | zero =>
    intro l out x m hl e
    obtain rfl : l = [] := List.eq_nil_of_length_eq_zero (by omega)
    rw [quoAt_step] at e
    have : stepQ [] = .inl 4 := rfl
    rw [this] at e
    cases e
  | succ n ih =>
    intro l out x m hl e
    rw [quoAt_step] at e
    cases hs : stepQ l with
    | inl c => rw [hs] at e; cases e
    | inr y =>
      obtain ⟨o, r⟩ := y
      have h1 := stepQ_short hs
      rw [hs] at e
      cases o with
      | none =>
        simp only [Sum.inr.injEq, Prod.mk.injEq] at e
        rw [← e.2]; exact h1
      | some c =>
        have := ih r (out ++ [c]) x m (by omega) e
        omega
theorem shr_quo : Shr quoD := shr_bind (shr_lit 34 []) (fun _ l x m e => Nat.le_of_lt (quoAt_short l.length l [] x m (Nat.le_refl _) e))
theorem shr_quoB : Shr quoB := shr_bind shr_quo (fun _ => shr_pure _)
theorem shr_job : Shr jobP := shr_bind (shr_lit _ _) fun _ => shr0_bind (shr_weak shr_quoB) fun _ => shr0_bind (shr_weak (shr_lit _ _)) fun _ => shr0_bind (shr_weak shr_dig) fun _ => shr0_bind (shr_weak (shr_lit _ _)) fun _ => shr0_bind (shr_weak shr_dig) fun _ => shr0_bind (shr_weak (shr_lit _ _)) fun _ => shr0_bind (shr_weak shr_dig) fun _ => shr0_bind (shr_weak (shr_lit _ _)) fun _ => shr0_bind (shr_weak shr_quoB) fun _ => shr0_bind (shr_weak (shr_lit _ _)) fun _ => shr_pure _
theorem shr_node : Shr nodeP := shr_bind (shr_lit _ _) fun _ => shr0_bind (shr_weak shr_quoB) fun _ => shr0_bind (shr_weak (shr_lit _ _)) fun _ => shr0_bind (shr_weak shr_dig) fun _ => shr0_bind (shr_weak (shr_lit _ _)) fun _ => shr0_bind (shr_weak shr_quoB) fun _ => shr0_bind (shr_weak (shr_lit _ _)) fun _ => shr_pure _
theorem shr_lease : Shr leaseP := shr_bind (shr_lit _ _) fun _ => shr0_bind (shr_weak shr_quoB) fun _ => shr0_bind (shr_weak (shr_lit _ _)) fun _ => shr0_bind (shr_weak shr_quoB) fun _ => shr0_bind (shr_weak (shr_lit _ _)) fun _ => shr0_bind (shr_weak shr_dig) fun _ => shr0_bind (shr_weak (shr_lit _ _)) fun _ => shr_pure _
/-- The list's loop: any fuel above the text's length does; its equation, as a walk meets it. -/
theorem rowsGo_more {α : Type} {d : Dec α} (hd : Shr d) : ∀ (n : Nat) (l : List UInt8) (f g : Nat) (first : Bool) (acc : List α), l.length ≤ n → n < f → n < g → rowsGo d f first acc l = rowsGo d g first acc l := by
  intro n
  induction n with
  | zero =>
    intro l f g first acc hl hf hg
    obtain rfl : l = [] := List.eq_nil_of_length_eq_zero (by omega)
    cases f with
    | zero => omega
    | succ f =>
      cases g with
      | zero => omega
      | succ g =>
        rw [rowsGo, rowsGo, if_neg (show ¬ ([] : List UInt8).take 1 = [93] by simp), if_neg (show ¬ ([] : List UInt8).take 1 = [93] by simp)]
        cases first with
        | false => rfl
        | true =>
          simp only [if_true]
          rw [bindD_ok (d := pureD ()) rfl, bindD_ok (d := pureD ()) rfl]
          cases h : d [] with
          | inl e => rw [bindD_err h, bindD_err h]
          | inr y =>
            obtain ⟨x, m⟩ := y
            have := hd [] x m h
            simp at this
  | succ n ih =>
    intro l f g first acc hl hf hg
    cases f with
    | zero => omega
    | succ f =>
      cases g with
      | zero => omega
      | succ g =>
        rw [rowsGo, rowsGo]
        split
        · rfl
        · cases h1 : (if first = true then pureD () else litD [44]) l with
          | inl e => rw [bindD_err h1, bindD_err h1]
          | inr y =>
            obtain ⟨u, r⟩ := y
            have hr : r.length ≤ l.length := by
              cases first with
              | true => exact shr_pure () l u r h1
              | false => exact shr_weak (shr_lit 44 []) l u r h1
            rw [bindD_ok h1, bindD_ok h1]
            cases h2 : d r with
            | inl e => rw [bindD_err h2, bindD_err h2]
            | inr z =>
              obtain ⟨x, m⟩ := z
              have := hd r x m h2
              rw [bindD_ok h2, bindD_ok h2]
              exact ih m f g false (acc ++ [x]) (by omega) (by omega) (by omega)
def rowsAt {α : Type} (d : Dec α) (first : Bool) (acc : List α) (l : List UInt8) : Sum Nat (List α × List UInt8) := rowsGo d (l.length + 1) first acc l
theorem rowsAt_end {α : Type} (d : Dec α) (first : Bool) (acc : List α) {l : List UInt8} (h : l.take 1 = [93]) : rowsAt d first acc l = .inr (acc, l.drop 1) := by unfold rowsAt; rw [rowsGo, if_pos h]
theorem rowsAt_step {α : Type} {d : Dec α} (hd : Shr d) (first : Bool) (acc : List α) {l : List UInt8} (h : ¬ l.take 1 = [93]) : rowsAt d first acc l = bindD (if first then pureD () else litD [44]) (fun _ => bindD d fun x m => rowsAt d false (acc ++ [x]) m) l := by
  unfold rowsAt
  rw [rowsGo, if_neg h]
  cases h1 : (if first = true then pureD () else litD [44]) l with
  | inl e => rw [bindD_err h1, bindD_err h1]
  | inr y =>
    obtain ⟨u, r⟩ := y
    have hr : r.length ≤ l.length := by
      cases first with
      | true => exact shr_pure () l u r h1
      | false => exact shr_weak (shr_lit 44 []) l u r h1
    rw [bindD_ok h1, bindD_ok h1]
    cases h2 : d r with
    | inl e => rw [bindD_err h2, bindD_err h2]
    | inr z =>
      obtain ⟨x, m⟩ := z
      have := hd r x m h2
      rw [bindD_ok h2, bindD_ok h2]
      exact rowsGo_more hd m.length m _ _ _ _ (Nat.le_refl _) (by omega) (by omega)
end Go.Proofs.YthbgaphidojneaaGreatDoor
