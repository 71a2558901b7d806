/- Plain facts on the wire format of states (no program): errors are no 0; lengths. -/
import Derived.Test.YtdbopgmckndmeaaDoorWiState
namespace Go.Proofs.YtdbopgmckndmeaaDoor

def NZ {α : Type} (d : Dec α) : Prop := ∀ l e, d l = .inl e → e ≠ 0
theorem nz_pure {α : Type} (a : α) : NZ (pureD a) := fun l e h => by cases h
theorem nz_bind {α β : Type} {d : Dec α} {f : α → Dec β} (h : NZ d) (hf : ∀ a, NZ (f a)) : NZ (bindD d f) := by
  intro l e he
  unfold bindD at he
  cases hd : d l with
  | inl e' => rw [hd] at he; simp only [Sum.inl.injEq] at he; subst he; exact h l _ hd
  | inr x => rw [hd] at he; exact hf x.1 x.2 e he
theorem nz_num (most : Nat) : NZ (numD most) := by
  intro l e h
  unfold numD at h
  by_cases h0 : (rd l).2.2 ≠ 0
  · rw [if_pos h0] at h; simp only [Sum.inl.injEq] at h; subst h; exact h0
  · rw [if_neg h0] at h
    by_cases h1 : most < (rd l).1
    · rw [if_pos h1] at h; simp only [Sum.inl.injEq] at h; omega
    · rw [if_neg h1] at h; cases h
theorem nz_text (U : ByteArray → Bool) : NZ (textD U) := by
  refine nz_bind (nz_num 16) (fun n l e h => ?_)
  split at h
  · simp only [Sum.inl.injEq] at h; omega
  · split at h
    · cases h
    · simp only [Sum.inl.injEq] at h; omega
theorem nz_int : NZ intD := nz_bind (nz_num _) (fun _ => nz_pure _)
theorem nz_zig : NZ zigD := nz_bind (nz_num _) (fun _ => nz_pure _)
theorem nz_if {α : Type} {d d' : Dec α} (b : Bool) (h : NZ d) (h' : NZ d') : NZ (if b then d else d') := by cases b <;> assumption
theorem nz_rep {α : Type} {d : Dec α} (h : NZ d) (n : Nat) : NZ (repD d n) := by
  induction n with
  | zero => exact nz_pure _
  | succ n ih => exact nz_bind h (fun _ => nz_bind ih (fun _ => nz_pure _))
theorem nz_rows {α : Type} {d : Dec α} (h : NZ d) (most : Nat) : NZ (rowsD most d) := nz_bind (nz_num _) (fun _ => nz_rep h _)
theorem nz_st (U : ByteArray → Bool) (v : Int) : NZ (stR U v) := by
  have hj : NZ (jobR U v) := nz_bind (nz_text U) fun _ => nz_bind nz_zig fun _ => nz_bind nz_int fun _ => nz_bind (nz_if _ nz_int (nz_pure _)) fun _ => nz_bind (nz_if _ (nz_text U) (nz_pure _)) fun _ => nz_pure _
  have hn : NZ (nodeR U v) := nz_bind (nz_text U) fun _ => nz_bind nz_int fun _ => nz_bind (nz_if _ (nz_text U) (nz_pure _)) fun _ => nz_pure _
  have hl : NZ (leaseR U) := nz_bind (nz_text U) fun _ => nz_bind (nz_text U) fun _ => nz_bind nz_int fun _ => nz_pure _
  exact nz_bind (nz_if _ nz_int (nz_pure _)) fun _ => nz_bind (nz_rows hj _) fun _ => nz_bind (nz_rows hn _) fun _ => nz_bind (nz_rows hl _) fun _ => nz_pure _
/-- What is decoded without an error is valid, fits, and is encoded so. -/
theorem wire_ok {U : ByteArray → Bool} {v : Int} {l : List UInt8} {s : StD} (h : wireD U v l = (s, 0)) : checkE U s = 0 ∧ fitsD s v = true ∧ stB v s = l := wire_read h (fun e he => nz_st U v l e he)
theorem wire_err {U : ByteArray → Bool} {v : Int} {l : List UInt8} {s : StD} {e : Nat} (h : wireD U v l = (s, e)) (h0 : e ≠ 0) : s = zeroSt := by
  unfold wireD at h
  cases hr : stR U v l with
  | inl e' => rw [hr] at h; simp only [Prod.mk.injEq] at h; exact h.1.symm
  | inr x =>
    rw [hr] at h
    simp only at h
    split at h
    · simp only [Prod.mk.injEq] at h; exact h.1.symm
    · split at h
      · simp only [Prod.mk.injEq] at h; exact h.1.symm
      · simp only [Prod.mk.injEq] at h; exact absurd h.2.symm h0
/-! ### lengths -/
theorem text_len {U : ByteArray → Bool} {s : ByteArray} (h : isNote U s = true) : (textE s).length ≤ 17 := by
  simp only [isNote, Bool.and_eq_true, decide_eq_true_eq] at h
  have hl : s.data.toList.length = s.size := by rw [Array.length_toList]; rfl
  unfold textE
  rw [List.length_append, num_lt (by omega), hl]
  simp; omega
theorem int_len {n : Int} (h : 0 ≤ n ∧ n ≤ 4611686018427387904) : (intE n).length ≤ 10 := num_len10 (by omega)
theorem zig_len {n : Int} (h : zig n ≤ 4611686018427387904) : (zigE n).length ≤ 10 := num_len10 (by omega)
theorem flat_len {α : Type} {f : α → List UInt8} {l : List α} {M : Nat} (h : ∀ x ∈ l, (f x).length ≤ M) : (l.flatMap f).length ≤ l.length * M := by
  induction l with
  | nil => simp
  | cons x l ih =>
    have h1 := h x (by simp)
    have h2 := ih (fun y hy => h y (by simp [hy]))
    rw [List.flatMap_cons, List.length_append, List.length_cons, Nat.add_mul]
    omega
theorem flat_mono {α : Type} {f g : α → List UInt8} {l : List α} (h : ∀ x ∈ l, (f x).length ≤ (g x).length) : (l.flatMap f).length ≤ (l.flatMap g).length := by
  induction l with
  | nil => simp
  | cons x l ih =>
    have h1 := h x (by simp)
    have h2 := ih (fun y hy => h y (by simp [hy]))
    rw [List.flatMap_cons, List.flatMap_cons, List.length_append, List.length_append]
    omega
/-- The bytes of a state fit a frame. -/
theorem st_len {U : ByteArray → Bool} {v : Int} {s : StD} (h : okSt U v s) : (stB v s).length ≤ 5240 := by
  obtain ⟨h1, ⟨hj, hj'⟩, ⟨hn, hn'⟩, hl, hl'⟩ := h
  have a0 : (if decide (2 < v) then intE s.rev else []).length ≤ 10 := by
    by_cases hv : decide (2 < v) = true
    · rw [if_pos hv] at h1 ⊢; exact int_len h1
    · rw [if_neg hv]; simp
  have aj : ∀ x ∈ s.jobs, (jobB v x).length ≤ 64 := by
    intro x hx
    obtain ⟨z1, z2, z3, z4, z5⟩ := hj' x hx
    have b1 := text_len z1
    have b2 := zig_len z2
    have b3 := int_len z3
    have b4 : (if decide (1 < v) then intE x.tries else []).length ≤ 10 := by
      by_cases hv : decide (1 < v) = true
      · rw [if_pos hv] at z4 ⊢; exact int_len z4
      · rw [if_neg hv]; simp
    have b5 : (if decide (2 < v) then textE x.tag else []).length ≤ 17 := by
      by_cases hv : decide (2 < v) = true
      · rw [if_pos hv] at z5 ⊢; exact text_len z5
      · rw [if_neg hv]; simp
    unfold jobB
    simp only [List.length_append]
    omega
  have an : ∀ x ∈ s.nodes, (nodeB v x).length ≤ 44 := by
    intro x hx
    obtain ⟨z1, z2, z3⟩ := hn' x hx
    have b1 := text_len z1
    have b2 := int_len z2
    have b3 : (if decide (1 < v) then textE x.zone else []).length ≤ 17 := by
      by_cases hv : decide (1 < v) = true
      · rw [if_pos hv] at z3 ⊢; exact text_len z3
      · rw [if_neg hv]; simp
    unfold nodeB
    simp only [List.length_append]
    omega
  have al : ∀ x ∈ s.leases, (leaseB x).length ≤ 44 := by
    intro x hx
    obtain ⟨z1, z2, z3⟩ := hl' x hx
    have b1 := text_len z1
    have b2 := text_len z2
    have b3 := int_len z3
    unfold leaseB
    simp only [List.length_append]
    omega
  have f1 := flat_len aj
  have f2 := flat_len an
  have f3 := flat_len al
  have n1 := num_len10 (n := s.jobs.length) (by omega)
  have n2 := num_len10 (n := s.nodes.length) (by omega)
  have n3 := num_len10 (n := s.leases.length) (by omega)
  have m1 : s.jobs.length * 64 ≤ 40 * 64 := Nat.mul_le_mul_right 64 hj
  have m2 : s.nodes.length * 44 ≤ 20 * 44 := Nat.mul_le_mul_right 44 hn
  have m3 : s.leases.length * 44 ≤ 40 * 44 := Nat.mul_le_mul_right 44 hl
  unfold stB rowsE'
  simp only [List.length_append]
  omega
/-- A later version has no fewer bytes; there are three at least. -/
theorem st_mono (v v' : Int) (hv : v ≤ v') (s : StD) : (stB v s).length ≤ (stB v' s).length ∧ 3 ≤ (stB v s).length := by
  have opt : ∀ (k : Int) (x : List UInt8), (if decide (k < v) then x else []).length ≤ (if decide (k < v') then x else []).length := by
    intro k x
    by_cases h : k < v
    · have h' : k < v' := by omega
      simp [h, h']
    · simp [h]
  have aj : ∀ x ∈ s.jobs, (jobB v x).length ≤ (jobB v' x).length := by
    intro x _
    have h1 := opt 1 (intE x.tries)
    have h2 := opt 2 (textE x.tag)
    unfold jobB
    simp only [List.length_append]
    omega
  have an : ∀ x ∈ s.nodes, (nodeB v x).length ≤ (nodeB v' x).length := by
    intro x _
    have h1 := opt 1 (textE x.zone)
    unfold nodeB
    simp only [List.length_append]
    omega
  have f1 := flat_mono aj
  have f2 := flat_mono an
  have h0 := opt 2 (intE s.rev)
  have n1 := num_pos s.jobs.length
  have n2 := num_pos s.nodes.length
  have n3 := num_pos s.leases.length
  unfold stB rowsE'
  simp only [List.length_append]
  omega
end Go.Proofs.YtdbopgmckndmeaaDoor
