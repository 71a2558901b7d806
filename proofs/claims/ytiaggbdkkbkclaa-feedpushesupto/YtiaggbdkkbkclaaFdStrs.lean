/- A slice of strings, a slice of ints among the arguments: opened as one list. -/
import Derived.Test.YtiaggbdkkbkclaaFdArg
import Derived.Test.YtiaggbdkkbkclaaFdJoin
import Derived.Test.YtiaggbdkkbkclaaUpto
import Derived.SliceStrings
namespace Go.Proofs.Ytiaggbdkkbkclaa
open Go.ChangeShapes Go.WideShapes Go.RowKit Go.Joins Go.Deep

def StringsAt (w : World) (ad : Option Addr) (xs : List ByteArray) : Prop := ∀ i (h : i < xs.length), ∃ a, ad = some a ∧ a.block < w.heap.size ∧ w.cell? (a.add i) = some (.string xs[i])
def IntsAt (w : World) (ad : Option Addr) (xs : List Int) : Prop := ∀ i (h : i < xs.length), ∃ a, ad = some a ∧ a.block < w.heap.size ∧ w.cell? (a.add i) = some (.int .i64 xs[i])
section
variable {H : Type} {enc : TypeId × Value → H} {w : World} {base : Nat} {spare : Nat → Bool} {held : Bool}
theorem open_strs {r : Reach} {b0 : Nat} {v : Value} {d : DataW H} {ps : List MemPlace} (hv : Value.okWide Try.prog w r b0 22 v) (h : DataW.Trod enc Try.prog w base spare held 22 v d ps) :
    ∃ (ad : Option Addr) (cap : Nat) (xs : List ByteArray), v = .slice ad xs.length cap ∧ StringsAt w ad xs ∧ ((d = .nil ∧ xs = []) ∨ ∃ more, d = .slice (strs xs) more) := by
  obtain ⟨fuel, hf⟩ := h
  obtain ⟨a0, len0, cap0, rfl⟩ := okWide_slice Try.underlying22 hv
  rcases open_strings Try.underlying22 Try.underlying9 (by kernel_rfl) hf with ⟨hcs, hx⟩ | ⟨a, len, cap, ss, hcs, _, hl, _, hz, hx, hcell, _⟩
  · simp [Value.cells] at hcs hx
    obtain ⟨rfl, rfl, rfl⟩ := hcs
    exact ⟨none, 0, [], rfl, fun i hi => by simp at hi, .inl ⟨hx.1, rfl⟩⟩
  · simp [Value.cells] at hcs hx
    obtain ⟨rfl, rfl, rfl⟩ := hcs
    have hlm : len0 ≤ ss.length := by rw [hz]; split <;> omega
    refine ⟨some a, cap0, ss.take len0, by rw [List.length_take, Nat.min_eq_left hlm], ?_, .inr ⟨_, hx.1⟩⟩
    intro i hi
    have hi' : i < ss.length := by rw [List.length_take] at hi; omega
    have h0 := hcell i hi'
    have e : ss.getD i ByteArray.empty = (ss.take len0)[i] := by simp [List.getD, hi']
    rw [e] at h0
    exact ⟨a, rfl, by have := World.block_lt_of_cell? _ _ h0; rwa [add_block] at this, h0⟩
theorem open_nums {r : Reach} {b0 : Nat} {v : Value} {d : DataW H} {ps : List MemPlace} (hv : Value.okWide Try.prog w r b0 36 v) (h : DataW.Trod enc Try.prog w base spare held 36 v d ps) :
    ∃ (ad : Option Addr) (cap : Nat) (xs : List Int), v = .slice ad xs.length cap ∧ IntsAt w ad xs ∧ ((d = .nil ∧ xs = []) ∨ ∃ more, d = .slice (xs.map fun x => .lit (.int .i64 x)) more) := by
  obtain ⟨fuel, hf⟩ := h
  obtain ⟨a0, len0, cap0, rfl⟩ := okWide_slice Try.underlying36 hv
  rcases open_ints Try.underlying36 Try.underlying3 (by kernel_rfl) hf with ⟨hcs, hx⟩ | ⟨a, len, cap, ss, hcs, _, hl, _, hz, hx, hcell, _⟩
  · simp [Value.cells] at hcs hx
    obtain ⟨rfl, rfl, rfl⟩ := hcs
    exact ⟨none, 0, [], rfl, fun i hi => by simp at hi, .inl ⟨hx.1, rfl⟩⟩
  · simp [Value.cells] at hcs hx
    obtain ⟨rfl, rfl, rfl⟩ := hcs
    have hlm : len0 ≤ ss.length := by rw [hz]; split <;> omega
    refine ⟨some a, cap0, ss.take len0, by rw [List.length_take, Nat.min_eq_left hlm], ?_, .inr ⟨_, hx.1⟩⟩
    intro i hi
    have hi' : i < ss.length := by rw [List.length_take] at hi; omega
    have h0 := hcell i hi'
    have e : ss.getD i 0 = (ss.take len0)[i] := by simp [List.getD, hi']
    rw [e] at h0
    exact ⟨a, rfl, by have := World.block_lt_of_cell? _ _ h0; rwa [add_block] at this, h0⟩
end
theorem stringsAt_next {w w' : World} {ad : Option Addr} {xs : List ByteArray} (h : StringsAt w ad xs) (hb : Below w.heap.size w w') : StringsAt w' ad xs := by
  intro i hi
  obtain ⟨a, ha, hl, h0⟩ := h i hi
  exact ⟨a, ha, Nat.lt_of_lt_of_le hl hb.size, by rw [hb.cell (by rw [add_block]; exact hl)]; exact h0⟩
theorem intsAt_next {w w' : World} {ad : Option Addr} {xs : List Int} (h : IntsAt w ad xs) (hb : Below w.heap.size w w') : IntsAt w' ad xs := by
  intro i hi
  obtain ⟨a, ha, hl, h0⟩ := h i hi
  exact ⟨a, ha, Nat.lt_of_lt_of_le hl hb.size, by rw [hb.cell (by rw [add_block]; exact hl)]; exact h0⟩
theorem bulk_strs {H : Type} (xs : List ByteArray) : Rows.uptoBulkAll (H := H) (strs xs) = (joined xs).length + xs.length := by
  induction xs with
  | nil => rfl
  | cons x xs ih =>
    have e : strs (H := H) (x :: xs) = .lit (.string x.data.toList) :: strs xs := rfl
    rw [e, Rows.uptoBulkAll, ih, Rows.uptoBulk, show joined (x :: xs) = x.data.toList ++ joined xs from by simp [joined], List.length_append, List.length_cons]
    omega
theorem upto_strs {H : Type} {ds : List (DataW H)} (hk : Rows.uptoSmall H ds = true) {j : Nat} {d : DataW H} {xs : List ByteArray} (hd : ds[j]? = some d) (hx : (d = .nil ∧ xs = []) ∨ ∃ more, d = .slice (strs xs) more) : (joined xs).length + xs.length ≤ 1048576 := by
  have h1 := bulk_part hd
  have h2 := bulk_le hk
  rcases hx with ⟨rfl, rfl⟩ | ⟨more, rfl⟩
  · simp [joined]
  · rw [Rows.uptoBulk, bulk_strs] at h1
    omega
theorem upto_nums {H : Type} {ds : List (DataW H)} (hk : Rows.uptoSmall H ds = true) {j : Nat} {d : DataW H} {xs : List Int} (hd : ds[j]? = some d) (hx : (d = .nil ∧ xs = []) ∨ ∃ more, d = .slice (xs.map fun x => .lit (.int .i64 x)) more) : xs.length ≤ 1048576 := by
  have h1 := bulk_part hd
  have h2 := bulk_le hk
  rcases hx with ⟨rfl, rfl⟩ | ⟨more, rfl⟩
  · simp
  · have h3 := bulk_len (H := H) (xs.map fun x => .lit (.int .i64 x))
    rw [Rows.uptoBulk] at h1
    rw [List.length_map] at h3
    omega
end Go.Proofs.Ytiaggbdkkbkclaa
