/- The coder of package wire: a number whose value is not used when it reads. -/
import Derived.Test.YthpgkfonbmffdaaGreatDoorPkDl3
import Derived.Test.YthpgkfonbmffdaaGreatDoorPkWi3
namespace Go.Proofs.YthpgkfonbmffdaaGreatDoor
open Go.RowKit

theorem lim_any {most n k : Nat} {m : M} (hr : m.reading = true) : limS most n m = limS most k m := by
  unfold limS
  rw [if_pos hr, if_pos hr]
theorem lim_top {most n : Nat} {m : M} (hr : m.reading = true) : (limS most n m).1 ≤ most := by
  rw [lim_any (k := 0) hr]
  exact lim_le (Nat.zero_le _) m
theorem numb_top {n : Int} {m : M} (hn : (0 ≤ n ∧ n ≤ 4611686018427387904) ∨ m.reading = true) : 0 ≤ (numbS n m).1 ∧ (numbS n m).1 ≤ 4611686018427387904 := by
  have h : (limS 4611686018427387904 n.toNat m).1 ≤ 4611686018427387904 := by
    rcases hn with hn | hn
    · exact lim_le (by omega) m
    · exact lim_top hn
  have e : (numbS n m).1 = ((limS 4611686018427387904 n.toNat m).1 : Int) := rfl
  rw [e]
  omega
theorem numb_same {n : Int} {m : M} (hn : 0 ≤ n) (hr : m.reading = false) : (numbS n m).1 = n := by
  have e : (numbS n m).1 = ((limS 4611686018427387904 n.toNat m).1 : Int) := rfl
  rw [e]
  unfold limS
  rw [if_neg (by rw [hr]; simp)]
  simp only
  omega
/-- A delta that came lies below the coder. -/
def MemD (b : Nat) (Md : DlM) (d : DelD) (w : World) : Prop := ∃ w0 : World, w0.heap.size = b ∧ Below b w0 w ∧ DeltaAt w0 Md d
theorem memD_keep {b : Nat} {Md : DlM} {d : DelD} {w w' : World} (h : MemD b Md d w) (hk : Keep b w w') : MemD b Md d w' := by
  obtain ⟨w0, hs, hb, h1⟩ := h
  have := hb.size
  exact ⟨w0, hs, hb.trans (keep_low hk (by omega)), h1⟩
theorem memD_at {b : Nat} {Md : DlM} {d : DelD} {w : World} (h : MemD b Md d w) : DeltaAt w Md d := by
  obtain ⟨w0, rfl, hb, h1⟩ := h
  exact deltaAt_next h1 hb
theorem lim_nms (most : Nat) (l : List ByteArray) (hl : ∀ x ∈ l, isNote V8 x = true) (hn : l.length ≤ most) (hm : most ≤ 40) : Lim 3000 (rowsS most ⟨#[]⟩ txtS l) :=
  lim_rows (ok := fun x => isNote V8 x = true) most ⟨#[]⟩ l (by decide) hl hn hm (fun x hx => lim_mono (lim_txt hx) (by omega))
end Go.Proofs.YthpgkfonbmffdaaGreatDoor
