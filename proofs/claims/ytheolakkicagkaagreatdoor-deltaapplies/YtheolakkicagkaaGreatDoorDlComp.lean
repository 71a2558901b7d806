/- Package delta: compare. -/
import Derived.Test.YtheolakkicagkaaGreatDoorDlOrd
import Derived.Test.YtheolakkicagkaaGreatDoorPkDl2
import Derived.Test.YtheolakkicagkaaGreatDoorPkWi5
import Derived.Deep.CutRange
import Derived.Maps.AppendAt
namespace Go.Proofs.YtheolakkicagkaaGreatDoor
open Go.RowKit

theorem own_nlow {w : World} {B e sz n b : Nat} {v : Value} {xs : List Value} (h : w.ownsRow B e sz v n xs) (hb : b < B) : some b ≠ v.ownBlock := fun he => by have := (h.lt b he.symm).1; omega
theorem own_nnew {w : World} {B e sz n b : Nat} {v : Value} {xs : List Value} (h : w.ownsRow B e sz v n xs) (hb : w.heap.size ≤ b) : some b ≠ v.ownBlock := fun he => by have := (h.lt b he.symm).2; omega
theorem objAt_grown {b : Nat} {vs : Array Value} {t : TypeId} {w w' : World} {row : Option Nat} (h : ObjAt b vs t w) (hg : w.grownBy w' row) (hne : some b ≠ row) : ObjAt b vs t w' := by
  have hl := objAt_lt h
  unfold ObjAt at h ⊢
  rw [hg.block b hl hne]
  exact h
section
variable {α : Type} {key : α → ByteArray} {V : α → Value}
/-- What is left of a when the first i rows of b are done with. -/
def leftL (key : α → ByteArray) (a b : List α) (i : Nat) : List α := lessN key a (b.map key) i
theorem left_zero (a b : List α) : leftL key a b 0 = a := lessN_zero a _
theorem left_asc {a : List α} (h : Asc key a) (b : List α) (i : Nat) : Asc key (leftL key a b i) := lessN_asc h _ i
theorem left_step {a b : List α} {i : Nat} (hi : i < b.length) : dropL key (key b[i]) (leftL key a b i) = leftL key a b (i + 1) := by
  have := lessN_step (key := key) (l := a) (b.map key) i (by simpa using hi)
  rw [List.getElem_map] at this
  exact this
theorem left_end (a b : List α) : (leftL key a b b.length).map key = goneL key a b := by
  have h := lessN_end (key := key) a (b.map key)
  rw [List.length_map] at h
  unfold leftL
  rw [h]
  unfold lessL goneL
  congr 2
  funext x
  simp only [List.mem_map, not_exists, not_and]
theorem left_look {a b : List α} (ha : Asc key a) (hb : Asc key b) {i : Nat} (hi : i < b.length) :
    (∃ y ∈ a, key y = key b[i] ∧ tabF key V (leftL key a b i) (key b[i]) = some (V y)) ∨ ((∀ y ∈ a, key y ≠ key b[i]) ∧ tabF key V (leftL key a b i) (key b[i]) = none) := by
  by_cases h : ∃ y ∈ a, key y = key b[i]
  · obtain ⟨y, hy, e⟩ := h
    left
    refine ⟨y, hy, e, ?_⟩
    rw [← e]
    refine tabF_some (left_asc ha b i) ((lessN_mem a _ i y).2 ⟨hy, ?_⟩)
    rw [e, ← List.map_take]
    intro hm
    obtain ⟨z, hz, ez⟩ := List.mem_map.1 hm
    obtain ⟨j, hj, rfl⟩ := List.mem_take_iff_getElem.1 hz
    have hlt := List.pairwise_iff_getElem.1 hb j i (by omega) hi (by omega)
    exact lt_ne hlt ez
  · right
    have h' : ∀ y ∈ a, key y ≠ key b[i] := fun y hy e => h ⟨y, hy, e⟩
    refine ⟨h', tabF_none (left_asc ha b i) _ (fun x hx => h' x ((lessN_mem a _ i x).1 hx).1)⟩
open Classical in
theorem new_take (a b : List α) {i : Nat} (hi : i < b.length) : newL a (b.take (i + 1)) = newL a (b.take i) ++ (if b[i] ∈ a then [] else [b[i]]) := by
  unfold newL
  rw [List.take_succ_eq_append_getElem hi, List.filter_append]
  by_cases h : b[i] ∈ a <;> simp [h]
theorem new_in {a b : List α} {i : Nat} (hi : i < b.length) (h : b[i] ∈ a) : newL a (b.take (i + 1)) = newL a (b.take i) := by rw [new_take a b hi, if_pos h, List.append_nil]
theorem new_out {a b : List α} {i : Nat} (hi : i < b.length) (h : b[i] ∉ a) : newL a (b.take (i + 1)) = newL a (b.take i) ++ [b[i]] := by rw [new_take a b hi, if_neg h]
theorem new_count (a b : List α) (i : Nat) : (newL a (b.take i)).length ≤ b.length := Nat.le_trans (List.length_filter_le _ _) (by rw [List.length_take]; omega)
end
theorem info_str : (Tryz.prog.info? 9).map (fun i => (i.zero, i.size, i.bytes)) = some (some (.string ⟨#[]⟩), 1, 16) := by kernel_rfl
theorem jobV_inj {x y : JobD} (h : (some (jobV x)).getD (jobV zeroJ) = jobV y) : x = y := by
  cases x; cases y
  simp [jobV] at h
  simp only [JobD.mk.injEq]
  exact h
theorem nodeV_inj {x y : NodeD} (h : (some (nodeV x)).getD (nodeV zeroN) = nodeV y) : x = y := by
  cases x; cases y
  simp [nodeV] at h
  simp only [NodeD.mk.injEq]
  exact h
theorem leaseV_inj {x y : LeaseD} (h : (some (leaseV x)).getD (leaseV zeroL) = leaseV y) : x = y := by
  cases x; cases y
  simp [leaseV] at h
  simp only [LeaseD.mk.injEq]
  exact h



end Go.Proofs.YtheolakkicagkaaGreatDoor
