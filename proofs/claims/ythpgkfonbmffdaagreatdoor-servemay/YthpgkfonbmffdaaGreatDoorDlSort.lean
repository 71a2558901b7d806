/- Rows behind the library's sort; worlds that only grew (no program's function). -/
import Derived.Test.YthpgkfonbmffdaaGreatDoorPkDl1
import Derived.Test.YthpgkfonbmffdaaGreatDoorPkSt1
import Derived.Shelf.SlSortCmp.WholeK
import Derived.Lib.Bytealg
import Derived.RangeFuncBox
namespace Go.Proofs.YthpgkfonbmffdaaGreatDoor
open Go.RowKit

theorem heap_put {w : World} {g n : Nat} {os : Array Obj} {cur : Array Value} {e : TypeId} {fr : Nat × Nat} (F : Array Value) (hb : w.heap[g]? = some (.cells cur e fr)) :
    (Sort.grow (Sort.putRow id (Sort.ahead w n) g 0 F) os).heap[g]? = some (.cells (Sort.putCells id 0 F cur) e fr) := by
  have hg : g < w.heap.size := (Array.getElem?_eq_some_iff.1 hb).1
  rw [Sort.heap_grow_old _ _ (by simpa using hg)]
  simp [Sort.putRow, Sort.mapBlock, Sort.ahead, Array.getElem?_modify, hb, Sort.onCells]
theorem grown_put {w : World} {g n : Nat} {os : Array Obj} (F : Array Value) : w.grownBy (Sort.grow (Sort.putRow id (Sort.ahead w n) g 0 F) os) (some g) := by
  refine ⟨rfl, rfl, rfl, by simp, fun k hk hne => ?_⟩
  rw [Sort.heap_grow_old _ _ (by simpa using hk)]
  have : g ≠ k := fun e => hne (by rw [e])
  simp [Sort.putRow, Sort.mapBlock, Sort.ahead, Array.getElem?_modify, this]
theorem take_put (cur F : Array Value) (h : F.size ≤ cur.size) : (Sort.putCells id 0 F cur).toList.take F.size = F.toList := by
  apply List.ext_getElem?
  intro j
  by_cases hj : j < F.size
  · rw [List.getElem?_take_of_lt hj, Array.getElem?_toList, Array.getElem?_toList]
    simp [Sort.putCells, hj, show j < cur.size by omega]
  · rw [List.getElem?_take_eq_none (by omega), List.getElem?_eq_none (by simp; omega)]
theorem holds_put {w : World} {g : Nat} {cur F : Array Value} {e : TypeId} (hb : w.heap[g]? = some (.cells cur e (0, 0))) (ht : cur.toList.take F.size = F.toList) : Sort.Holds id w g 0 F := by
  intro j hj
  refine ⟨?_, by simp [World.frozen?, hb]⟩
  have h1 : (cur.toList.take F.size)[j]? = F.toList[j]? := by rw [ht]
  rw [List.getElem?_take_of_lt hj] at h1
  simp only [World.cell?, hb, Nat.zero_add]
  simp only [Option.isSome_none, Bool.false_eq_true, if_false]
  rw [← Array.getElem?_toList, h1]
  simp [hj]
theorem own_put {w : World} {base g cap n q sz : Nat} {e : TypeId} {os : Array Obj} {cur F : Array Value} {xs : List Value} (hF : F.toList = xs) (hs : F.size = q * sz) (hbase : base ≤ g) (hb : w.heap[g]? = some (.cells cur e (0, 0))) (h1 : q ≤ cap) (h2 : cap ≤ maxLen) (h3 : cur.size = cap * sz) :
    (Sort.grow (Sort.putRow id (Sort.ahead w n) g 0 F) os).ownsRow base e sz (.slice (some ⟨g, 0, none⟩) q cap) q xs := by
  have hm : q * sz ≤ cap * sz := Nat.mul_le_mul_right _ h1
  refine ⟨by rw [← hF, Array.length_toList, hs], .inr ⟨g, cap, _, rfl, hbase, heap_put _ hb, h1, h2, by simp [Sort.putCells, h3], ?_⟩⟩
  rw [← hs, take_put cur F (by omega), hF]
/-- The world only grew. -/
def Grew (W W' : World) : Prop := ∃ q os, W' = Sort.grow (W.drewN q) os
theorem grew_refl (W : World) : Grew W W := ⟨0, #[], by rw [Sort.grow_empty]; rfl⟩
theorem grew_drew {W W' : World} (h : Grew W W') : Grew W W'.drew := by
  obtain ⟨q, os, rfl⟩ := h
  exact ⟨q + 1, os, rfl⟩
theorem grew_alloc {W W' : World} (h : Grew W W') (o : Obj) : Grew W (W'.alloc o) := by
  obtain ⟨q, os, rfl⟩ := h
  exact ⟨q, os ++ #[o], by rw [Sort.alloc_eq_grow, Sort.grow_grow]⟩
/-- What the comparison of two strings tells. -/
theorem cmp_lt : ∀ a b : List UInt8, decide (Lib.compareBytes a b < 0) = Op.bytesLess a b
  | [], [] => rfl
  | [], _ :: _ => rfl
  | _ :: _, [] => rfl
  | a :: x, b :: y => by
    unfold Lib.compareBytes Op.bytesLess
    by_cases h1 : a < b
    · simp [h1]
    · rw [if_neg h1]
      by_cases h2 : b < a
      · rw [if_pos h2]
        have h3 : (a == b) = false := by
          rw [beq_eq_false_iff_ne]
          rintro rfl
          exact absurd h2 (UInt8.lt_irrefl _)
        simp [h1, h3]
      · rw [if_neg h2]
        have h3 : a = b := by
          apply UInt8.toNat_inj.1
          have e1 : ¬ a.toNat < b.toNat := h1
          have e2 : ¬ b.toNat < a.toNat := h2
          omega
        subst h3
        rw [cmp_lt x y]
        simp [h1]
def cmpK {α : Type} (key : α → ByteArray) (x y : α) : Int := Lib.compareBytes (key x).data.toList (key y).data.toList
theorem cmpK_lt {α : Type} (key : α → ByteArray) (x y : α) : ltOf (cmpK key) x y = decide (lt (key x) (key y)) := by
  unfold ltOf cmpK
  rw [cmp_lt, less_is]
theorem cmpK_swo {α : Type} (key : α → ByteArray) : Sort.SWO (ltOf (cmpK key)) where
  irrefl x := by rw [cmpK_lt]; simp [lt_irrefl]
  trans x y z h1 h2 := by
    rw [cmpK_lt] at *
    simp only [decide_eq_true_eq] at *
    exact lt_trans h1 h2
  ntrans x y z h1 h2 := by
    rw [cmpK_lt] at *
    simp only [decide_eq_false_iff_not] at *
    intro h3
    by_cases e : key x = key y
    · rw [e] at h3; exact h2 h3
    · rcases lt_or e with h | h
      · exact h1 h
      · exact h2 (lt_trans h h3)
theorem sorted_pair {α : Type} [Inhabited α] {key : α → ByteArray} {d : Array α} (h : Sort.SortedIn (ltOf (cmpK key)) 0 d.size d) : d.toList.Pairwise (fun x y => ¬ lt (key y) (key x)) := by
  rw [List.pairwise_iff_getElem]
  intro i j hi hj hij
  have h1 := h i j (Nat.zero_le _) hij (by simpa using hj)
  rw [cmpK_lt] at h1
  simp only [decide_eq_false_iff_not] at h1
  have e1 : d[i]! = d.toList[i] := by rw [getElem!_pos d i (by simpa using hi)]; simp
  have e2 : d[j]! = d.toList[j] := by rw [getElem!_pos d j (by simpa using hj)]; simp
  rw [e1, e2] at h1
  exact h1
theorem perm_in {α : Type} [Inhabited α] {d d' : Array α} (h : Sort.PermIn 0 d.size d d') : d'.toList.Perm d.toList ∧ d'.size = d.size := by
  obtain ⟨h1, _, h3⟩ := h
  refine ⟨?_, h1⟩
  have e1 : (d'.extract 0 d.size) = d' := by rw [← h1, Array.extract_size]
  have e2 : (d.extract 0 d.size) = d := by rw [Array.extract_size]
  rw [e1, e2] at h3
  exact h3
instance : Inhabited JobD := ⟨⟨⟨#[]⟩, 0, 0, 0, ⟨#[]⟩⟩⟩
instance : Inhabited NodeD := ⟨⟨⟨#[]⟩, 0, ⟨#[]⟩⟩⟩
instance : Inhabited LeaseD := ⟨⟨⟨#[]⟩, ⟨#[]⟩, 0⟩⟩
theorem objAt_own {w w' : World} {row : Option Nat} {B : Nat} {cs : Array Value} {t : TypeId} (h : w.heap[B]? = some (.cells cs t (0, 0))) (hg : w.grownBy w' row) (hr : ∀ r, row = some r → ∃ o : Obj, w.heap[r]? = some o ∧ o.isCells = false) : w'.heap[B]? = some (.cells cs t (0, 0)) := by
  rw [hg.block B (Array.getElem?_eq_some_iff.1 h).1 (fun e => by
    obtain ⟨o, ho, hc⟩ := hr B e.symm
    rw [h] at ho
    cases ho
    cases hc)]
  exact h
end Go.Proofs.YthpgkfonbmffdaaGreatDoor
