/- The JSON form in the library's words (no walk): Itoa's digits, Join's lists. -/
import Derived.Test.YthbgaphidojneaaGreatDoorJsPlain
import Derived.Lib.ItoaNum
import Derived.Lib.Join
namespace Go.Proofs.YthbgaphidojneaaGreatDoor

/-! ### the library's words -/
theorem itoa_dig (n : Int) : Lib.itoa n = digZ n := by
  have h : ∀ k : Nat, Lib.decDigits k = digN k := by
    intro k
    induction k using Nat.strongRecOn with
    | ind k ih =>
      rw [Lib.decDigits, digN]
      by_cases h : k < 10
      · rw [dif_pos h, if_pos h]
      · rw [dif_neg h, if_neg h, ih _ (by omega)]
  unfold Lib.itoa digZ
  rw [h, h]
  have e : (-n).toNat = n.natAbs ∨ 0 ≤ n := by omega
  by_cases hn : n < 0
  · rw [if_pos hn, if_pos hn, show (-n).toNat = n.natAbs by omega]
  · rw [if_neg hn, if_neg hn]
def baL (l : List UInt8) : ByteArray := ⟨l.toArray⟩
theorem quoteB_ba (s : ByteArray) : baL s.data.toList = s := rfl
theorem baL_size (l : List UInt8) : (baL l).size = l.length := by show l.toArray.size = _; simp
theorem baL_app (a b : List UInt8) : baL (a ++ b) = baL a ++ baL b := by
  apply ByteArray.ext
  simp [baL]
theorem baL_data (l : List UInt8) : (baL l).data.toList = l := rfl
theorem baL_inj {a b : List UInt8} (h : baL a = baL b) : a = b := by
  have := congrArg (fun x : ByteArray => x.data.toList) h
  exact this
theorem join_list {α : Type} (g : α → List UInt8) (xs : List α) : Lib.join (xs.map g) [44] ++ [93] = listL g xs := by
  have tail : ∀ xs : List α, Lib.joinTail [44] (xs.map g) ++ [93] = tailL g xs := by
    intro xs
    induction xs with
    | nil => rfl
    | cons x xs ih =>
      simp only [Lib.joinTail, List.map_cons, List.flatten_cons, tailL, List.append_assoc, List.cons_append, List.nil_append] at ih ⊢
      rw [ih]
  cases xs with
  | nil => rfl
  | cons x xs =>
    rw [List.map_cons, Lib.join_cons, List.append_assoc, tail]
    rfl
end Go.Proofs.YthbgaphidojneaaGreatDoor
