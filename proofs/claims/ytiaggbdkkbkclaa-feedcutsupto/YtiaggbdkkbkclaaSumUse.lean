import Derived.Test.YtiaggbdkkbkclaaSumP
namespace Go.Proofs.Ytiaggbdkkbkclaa
open Go.RowKit

theorem sum_val (s : ByteArray) (n : Nat) (h : sum s.data.toList = n) (hs : s.size ≤ maxLen) (w : World) :
    Calls Try.prog 31 #[.string s] w fun e w' => e = .returned (.int .u32 (n : Int)) ∧ Below w.heap.size w w' := by
  have := sum_is s hs w
  rwa [h] at this
theorem sum_nine (w : World) :
    Calls Try.prog 31 #[.string ⟨#[49, 50, 51, 52, 53, 54, 55, 56, 57]⟩] w fun e w' => e = .returned (.int .u32 3421780262) ∧ Below w.heap.size w w' :=
  sum_val ⟨#[49, 50, 51, 52, 53, 54, 55, 56, 57]⟩ 3421780262 sum_known (by decide) w
theorem below2 {a b c : World} (h1 : Below a.heap.size a b) (h2 : Below b.heap.size b c) : Below a.heap.size a c := h1.trans (h2.mono h1.size)
end Go.Proofs.Ytiaggbdkkbkclaa
