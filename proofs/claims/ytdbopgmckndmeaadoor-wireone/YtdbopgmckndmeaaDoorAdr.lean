/- Addresses. -/
import Derived.Test.YtdbopgmckndmeaaDoorRows
namespace Go.Proofs.YtdbopgmckndmeaaDoor
theorem add_block (a : Addr) (k : Nat) : (a.add k).block = a.block := by unfold Addr.add; split <;> rfl
theorem add_next (a : Addr) (k j : Nat) : a.add (k + (j + 1)) = ⟨(a.add k).block, (a.add k).off + (j + 1), none⟩ := by
  unfold Addr.add
  split <;> split <;> first | omega | (simp; omega) | simp
theorem addr_add (g j : Nat) : (⟨g, 0, none⟩ : Addr).add j = ⟨g, j, none⟩ := by simp [Addr.add]; intro h0; exact h0.symm
end Go.Proofs.YtdbopgmckndmeaaDoor
