import Derived.Test.YtiilagmmgpnpdaaGreatDoorRows
import Derived.WalkKit
import Derived.WalkSpells
import Derived.ProofKit
import Derived.Below
import Derived.Lib.Hide
import Derived.Laws.IdiomStrings
namespace Go.Proofs.YtiilagmmgpnpdaaGreatDoor
open Go.RowKit

theorem rest_emod (n m : Int) (h0 : 0 < m) : (0 ≤ n.tmod m → n.tmod m = n % m) ∧ (n.tmod m < 0 → n.tmod m + m = n % m) ∧ -m < n.tmod m := by
  have h1 := Int.emod_nonneg n (b := m) (by omega)
  have h2 := Int.emod_lt_of_pos n h0
  rw [Int.tmod_eq_emod]
  split
  · omega
  · omega
theorem rest_is (n m : Int) (h0 : 0 < m) (h1 : m ≤ 4611686018427387904) (w : World) :
    Calls Tryz.prog 23 #[.int .i64 n, .int .i64 m] w fun e w' => e = .returned (.int .i64 (n % m)) ∧ w = w' := by
  have hne : (m == 0) = false := beq_eq_false_iff_ne.2 (by omega)
  have hm := Lib.hid (rest_emod n m h0)
  obtain ⟨q, hq⟩ : ∃ q, n.tmod m = q := ⟨_, rfl⟩
  rw [hq] at hm
  by_cases h : q < 0
  · have hw : wrap64 (q + m) = q + m := by have := hm.out.2.2; unfold wrap64; omega
    have e : wrap64 (q + m) = n % m := by rw [hw]; exact hm.out.2.1 h
    have E := Lib.hid e
    clear e hw
    go_enter Tryz.func23, Tryz.ntmps23
    go_wp2
    go_ret
    exact ⟨by rw [← E.out]; rfl, rfl⟩
  · have e : q = n % m := hm.out.1 (by omega)
    have E := Lib.hid e
    clear e
    go_enter Tryz.func23, Tryz.ntmps23
    go_wp2
    go_ret
    exact ⟨by rw [← E.out]; rfl, rfl⟩
theorem run_string_one (wx : World) (g : Nat) (b : UInt8) (h : wx.cell? ⟨g, 0, none⟩ = some (.int .u8 (b.toNat : Int))) : (convert 199 9 (.slice (some ⟨g, 0, none⟩) 1 1)).run Tryz.prog wx = .ok (.string ⟨#[b]⟩) wx := by
  refine run_convert_bytes_back wx _ _ 5 ⟨g, 0, none⟩ 1 [b] Tryz.underlying199 Tryz.underlying5 Tryz.underlying9 ?_
  intro j hj
  obtain rfl : j = 0 := by simp at hj; omega
  simpa [Addr.add] using h
end Go.Proofs.YtiilagmmgpnpdaaGreatDoor
