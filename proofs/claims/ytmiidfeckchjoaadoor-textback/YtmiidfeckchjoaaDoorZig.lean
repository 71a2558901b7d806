import Derived.Test.YtmiidfeckchjoaaDoorRows
import Derived.Test.YtmiidfeckchjoaaDoorPlain
import Derived.WalkKit
import Derived.WalkSpells
import Derived.ProofKit
import Derived.Below
import Derived.Lib.Hide
namespace Go.Proofs.YtmiidfeckchjoaaDoor
open Go.RowKit

theorem zig_neg {n : Int} (h0 : -9223372036854775808 ≤ n) (h : n < 0) : bits BinOp.xor IntKind.u64 IntKind.u64.max (IntKind.u64.wrap (IntKind.u64.wrap n * 2)) = zig n := by
  rw [IntKind.wrap_u64, IntKind.wrap_u64, xor_ones_u64 _ (by omega) (by omega)]
  unfold zig; rw [if_pos h]; omega
theorem zig_pos {n : Int} (h0 : n ≤ 9223372036854775807) (h : 0 ≤ n) : IntKind.u64.wrap (IntKind.u64.wrap n * 2) = zig n := by
  rw [IntKind.wrap_u64, IntKind.wrap_u64]
  unfold zig; rw [if_neg (by omega)]; omega
theorem i64_bd {n : Int} (h : (Lit.int .i64 n).wf = true) : -9223372036854775808 ≤ n ∧ n ≤ 9223372036854775807 := by
  simp [Lit.wf, IntKind.min, IntKind.max, IntKind.signed, IntKind.bits] at h; omega
theorem u64_bd {n : Int} (h : (Lit.int .u64 n).wf = true) : 0 ≤ n ∧ n < 18446744073709551616 := by
  simp [Lit.wf, IntKind.min, IntKind.max, IntKind.signed, IntKind.bits] at h; omega
theorem ret_int {k : IntKind} {a b : Int} (h : a = b) : Ending.returned (.int k a) = .returned (.int k b) := by rw [h]

theorem zig_any (n : Int) (w : World) (h : (Lit.int .i64 n).wf = true) :
    Calls Tryd.prog 18 #[.int .i64 n] w fun e w' => e = .returned (.int .u64 (zig n)) ∧ w = w' := by
  have hb := Lib.hid (i64_bd h)
  go_enter Tryd.func18, Tryd.ntmps18
  go_wp2
  all_goals go_ret
  · exact ⟨ret_int (zig_neg hb.out.1 (by assumption)), rfl⟩
  · exact ⟨ret_int (zig_pos hb.out.2 (by assumption)), rfl⟩

theorem zig_wf {n : Int} (h : (Lit.int .i64 n).wf = true) : (Lit.int .u64 (zig n)).wf = true := by
  have := i64_bd h
  simp [Lit.wf, IntKind.min, IntKind.max, IntKind.signed, IntKind.bits]; unfold zig; split <;> omega
theorem zag_wf {n : Int} (h : (Lit.int .u64 n).wf = true) : (Lit.int .i64 (zag n)).wf = true := by
  have := u64_bd h
  simp [Lit.wf, IntKind.min, IntKind.max, IntKind.signed, IntKind.bits]; unfold zag; split <;> omega
end Go.Proofs.YtmiidfeckchjoaaDoor
