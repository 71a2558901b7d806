import Derived.Test.YtdbopgmckndmeaaDoorRows
import Derived.Test.YtdbopgmckndmeaaDoorPlain
import Derived.WalkKit
import Derived.WalkSpells
import Derived.ProofKit
import Derived.Below
import Derived.Lib.Hide
namespace Go.Proofs.YtdbopgmckndmeaaDoor
open Go.RowKit

theorem zig_neg {n : Int} (h0 : -9223372036854775808 ≤ n) (h : n < 0) : bits BinOp.xor IntKind.u64 IntKind.u64.max (IntKind.u64.wrap (IntKind.u64.wrap n * 2)) = zig n := by
  rw [IntKind.wrap_u64, IntKind.wrap_u64, xor_ones_u64 _ (by omega) (by omega)]
  unfold zig; rw [if_pos h]; omega
theorem zig_pos {n : Int} (h0 : n ≤ 9223372036854775807) (h : 0 ≤ n) : IntKind.u64.wrap (IntKind.u64.wrap n * 2) = zig n := by
  rw [IntKind.wrap_u64, IntKind.wrap_u64]
  unfold zig; rw [if_neg (by omega)]; omega
theorem i64_bd {n : Int} (h : (Lit.int .i64 n).wf = true) : -9223372036854775808 ≤ n ∧ n ≤ 9223372036854775807 := by
  simp [Lit.wf, IntKind.min, IntKind.max, IntKind.signed, IntKind.bits] at h; omega
theorem u64_bd {n : Int} (h : (Lit.int .u64 n).wf = true) : 0 ≤ n ∧ n < 18446744073709551616 := by
  simp [Lit.wf, IntKind.min, IntKind.max, IntKind.signed, IntKind.bits] at h; omega
theorem ret_int {k : IntKind} {a b : Int} (h : a = b) : Ending.returned (.int k a) = .returned (.int k b) := by rw [h]

theorem zig_any (n : Int) (w : World) (h : (Lit.int .i64 n).wf = true) :
    Calls Tryd.prog 116 #[.int .i64 n] w fun e w' => e = .returned (.int .u64 (zig n)) ∧ w = w' := by
  have hb := Lib.hid (i64_bd h)
  go_enter Tryd.func116, Tryd.ntmps116
  go_wp2
  all_goals go_ret
  · exact ⟨ret_int (zig_neg hb.out.1 (by assumption)), rfl⟩
  · exact ⟨ret_int (zig_pos hb.out.2 (by assumption)), rfl⟩

theorem zag_odd {n : Int} (h0 : 0 ≤ n ∧ n < 18446744073709551616) (h : (bits BinOp.and IntKind.u64 n 1 == 1) = true) : bits BinOp.xor IntKind.i64 (-1) (wrap64 (n / 2)) = zag n := by
  rw [and1_u64 n h0.1 h0.2] at h
  have h' : n % 2 = 1 := by simpa using h
  have e : wrap64 (n / 2) = n / 2 := by unfold wrap64; omega
  rw [e, xor_neg_i64 _ (by omega) (by omega)]
  unfold zag; rw [if_neg (by omega)]
theorem zag_even {n : Int} (h0 : 0 ≤ n ∧ n < 18446744073709551616) (h : (bits BinOp.and IntKind.u64 n 1 == 1) = false) : wrap64 (n / 2) = zag n := by
  rw [and1_u64 n h0.1 h0.2] at h
  have h' : ¬ n % 2 = 1 := by simpa using h
  have e : wrap64 (n / 2) = n / 2 := by unfold wrap64; omega
  rw [e]; unfold zag; rw [if_pos (by omega)]
theorem zag_any (n : Int) (w : World) (h : (Lit.int .u64 n).wf = true) :
    Calls Tryd.prog 115 #[.int .u64 n] w fun e w' => e = .returned (.int .i64 (zag n)) ∧ w = w' := by
  have hb := Lib.hid (u64_bd h)
  go_enter Tryd.func115, Tryd.ntmps115
  go_wp2
  all_goals go_ret
  · exact ⟨ret_int (zag_odd hb.out (by assumption)), rfl⟩
  · exact ⟨ret_int (zag_even hb.out (by assumption)), rfl⟩

theorem rzig_pos {n : Int} (h0 : n ≤ 9223372036854775807) (h : 0 ≤ n) : IntKind.u64.wrap (2 * IntKind.u64.wrap n) = zig n := by
  rw [IntKind.wrap_u64, IntKind.wrap_u64]; unfold zig; rw [if_neg (by omega)]; omega
theorem rzig_neg {n : Int} (h0 : -9223372036854775808 ≤ n) (h : n < 0) : IntKind.u64.wrap (IntKind.u64.wrap (2 * IntKind.u64.wrap (wrap64 (-wrap64 (n + 1)))) + 1) = zig n := by
  simp only [IntKind.wrap_u64]; unfold zig wrap64; rw [if_pos h]; omega
theorem rzig_any (n : Int) (w : World) (h : (Lit.int .i64 n).wf = true) :
    Calls Tryd.prog 120 #[.int .i64 n] w fun e w' => e = .returned (.int .u64 (zig n)) ∧ w = w' := by
  have hb := Lib.hid (i64_bd h)
  go_enter Tryd.func120, Tryd.ntmps120
  go_wp2
  all_goals go_ret
  · exact ⟨ret_int (rzig_pos hb.out.2 (by assumption)), rfl⟩
  · exact ⟨ret_int (rzig_neg hb.out.1 (by assumption)), rfl⟩
theorem rzag_even {n : Int} (h0 : 0 ≤ n ∧ n < 18446744073709551616) (h : (n.tmod 2 == 0) = true) : wrap64 (IntKind.u64.wrap (n.tdiv 2)) = zag n := by
  rw [Int.tmod_eq_emod_of_nonneg h0.1] at h
  have h' : n % 2 = 0 := by simpa using h
  rw [Int.tdiv_eq_ediv_of_nonneg h0.1, IntKind.wrap_u64]; unfold zag wrap64; rw [if_pos h']; omega
theorem rzag_odd {n : Int} (h0 : 0 ≤ n ∧ n < 18446744073709551616) (h : (n.tmod 2 == 0) = false) : wrap64 (wrap64 (-wrap64 (IntKind.u64.wrap (n.tdiv 2))) - 1) = zag n := by
  rw [Int.tmod_eq_emod_of_nonneg h0.1] at h
  have h' : ¬ n % 2 = 0 := by simpa using h
  rw [Int.tdiv_eq_ediv_of_nonneg h0.1, IntKind.wrap_u64]; unfold zag wrap64; rw [if_neg h']; omega
theorem rzag_any (n : Int) (w : World) (h : (Lit.int .u64 n).wf = true) :
    Calls Tryd.prog 108 #[.int .u64 n] w fun e w' => e = .returned (.int .i64 (zag n)) ∧ w = w' := by
  have hb := Lib.hid (u64_bd h)
  go_enter Tryd.func108, Tryd.ntmps108
  go_wp2
  all_goals go_ret
  · exact ⟨ret_int (rzag_even hb.out (by assumption)), rfl⟩
  · exact ⟨ret_int (rzag_odd hb.out (by assumption)), rfl⟩

theorem zig_wf {n : Int} (h : (Lit.int .i64 n).wf = true) : (Lit.int .u64 (zig n)).wf = true := by
  have := i64_bd h
  simp [Lit.wf, IntKind.min, IntKind.max, IntKind.signed, IntKind.bits]; unfold zig; split <;> omega
theorem zag_wf {n : Int} (h : (Lit.int .u64 n).wf = true) : (Lit.int .i64 (zag n)).wf = true := by
  have := u64_bd h
  simp [Lit.wf, IntKind.min, IntKind.max, IntKind.signed, IntKind.bits]; unfold zag; split <;> omega
end Go.Proofs.YtdbopgmckndmeaaDoor
