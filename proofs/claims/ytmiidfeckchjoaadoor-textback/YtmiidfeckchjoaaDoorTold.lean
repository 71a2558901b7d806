import Derived.Test.YtmiidfeckchjoaaDoorRead
import Derived.Test.YtmiidfeckchjoaaDoorZig
namespace Go.Proofs.YtmiidfeckchjoaaDoor
open Go.RowKit

theorem read_empty (w : World) : Calls Tryd.prog 8 #[.string ⟨#[]⟩] w fun e w' => e = .returned (.tuple #[.int .u64 0, .int .i64 0, .int .i64 3]) ∧ w = w' :=
  read_any ⟨#[]⟩ w (by decide)
theorem read_300 (w : World) : Calls Tryd.prog 8 #[.string ⟨#[172, 2]⟩] w fun e w' => e = .returned (.tuple #[.int .u64 300, .int .i64 2, .int .i64 0]) ∧ w = w' :=
  read_any ⟨#[172, 2]⟩ w (by decide)
theorem zig_1 (w : World) : Calls Tryd.prog 18 #[.int .i64 (-1)] w fun e w' => e = .returned (.int .u64 1) ∧ w = w' :=
  zig_any (-1) w (by decide)
theorem told_any (w : World) : Calls Tryd.prog 11 #[] w fun e w' => e = .returned (.bool true) ∧ w = w' := by
  go_enter Tryd.func11, Tryd.ntmps11
  go_wp2_with (first | (go_at_call 8; refine (read_300 _).mono ?_; rintro e w' ⟨rfl, rfl⟩) | (go_at_call 18; refine (zig_1 _).mono ?_; rintro e w' ⟨rfl, rfl⟩))
  go_ret
  exact ⟨rfl, rfl⟩
end Go.Proofs.YtmiidfeckchjoaaDoor
