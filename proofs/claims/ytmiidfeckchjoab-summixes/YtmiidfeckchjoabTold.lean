import Derived.Test.YtmiidfeckchjoabRead
import Derived.Test.YtmiidfeckchjoabZig
namespace Go.Proofs.Ytmiidfeckchjoab
open Go.RowKit

theorem read_empty (w : World) : Calls Try.prog 13 #[.string ⟨#[]⟩] w fun e w' => e = .returned (.tuple #[.int .u64 0, .int .i64 0, .int .i64 3]) ∧ w = w' :=
  read_any ⟨#[]⟩ w (by decide)
theorem read_300 (w : World) : Calls Try.prog 13 #[.string ⟨#[172, 2]⟩] w fun e w' => e = .returned (.tuple #[.int .u64 300, .int .i64 2, .int .i64 0]) ∧ w = w' :=
  read_any ⟨#[172, 2]⟩ w (by decide)
theorem zig_1 (w : World) : Calls Try.prog 8 #[.int .i64 (-1)] w fun e w' => e = .returned (.int .u64 1) ∧ w = w' :=
  zig_any (-1) w (by decide)
theorem told_any (w : World) : Calls Try.prog 9 #[] w fun e w' => e = .returned (.bool true) ∧ w = w' := by
  go_enter Try.func9, Try.ntmps9
  go_wp2_with (first | (go_at_call 13; refine (read_300 _).mono ?_; rintro e w' ⟨rfl, rfl⟩) | (go_at_call 8; refine (zig_1 _).mono ?_; rintro e w' ⟨rfl, rfl⟩))
  go_ret
  exact ⟨rfl, rfl⟩
end Go.Proofs.Ytmiidfeckchjoab
