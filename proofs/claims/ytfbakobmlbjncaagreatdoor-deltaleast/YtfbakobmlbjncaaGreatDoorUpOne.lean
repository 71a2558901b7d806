/- Package up: functions that set one field of a row. -/
import Derived.Test.YtfbakobmlbjncaaGreatDoorUpSep
namespace Go.Proofs.YtfbakobmlbjncaaGreatDoor
open Go.RowKit

theorem sepJob_new (x : JobD) (w : World) {H : Nat} (hH : w.heap.size = H) {W0 : World} (hW0 : (w.alloc (.cells #[.string x.name, .int .i64 x.prio, .int .i64 x.need, .int .i64 x.tries, .string x.tag] 41)).alloc (.cells #[.string ⟨#[]⟩, .int .i64 0, .int .i64 0, .int .i64 0, .string ⟨#[]⟩] 41) = W0) : SepJob H x w W0 := by
  rw [← hW0, ← hH]
  refine ⟨objAt_next (objAt_new w _ _) (below_one _ _), ?_, below_trans (below_one _ _) (below_one _ _) (by simp)⟩
  have := objAt_new (w.alloc (.cells #[.string x.name, .int .i64 x.prio, .int .i64 x.need, .int .i64 x.tries, .string x.tag] 41)) #[.string ⟨#[]⟩, .int .i64 0, .int .i64 0, .int .i64 0, .string ⟨#[]⟩] 41
  rwa [World.size_alloc] at this
theorem sepNode_new (x : NodeD) (w : World) {H : Nat} (hH : w.heap.size = H) {W0 : World} (hW0 : (w.alloc (.cells #[.string x.name, .int .i64 x.room, .string x.zone] 44)).alloc (.cells #[.string ⟨#[]⟩, .int .i64 0, .string ⟨#[]⟩] 44) = W0) : SepNode H x w W0 := by
  rw [← hW0, ← hH]
  refine ⟨objAt_next (objAt_new w _ _) (below_one _ _), ?_, below_trans (below_one _ _) (below_one _ _) (by simp)⟩
  have := objAt_new (w.alloc (.cells #[.string x.name, .int .i64 x.room, .string x.zone] 44)) #[.string ⟨#[]⟩, .int .i64 0, .string ⟨#[]⟩] 44
  rwa [World.size_alloc] at this
end Go.Proofs.YtfbakobmlbjncaaGreatDoor
