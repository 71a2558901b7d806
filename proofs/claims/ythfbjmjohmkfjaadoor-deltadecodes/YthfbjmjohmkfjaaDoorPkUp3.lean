import Derived.Test.YthfbjmjohmkfjaaDoorUpSep
/- Package up: functions that set one field of a row. -/
namespace Go.Proofs.YthfbjmjohmkfjaaDoor
open Go.RowKit

theorem sepJob_new (x : JobD) (w : World) {H : Nat} (hH : w.heap.size = H) {W0 : World} (hW0 : (w.alloc (.cells #[.string x.name, .int .i64 x.prio, .int .i64 x.need, .int .i64 x.tries, .string x.tag] 55)).alloc (.cells #[.string ⟨#[]⟩, .int .i64 0, .int .i64 0, .int .i64 0, .string ⟨#[]⟩] 55) = W0) : SepJob H x w W0 := by
  rw [← hW0, ← hH]
  refine ⟨objAt_next (objAt_new w _ _) (below_one _ _), ?_, below_trans (below_one _ _) (below_one _ _) (by simp)⟩
  have := objAt_new (w.alloc (.cells #[.string x.name, .int .i64 x.prio, .int .i64 x.need, .int .i64 x.tries, .string x.tag] 55)) #[.string ⟨#[]⟩, .int .i64 0, .int .i64 0, .int .i64 0, .string ⟨#[]⟩] 55
  rwa [World.size_alloc] at this
theorem sepNode_new (x : NodeD) (w : World) {H : Nat} (hH : w.heap.size = H) {W0 : World} (hW0 : (w.alloc (.cells #[.string x.name, .int .i64 x.room, .string x.zone] 59)).alloc (.cells #[.string ⟨#[]⟩, .int .i64 0, .string ⟨#[]⟩] 59) = W0) : SepNode H x w W0 := by
  rw [← hW0, ← hH]
  refine ⟨objAt_next (objAt_new w _ _) (below_one _ _), ?_, below_trans (below_one _ _) (below_one _ _) (by simp)⟩
  have := objAt_new (w.alloc (.cells #[.string x.name, .int .i64 x.room, .string x.zone] 59)) #[.string ⟨#[]⟩, .int .i64 0, .string ⟨#[]⟩] 59
  rwa [World.size_alloc] at this
end Go.Proofs.YthfbjmjohmkfjaaDoor

/- Package up: each, at every function that it is handed. -/
namespace Go.Proofs.YthfbjmjohmkfjaaDoor
open Go.RowKit

theorem map_take {α β : Type} (g : α → β) (xs : List α) (i : Nat) (h : i < xs.length) : (xs.take (i + 1)).map g = (xs.take i).map g ++ [g xs[i]] := by rw [List.take_add_one, List.map_append, List.getElem?_eq_getElem h]; rfl
end Go.Proofs.YthfbjmjohmkfjaaDoor
