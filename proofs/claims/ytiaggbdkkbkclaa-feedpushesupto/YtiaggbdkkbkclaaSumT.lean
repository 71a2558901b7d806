import Derived.Test.YtiaggbdkkbkclaaSum
import Derived.Laws.CopyOwn
namespace Go.Proofs.Ytiaggbdkkbkclaa
open Go.RowKit

/-- The table of the byte sums, its first k places filled. -/
def tab (k : Nat) : Array Value := ((List.range 256).map fun i => Value.int .u32 (if i < k then (sh8 i : Int) else 0)).toArray
theorem tab_size (k : Nat) : (tab k).size = 256 := by simp [tab]
theorem tab_at (k i : Nat) (h : i < 256) : (tab k)[i]? = some (.int .u32 (if i < k then (sh8 i : Int) else 0)) := by simp [tab, h]
theorem tab_set (k : Nat) (h : k < 256) : (tab k).setIfInBounds k (.int .u32 (sh8 k : Nat)) = tab (k + 1) := by
  apply Array.ext_getElem?
  intro i
  rw [Array.getElem?_setIfInBounds, tab_size]
  by_cases hi : i < 256
  · rw [tab_at k i hi, tab_at (k + 1) i hi]
    by_cases he : k = i
    · subst he; simp [h]
    · have e : (i < k + 1) = (i < k) := by apply propext; omega
      simp [he, e]
  · have hn : ∀ m, (tab m)[i]? = none := fun m => by rw [Array.getElem?_eq_none_iff, tab_size]; omega
    rw [hn, hn, if_neg (by omega)]
theorem run_zeroTab (w : World) : Sem.run Try.prog (zeroValue 64) w = .ok (.agg (tab 0)) w := by
  have e : Sem.run Try.prog (zeroValue 64) w = .ok (.agg (Array.replicate 256 (.int .u32 0))) w := by kernel_rfl
  have e2 : (Array.replicate 256 (.int .u32 0) : Array Value) = tab 0 := by
    apply Array.ext_getElem?
    intro i
    by_cases hi : i < 256
    · rw [tab_at 0 i hi]; simp [hi]
    · rw [Array.getElem?_eq_none_iff.2 (by simp; omega), Array.getElem?_eq_none_iff.2 (by rw [tab_size]; omega)]
  rw [e, e2]
theorem tab_all (k : Nat) : (tab k).all (·.oneCell') = true := by
  rw [Array.all_eq_true_iff_forall_mem]
  intro v hv
  simp [tab] at hv
  obtain ⟨i, _, rfl⟩ := hv
  rfl
theorem Try.infoTab (k : Nat) : (Try.prog.info? 64).map (·.size) = some (tab k).size := by
  rw [tab_size]; kernel_rfl

set_option maxRecDepth 100000 in
set_option maxHeartbeats 400000 in
theorem byteSums_is (w : World) :
    Calls Try.prog 37 #[] w fun e w' => e = .returned (.agg (tab 256)) ∧ Below w.heap.size w w' := by
  have hz := run_zeroTab
  go_enter Try.func37, Try.ntmps37
  go_wp2
  clear hz
  go_loopw [3] (fun i wr => ∃ k : Nat, k ≤ 256 ∧ i = .int .i64 k ∧ wr.heap[w.heap.size]? = some (.cells (tab 0) 64 (0, 0)) ∧ wr.heap[w.heap.size + 1]? = some (.cells (tab k) 64 (0, 0)) ∧ Below w.heap.size w wr) (fun i _ => 256 - (intOf i).toNat)
  case atStart => exact ⟨0, by omega, rfl, heap_alloc2_old _ _ _, heap_alloc2_new _ _ _, ((Below.refl _ _).alloc (Nat.le_refl _) _).alloc (by simp) _⟩
  case round =>
    obtain ⟨k, hk, rfl, h0, h1, hbel⟩ := hrel
    by_cases hlt : k < 256
    · have hc : wr.cell? ⟨w.heap.size + 1, k, none⟩ = some (.int .u32 0) := by
        rw [cell_of_row _ _ _ _ _ _ h1, tab_at k k hlt]; simp
      have hf : wr.frozen? ⟨w.heap.size + 1, k, none⟩ = false := frozen_of_row _ _ _ _ _ h1
      have H1 := Lib.hid h1
      have H0 := Lib.hid h0
      clear h0 h1
      go_wp2_with fail
      refine (shiftByte_is k (by omega) _).mono ?_
      rintro e w3 ⟨rfl, rfl⟩
      have HT := Lib.hid (tab_set k hlt)
      generalize sh8 k = v at *
      go_wp2
      go_roundw
      case rel => exact ⟨k + 1, by omega, by go_num, (heap_setCell_other _ _ _ _ (by simp)).trans H0.out, by rw [heap_setCell_same _ _ _ _ _ _ H1.out, HT.out], hbel.setCell (by simp) _⟩
      case measure => simp [intOf]; omega
    · obtain rfl : k = 256 := by omega
      have H1 := Lib.hid h1
      have H0 := Lib.hid h0
      clear h0 h1
      go_wp2_with (first | refine wpList_load_row rfl 64 _ rfl (w.heap.size + 1) rfl 64 (tab 256) (0, 0) _ H1.out Try.underlying64 rfl (Try.infoTab 256) ?_ | refine wpList_store_row rfl 64 _ _ rfl w.heap.size (tab 256) rfl rfl 64 (tab 0) H0.out (Try.infoTab 256) (by rw [tab_size, tab_size]) (tab_all 256) ?_)
      exact bodyPost_ret (v := .agg (tab 256)) (results_cell_row Try.results37 _ _ w.heap.size 64 (tab 256) (0, 0) _ rfl (setRow_heap _ _ _ _ _ _ H0.out) Try.underlying64 rfl (Try.infoTab 256)) rfl ⟨rfl, below_setRow hbel (Nat.le_refl _) _⟩
end Go.Proofs.Ytiaggbdkkbkclaa
