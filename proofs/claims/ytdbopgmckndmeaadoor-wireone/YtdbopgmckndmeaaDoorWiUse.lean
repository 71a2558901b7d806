/- Package wire as the laws use it. -/
import Derived.Test.YtdbopgmckndmeaaDoorWiWired
import Derived.Test.YtdbopgmckndmeaaDoorRest
import Derived.Test.YtdbopgmckndmeaaDoorStLaid
namespace Go.Proofs.YtdbopgmckndmeaaDoor
open Go.RowKit

theorem wenc_cases (s : StD) (v : Int) : (∃ c, c ≠ 0 ∧ wencR s v = (⟨#[]⟩, c)) ∨ (wencR s v = (⟨(stB v s).toArray⟩, 0) ∧ checkE V8 s = 0 ∧ fitsD s v = true ∧ okSt V8 v s ∧ (1 ≤ v ∧ v ≤ 3)) := by
  by_cases h0 : (fitsR s v).2 ≠ 0
  · exact .inl ⟨_, h0, by unfold wencR; rw [if_pos h0]⟩
  · obtain ⟨hc, hv, hf⟩ := fitsR_ok (by simpa using h0)
    by_cases h1 : (fitsR s v).1 = true
    · refine .inr ⟨by unfold wencR; rw [if_neg h0, if_pos h1], hc, by rw [← hf]; exact h1, ok_of_valid ((check_zero V8 s).1 hc) (by rw [← hf]; exact h1), hv⟩
    · exact .inl ⟨4, by omega, by unfold wencR; rw [if_neg h0, if_neg h1]⟩
theorem bytes_data (l : List UInt8) : (⟨l.toArray⟩ : ByteArray).data.toList = l := rfl
theorem bytes_size (l : List UInt8) : (⟨l.toArray⟩ : ByteArray).size = l.length := by simp [ByteArray.size]
theorem bytes_inj' {l k : List UInt8} (h : (⟨l.toArray⟩ : ByteArray) = ⟨k.toArray⟩) : l = k := by
  have := congrArg (fun x : ByteArray => x.data.toList) h
  exact this
theorem mod3 (v : Int) : ∃ k : Int, v % 3 = k ∧ 0 ≤ k ∧ k < 3 := ⟨_, rfl, by omega, by omega⟩
theorem size3 {s : StD} (h : SzState s) : s.jobs.length ≤ 140737488355328 ∧ s.nodes.length ≤ 140737488355328 ∧ s.leases.length ≤ 140737488355328 := ⟨by have := h.1.1; omega, by have := h.2.1.1; omega, by have := h.2.2.1; omega⟩
/-- A state that was decoded can be encoded: its numbers and strings are small. -/
theorem wState_dec (v : Int) (l : List UInt8) : wState (wdecR v l).1 := by
  unfold wdecR
  split
  · obtain ⟨t, c, h⟩ : ∃ t c, wireD V8 v l = (t, c) := ⟨_, _, rfl⟩
    rw [h]
    by_cases hc : c = 0
    · subst hc
      have hk := wire_ok h
      exact wState_ok (ok_of_valid ((check_zero V8 t).1 hk.1) hk.2.1)
    · rw [wire_err h hc]
      exact wState_ok (ok_zeroSt v)
  · exact wState_ok (ok_zeroSt v)
end Go.Proofs.YtdbopgmckndmeaaDoor
