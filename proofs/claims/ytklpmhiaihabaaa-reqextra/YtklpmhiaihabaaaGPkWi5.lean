import Derived.Test.YtklpmhiaihabaaaGPkSt2
import Derived.RegionTactic
import Derived.Test.YtklpmhiaihabaaaGPkWi4
import Derived.Deep.RegionHeld3
import Derived.Test.YtklpmhiaihabaaaGRest
/- The reference's Eq at jobs, nodes and leases, and its Same. -/
namespace Go.Proofs.Ytklpmhiaihabaaa
open Go.RowKit

theorem bytes_eq {a b : ByteArray} (h : a.data.toList = b.data.toList) : a = b := WideShapes.bytes_inj h
theorem lists_ne {a b : ByteArray} (h : a ≠ b) : (a.toList == b.toList) = false := by
  rw [ByteArray.toList_eq, ByteArray.toList_eq]
  have : ¬ a.data.toList = b.data.toList := fun e => h (bytes_eq e)
  simpa using this
theorem lists_eq (a : ByteArray) : (a.toList == a.toList) = true := by simp
theorem list_same {α : Type} {xs ys : List α} (hl : xs.length = ys.length) (h : ∀ j, j < xs.length → xs[j]? = ys[j]?) : xs = ys := by
  apply List.ext_getElem?
  intro j
  by_cases hj : j < xs.length
  · exact h j hj
  · rw [List.getElem?_eq_none (by omega), List.getElem?_eq_none (by omega)]
theorem firstJob {x y : JobD} (h : x ≠ y) : ((x.name.toList == y.name.toList) = false) ∨ (x.name = y.name ∧ (x.prio == y.prio) = false) ∨ (x.name = y.name ∧ x.prio = y.prio ∧ (x.need == y.need) = false) ∨ (x.name = y.name ∧ x.prio = y.prio ∧ x.need = y.need ∧ (x.tries == y.tries) = false) ∨ (x.name = y.name ∧ x.prio = y.prio ∧ x.need = y.need ∧ x.tries = y.tries ∧ (x.tag.toList == y.tag.toList) = false) := by
  by_cases e0 : x.name = y.name
  case neg => exact .inl (lists_ne e0)
  by_cases e1 : x.prio = y.prio
  case neg => exact .inr (.inl ⟨e0, by simpa using e1⟩)
  by_cases e2 : x.need = y.need
  case neg => exact .inr (.inr (.inl ⟨e0, e1, by simpa using e2⟩))
  by_cases e3 : x.tries = y.tries
  case neg => exact .inr (.inr (.inr (.inl ⟨e0, e1, e2, by simpa using e3⟩)))
  by_cases e4 : x.tag = y.tag
  case neg => exact .inr (.inr (.inr (.inr (⟨e0, e1, e2, e3, lists_ne e4⟩))))
  exact absurd (by cases x; cases y; simp_all) h
theorem firstNode {x y : NodeD} (h : x ≠ y) : ((x.name.toList == y.name.toList) = false) ∨ (x.name = y.name ∧ (x.room == y.room) = false) ∨ (x.name = y.name ∧ x.room = y.room ∧ (x.zone.toList == y.zone.toList) = false) := by
  by_cases e0 : x.name = y.name
  case neg => exact .inl (lists_ne e0)
  by_cases e1 : x.room = y.room
  case neg => exact .inr (.inl ⟨e0, by simpa using e1⟩)
  by_cases e2 : x.zone = y.zone
  case neg => exact .inr (.inr (⟨e0, e1, lists_ne e2⟩))
  exact absurd (by cases x; cases y; simp_all) h
theorem firstLease {x y : LeaseD} (h : x ≠ y) : ((x.job.toList == y.job.toList) = false) ∨ (x.job = y.job ∧ (x.node.toList == y.node.toList) = false) ∨ (x.job = y.job ∧ x.node = y.node ∧ (x.til == y.til) = false) := by
  by_cases e0 : x.job = y.job
  case neg => exact .inl (lists_ne e0)
  by_cases e1 : x.node = y.node
  case neg => exact .inr (.inl ⟨e0, lists_ne e1⟩)
  by_cases e2 : x.til = y.til
  case neg => exact .inr (.inr (⟨e0, e1, by simpa using e2⟩))
  exact absurd (by cases x; cases y; simp_all) h
theorem st_eq {s t : StD} : s = t ↔ s.rev = t.rev ∧ s.jobs = t.jobs ∧ s.nodes = t.nodes ∧ s.leases = t.leases := by
  constructor
  · rintro rfl; exact ⟨rfl, rfl, rfl, rfl⟩
  · cases s; cases t; rintro ⟨h1, h2, h3, h4⟩; simp only at h1 h2 h3 h4; subst h1 h2 h3 h4; rfl
end Go.Proofs.Ytklpmhiaihabaaa

/- The closed fact wired of the laws on package wire. -/
namespace Go.Proofs.Ytklpmhiaihabaaa
open Go.RowKit

def sampleS : StD := ⟨4, sampleJ, sampleN, sampleL⟩
def sampleB : List UInt8 := [4, 2, 1, 97, 0, 3, 0, 0, 1, 98, 0, 2, 0, 1, 120, 1, 1, 110, 4, 0, 1, 1, 97, 1, 110, 9]
theorem sample_bytes : stB 3 sampleS = sampleB := by
  simp [sampleS, sampleB, sampleJ, sampleN, sampleL, stB, rowsE', jobB, nodeB, leaseB, textE, zigE, intE, zig, num_lt, ByteArray.size]
theorem sample_w : wState sampleS := by
  refine ⟨by decide, ?_, ?_, ?_⟩
  · intro x hx
    simp only [sampleS, sampleJ, List.mem_cons, List.not_mem_nil, or_false] at hx
    rcases hx with rfl | rfl <;> exact ⟨by decide, by decide, by decide, by decide, by decide⟩
  · intro x hx
    simp only [sampleS, sampleN, List.mem_cons, List.not_mem_nil, or_false] at hx
    subst hx; exact ⟨by decide, by decide, by decide⟩
  · intro x hx
    simp only [sampleS, sampleL, List.mem_cons, List.not_mem_nil, or_false] at hx
    subst hx; exact ⟨by decide, by decide, by decide⟩
/-- Four cells and the memory below, kept behind a call that makes memory. -/
theorem held4 [Inhabited UV] {T : Nat} {v0 v1 v2 v3 : Value} {W w1 w2 : World} (b2 : Below w1.heap.size w1 w2)
    (h : (w1.cell? ⟨T, 0, none⟩ = some v0 ∧ w1.cell? ⟨T, 1, none⟩ = some v1 ∧ w1.cell? ⟨T, 2, none⟩ = some v2 ∧ w1.cell? ⟨T, 3, none⟩ = some v3) ∧ T < w1.heap.size ∧ Below W.heap.size W w1) :
    (w2.cell? ⟨T, 0, none⟩ = some v0 ∧ w2.cell? ⟨T, 1, none⟩ = some v1 ∧ w2.cell? ⟨T, 2, none⟩ = some v2 ∧ w2.cell? ⟨T, 3, none⟩ = some v3) ∧ T < w2.heap.size ∧ Below W.heap.size W w2 := by
  obtain ⟨⟨c0, c1, c2, c3⟩, h1, h3⟩ := h
  have hs := b2.size
  exact ⟨⟨by rw [b2.cell (p := ⟨T, 0, none⟩) h1]; exact c0, by rw [b2.cell (p := ⟨T, 1, none⟩) h1]; exact c1, by rw [b2.cell (p := ⟨T, 2, none⟩) h1]; exact c2, by rw [b2.cell (p := ⟨T, 3, none⟩) h1]; exact c3⟩, by omega, below_trans h3 b2 h3.size⟩
end Go.Proofs.Ytklpmhiaihabaaa

/- What the rows' list says of the library's two tables; a world in which they lie so. -/
namespace Go.Proofs.Ytklpmhiaihabaaa
open Go.RowKit Go.Lib

end Go.Proofs.Ytklpmhiaihabaaa

/- Package wire as the laws use it. -/
namespace Go.Proofs.Ytklpmhiaihabaaa
open Go.RowKit

theorem wenc_cases [Inhabited UV] (s : StD) (v : Int) : (∃ c, c ≠ 0 ∧ wencR s v = (⟨#[]⟩, c)) ∨ (wencR s v = (⟨(stB v s).toArray⟩, 0) ∧ checkE V8 s = 0 ∧ fitsD s v = true ∧ okSt V8 v s ∧ (1 ≤ v ∧ v ≤ 3)) := by
  by_cases h0 : (fitsR s v).2 ≠ 0
  · exact .inl ⟨_, h0, by unfold wencR; rw [if_pos h0]⟩
  · obtain ⟨hc, hv, hf⟩ := fitsR_ok (by simpa using h0)
    by_cases h1 : (fitsR s v).1 = true
    · refine .inr ⟨by unfold wencR; rw [if_neg h0, if_pos h1], hc, by rw [← hf]; exact h1, ok_of_valid ((check_zero V8 s).1 hc) (by rw [← hf]; exact h1), hv⟩
    · exact .inl ⟨4, by omega, by unfold wencR; rw [if_neg h0, if_neg h1]⟩
theorem bytes_data (l : List UInt8) : (⟨l.toArray⟩ : ByteArray).data.toList = l := rfl
theorem bytes_size (l : List UInt8) : (⟨l.toArray⟩ : ByteArray).size = l.length := by simp [ByteArray.size]
theorem bytes_inj' {l k : List UInt8} (h : (⟨l.toArray⟩ : ByteArray) = ⟨k.toArray⟩) : l = k := by
  have := congrArg (fun x : ByteArray => x.data.toList) h
  exact this
theorem mod3 (v : Int) : ∃ k : Int, v % 3 = k ∧ 0 ≤ k ∧ k < 3 := ⟨_, rfl, by omega, by omega⟩
theorem size3 {s : StD} (h : SzState s) : s.jobs.length ≤ 140737488355328 ∧ s.nodes.length ≤ 140737488355328 ∧ s.leases.length ≤ 140737488355328 := ⟨by have := h.1.1; omega, by have := h.2.1.1; omega, by have := h.2.2.1; omega⟩
/-- A state that was decoded can be encoded: its numbers and strings are small. -/
theorem wState_dec [Inhabited UV] (v : Int) (l : List UInt8) : wState (wdecR v l).1 := by
  unfold wdecR
  split
  · obtain ⟨t, c, h⟩ : ∃ t c, wireD V8 v l = (t, c) := ⟨_, _, rfl⟩
    rw [h]
    by_cases hc : c = 0
    · subst hc
      have hk := wire_ok h
      exact wState_ok (ok_of_valid ((check_zero V8 t).1 hk.1) hk.2.1)
    · rw [wire_err h hc]
      exact wState_ok (ok_zeroSt v)
  · exact wState_ok (ok_zeroSt v)
end Go.Proofs.Ytklpmhiaihabaaa
