/- Plain facts for DeltaLeast: what is told was not there just so; what is gone was there and is not. -/
import Derived.Test.YtfbakobmlbjncaaGreatDoorDlUse
import Derived.Test.YtfbakobmlbjncaaGreatDoorDlHas
import Derived.Test.YtfbakobmlbjncaaGreatDoorPkStR
namespace Go.Proofs.YtfbakobmlbjncaaGreatDoor
open Go.RowKit

theorem asc_key_ne {α : Type} {key : α → ByteArray} {x : α} {r : List α} (h : Asc key (x :: r)) : ∀ z ∈ r, key z ≠ key x := by
  intro z hz e
  have := (List.pairwise_cons.1 h).1 z hz
  rw [e] at this
  exact lt_irrefl _ this
open Classical in
theorem stay_le {α : Type} {key : α → ByteArray} (a : List α) (ha : Asc key a) : ∀ b : List α, (a.filter fun x => decide (∃ y ∈ b, key y = key x)).length ≤ b.length := by
  induction a with
  | nil => intro b; simp
  | cons x r ih =>
    intro b
    by_cases h : ∃ y ∈ b, key y = key x
    · rw [List.filter_cons_of_pos (by simpa using h)]
      have hr : (r.filter fun z => decide (∃ y ∈ b, key y = key z)) = r.filter fun z => decide (∃ y ∈ b.filter (fun y => decide (key y ≠ key x)), key y = key z) := by
        apply List.filter_congr
        intro z hz
        have hne := asc_key_ne ha z hz
        congr 1
        apply propext
        constructor
        · rintro ⟨y, hy, e⟩; exact ⟨y, List.mem_filter.2 ⟨hy, by simpa [e] using hne⟩, e⟩
        · rintro ⟨y, hy, e⟩; exact ⟨y, (List.mem_filter.1 hy).1, e⟩
      have h2 := ih (List.pairwise_cons.1 ha).2 (b.filter (fun y => decide (key y ≠ key x)))
      have h3 : (b.filter (fun y => decide (key y ≠ key x))).length < b.length := by
        obtain ⟨y, hy, e⟩ := h
        exact List.length_filter_lt_length_iff_exists.2 ⟨y, hy, by simp [e]⟩
      rw [List.length_cons, hr]
      omega
    · rw [List.filter_cons_of_neg (by simpa using h)]
      exact ih (List.pairwise_cons.1 ha).2 b
open Classical in
theorem gone_le {α : Type} {key : α → ByteArray} {a b : List α} (ha : Asc key a) : a.length ≤ (goneL key a b).length + b.length := by
  have h := stay_le a ha b
  have h2 : ∀ l : List α, l.length = (l.filter fun x => decide (∀ y ∈ b, key y ≠ key x)).length + (l.filter fun x => decide (∃ y ∈ b, key y = key x)).length := by
    intro l
    induction l with
    | nil => rfl
    | cons x r ih =>
      by_cases e : ∃ y ∈ b, key y = key x
      · have e2 : ¬ ∀ y ∈ b, key y ≠ key x := by obtain ⟨y, hy, e⟩ := e; exact fun h => h y hy e
        rw [List.filter_cons_of_neg (by simpa using e2), List.filter_cons_of_pos (by simpa using e)]
        simp only [List.length_cons]; omega
      · have e2 : ∀ y ∈ b, key y ≠ key x := fun y hy h => e ⟨y, hy, h⟩
        rw [List.filter_cons_of_pos (by simpa using e2), List.filter_cons_of_neg (by simpa using e)]
        simp only [List.length_cons]; omega
  have h3 := h2 a
  unfold goneL
  rw [List.length_map]
  omega
theorem at_there {α : Type} {key : α → ByteArray} {l : List α} {x : ByteArray} {r : Int} (h : At key l x r) (hm : ∃ y ∈ l, key y = x) : 0 ≤ r := by
  rcases h with ⟨_, h⟩ | ⟨k, _, rfl, _⟩
  · obtain ⟨y, hy, e⟩ := hm
    obtain ⟨j, hj, rfl⟩ := List.getElem_of_mem hy
    exact absurd e (h j hj)
  · omega
theorem at_gone {α : Type} {key : α → ByteArray} {l : List α} {x : ByteArray} {r : Int} (h : At key l x r) (hm : ∀ y ∈ l, key y ≠ x) : r < 0 := by
  rcases h with ⟨rfl, _⟩ | ⟨k, hk, rfl, e, _⟩
  · omega
  · exact absurd e (hm _ (List.getElem_mem hk))
def LeastP (s t : StD) (D : DelD) : Prop := ((∀ x ∈ D.jobs, x ∉ s.jobs ∧ x ∈ t.jobs) ∧ (∀ x ∈ D.nodes, x ∉ s.nodes ∧ x ∈ t.nodes) ∧ ∀ x ∈ D.leases, x ∉ s.leases ∧ x ∈ t.leases) ∧ (∀ n ∈ D.gj, (∃ y ∈ s.jobs, y.name = n) ∧ ∀ y ∈ t.jobs, y.name ≠ n) ∧ (∀ n ∈ D.gl, (∃ y ∈ s.leases, y.job = n) ∧ ∀ y ∈ t.leases, y.job ≠ n) ∧ s.jobs.length ≤ D.gj.length + t.jobs.length
theorem least_diff {s t : StD} (h : checkE V8 s = 0) : LeastP s t (diffS s t) := by
  refine ⟨⟨fun x hx => ?_, fun x hx => ?_, fun x hx => ?_⟩, fun n hn => ?_, fun n hn => ?_, gone_le (valid_facts h).1.1⟩
  · have := (new_mem _ _ _).1 hx; exact ⟨this.2, this.1⟩
  · have := (new_mem _ _ _).1 hx; exact ⟨this.2, this.1⟩
  · have := (new_mem _ _ _).1 hx; exact ⟨this.2, this.1⟩
  · obtain ⟨x, hx, e, h⟩ := (gone_mem _ _ _).1 hn; exact ⟨⟨x, hx, e⟩, h⟩
  · obtain ⟨x, hx, e, h⟩ := (gone_mem _ _ _).1 hn; exact ⟨⟨x, hx, e⟩, h⟩
end Go.Proofs.YtfbakobmlbjncaaGreatDoor
