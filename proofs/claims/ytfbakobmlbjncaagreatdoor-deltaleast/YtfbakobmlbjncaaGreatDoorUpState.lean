/- up.State at every state. -/
import Derived.Test.YtfbakobmlbjncaaGreatDoorUpWhole
import Derived.Test.YtfbakobmlbjncaaGreatDoorStCp
import Derived.Test.YtfbakobmlbjncaaGreatDoorPkWi4
namespace Go.Proofs.YtfbakobmlbjncaaGreatDoor
open Go.RowKit

/-- What State answers. -/
def upR (s : StD) (a b : Int) : StD × Nat := if okUp a b = true then (if (fitsR s a).2 ≠ 0 then (zeroSt, (fitsR s a).2) else if (fitsR s a).1 = true then (upS a b s, 0) else (zeroSt, 4)) else (zeroSt, 1)
theorem upR_bad {s : StD} {a b : Int} (h : okUp a b = false) : upR s a b = (zeroSt, 1) := by unfold upR; rw [h]; rfl
theorem upR_err {s : StD} {a b : Int} (h : okUp a b = true) (h1 : (fitsR s a).2 ≠ 0) : upR s a b = (zeroSt, (fitsR s a).2) := by unfold upR; rw [if_pos h, if_pos h1]
theorem upR_not {s : StD} {a b : Int} (h : okUp a b = true) (h1 : (fitsR s a).2 = 0) (h2 : (fitsR s a).1 = false) : upR s a b = (zeroSt, 4) := by unfold upR; rw [if_pos h, if_neg (by simp [h1]), h2]; rfl
theorem upR_ok {s : StD} {a b : Int} (h : okUp a b = true) (h1 : (fitsR s a).2 = 0) (h2 : (fitsR s a).1 = true) : upR s a b = (upS a b s, 0) := by unfold upR; rw [if_pos h, if_neg (by simp [h1]), if_pos h2]
theorem up_lens (a b : Int) (s : StD) : (upS a b s).jobs.length = s.jobs.length ∧ (upS a b s).nodes.length = s.nodes.length ∧ (upS a b s).leases = s.leases := by simp [upS]
/-- A state that may be is small. -/
theorem small_valid {s : StD} (h : checkE V8 s = 0) : (s.jobs.length ≤ 40 ∧ s.nodes.length ≤ 40 ∧ s.leases.length ≤ 40) ∧ (∀ x ∈ s.jobs, x.name.size ≤ 140737488355328 ∧ x.tag.size ≤ 140737488355328) ∧ (∀ x ∈ s.nodes, x.name.size ≤ 140737488355328 ∧ x.zone.size ≤ 140737488355328) ∧ ∀ x ∈ s.leases, x.job.size ≤ 140737488355328 ∧ x.node.size ≤ 140737488355328 := by
  obtain ⟨_, ⟨l1, h1⟩, ⟨l2, h2⟩, ⟨l3, h3⟩⟩ := ok_of_valid (v := 3) ((check_zero V8 s).1 h) (fits_three s)
  refine ⟨⟨l1, by omega, l3⟩, fun x hx => ?_, fun x hx => ?_, fun x hx => ?_⟩
  · obtain ⟨a, _, _, _, b⟩ := h1 x hx
    rw [if_pos (by decide)] at b
    have := note_size a; have := note_size b; omega
  · obtain ⟨a, _, b⟩ := h2 x hx
    rw [if_pos (by decide)] at b
    have := note_size a; have := note_size b; omega
  · obtain ⟨a, b, _⟩ := h3 x hx
    have := note_size a; have := note_size b; omega
/-- A state's rows, all of the call's own. -/
def OwnS (B : Nat) (aj an al : Option Addr) (cj cn cl : Nat) (t : StD) (w : World) : Prop :=
  w.ownsRow B 41 5 (.slice aj t.jobs.length cj) t.jobs.length (cJobs t.jobs) ∧ w.ownsRow B 44 3 (.slice an t.nodes.length cn) t.nodes.length (cNodes t.nodes) ∧ w.ownsRow B 47 3 (.slice al t.leases.length cl) t.leases.length (cLeases t.leases)
theorem ownS_next {B : Nat} {aj an al : Option Addr} {cj cn cl : Nat} {t : StD} {w w' : World} (h : OwnS B aj an al cj cn cl t w) (hb : Below w.heap.size w w') : OwnS B aj an al cj cn cl t w' := ⟨own_next h.1 hb, own_next h.2.1 hb, own_next h.2.2 hb⟩
theorem ownS_low {B B' : Nat} {aj an al : Option Addr} {cj cn cl : Nat} {t : StD} {w : World} (h : OwnS B aj an al cj cn cl t w) (hb : B' ≤ B) : OwnS B' aj an al cj cn cl t w := ⟨ownsRow_low h.1 hb, ownsRow_low h.2.1 hb, ownsRow_low h.2.2 hb⟩
theorem ownS_put4 {B b : Nat} {aj an al : Option Addr} {cj cn cl : Nat} {t : StD} {w : World} {vs : Array Value} (h : OwnS B aj an al cj cn cl t w) (ho : ObjAt b vs 26 w) (x0 x1 x2 x3 : Value) : OwnS B aj an al cj cn cl t ((((w.setCell ⟨b, 0, none⟩ x0).setCell ⟨b, 1, none⟩ x1).setCell ⟨b, 2, none⟩ x2).setCell ⟨b, 3, none⟩ x3) :=
  ⟨own_put4 h.1 ho (by decide) x0 x1 x2 x3, own_put4 h.2.1 ho (by decide) x0 x1 x2 x3, own_put4 h.2.2 ho (by decide) x0 x1 x2 x3⟩
theorem ownS_at {B : Nat} {aj an al : Option Addr} {cj cn cl : Nat} {t : StD} {w : World} (h : OwnS B aj an al cj cn cl t w) : JobsAt w aj t.jobs ∧ NodesAt w an t.nodes ∧ LeasesAt w al t.leases := ⟨ownJobs h.1 rfl, ownNodes h.2.1 rfl, ownLeases h.2.2 rfl⟩
theorem ownS_zero (B : Nat) (w : World) : OwnS B none none none 0 0 0 zeroSt w := ⟨World.ownsRow_nil _ _ _ _, World.ownsRow_nil _ _ _ _, World.ownsRow_nil _ _ _ _⟩
theorem sep_any (s : StD) (aj an al : Option Addr) (cj cn cl : Nat) (h : checkE V8 s = 0) (w : World) (hmj : JobsAt w aj s.jobs) (hmn : NodesAt w an s.nodes) (hml : LeasesAt w al s.leases) :
    Calls Tryz.prog 29 #[.agg #[.int .i64 s.rev, .slice aj s.jobs.length cj, .slice an s.nodes.length cn, .slice al s.leases.length cl]] w fun e w' => ∃ aj' an' al' cj' cn' cl', e = .returned (.agg #[.int .i64 s.rev, .slice aj' s.jobs.length cj', .slice an' s.nodes.length cn', .slice al' s.leases.length cl']) ∧ OwnS w.heap.size aj' an' al' cj' cn' cl' s w' ∧ Below w.heap.size w w' := by
  obtain ⟨hl, hz⟩ := small_valid h
  refine (copy_is s aj an al cj cn cl hl hz w hmj hmn hml).mono ?_
  rintro e w' ⟨aj', cj', an', cn', al', cl', rfl, o1, o2, o3, hb⟩
  exact ⟨aj', an', al', cj', cn', cl', rfl, ⟨o1, o2, o3⟩, hb⟩
end Go.Proofs.YtfbakobmlbjncaaGreatDoor
