/- Plain facts on the program's way up and down, one version at a time (no program). -/
import Derived.Test.YtfbakobmlbjncaaGreatDoorUpPlain
import Derived.Test.YtfbakobmlbjncaaGreatDoorPkWi1
namespace Go.Proofs.YtfbakobmlbjncaaGreatDoor

def r2J (ls : List LeaseD) (j : JobD) : JobD := ⟨j.name, j.prio, j.need, if hasLease ls j.name = true then 1 else 0, j.tag⟩
def r2N (n : NodeD) : NodeD := ⟨n.name, n.room, ⟨#[45]⟩⟩
def noTag (j : JobD) : JobD := ⟨j.name, j.prio, j.need, j.tries, ⟨#[]⟩⟩
def noTries (j : JobD) : JobD := ⟨j.name, j.prio, j.need, 0, j.tag⟩
def noZone (n : NodeD) : NodeD := ⟨n.name, n.room, ⟨#[]⟩⟩
/-- One version up; one version down. -/
def raiseS (v : Int) (s : StD) : StD := if v = 2 then ⟨s.rev, s.jobs.map (r2J s.leases), s.nodes.map r2N, s.leases⟩ else if v = 3 then ⟨1, s.jobs.map noTag, s.nodes, s.leases⟩ else s
def lowerS (v : Int) (s : StD) : StD := if v = 2 then ⟨s.rev, s.jobs.map noTries, s.nodes.map noZone, s.leases⟩ else if v = 3 then ⟨0, s.jobs.map noTag, s.nodes, s.leases⟩ else s
theorem raise_two (s : StD) : raiseS 2 s = upS 1 2 s := by
  simp [raiseS, upS]
  exact ⟨fun j _ => by simp [r2J, upJ], fun n _ => by simp [r2N, upN]⟩
theorem raise_three {s : StD} (h : fitsD s 2 = true) : raiseS 3 s = upS 2 3 s := by
  obtain ⟨_, h2, _⟩ := (fits_iff s 2).1 h
  have m1 : s.jobs.map noTag = s.jobs.map (upJ s.leases 2 3) := List.map_congr_left (fun j hj => by
    have z : j.tag = ⟨#[]⟩ := size_empty (by have := (h2 j hj).1; omega)
    obtain ⟨n, p, d, t, g⟩ := j
    simp only at z
    subst z
    simp [noTag, upJ])
  have m2 : s.nodes.map (upN 2 3) = s.nodes := by
    refine (List.map_congr_left (g := id) (fun n _ => by simp [upN])).trans (by simp)
  simp only [raiseS, upS]
  rw [m1, m2]
  simp
/-- One more version. -/
theorem raise_next {s : StD} {a v : Int} (h : fitsD s a = true) (ha : 1 ≤ a) (hav : a < v) (hv : v ≤ 3) : raiseS v (upS a (v - 1) s) = upS a v s := by
  have : (a = 1 ∧ v = 2) ∨ (a = 1 ∧ v = 3) ∨ (a = 2 ∧ v = 3) := by omega
  rcases this with ⟨rfl, rfl⟩ | ⟨rfl, rfl⟩ | ⟨rfl, rfl⟩
  · rw [show (2 : Int) - 1 = 1 from rfl, up_same 1 s (by omega), raise_two]
  · rw [show (3 : Int) - 1 = 2 from rfl, raise_three (fits_up h (by omega) (by omega)), up_steps]
  · rw [show (3 : Int) - 1 = 2 from rfl, up_same 2 s (by omega), raise_three h]
theorem dn_three (s : StD) : dnS 3 s = s := by
  have m1 : s.jobs.map (dnJ 3) = s.jobs := (List.map_congr_left (g := id) (fun j _ => by simp [dnJ])).trans (by simp)
  have m2 : s.nodes.map (dnN 3) = s.nodes := (List.map_congr_left (g := id) (fun j _ => by simp [dnN])).trans (by simp)
  simp only [dnS]
  rw [m1, m2]
  simp
theorem lower_next {s : StD} {v : Int} (h1 : 2 ≤ v) (h3 : v ≤ 3) : lowerS v (dnS v s) = dnS (v - 1) s := by
  have : v = 2 ∨ v = 3 := by omega
  rcases this with rfl | rfl
  · simp [lowerS, dnS]
    exact ⟨fun j _ => by simp [noTries, dnJ], fun n _ => by simp [noZone, dnN]⟩
  · rw [dn_three]
    have m2 : s.nodes.map (dnN 2) = s.nodes := (List.map_congr_left (g := id) (fun j _ => by simp [dnN])).trans (by simp)
    have m1 : s.jobs.map (dnJ 2) = s.jobs.map noTag := List.map_congr_left (fun j _ => by simp [noTag, dnJ])
    simp [lowerS, dnS, m1, m2]
theorem raise_lens (v : Int) (s : StD) : (raiseS v s).jobs.length = s.jobs.length ∧ (raiseS v s).nodes.length = s.nodes.length ∧ (raiseS v s).leases = s.leases := by
  unfold raiseS; split
  · simp
  · split <;> simp
theorem lower_lens (v : Int) (s : StD) : (lowerS v s).jobs.length = s.jobs.length ∧ (lowerS v s).nodes.length = s.nodes.length ∧ (lowerS v s).leases = s.leases := by
  unfold lowerS; split
  · simp
  · split <;> simp
end Go.Proofs.YtfbakobmlbjncaaGreatDoor
