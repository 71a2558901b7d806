import Derived.Test.YtiekgafopalfmaaGreatDoorPkSt1
import Derived.Test.YtiekgafopalfmaaGreatDoorPkWi1
import Derived.Test.YtiekgafopalfmaaGreatDoorPkSt2
import Derived.Test.YtiekgafopalfmaaGreatDoorPkWi2
import Derived.Test.YtiekgafopalfmaaGreatDoorPkTxt
/- Plain facts on the upgrade and the downgrade of states (no program). U stands for 'is valid UTF-8'. -/
namespace Go.Proofs.YtiekgafopalfmaaGreatDoor

/-- A job, a node and a state that go up. -/
def upJ (ls : List LeaseD) (a b : Int) (j : JobD) : JobD := if a < 2 ∧ 1 < b then { j with tries := if hasLease ls j.name = true then 1 else 0 } else j
def upN (a b : Int) (n : NodeD) : NodeD := if a < 2 ∧ 1 < b then { n with zone := ⟨#[45]⟩ } else n
def upS (a b : Int) (s : StD) : StD := ⟨if a < 3 ∧ b = 3 then 1 else s.rev, s.jobs.map (upJ s.leases a b), s.nodes.map (upN a b), s.leases⟩
/-- A job, a node and a state that go down. -/
def dnJ (b : Int) (j : JobD) : JobD := ⟨j.name, j.prio, j.need, if b < 2 then 0 else j.tries, if b < 3 then ⟨#[]⟩ else j.tag⟩
def dnN (b : Int) (n : NodeD) : NodeD := ⟨n.name, n.room, if b < 2 then ⟨#[]⟩ else n.zone⟩
def dnS (b : Int) (s : StD) : StD := ⟨if b < 3 then 0 else s.rev, s.jobs.map (dnJ b), s.nodes.map (dnN b), s.leases⟩

theorem needOf_mapF (f : JobD → JobD) (h1 : ∀ j, (f j).name = j.name) (h2 : ∀ j, (f j).need = j.need) (jobs : List JobD) (x : ByteArray) : needOf (jobs.map f) x = needOf jobs x := by
  induction jobs with
  | nil => rfl
  | cons j l ih => simp only [List.map_cons, needOf, h1, h2, ih]
section
variable {U : ByteArray → Bool}
theorem valid_map {s : StD} (h : Valid U s) (rev : Int) (hr : 0 ≤ rev ∧ rev ≤ 1099511627776) (f : JobD → JobD) (g : NodeD → NodeD)
    (f1 : ∀ j, (f j).name = j.name) (f2 : ∀ j, (f j).need = j.need) (f3 : ∀ j, jobE U j = 0 → jobE U (f j) = 0) (g1 : ∀ n, (g n).name = n.name) (g2 : ∀ n, (g n).room = n.room) (g3 : ∀ n, nodeE U n = 0 → nodeE U (g n) = 0) :
    Valid U ⟨rev, s.jobs.map f, s.nodes.map g, s.leases⟩ := by
  obtain ⟨h1, ⟨h2, h3, h4⟩, ⟨hj, hj'⟩, ⟨hn, hn'⟩, ⟨hl, hl'⟩, hR⟩ := h
  have ej : (s.jobs.map f).map (·.name) = s.jobs.map (·.name) := by rw [List.map_map]; exact List.map_congr_left (fun j _ => f1 j)
  have en : (s.nodes.map g).map (·.name) = s.nodes.map (·.name) := by rw [List.map_map]; exact List.map_congr_left (fun j _ => g1 j)
  refine ⟨hr, ⟨by simpa using h2, h3, by simpa using h4⟩, ⟨?_, asc_map ej.symm hj'⟩, ⟨?_, asc_map en.symm hn'⟩, ⟨?_, hl'⟩, ?_⟩
  · intro x hx
    obtain ⟨j, hj1, rfl⟩ := List.mem_map.1 hx
    exact f3 j (hj j hj1)
  · intro x hx
    obtain ⟨j, hj1, rfl⟩ := List.mem_map.1 hx
    exact g3 j (hn j hj1)
  · intro x hx
    have z := (leaseE_zero _ _ _).1 (hl x hx)
    exact (leaseE_zero _ _ _).2 ⟨hasJob_map ej.symm _ z.1, hasNode_map en.symm _ z.2.1, z.2.2⟩
  · intro n hn1
    obtain ⟨m, hm, rfl⟩ := List.mem_map.1 hn1
    have hu : usedD (s.jobs.map f) s.leases (g m).name = usedD s.jobs s.leases m.name := by
      unfold usedD
      refine sumZ_congr (fun l _ => ?_)
      unfold useOf
      rw [g1, needOf_mapF f f1 f2]
    simp only
    rw [hu, g2]
    exact hR m hm
theorem isName_dash (h : U ⟨#[45]⟩ = true) : isNote U ⟨#[45]⟩ = true := by unfold isNote; rw [h]; rfl
/-- What goes up may be. -/
theorem valid_up {s : StD} (h : Valid U s) (hU : U ⟨#[45]⟩ = true) (a b : Int) : Valid U (upS a b s) := by
  refine valid_map h _ ?_ _ _ ?_ ?_ ?_ ?_ ?_ ?_
  · have := h.1
    split <;> omega
  · intro j; unfold upJ; split <;> rfl
  · intro j; unfold upJ; split <;> rfl
  · intro j hj
    have z := (jobE_zero U j).1 hj
    unfold upJ
    split
    · refine (jobE_zero U _).2 ⟨z.1, z.2.1, z.2.2.1, ?_⟩
      simp only
      split <;> omega
    · exact hj
  · intro n; unfold upN; split <;> rfl
  · intro n; unfold upN; split <;> rfl
  · intro n hn
    have z := (nodeE_zero U n).1 hn
    unfold upN
    split
    · exact (nodeE_zero U _).2 ⟨⟨z.1.1, isName_dash hU⟩, z.2⟩
    · exact hn
/-- What goes down may be. -/
theorem valid_dn {s : StD} (h : Valid U s) (h0 : U ⟨#[]⟩ = true) (b : Int) : Valid U (dnS b s) := by
  have e0 : isNote U ⟨#[]⟩ = true := by unfold isNote; rw [h0]; rfl
  refine valid_map h _ ?_ _ _ (fun _ => rfl) (fun _ => rfl) ?_ (fun _ => rfl) (fun _ => rfl) ?_
  · have := h.1
    split <;> omega
  · intro j hj
    have z := (jobE_zero U j).1 hj
    refine (jobE_zero U _).2 ⟨⟨z.1.1, ?_⟩, z.2.1, z.2.2.1, ?_⟩
    · unfold dnJ; simp only; split
      · exact e0
      · exact z.1.2
    · unfold dnJ; simp only; split <;> omega
  · intro n hn
    have z := (nodeE_zero U n).1 hn
    refine (nodeE_zero U _).2 ⟨⟨z.1.1, ?_⟩, z.2⟩
    unfold dnN; simp only; split
    · exact e0
    · exact z.1.2
end
theorem fits_iff (s : StD) (v : Int) : fitsD s v = true ↔ (3 ≤ v ∨ s.rev = 0) ∧ (∀ j ∈ s.jobs, (3 ≤ v ∨ j.tag.size = 0) ∧ (2 ≤ v ∨ j.tries = 0)) ∧ (∀ n ∈ s.nodes, 2 ≤ v ∨ n.zone.size = 0) := by
  simp only [fitsD, Bool.and_eq_true, Bool.or_eq_true, List.all_eq_true, decide_eq_true_eq]
  constructor
  · rintro ⟨⟨h1, h2⟩, h3⟩; exact ⟨h1, h2, h3⟩
  · rintro ⟨h1, h2, h3⟩; exact ⟨⟨h1, h2⟩, h3⟩
/-- What goes up from a version that it fits fits the other one. -/
theorem fits_up {s : StD} {a b : Int} (h : fitsD s a = true) (hab : a ≤ b) (hb : b ≤ 3) : fitsD (upS a b s) b = true := by
  obtain ⟨h1, h2, h3⟩ := (fits_iff s a).1 h
  refine (fits_iff _ b).2 ⟨?_, ?_, ?_⟩
  · unfold upS
    by_cases e : b = 3
    · exact .inl (by omega)
    · simp only
      rw [if_neg (by omega)]
      rcases h1 with h1 | h1
      · exact .inl (by omega)
      · exact .inr h1
  · intro x hx
    obtain ⟨j, hj, rfl⟩ := List.mem_map.1 hx
    have z := h2 j hj
    unfold upJ
    split
    · exact ⟨by simp only; omega, .inl (by omega)⟩
    · exact ⟨by omega, by omega⟩
  · intro x hx
    obtain ⟨n, hn, rfl⟩ := List.mem_map.1 hx
    have z := h3 n hn
    unfold upN
    split
    · exact .inl (by omega)
    · omega
/-- What goes down fits. -/
theorem fits_dn (s : StD) (b : Int) : fitsD (dnS b s) b = true := by
  refine (fits_iff _ b).2 ⟨?_, ?_, ?_⟩
  · unfold dnS
    by_cases e : b < 3
    · simp only; rw [if_pos e]; exact .inr rfl
    · exact .inl (by omega)
  · intro x hx
    obtain ⟨j, hj, rfl⟩ := List.mem_map.1 hx
    unfold dnJ
    refine ⟨?_, ?_⟩
    · by_cases e : b < 3
      · simp only; rw [if_pos e]; exact .inr rfl
      · exact .inl (by omega)
    · by_cases e : b < 2
      · simp only; rw [if_pos e]; exact .inr rfl
      · exact .inl (by omega)
  · intro x hx
    obtain ⟨n, hn, rfl⟩ := List.mem_map.1 hx
    unfold dnN
    by_cases e : b < 2
    · simp only; rw [if_pos e]; exact .inr rfl
    · exact .inl (by omega)
theorem size_empty {s : ByteArray} (h : s.size = 0) : s = ⟨#[]⟩ := by
  cases s with
  | mk d =>
    have : d.size = 0 := h
    rw [Array.eq_empty_of_size_eq_zero this]
/-- From 1 to 3 is from 1 to 2 and from 2 to 3. -/
theorem up_steps (s : StD) : upS 2 3 (upS 1 2 s) = upS 1 3 s := by
  unfold upS
  simp only [List.map_map]
  have m1 : s.jobs.map (upJ s.leases 2 3 ∘ upJ s.leases 1 2) = s.jobs.map (upJ s.leases 1 3) := List.map_congr_left (fun j _ => by simp [upJ])
  have m2 : s.nodes.map (upN 2 3 ∘ upN 1 2) = s.nodes.map (upN 1 3) := List.map_congr_left (fun n _ => by simp [upN])
  rw [m1, m2]
  simp
theorem up_same (a : Int) (s : StD) (h : 1 ≤ a ∧ a ≤ 3) : upS a a s = s := by
  have e1 : ∀ j, upJ s.leases a a j = j := fun j => by unfold upJ; rw [if_neg (by omega)]
  have e2 : ∀ n, upN a a n = n := fun n => by unfold upN; rw [if_neg (by omega)]
  unfold upS
  rw [if_neg (by omega)]
  have m1 : s.jobs.map (upJ s.leases a a) = s.jobs := by rw [List.map_congr_left (fun j _ => e1 j)]; simp
  have m2 : s.nodes.map (upN a a) = s.nodes := by rw [List.map_congr_left (fun n _ => e2 n)]; simp
  rw [m1, m2]
/-- What went up comes down as it was. -/
theorem dn_up {s : StD} {a : Int} (h : fitsD s a = true) (ha : 1 ≤ a ∧ a ≤ 3) : dnS a (upS a 3 s) = s := by
  obtain ⟨h1, h2, h3⟩ := (fits_iff s a).1 h
  have m1 : (s.jobs.map (upJ s.leases a 3)).map (dnJ a) = s.jobs := by
    rw [List.map_map]
    refine (List.map_congr_left (g := id) (fun j hj => ?_)).trans (by simp)
    have z := h2 j hj
    obtain ⟨n, p, d, t, g⟩ := j
    simp only [Function.comp, dnJ, upJ, id]
    by_cases e2 : a < 2
    · have z2 : t = 0 := by simp only at z; omega
      have z3 : g = ⟨#[]⟩ := size_empty (by simp only at z; omega)
      subst z2 z3
      simp [e2]
    · by_cases e3 : a < 3
      · have z3 : g = ⟨#[]⟩ := size_empty (by simp only at z; omega)
        subst z3
        simp [e2]
      · simp [e2, e3]
  have m2 : (s.nodes.map (upN a 3)).map (dnN a) = s.nodes := by
    rw [List.map_map]
    refine (List.map_congr_left (g := id) (fun j hj => ?_)).trans (by simp)
    have z := h3 j hj
    obtain ⟨n, p, d⟩ := j
    simp only [Function.comp, dnN, upN, id]
    by_cases e2 : a < 2
    · have z2 : d = ⟨#[]⟩ := size_empty (by simp only at z; omega)
      subst z2
      simp [e2]
    · simp [e2]
  have m0 : (if a < 3 then 0 else if a < 3 ∧ (3 : Int) = 3 then 1 else s.rev) = s.rev := by
    by_cases e3 : a < 3
    · rw [if_pos e3]; omega
    · rw [if_neg e3, if_neg (by omega)]
  have e : dnS a (upS a 3 s) = ⟨if a < 3 then 0 else if a < 3 ∧ (3 : Int) = 3 then 1 else s.rev, (s.jobs.map (upJ s.leases a 3)).map (dnJ a), (s.nodes.map (upN a 3)).map (dnN a), s.leases⟩ := rfl
  rw [e, m0, m1, m2]
theorem dn_dn (s : StD) (b : Int) : dnS b (dnS b s) = dnS b s := by
  unfold dnS
  simp only [List.map_map]
  have m1 : s.jobs.map (dnJ b ∘ dnJ b) = s.jobs.map (dnJ b) := List.map_congr_left (fun j _ => by simp only [Function.comp, dnJ]; split <;> split <;> rfl)
  have m2 : s.nodes.map (dnN b ∘ dnN b) = s.nodes.map (dnN b) := List.map_congr_left (fun j _ => by simp only [Function.comp, dnN]; split <;> rfl)
  rw [m1, m2]
  congr 1
  split <;> rfl
end Go.Proofs.YtiekgafopalfmaaGreatDoor

/- Plain facts on the program's way up and down, one version at a time (no program). -/
namespace Go.Proofs.YtiekgafopalfmaaGreatDoor

def r2J (ls : List LeaseD) (j : JobD) : JobD := ⟨j.name, j.prio, j.need, if hasLease ls j.name = true then 1 else 0, j.tag⟩
def r2N (n : NodeD) : NodeD := ⟨n.name, n.room, ⟨#[45]⟩⟩
def noTag (j : JobD) : JobD := ⟨j.name, j.prio, j.need, j.tries, ⟨#[]⟩⟩
def noTries (j : JobD) : JobD := ⟨j.name, j.prio, j.need, 0, j.tag⟩
def noZone (n : NodeD) : NodeD := ⟨n.name, n.room, ⟨#[]⟩⟩
/-- One version up; one version down. -/
def raiseS (v : Int) (s : StD) : StD := if v = 2 then ⟨s.rev, s.jobs.map (r2J s.leases), s.nodes.map r2N, s.leases⟩ else if v = 3 then ⟨1, s.jobs.map noTag, s.nodes, s.leases⟩ else s
def lowerS (v : Int) (s : StD) : StD := if v = 2 then ⟨s.rev, s.jobs.map noTries, s.nodes.map noZone, s.leases⟩ else if v = 3 then ⟨0, s.jobs.map noTag, s.nodes, s.leases⟩ else s
theorem raise_two (s : StD) : raiseS 2 s = upS 1 2 s := by
  simp [raiseS, upS]
  exact ⟨fun j _ => by simp [r2J, upJ], fun n _ => by simp [r2N, upN]⟩
theorem raise_three {s : StD} (h : fitsD s 2 = true) : raiseS 3 s = upS 2 3 s := by
  obtain ⟨_, h2, _⟩ := (fits_iff s 2).1 h
  have m1 : s.jobs.map noTag = s.jobs.map (upJ s.leases 2 3) := List.map_congr_left (fun j hj => by
    have z : j.tag = ⟨#[]⟩ := size_empty (by have := (h2 j hj).1; omega)
    obtain ⟨n, p, d, t, g⟩ := j
    simp only at z
    subst z
    simp [noTag, upJ])
  have m2 : s.nodes.map (upN 2 3) = s.nodes := by
    refine (List.map_congr_left (g := id) (fun n _ => by simp [upN])).trans (by simp)
  simp only [raiseS, upS]
  rw [m1, m2]
  simp
/-- One more version. -/
theorem raise_next {s : StD} {a v : Int} (h : fitsD s a = true) (ha : 1 ≤ a) (hav : a < v) (hv : v ≤ 3) : raiseS v (upS a (v - 1) s) = upS a v s := by
  have : (a = 1 ∧ v = 2) ∨ (a = 1 ∧ v = 3) ∨ (a = 2 ∧ v = 3) := by omega
  rcases this with ⟨rfl, rfl⟩ | ⟨rfl, rfl⟩ | ⟨rfl, rfl⟩
  · rw [show (2 : Int) - 1 = 1 from rfl, up_same 1 s (by omega), raise_two]
  · rw [show (3 : Int) - 1 = 2 from rfl, raise_three (fits_up h (by omega) (by omega)), up_steps]
  · rw [show (3 : Int) - 1 = 2 from rfl, up_same 2 s (by omega), raise_three h]
theorem dn_three (s : StD) : dnS 3 s = s := by
  have m1 : s.jobs.map (dnJ 3) = s.jobs := (List.map_congr_left (g := id) (fun j _ => by simp [dnJ])).trans (by simp)
  have m2 : s.nodes.map (dnN 3) = s.nodes := (List.map_congr_left (g := id) (fun j _ => by simp [dnN])).trans (by simp)
  simp only [dnS]
  rw [m1, m2]
  simp
theorem lower_next {s : StD} {v : Int} (h1 : 2 ≤ v) (h3 : v ≤ 3) : lowerS v (dnS v s) = dnS (v - 1) s := by
  have : v = 2 ∨ v = 3 := by omega
  rcases this with rfl | rfl
  · simp [lowerS, dnS]
    exact ⟨fun j _ => by simp [noTries, dnJ], fun n _ => by simp [noZone, dnN]⟩
  · rw [dn_three]
    have m2 : s.nodes.map (dnN 2) = s.nodes := (List.map_congr_left (g := id) (fun j _ => by simp [dnN])).trans (by simp)
    have m1 : s.jobs.map (dnJ 2) = s.jobs.map noTag := List.map_congr_left (fun j _ => by simp [noTag, dnJ])
    simp [lowerS, dnS, m1, m2]
theorem raise_lens (v : Int) (s : StD) : (raiseS v s).jobs.length = s.jobs.length ∧ (raiseS v s).nodes.length = s.nodes.length ∧ (raiseS v s).leases = s.leases := by
  unfold raiseS; split
  · simp
  · split <;> simp
theorem lower_lens (v : Int) (s : StD) : (lowerS v s).jobs.length = s.jobs.length ∧ (lowerS v s).nodes.length = s.nodes.length ∧ (lowerS v s).leases = s.leases := by
  unfold lowerS; split
  · simp
  · split <;> simp
end Go.Proofs.YtiekgafopalfmaaGreatDoor

/- Package up: its small functions. -/
namespace Go.Proofs.YtiekgafopalfmaaGreatDoor
open Go.RowKit

def okV (v : Int) : Bool := decide (1 ≤ v) && decide (v ≤ 3)
def okUp (a b : Int) : Bool := okV a && (okV b && decide (a ≤ b))
theorem okV_iff (v : Int) : okV v = true ↔ 1 ≤ v ∧ v ≤ 3 := by simp [okV]
theorem okUp_iff (a b : Int) : okUp a b = true ↔ 1 ≤ a ∧ a ≤ b ∧ b ≤ 3 := by simp [okUp, okV]; omega
end Go.Proofs.YtiekgafopalfmaaGreatDoor
