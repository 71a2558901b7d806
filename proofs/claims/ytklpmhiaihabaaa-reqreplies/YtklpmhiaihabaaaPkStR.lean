import Derived.Test.YtklpmhiaihabaaaPkSt2
import Derived.Test.YtklpmhiaihabaaaPkRef
import Derived.Test.YtklpmhiaihabaaaPkSt1
import Derived.Deep.QuietTactic
import Derived.BigQuiet
/- The reference: names and notes, a job and a node by themselves, where a row of a name stands. -/
namespace Go.Proofs.Ytklpmhiaihabaaa
open Go.RowKit Go.Lib

theorem outside_is (n lo hi : Int) (w : World) :
    Calls Try.prog 24 #[.int .i64 n, .int .i64 lo, .int .i64 hi] w fun e w' => e = .returned (.bool (!inR n lo hi)) ∧ w = w' := by
  unfold inR
  by_cases h : lo ≤ n
  · by_cases h2 : n ≤ hi
    · have h1 : decide (n < lo) = false := by simp; omega
      have h3 : decide (hi < n) = false := by simp; omega
      rw [decide_eq_true h, decide_eq_true h2]
      go_enter Try.func24, Try.ntmps24
      go_wp2
      go_ret
      exact ⟨rfl, rfl⟩
    · have h1 : decide (n < lo) = false := by simp; omega
      have h3 : decide (hi < n) = true := by simp; omega
      rw [decide_eq_true h, decide_eq_false h2]
      clear h2
      go_enter Try.func24, Try.ntmps24
      go_wp2
      go_ret
      exact ⟨rfl, rfl⟩
  · have h1 : decide (n < lo) = true := by simp; omega
    rw [decide_eq_false h]
    clear h
    go_enter Try.func24, Try.ntmps24
    go_wp2
    go_ret
    exact ⟨by simp, rfl⟩
theorem risNote_is (s : ByteArray) (w : World) : Calls Try.prog 49 #[.string s] w fun e w' => e = .returned (.bool (isNote V8 s)) ∧ w = w' := by
  by_cases h : s.size ≤ 16
  · have HV := Lib.hid (isUTF8_is s (by omega) w)
    rw [note_yes h]
    change Hid (Calls _ _ _ _ fun e w' => e = .returned (.bool (V8 s)) ∧ _) at HV
    generalize V8 s = c at *
    go_enter Try.func49, Try.ntmps49
    go_wp2_with fail
    refine HV.out.mono ?_
    rintro e w1 ⟨rfl, rfl⟩
    go_wp2
    go_ret
    exact ⟨rfl, rfl⟩
  · rw [note_no h]
    go_enter Try.func49, Try.ntmps49
    go_wp2
    go_ret
    exact ⟨rfl, rfl⟩
theorem risName_is (s : ByteArray) (w : World) : Calls Try.prog 27 #[.string s] w fun e w' => e = .returned (.bool (isName V8 s)) ∧ w = w' := by
  by_cases h : s.size ≠ 0
  · have HV := Lib.hid (risNote_is s w)
    rw [name_yes h]
    generalize isNote V8 s = c at *
    obtain ⟨h1, h2⟩ := not_empty h
    clear h
    go_enter Try.func27, Try.ntmps27
    go_wp2_with fail
    refine HV.out.mono ?_
    rintro e w1 ⟨rfl, rfl⟩
    go_wp2
    go_ret
    exact ⟨rfl, rfl⟩
  · rw [name_no h]
    obtain rfl := empty_size h
    go_enter Try.func27, Try.ntmps27
    go_wp2
    go_ret
    exact ⟨rfl, rfl⟩
set_option maxRecDepth 100000 in
set_option maxHeartbeats 1000000 in
theorem rjobCheck_is (x : JobD) (w : World) : Calls Try.prog 25 #[.agg #[.string x.name, .int .i64 x.prio, .int .i64 x.need, .int .i64 x.tries, .string x.tag]] w fun e w' => e = .returned (.int .i64 (jobE V8 x : Nat)) ∧ Below w.heap.size w w' := by
  obtain ⟨c1, h1⟩ : ∃ c, isName V8 x.name = c := ⟨_, rfl⟩
  obtain ⟨c2, h2⟩ : ∃ c, isNote V8 x.tag = c := ⟨_, rfl⟩
  have H1 := Lib.hid (risName_is x.name)
  have H2 := Lib.hid (risNote_is x.tag)
  rw [h1] at H1
  rw [h2] at H2
  obtain ⟨d0, g0⟩ : ∃ d, inR x.prio (-1000) 1000 = d := ⟨_, rfl⟩
  have G0 := Lib.hid (outside_is x.prio (-1000) 1000)
  rw [g0] at G0
  obtain ⟨d1, g1⟩ : ∃ d, inR x.need (0) 1000000 = d := ⟨_, rfl⟩
  have G1 := Lib.hid (outside_is x.need (0) 1000000)
  rw [g1] at G1
  obtain ⟨d2, g2⟩ : ∃ d, inR x.tries (0) 100 = d := ⟨_, rfl⟩
  have G2 := Lib.hid (outside_is x.tries (0) 100)
  rw [g2] at G2
  have HE : Hid (jobE V8 x = if (c1 && c2) = true then (if (d0 && d1 && d2) = true then 0 else 1) else 4) := by show _ = _; rw [jobE, h1, h2, g0, g1, g2]
  obtain ⟨R, hR⟩ : ∃ R, jobE V8 x = R := ⟨_, rfl⟩
  rw [hR] at HE ⊢
  clear h1 h2 hR g0 g1 g2
  cases c1 with
  | false =>
    go_enter Try.func25, Try.ntmps25
    go_wp2_with fail
    refine (H1.out _).mono ?_
    rintro e w1 ⟨rfl, rfl⟩
    go_wp2
    go_ret
    exact ⟨by rw [HE.out]; rfl, below_one _ _⟩
  | true =>
    cases c2 with
    | false =>
      go_enter Try.func25, Try.ntmps25
      go_wp2_with fail
      refine (H1.out _).mono ?_
      rintro e w1 ⟨rfl, rfl⟩
      go_wp2_with fail
      refine (H2.out _).mono ?_
      rintro e w1 ⟨rfl, rfl⟩
      go_wp2
      go_ret
      exact ⟨by rw [HE.out]; rfl, below_one _ _⟩
    | true =>
      cases d0 with
      | false =>
        go_enter Try.func25, Try.ntmps25
        go_wp2_with fail
        refine (H1.out _).mono ?_
        rintro e w1 ⟨rfl, rfl⟩
        go_wp2_with fail
        refine (H2.out _).mono ?_
        rintro e w1 ⟨rfl, rfl⟩
        go_wp2_with fail
        refine (G0.out _).mono ?_
        rintro e w1 ⟨rfl, rfl⟩
        go_wp2
        go_ret
        exact ⟨by rw [HE.out]; rfl, below_one _ _⟩
      | true =>
        cases d1 with
        | false =>
          go_enter Try.func25, Try.ntmps25
          go_wp2_with fail
          refine (H1.out _).mono ?_
          rintro e w1 ⟨rfl, rfl⟩
          go_wp2_with fail
          refine (H2.out _).mono ?_
          rintro e w1 ⟨rfl, rfl⟩
          go_wp2_with fail
          refine (G0.out _).mono ?_
          rintro e w1 ⟨rfl, rfl⟩
          go_wp2_with fail
          refine (G1.out _).mono ?_
          rintro e w1 ⟨rfl, rfl⟩
          go_wp2
          go_ret
          exact ⟨by rw [HE.out]; rfl, below_one _ _⟩
        | true =>
          cases d2 with
          | false =>
            go_enter Try.func25, Try.ntmps25
            go_wp2_with fail
            refine (H1.out _).mono ?_
            rintro e w1 ⟨rfl, rfl⟩
            go_wp2_with fail
            refine (H2.out _).mono ?_
            rintro e w1 ⟨rfl, rfl⟩
            go_wp2_with fail
            refine (G0.out _).mono ?_
            rintro e w1 ⟨rfl, rfl⟩
            go_wp2_with fail
            refine (G1.out _).mono ?_
            rintro e w1 ⟨rfl, rfl⟩
            go_wp2_with fail
            refine (G2.out _).mono ?_
            rintro e w1 ⟨rfl, rfl⟩
            go_wp2
            go_ret
            exact ⟨by rw [HE.out]; rfl, below_one _ _⟩
          | true =>
            go_enter Try.func25, Try.ntmps25
            go_wp2_with fail
            refine (H1.out _).mono ?_
            rintro e w1 ⟨rfl, rfl⟩
            go_wp2_with fail
            refine (H2.out _).mono ?_
            rintro e w1 ⟨rfl, rfl⟩
            go_wp2_with fail
            refine (G0.out _).mono ?_
            rintro e w1 ⟨rfl, rfl⟩
            go_wp2_with fail
            refine (G1.out _).mono ?_
            rintro e w1 ⟨rfl, rfl⟩
            go_wp2_with fail
            refine (G2.out _).mono ?_
            rintro e w1 ⟨rfl, rfl⟩
            go_wp2
            go_ret
            exact ⟨by rw [HE.out]; rfl, below_one _ _⟩
set_option maxRecDepth 100000 in
set_option maxHeartbeats 1000000 in
theorem rnodeCheck_is (x : NodeD) (w : World) : Calls Try.prog 26 #[.agg #[.string x.name, .int .i64 x.room, .string x.zone]] w fun e w' => e = .returned (.int .i64 (nodeE V8 x : Nat)) ∧ Below w.heap.size w w' := by
  obtain ⟨c1, h1⟩ : ∃ c, isName V8 x.name = c := ⟨_, rfl⟩
  obtain ⟨c2, h2⟩ : ∃ c, isNote V8 x.zone = c := ⟨_, rfl⟩
  have H1 := Lib.hid (risName_is x.name)
  have H2 := Lib.hid (risNote_is x.zone)
  rw [h1] at H1
  rw [h2] at H2
  obtain ⟨d0, g0⟩ : ∃ d, inR x.room (0) 1000000 = d := ⟨_, rfl⟩
  have G0 := Lib.hid (outside_is x.room (0) 1000000)
  rw [g0] at G0
  have HE : Hid (nodeE V8 x = if (c1 && c2) = true then (if (d0) = true then 0 else 1) else 4) := by show _ = _; rw [nodeE, h1, h2, g0]
  obtain ⟨R, hR⟩ : ∃ R, nodeE V8 x = R := ⟨_, rfl⟩
  rw [hR] at HE ⊢
  clear h1 h2 hR g0
  cases c1 with
  | false =>
    go_enter Try.func26, Try.ntmps26
    go_wp2_with fail
    refine (H1.out _).mono ?_
    rintro e w1 ⟨rfl, rfl⟩
    go_wp2
    go_ret
    exact ⟨by rw [HE.out]; rfl, below_one _ _⟩
  | true =>
    cases c2 with
    | false =>
      go_enter Try.func26, Try.ntmps26
      go_wp2_with fail
      refine (H1.out _).mono ?_
      rintro e w1 ⟨rfl, rfl⟩
      go_wp2_with fail
      refine (H2.out _).mono ?_
      rintro e w1 ⟨rfl, rfl⟩
      go_wp2
      go_ret
      exact ⟨by rw [HE.out]; rfl, below_one _ _⟩
    | true =>
      cases d0 with
      | false =>
        go_enter Try.func26, Try.ntmps26
        go_wp2_with fail
        refine (H1.out _).mono ?_
        rintro e w1 ⟨rfl, rfl⟩
        go_wp2_with fail
        refine (H2.out _).mono ?_
        rintro e w1 ⟨rfl, rfl⟩
        go_wp2_with fail
        refine (G0.out _).mono ?_
        rintro e w1 ⟨rfl, rfl⟩
        go_wp2
        go_ret
        exact ⟨by rw [HE.out]; rfl, below_one _ _⟩
      | true =>
        go_enter Try.func26, Try.ntmps26
        go_wp2_with fail
        refine (H1.out _).mono ?_
        rintro e w1 ⟨rfl, rfl⟩
        go_wp2_with fail
        refine (H2.out _).mono ?_
        rintro e w1 ⟨rfl, rfl⟩
        go_wp2_with fail
        refine (G0.out _).mono ?_
        rintro e w1 ⟨rfl, rfl⟩
        go_wp2
        go_ret
        exact ⟨by rw [HE.out]; rfl, below_one _ _⟩
end Go.Proofs.Ytklpmhiaihabaaa

/- The reference: jobs and nodes in their order. -/
namespace Go.Proofs.Ytklpmhiaihabaaa
open Go.RowKit

theorem below_drewN {B : Nat} {w w' : World} (h : Below B w w') {n : Nat} : Below B w (w'.drewN n) := by
  induction n with
  | zero => exact h
  | succ n ih => exact ih.drew
end Go.Proofs.Ytklpmhiaihabaaa

/- The reference: where a row of a name stands. -/
namespace Go.Proofs.Ytklpmhiaihabaaa
open Go.RowKit

end Go.Proofs.Ytklpmhiaihabaaa

/- The reference: what is used of a node. -/
namespace Go.Proofs.Ytklpmhiaihabaaa
open Go.RowKit

theorem used_same {jobs : List JobD} {leases : List LeaseD} {i : Nat} {node : ByteArray} (h : i < leases.length) {x : LeaseD} (hx : leases[i] = x) (hz : x.node ≠ node ∨ needOf jobs x.job = 0) : usedD jobs (leases.take (i + 1)) node = usedD jobs (leases.take i) node := by
  rw [used_step jobs leases i h node, hx]
  rcases hz with hz | hz
  · rw [if_neg hz]; omega
  · rw [hz]; split <;> omega
theorem used_more {jobs : List JobD} {leases : List LeaseD} {i : Nat} {node : ByteArray} (h : i < leases.length) {x : LeaseD} (hx : leases[i] = x) (hz : x.node = node) : usedD jobs (leases.take (i + 1)) node = usedD jobs (leases.take i) node + needOf jobs x.job := by
  rw [used_step jobs leases i h node, hx, if_pos hz]
end Go.Proofs.Ytklpmhiaihabaaa

/- The reference: Check at every state. -/
namespace Go.Proofs.Ytklpmhiaihabaaa
open Go.RowKit

/-- What a region reads: the state's block and a node's block. -/
theorem rowS_chk {b p : Nat} {v0 v1 v2 v3 u0 u1 u2 : Value} {w w1 w2 : World} (b2 : Below w1.heap.size w1 w2)
    (h : ((w1.cell? ⟨b, 0, none⟩ = some v0 ∧ w1.cell? ⟨b, 1, none⟩ = some v1 ∧ w1.cell? ⟨b, 2, none⟩ = some v2 ∧ w1.cell? ⟨b, 3, none⟩ = some v3) ∧ (w1.cell? ⟨p, 0, none⟩ = some u0 ∧ w1.cell? ⟨p, 1, none⟩ = some u1 ∧ w1.cell? ⟨p, 2, none⟩ = some u2)) ∧ (b < w1.heap.size ∧ p < w1.heap.size) ∧ Below w.heap.size w w1) :
    ((w2.cell? ⟨b, 0, none⟩ = some v0 ∧ w2.cell? ⟨b, 1, none⟩ = some v1 ∧ w2.cell? ⟨b, 2, none⟩ = some v2 ∧ w2.cell? ⟨b, 3, none⟩ = some v3) ∧ (w2.cell? ⟨p, 0, none⟩ = some u0 ∧ w2.cell? ⟨p, 1, none⟩ = some u1 ∧ w2.cell? ⟨p, 2, none⟩ = some u2)) ∧ (b < w2.heap.size ∧ p < w2.heap.size) ∧ Below w.heap.size w w2 := by
  obtain ⟨⟨⟨c0, c1, c2, c3⟩, ⟨p0, p1, p2⟩⟩, ⟨h1, h2⟩, h3⟩ := h
  have hs := b2.size
  exact ⟨⟨⟨by rw [b2.cell (p := ⟨b, 0, none⟩) h1]; exact c0, by rw [b2.cell (p := ⟨b, 1, none⟩) h1]; exact c1, by rw [b2.cell (p := ⟨b, 2, none⟩) h1]; exact c2, by rw [b2.cell (p := ⟨b, 3, none⟩) h1]; exact c3⟩,
    ⟨by rw [b2.cell (p := ⟨p, 0, none⟩) h2]; exact p0, by rw [b2.cell (p := ⟨p, 1, none⟩) h2]; exact p1, by rw [b2.cell (p := ⟨p, 2, none⟩) h2]; exact p2⟩⟩, ⟨by omega, by omega⟩, below_trans h3 b2 h3.size⟩
theorem at_neg (r : Int) : decide (r < 0) = !decide (0 ≤ r) := by
  by_cases h : 0 ≤ r
  · simp [h]
  · simp [h]; omega
end Go.Proofs.Ytklpmhiaihabaaa

/- The reference: Fits at every state. -/
namespace Go.Proofs.Ytklpmhiaihabaaa
open Go.RowKit

/-- One job, one node, and the revision, at a version. -/
def jobFit (v : Int) (j : JobD) : Bool := (decide (3 ≤ v) || decide (j.tag.size = 0)) && (decide (2 ≤ v) || decide (j.tries = 0))
def nodeFit (v : Int) (n : NodeD) : Bool := decide (2 ≤ v) || decide (n.zone.size = 0)
theorem fitsD_is (rev : Int) (jobs : List JobD) (nodes : List NodeD) (leases : List LeaseD) (v : Int) : fitsD ⟨rev, jobs, nodes, leases⟩ v = ((decide (3 ≤ v) || decide (rev = 0)) && jobs.all (jobFit v) && nodes.all (nodeFit v)) := rfl
theorem all_no {α : Type} {p : α → Bool} {l : List α} (k : Nat) (hk : k < l.length) (h : p l[k] = false) : l.all p = false := by
  rw [List.all_eq_false]
  exact ⟨_, List.getElem_mem hk, by simp [h]⟩
theorem all_yes {α : Type} {p : α → Bool} {l : List α} (h : ∀ j, (hj : j < l.length) → p l[j] = true) : l.all p = true := by
  rw [List.all_eq_true]
  intro x hx
  obtain ⟨i, hi, rfl⟩ := List.getElem_of_mem hx
  exact h i hi
theorem jobFit_3 {v : Int} {x : JobD} (h : v < 3) (ht : x.tag.size ≠ 0) : jobFit v x = false := by
  unfold jobFit; rw [decide_eq_false (by omega), decide_eq_false ht]; rfl
theorem jobFit_2 {v : Int} {x : JobD} (h : v < 2) (ht : x.tries ≠ 0) : jobFit v x = false := by
  unfold jobFit; rw [decide_eq_false (p := 2 ≤ v) (by omega), decide_eq_false ht]; simp
theorem jobFit_ok {v : Int} {x : JobD} (h3 : ¬ v < 3 ∨ ¬ x.tag.size ≠ 0) (h2 : ¬ v < 2 ∨ ¬ x.tries ≠ 0) : jobFit v x = true := by
  unfold jobFit
  simp only [Bool.and_eq_true, Bool.or_eq_true, decide_eq_true_eq]
  constructor <;> omega
theorem nodeFit_2 {v : Int} {x : NodeD} (h : v < 2) (ht : x.zone.size ≠ 0) : nodeFit v x = false := by
  unfold nodeFit; rw [decide_eq_false (by omega), decide_eq_false ht]; rfl
theorem nodeFit_ok {v : Int} {x : NodeD} (h : ¬ v < 2 ∨ ¬ x.zone.size ≠ 0) : nodeFit v x = true := by
  unfold nodeFit
  simp only [Bool.or_eq_true, decide_eq_true_eq]
  omega
/-- What the loops ask of a string that is empty or not. -/
theorem str_cases (s : ByteArray) : (s.size ≠ 0 ∧ s.toList.isEmpty = false ∧ ¬ s.toList = []) ∨ (¬ s.size ≠ 0 ∧ s.toList.isEmpty = true ∧ s.toList = []) := by
  by_cases h : s.size ≠ 0
  · exact .inl ⟨h, not_empty h⟩
  · have e := empty_size h
    subst e
    exact .inr ⟨h, by simp, by simp⟩
end Go.Proofs.Ytklpmhiaihabaaa
