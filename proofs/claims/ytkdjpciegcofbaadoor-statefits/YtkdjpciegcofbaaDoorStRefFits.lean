/- The reference: Fits at every state. -/
import Derived.Test.YtkdjpciegcofbaaDoorStChk
namespace Go.Proofs.YtkdjpciegcofbaaDoor
open Go.RowKit

/-- One job, one node, and the revision, at a version. -/
def jobFit (v : Int) (j : JobD) : Bool := (decide (3 ≤ v) || decide (j.tag.size = 0)) && (decide (2 ≤ v) || decide (j.tries = 0))
def nodeFit (v : Int) (n : NodeD) : Bool := decide (2 ≤ v) || decide (n.zone.size = 0)
theorem fitsD_is (rev : Int) (jobs : List JobD) (nodes : List NodeD) (leases : List LeaseD) (v : Int) : fitsD ⟨rev, jobs, nodes, leases⟩ v = ((decide (3 ≤ v) || decide (rev = 0)) && jobs.all (jobFit v) && nodes.all (nodeFit v)) := rfl
theorem all_no {α : Type} {p : α → Bool} {l : List α} (k : Nat) (hk : k < l.length) (h : p l[k] = false) : l.all p = false := by
  rw [List.all_eq_false]
  exact ⟨_, List.getElem_mem hk, by simp [h]⟩
theorem all_yes {α : Type} {p : α → Bool} {l : List α} (h : ∀ j, (hj : j < l.length) → p l[j] = true) : l.all p = true := by
  rw [List.all_eq_true]
  intro x hx
  obtain ⟨i, hi, rfl⟩ := List.getElem_of_mem hx
  exact h i hi
theorem jobFit_3 {v : Int} {x : JobD} (h : v < 3) (ht : x.tag.size ≠ 0) : jobFit v x = false := by
  unfold jobFit; rw [decide_eq_false (by omega), decide_eq_false ht]; rfl
theorem jobFit_2 {v : Int} {x : JobD} (h : v < 2) (ht : x.tries ≠ 0) : jobFit v x = false := by
  unfold jobFit; rw [decide_eq_false (p := 2 ≤ v) (by omega), decide_eq_false ht]; simp
theorem jobFit_ok {v : Int} {x : JobD} (h3 : ¬ v < 3 ∨ ¬ x.tag.size ≠ 0) (h2 : ¬ v < 2 ∨ ¬ x.tries ≠ 0) : jobFit v x = true := by
  unfold jobFit
  simp only [Bool.and_eq_true, Bool.or_eq_true, decide_eq_true_eq]
  constructor <;> omega
theorem nodeFit_2 {v : Int} {x : NodeD} (h : v < 2) (ht : x.zone.size ≠ 0) : nodeFit v x = false := by
  unfold nodeFit; rw [decide_eq_false (by omega), decide_eq_false ht]; rfl
theorem nodeFit_ok {v : Int} {x : NodeD} (h : ¬ v < 2 ∨ ¬ x.zone.size ≠ 0) : nodeFit v x = true := by
  unfold nodeFit
  simp only [Bool.or_eq_true, decide_eq_true_eq]
  omega
/-- What the loops ask of a string that is empty or not. -/
theorem str_cases (s : ByteArray) : (s.size ≠ 0 ∧ s.toList.isEmpty = false ∧ ¬ s.toList = []) ∨ (¬ s.size ≠ 0 ∧ s.toList.isEmpty = true ∧ s.toList = []) := by
  by_cases h : s.size ≠ 0
  · exact .inl ⟨h, not_empty h⟩
  · have e := empty_size h
    subst e
    exact .inr ⟨h, by simp, by simp⟩
set_option maxRecDepth 100000 in
set_option maxHeartbeats 4000000 in
theorem rfits_1 (rev : Int) (aj an al : Option Addr) (cj cn cl : Nat) (jobs : List JobD) (nodes : List NodeD) (leases : List LeaseD) (hj : jobs.length ≤ 40) (hn : nodes.length ≤ 20) (w : World) (hmj : JobsAt w aj jobs) (hmn : NodesAt w an nodes) :
    Calls Tryd.prog 15 #[.agg #[.int .i64 rev, .slice aj jobs.length cj, .slice an nodes.length cn, .slice al leases.length cl], .int .i64 1] w fun e w' => e = .returned (.bool (fitsD ⟨rev, jobs, nodes, leases⟩ 1)) ∧ Below w.heap.size w w' := by
  have bW := below_one w (.cells #[.int .i64 rev, .slice aj jobs.length cj, .slice an nodes.length cn, .slice al leases.length cl] 26)
  have q := box_new4 w (.int .i64 rev) (.slice aj jobs.length cj) (.slice an nodes.length cn) (.slice al leases.length cl) 26
  have HMJ := Lib.hid hmj
  have HMN := Lib.hid hmn
  obtain ⟨R, hR⟩ : ∃ R, fitsD ⟨rev, jobs, nodes, leases⟩ 1 = R := ⟨_, rfl⟩
  rw [hR]
  rw [fitsD_is] at hR
  have HR := Lib.hid hR
  clear hmj hmn hR
  by_cases h0 : rev ≠ 0
  · have HZ : Hid (false = R) := by have := HR.out; rw [decide_eq_false h0] at this; exact this
    have h0' : (rev != 0) = true := by simpa using h0
    clear h0
    go_enter Tryd.func15, Tryd.ntmps15
    go_wp2
    go_ret
    exact ⟨by rw [← HZ.out]; rfl, bW⟩
  have h0 : rev = 0 := by simpa using h0
  subst h0
  have HZ : Hid ((jobs.all (jobFit 1) && nodes.all (nodeFit 1)) = R) := by have := HR.out; exact this
  clear HR
  go_enter Tryd.func15, Tryd.ntmps15
  go_wp2
  go_loopw [19] (fun iv wr => ∃ (i : Nat), iv = .int .i64 (i : Int) ∧ i ≤ jobs.length ∧ Box w.heap.size [.int .i64 0, .slice aj jobs.length cj, .slice an nodes.length cn, .slice al leases.length cl] wr ∧ Below w.heap.size w wr ∧ Hid (∀ j, (hj : j < jobs.length) → j < i → jobFit 1 jobs[j] = true)) (fun iv _ => jobs.length - (intOf iv).toNat)
  case atStart => exact ⟨0, rfl, by omega, q, bW, fun j _ hj => by omega⟩
  case round =>
    clear q bW
    obtain ⟨i, rfl, hi, q, hbr, HS⟩ := hrel
    by_cases h : (i : Int) < (jobs.length : Int)
    · have hil : i < jobs.length := by omega
      obtain ⟨a, rfl, hal, k0, k1, k2, k3, k4⟩ := jobsAt_next HMJ.out hbr i hil
      obtain ⟨x, hxi⟩ : ∃ x, jobs[i] = x := ⟨_, rfl⟩
      rw [hxi] at k0 k1 k2 k3 k4
      have Hxi := Lib.hid hxi
      have hb2 := hbr.alloc hbr.size (.cells #[.string x.name, .int .i64 x.prio, .int .i64 x.need, .int .i64 x.tries, .string x.tag] 42)
      have q2 := box_alloc q (.cells #[.string x.name, .int .i64 x.prio, .int .i64 x.need, .int .i64 x.tries, .string x.tag] 42)
      clear hxi
      rcases str_cases x.tag with ⟨t0, t1, t2⟩ | ⟨t0, t1, t2⟩
      · have HT := Lib.hid t0
        clear t0
        have HF : Hid (false = R) := by have := HZ.out; rw [all_no i hil (by rw [Hxi.out]; exact jobFit_3 (by omega) HT.out)] at this; exact this
        go_wp2
        go_ret
        exact ⟨by rw [← HF.out]; rfl, hb2⟩
      · have HT := Lib.hid t0
        clear t0
        by_cases g0 : x.tries ≠ 0
        · have g1 : (x.tries != 0) = true := by simpa using g0
          have HG := Lib.hid g0
          clear g0
          have HF : Hid (false = R) := by have := HZ.out; rw [all_no i hil (by rw [Hxi.out]; exact jobFit_2 (by omega) HG.out)] at this; exact this
          go_wp2
          go_ret
          exact ⟨by rw [← HF.out]; rfl, hb2⟩
        · have g1 : (x.tries != 0) = false := by simpa using g0
          have HG := Lib.hid g0
          clear g0
          have HS2 : Hid (∀ j, (hj : j < jobs.length) → j < i + 1 → jobFit 1 jobs[j] = true) := by
            intro j hj hji
            by_cases e : j = i
            · subst e; rw [Hxi.out]; exact jobFit_ok (.inr HT.out) (.inr HG.out)
            · exact HS.out j hj (by omega)
          go_wp2
          go_roundw
          case rel => exact ⟨i + 1, by simp, by omega, q2, hb2, HS2⟩
          case measure => simp [intOf]; omega
    · obtain rfl : i = jobs.length := by omega
      have HZ2 : Hid (nodes.all (nodeFit 1) = R) := by have := HZ.out; rw [all_yes (fun j hj => HS.out j hj hj)] at this; exact this
      have k2 := q.1 2 _ rfl
      clear HZ HS
      go_wp2
      go_loopw [43] (fun iv wr => ∃ (i : Nat), iv = .int .i64 (i : Int) ∧ i ≤ nodes.length ∧ Below w.heap.size w wr ∧ Hid (∀ j, (hj : j < nodes.length) → j < i → nodeFit 1 nodes[j] = true)) (fun iv _ => nodes.length - (intOf iv).toNat)
      case atStart => exact ⟨0, rfl, by omega, hbr, fun j _ hj => by omega⟩
      case round =>
        clear q hbr k2 h hi
        obtain ⟨i, rfl, hi, hbr, HS⟩ := hrel
        by_cases h : (i : Int) < (nodes.length : Int)
        · have hil : i < nodes.length := by omega
          obtain ⟨a, rfl, hal, k0, k1, k2⟩ := nodesAt_next HMN.out hbr i hil
          obtain ⟨x, hxi⟩ : ∃ x, nodes[i] = x := ⟨_, rfl⟩
          rw [hxi] at k0 k1 k2
          have Hxi := Lib.hid hxi
          have hb2 := hbr.alloc hbr.size (.cells #[.string x.name, .int .i64 x.room, .string x.zone] 45)
          clear hxi
          rcases str_cases x.zone with ⟨t0, t1, t2⟩ | ⟨t0, t1, t2⟩
          · have HT := Lib.hid t0
            clear t0
            have HF : Hid (false = R) := by have := HZ2.out; rw [all_no i hil (by rw [Hxi.out]; exact nodeFit_2 (by omega) HT.out)] at this; exact this
            go_wp2
            go_ret
            exact ⟨by rw [← HF.out]; rfl, hb2⟩
          · have HT := Lib.hid t0
            clear t0
            have HS2 : Hid (∀ j, (hj : j < nodes.length) → j < i + 1 → nodeFit 1 nodes[j] = true) := by
              intro j hj hji
              by_cases e : j = i
              · subst e; rw [Hxi.out]; exact nodeFit_ok (.inr HT.out)
              · exact HS.out j hj (by omega)
            go_wp2
            go_roundw
            case rel => exact ⟨i + 1, by simp, by omega, hb2, HS2⟩
            case measure => simp [intOf]; omega
        · obtain rfl : i = nodes.length := by omega
          have HF : Hid (true = R) := by have := HZ2.out; rw [all_yes (fun j hj => HS.out j hj hj)] at this; exact this
          go_wp2
          go_ret
          exact ⟨by rw [← HF.out]; rfl, hbr⟩
set_option maxRecDepth 100000 in
set_option maxHeartbeats 4000000 in
theorem rfits_2 (rev : Int) (aj an al : Option Addr) (cj cn cl : Nat) (jobs : List JobD) (nodes : List NodeD) (leases : List LeaseD) (hj : jobs.length ≤ 40) (hn : nodes.length ≤ 20) (w : World) (hmj : JobsAt w aj jobs) (hmn : NodesAt w an nodes) :
    Calls Tryd.prog 15 #[.agg #[.int .i64 rev, .slice aj jobs.length cj, .slice an nodes.length cn, .slice al leases.length cl], .int .i64 2] w fun e w' => e = .returned (.bool (fitsD ⟨rev, jobs, nodes, leases⟩ 2)) ∧ Below w.heap.size w w' := by
  have bW := below_one w (.cells #[.int .i64 rev, .slice aj jobs.length cj, .slice an nodes.length cn, .slice al leases.length cl] 26)
  have q := box_new4 w (.int .i64 rev) (.slice aj jobs.length cj) (.slice an nodes.length cn) (.slice al leases.length cl) 26
  have HMJ := Lib.hid hmj
  have HMN := Lib.hid hmn
  obtain ⟨R, hR⟩ : ∃ R, fitsD ⟨rev, jobs, nodes, leases⟩ 2 = R := ⟨_, rfl⟩
  rw [hR]
  rw [fitsD_is] at hR
  have HR := Lib.hid hR
  clear hmj hmn hR
  by_cases h0 : rev ≠ 0
  · have HZ : Hid (false = R) := by have := HR.out; rw [decide_eq_false h0] at this; exact this
    have h0' : (rev != 0) = true := by simpa using h0
    clear h0
    go_enter Tryd.func15, Tryd.ntmps15
    go_wp2
    go_ret
    exact ⟨by rw [← HZ.out]; rfl, bW⟩
  have h0 : rev = 0 := by simpa using h0
  subst h0
  have HZ : Hid ((jobs.all (jobFit 2) && nodes.all (nodeFit 2)) = R) := by have := HR.out; exact this
  clear HR
  go_enter Tryd.func15, Tryd.ntmps15
  go_wp2
  go_loopw [19] (fun iv wr => ∃ (i : Nat), iv = .int .i64 (i : Int) ∧ i ≤ jobs.length ∧ Box w.heap.size [.int .i64 0, .slice aj jobs.length cj, .slice an nodes.length cn, .slice al leases.length cl] wr ∧ Below w.heap.size w wr ∧ Hid (∀ j, (hj : j < jobs.length) → j < i → jobFit 2 jobs[j] = true)) (fun iv _ => jobs.length - (intOf iv).toNat)
  case atStart => exact ⟨0, rfl, by omega, q, bW, fun j _ hj => by omega⟩
  case round =>
    clear q bW
    obtain ⟨i, rfl, hi, q, hbr, HS⟩ := hrel
    by_cases h : (i : Int) < (jobs.length : Int)
    · have hil : i < jobs.length := by omega
      obtain ⟨a, rfl, hal, k0, k1, k2, k3, k4⟩ := jobsAt_next HMJ.out hbr i hil
      obtain ⟨x, hxi⟩ : ∃ x, jobs[i] = x := ⟨_, rfl⟩
      rw [hxi] at k0 k1 k2 k3 k4
      have Hxi := Lib.hid hxi
      have hb2 := hbr.alloc hbr.size (.cells #[.string x.name, .int .i64 x.prio, .int .i64 x.need, .int .i64 x.tries, .string x.tag] 42)
      have q2 := box_alloc q (.cells #[.string x.name, .int .i64 x.prio, .int .i64 x.need, .int .i64 x.tries, .string x.tag] 42)
      clear hxi
      rcases str_cases x.tag with ⟨t0, t1, t2⟩ | ⟨t0, t1, t2⟩
      · have HT := Lib.hid t0
        clear t0
        have HF : Hid (false = R) := by have := HZ.out; rw [all_no i hil (by rw [Hxi.out]; exact jobFit_3 (by omega) HT.out)] at this; exact this
        go_wp2
        go_ret
        exact ⟨by rw [← HF.out]; rfl, hb2⟩
      · have HT := Lib.hid t0
        clear t0
        have HS2 : Hid (∀ j, (hj : j < jobs.length) → j < i + 1 → jobFit 2 jobs[j] = true) := by
          intro j hj hji
          by_cases e : j = i
          · subst e; rw [Hxi.out]; exact jobFit_ok (.inr HT.out) (.inl (by omega))
          · exact HS.out j hj (by omega)
        go_wp2
        go_roundw
        case rel => exact ⟨i + 1, by simp, by omega, q2, hb2, HS2⟩
        case measure => simp [intOf]; omega
    · obtain rfl : i = jobs.length := by omega
      have HZ2 : Hid (nodes.all (nodeFit 2) = R) := by have := HZ.out; rw [all_yes (fun j hj => HS.out j hj hj)] at this; exact this
      have k2 := q.1 2 _ rfl
      clear HZ HS
      go_wp2
      go_loopw [43] (fun iv wr => ∃ (i : Nat), iv = .int .i64 (i : Int) ∧ i ≤ nodes.length ∧ Below w.heap.size w wr ∧ Hid (∀ j, (hj : j < nodes.length) → j < i → nodeFit 2 nodes[j] = true)) (fun iv _ => nodes.length - (intOf iv).toNat)
      case atStart => exact ⟨0, rfl, by omega, hbr, fun j _ hj => by omega⟩
      case round =>
        clear q hbr k2 h hi
        obtain ⟨i, rfl, hi, hbr, HS⟩ := hrel
        by_cases h : (i : Int) < (nodes.length : Int)
        · have hil : i < nodes.length := by omega
          obtain ⟨a, rfl, hal, k0, k1, k2⟩ := nodesAt_next HMN.out hbr i hil
          obtain ⟨x, hxi⟩ : ∃ x, nodes[i] = x := ⟨_, rfl⟩
          rw [hxi] at k0 k1 k2
          have Hxi := Lib.hid hxi
          have hb2 := hbr.alloc hbr.size (.cells #[.string x.name, .int .i64 x.room, .string x.zone] 45)
          clear hxi
          have HS2 : Hid (∀ j, (hj : j < nodes.length) → j < i + 1 → nodeFit 2 nodes[j] = true) := by
            intro j hj hji
            by_cases e : j = i
            · subst e; rw [Hxi.out]; exact nodeFit_ok (.inl (by omega))
            · exact HS.out j hj (by omega)
          go_wp2
          go_roundw
          case rel => exact ⟨i + 1, by simp, by omega, hb2, HS2⟩
          case measure => simp [intOf]; omega
        · obtain rfl : i = nodes.length := by omega
          have HF : Hid (true = R) := by have := HZ2.out; rw [all_yes (fun j hj => HS.out j hj hj)] at this; exact this
          go_wp2
          go_ret
          exact ⟨by rw [← HF.out]; rfl, hbr⟩
set_option maxRecDepth 100000 in
set_option maxHeartbeats 4000000 in
theorem rfits_3 (rev : Int) (aj an al : Option Addr) (cj cn cl : Nat) (jobs : List JobD) (nodes : List NodeD) (leases : List LeaseD) (hj : jobs.length ≤ 40) (hn : nodes.length ≤ 20) (w : World) (hmj : JobsAt w aj jobs) (hmn : NodesAt w an nodes) :
    Calls Tryd.prog 15 #[.agg #[.int .i64 rev, .slice aj jobs.length cj, .slice an nodes.length cn, .slice al leases.length cl], .int .i64 3] w fun e w' => e = .returned (.bool (fitsD ⟨rev, jobs, nodes, leases⟩ 3)) ∧ Below w.heap.size w w' := by
  have bW := below_one w (.cells #[.int .i64 rev, .slice aj jobs.length cj, .slice an nodes.length cn, .slice al leases.length cl] 26)
  have q := box_new4 w (.int .i64 rev) (.slice aj jobs.length cj) (.slice an nodes.length cn) (.slice al leases.length cl) 26
  have HMJ := Lib.hid hmj
  have HMN := Lib.hid hmn
  obtain ⟨R, hR⟩ : ∃ R, fitsD ⟨rev, jobs, nodes, leases⟩ 3 = R := ⟨_, rfl⟩
  rw [hR]
  rw [fitsD_is] at hR
  have HR := Lib.hid hR
  clear hmj hmn hR
  have HZ : Hid ((jobs.all (jobFit 3) && nodes.all (nodeFit 3)) = R) := by have := HR.out; exact this
  clear HR
  go_enter Tryd.func15, Tryd.ntmps15
  go_wp2
  go_loopw [19] (fun iv wr => ∃ (i : Nat), iv = .int .i64 (i : Int) ∧ i ≤ jobs.length ∧ Box w.heap.size [.int .i64 rev, .slice aj jobs.length cj, .slice an nodes.length cn, .slice al leases.length cl] wr ∧ Below w.heap.size w wr ∧ Hid (∀ j, (hj : j < jobs.length) → j < i → jobFit 3 jobs[j] = true)) (fun iv _ => jobs.length - (intOf iv).toNat)
  case atStart => exact ⟨0, rfl, by omega, q, bW, fun j _ hj => by omega⟩
  case round =>
    clear q bW
    obtain ⟨i, rfl, hi, q, hbr, HS⟩ := hrel
    by_cases h : (i : Int) < (jobs.length : Int)
    · have hil : i < jobs.length := by omega
      obtain ⟨a, rfl, hal, k0, k1, k2, k3, k4⟩ := jobsAt_next HMJ.out hbr i hil
      obtain ⟨x, hxi⟩ : ∃ x, jobs[i] = x := ⟨_, rfl⟩
      rw [hxi] at k0 k1 k2 k3 k4
      have Hxi := Lib.hid hxi
      have hb2 := hbr.alloc hbr.size (.cells #[.string x.name, .int .i64 x.prio, .int .i64 x.need, .int .i64 x.tries, .string x.tag] 42)
      have q2 := box_alloc q (.cells #[.string x.name, .int .i64 x.prio, .int .i64 x.need, .int .i64 x.tries, .string x.tag] 42)
      clear hxi
      have HS2 : Hid (∀ j, (hj : j < jobs.length) → j < i + 1 → jobFit 3 jobs[j] = true) := by
        intro j hj hji
        by_cases e : j = i
        · subst e; rw [Hxi.out]; exact jobFit_ok (.inl (by omega)) (.inl (by omega))
        · exact HS.out j hj (by omega)
      go_wp2
      go_roundw
      case rel => exact ⟨i + 1, by simp, by omega, q2, hb2, HS2⟩
      case measure => simp [intOf]; omega
    · obtain rfl : i = jobs.length := by omega
      have HZ2 : Hid (nodes.all (nodeFit 3) = R) := by have := HZ.out; rw [all_yes (fun j hj => HS.out j hj hj)] at this; exact this
      have k2 := q.1 2 _ rfl
      clear HZ HS
      go_wp2
      go_loopw [43] (fun iv wr => ∃ (i : Nat), iv = .int .i64 (i : Int) ∧ i ≤ nodes.length ∧ Below w.heap.size w wr ∧ Hid (∀ j, (hj : j < nodes.length) → j < i → nodeFit 3 nodes[j] = true)) (fun iv _ => nodes.length - (intOf iv).toNat)
      case atStart => exact ⟨0, rfl, by omega, hbr, fun j _ hj => by omega⟩
      case round =>
        clear q hbr k2 h hi
        obtain ⟨i, rfl, hi, hbr, HS⟩ := hrel
        by_cases h : (i : Int) < (nodes.length : Int)
        · have hil : i < nodes.length := by omega
          obtain ⟨a, rfl, hal, k0, k1, k2⟩ := nodesAt_next HMN.out hbr i hil
          obtain ⟨x, hxi⟩ : ∃ x, nodes[i] = x := ⟨_, rfl⟩
          rw [hxi] at k0 k1 k2
          have Hxi := Lib.hid hxi
          have hb2 := hbr.alloc hbr.size (.cells #[.string x.name, .int .i64 x.room, .string x.zone] 45)
          clear hxi
          have HS2 : Hid (∀ j, (hj : j < nodes.length) → j < i + 1 → nodeFit 3 nodes[j] = true) := by
            intro j hj hji
            by_cases e : j = i
            · subst e; rw [Hxi.out]; exact nodeFit_ok (.inl (by omega))
            · exact HS.out j hj (by omega)
          go_wp2
          go_roundw
          case rel => exact ⟨i + 1, by simp, by omega, hb2, HS2⟩
          case measure => simp [intOf]; omega
        · obtain rfl : i = nodes.length := by omega
          have HF : Hid (true = R) := by have := HZ2.out; rw [all_yes (fun j hj => HS.out j hj hj)] at this; exact this
          go_wp2
          go_ret
          exact ⟨by rw [← HF.out]; rfl, hbr⟩
theorem rfits_is (rev : Int) (aj an al : Option Addr) (cj cn cl : Nat) (jobs : List JobD) (nodes : List NodeD) (leases : List LeaseD) (v : Int) (hv : 1 ≤ v ∧ v ≤ 3) (hj : jobs.length ≤ 40) (hn : nodes.length ≤ 20) (w : World) (hmj : JobsAt w aj jobs) (hmn : NodesAt w an nodes) :
    Calls Tryd.prog 15 #[.agg #[.int .i64 rev, .slice aj jobs.length cj, .slice an nodes.length cn, .slice al leases.length cl], .int .i64 v] w fun e w' => e = .returned (.bool (fitsD ⟨rev, jobs, nodes, leases⟩ v)) ∧ Below w.heap.size w w' := by
  have : v = 1 ∨ v = 2 ∨ v = 3 := by omega
  rcases this with rfl | rfl | rfl
  · exact rfits_1 rev aj an al cj cn cl jobs nodes leases hj hn w hmj hmn
  · exact rfits_2 rev aj an al cj cn cl jobs nodes leases hj hn w hmj hmn
  · exact rfits_3 rev aj an al cj cn cl jobs nodes leases hj hn w hmj hmn
end Go.Proofs.YtkdjpciegcofbaaDoor
