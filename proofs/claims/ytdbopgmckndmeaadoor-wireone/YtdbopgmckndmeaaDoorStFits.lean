/- state.Fits and state.Used at every state. -/
import Derived.Test.YtdbopgmckndmeaaDoorStCheck2
namespace Go.Proofs.YtdbopgmckndmeaaDoor
open Go.RowKit

def tagged (j : JobD) : Bool := decide (j.tag.size ≠ 0)
def tried (j : JobD) : Bool := decide (j.tries ≠ 0)
def zoned (n : NodeD) : Bool := decide (n.zone.size ≠ 0)
def n3 (s : StD) : Bool := decide (s.rev ≠ 0) || s.jobs.any tagged
def n2 (s : StD) : Bool := s.jobs.any tried || s.nodes.any zoned
theorem fits_one (s : StD) : fitsD s 1 = (!n3 s && !n2 s) := by
  rw [Bool.eq_iff_iff]
  simp only [fitsD, n3, n2, tagged, tried, zoned, Bool.and_eq_true, Bool.or_eq_true, List.all_eq_true, decide_eq_true_eq, Bool.not_eq_true', Bool.or_eq_false_iff, List.any_eq_false, decide_eq_false_iff_not, ne_eq, Decidable.not_not]
  constructor
  · rintro ⟨⟨h1, h2⟩, h3⟩
    refine ⟨⟨by omega, fun j hj => ?_⟩, fun j hj => ?_, fun n hn => ?_⟩
    · have := (h2 j hj).1; omega
    · have := (h2 j hj).2; omega
    · have := h3 n hn; omega
  · rintro ⟨⟨h1, h2⟩, h3, h4⟩
    refine ⟨⟨by omega, fun j hj => ⟨?_, ?_⟩⟩, fun n hn => ?_⟩
    · exact .inr (h2 j hj)
    · exact .inr (h3 j hj)
    · exact .inr (h4 n hn)
theorem fits_two (s : StD) : fitsD s 2 = !n3 s := by
  rw [Bool.eq_iff_iff]
  simp only [fitsD, n3, tagged, Bool.and_eq_true, Bool.or_eq_true, List.all_eq_true, decide_eq_true_eq, Bool.not_eq_true', Bool.or_eq_false_iff, List.any_eq_false, decide_eq_false_iff_not, ne_eq, Decidable.not_not]
  constructor
  · rintro ⟨⟨h1, h2⟩, _⟩
    refine ⟨by omega, fun j hj => ?_⟩
    have := (h2 j hj).1; omega
  · rintro ⟨h1, h2⟩
    exact ⟨⟨by omega, fun j hj => ⟨.inr (h2 j hj), .inl (by omega)⟩⟩, fun n _ => .inl (by omega)⟩
theorem any_stop {α : Type} {p : α → Bool} {l : List α} {i : Nat} (h : i < l.length) (hp : p l[i] = true) : l.any p = true := any_yes i h hp
theorem any_end {α : Type} {p : α → Bool} {l : List α} (h : ∀ j, (hj : j < l.length) → j < l.length → p l[j] = false) : l.any p = false := any_no (fun j hj => h j hj hj)
theorem tagged_is (x : JobD) (w : World) : Calls Tryd.prog 89 #[.agg #[.string x.name, .int .i64 x.prio, .int .i64 x.need, .int .i64 x.tries, .string x.tag]] w fun e w' => e = .returned (.bool (tagged x)) ∧ Below w.heap.size w w' := by
  by_cases h : x.tag.size ≠ 0
  · have ht : tagged x = true := decide_eq_true h
    rw [ht]
    obtain ⟨h1, h2⟩ := not_empty h
    clear h ht
    go_enter Tryd.func89, Tryd.ntmps89
    go_wp2
    go_ret
    exact ⟨rfl, below_one _ _⟩
  · have ht : tagged x = false := decide_eq_false h
    rw [ht]
    have h1 := empty_size h
    clear h ht
    go_enter Tryd.func89, Tryd.ntmps89
    go_wp2
    go_ret
    exact ⟨rfl, below_one _ _⟩
theorem tried_is (x : JobD) (w : World) : Calls Tryd.prog 90 #[.agg #[.string x.name, .int .i64 x.prio, .int .i64 x.need, .int .i64 x.tries, .string x.tag]] w fun e w' => e = .returned (.bool (tried x)) ∧ Below w.heap.size w w' := by
  by_cases h : x.tries ≠ 0
  · have ht : tried x = true := decide_eq_true h
    rw [ht]
    have h1 : (x.tries != 0) = true := by simpa using h
    go_enter Tryd.func90, Tryd.ntmps90
    go_wp2
    go_ret
    exact ⟨rfl, below_one _ _⟩
  · have ht : tried x = false := decide_eq_false h
    rw [ht]
    have h1 : (x.tries != 0) = false := by simpa using h
    clear h
    go_enter Tryd.func90, Tryd.ntmps90
    go_wp2
    go_ret
    exact ⟨rfl, below_one _ _⟩
theorem zoned_is (x : NodeD) (w : World) : Calls Tryd.prog 92 #[.agg #[.string x.name, .int .i64 x.room, .string x.zone]] w fun e w' => e = .returned (.bool (zoned x)) ∧ Below w.heap.size w w' := by
  by_cases h : x.zone.size ≠ 0
  · have ht : zoned x = true := decide_eq_true h
    rw [ht]
    obtain ⟨h1, h2⟩ := not_empty h
    clear h ht
    go_enter Tryd.func92, Tryd.ntmps92
    go_wp2
    go_ret
    exact ⟨rfl, below_one _ _⟩
  · have ht : zoned x = false := decide_eq_false h
    rw [ht]
    have h1 := empty_size h
    clear h ht
    go_enter Tryd.func92, Tryd.ntmps92
    go_wp2
    go_ret
    exact ⟨rfl, below_one _ _⟩
set_option maxRecDepth 100000 in
set_option maxHeartbeats 1000000 in
theorem index_tagged (xs : List JobD)
    (ad : Option Addr) (cap : Nat) (hlen : xs.length ≤ 40) (w : World) (hx : JobsAt w ad xs) :
    Calls Tryd.prog 110 #[.slice ad xs.length cap, .func (.func 89) #[] #[]] w fun e w' => ∃ r : Int, e = .returned (.int .i64 r) ∧ decide (0 ≤ r) = xs.any tagged ∧ Below w.heap.size w w' := by
  have HX := Lib.hid hx
  clear hx
  go_enter Tryd.func110, Tryd.ntmps110
  go_wp2
  go_loopw [8] (fun iv wr => ∃ (i : Nat), iv = .int .i64 (i : Int) ∧ i ≤ xs.length ∧ Below w.heap.size w wr ∧ Hid (∀ j, (hj : j < xs.length) → j < i → tagged xs[j] = false)) (fun iv _ => xs.length - (intOf iv).toNat)
  case atStart => exact ⟨0, rfl, by omega, Below.refl _ _, fun j _ hj => by omega⟩
  case round =>
    obtain ⟨i, rfl, hi, hbr, HS⟩ := hrel
    by_cases h : (i : Int) < (xs.length : Int)
    · have hil : i < xs.length := by omega
      obtain ⟨a, rfl, hal, k0, k1, k2, k3, k4⟩ := jobsAt_next HX.out hbr i hil
      obtain ⟨x, hxi⟩ : ∃ x, xs[i] = x := ⟨_, rfl⟩
      rw [hxi] at k0 k1 k2 k3 k4
      have HPx := Lib.hid (tagged_is x)
      have Hxi := Lib.hid hxi
      clear hxi
      obtain ⟨c, hc⟩ : ∃ c, tagged x = c := ⟨_, rfl⟩
      rw [hc] at HPx
      have HCc := Lib.hid hc
      clear hc
      go_wp2_with fail
      refine (HPx.out _).mono ?_
      rintro e w1 ⟨rfl, b1⟩
      have hb1 := below_trans hbr b1 hbr.size
      cases c with
      | true =>
        have HR : Hid (true = xs.any tagged) := (any_stop hil (by rw [Hxi.out]; exact HCc.out)).symm
        go_wp2
        go_ret
        exact ⟨_, rfl, by rw [← HR.out]; simp, hb1⟩
      | false =>
        have HS2 : Hid (∀ j, (hj : j < xs.length) → j < i + 1 → tagged xs[j] = false) := by
          intro j hj hji
          by_cases e : j = i
          · subst e; rw [Hxi.out]; exact HCc.out
          · exact HS.out j hj (by omega)
        go_wp2
        go_roundw
        case rel => exact ⟨i + 1, by simp, by omega, hb1, HS2⟩
        case measure => simp [intOf]; omega
    · obtain rfl : i = xs.length := by omega
      have HR : Hid (false = xs.any tagged) := (any_end HS.out).symm
      go_wp2
      go_ret
      exact ⟨-1, rfl, by rw [← HR.out]; rfl, hbr⟩
theorem contains_tagged (xs : List JobD)
    (ad : Option Addr) (cap : Nat) (hlen : xs.length ≤ 40) (w : World) (hx : JobsAt w ad xs) :
    Calls Tryd.prog 88 #[.slice ad xs.length cap, .func (.func 89) #[] #[]] w fun e w' => e = .returned (.bool (xs.any tagged)) ∧ Below w.heap.size w w' := by
  have H := Lib.hid (index_tagged xs ad cap hlen w hx)
  obtain ⟨c, hc⟩ : ∃ c, xs.any tagged = c := ⟨_, rfl⟩
  rw [hc] at H ⊢
  clear hc hx
  go_enter Tryd.func88, Tryd.ntmps88
  go_wp2_with fail
  refine H.out.mono ?_
  rintro e w1 ⟨r, rfl, hr, b1⟩
  go_wp2
  go_ret
  exact ⟨by rw [← hr]; rfl, b1⟩
set_option maxRecDepth 100000 in
set_option maxHeartbeats 1000000 in
theorem index_tried (xs : List JobD)
    (ad : Option Addr) (cap : Nat) (hlen : xs.length ≤ 40) (w : World) (hx : JobsAt w ad xs) :
    Calls Tryd.prog 110 #[.slice ad xs.length cap, .func (.func 90) #[] #[]] w fun e w' => ∃ r : Int, e = .returned (.int .i64 r) ∧ decide (0 ≤ r) = xs.any tried ∧ Below w.heap.size w w' := by
  have HX := Lib.hid hx
  clear hx
  go_enter Tryd.func110, Tryd.ntmps110
  go_wp2
  go_loopw [8] (fun iv wr => ∃ (i : Nat), iv = .int .i64 (i : Int) ∧ i ≤ xs.length ∧ Below w.heap.size w wr ∧ Hid (∀ j, (hj : j < xs.length) → j < i → tried xs[j] = false)) (fun iv _ => xs.length - (intOf iv).toNat)
  case atStart => exact ⟨0, rfl, by omega, Below.refl _ _, fun j _ hj => by omega⟩
  case round =>
    obtain ⟨i, rfl, hi, hbr, HS⟩ := hrel
    by_cases h : (i : Int) < (xs.length : Int)
    · have hil : i < xs.length := by omega
      obtain ⟨a, rfl, hal, k0, k1, k2, k3, k4⟩ := jobsAt_next HX.out hbr i hil
      obtain ⟨x, hxi⟩ : ∃ x, xs[i] = x := ⟨_, rfl⟩
      rw [hxi] at k0 k1 k2 k3 k4
      have HPx := Lib.hid (tried_is x)
      have Hxi := Lib.hid hxi
      clear hxi
      obtain ⟨c, hc⟩ : ∃ c, tried x = c := ⟨_, rfl⟩
      rw [hc] at HPx
      have HCc := Lib.hid hc
      clear hc
      go_wp2_with fail
      refine (HPx.out _).mono ?_
      rintro e w1 ⟨rfl, b1⟩
      have hb1 := below_trans hbr b1 hbr.size
      cases c with
      | true =>
        have HR : Hid (true = xs.any tried) := (any_stop hil (by rw [Hxi.out]; exact HCc.out)).symm
        go_wp2
        go_ret
        exact ⟨_, rfl, by rw [← HR.out]; simp, hb1⟩
      | false =>
        have HS2 : Hid (∀ j, (hj : j < xs.length) → j < i + 1 → tried xs[j] = false) := by
          intro j hj hji
          by_cases e : j = i
          · subst e; rw [Hxi.out]; exact HCc.out
          · exact HS.out j hj (by omega)
        go_wp2
        go_roundw
        case rel => exact ⟨i + 1, by simp, by omega, hb1, HS2⟩
        case measure => simp [intOf]; omega
    · obtain rfl : i = xs.length := by omega
      have HR : Hid (false = xs.any tried) := (any_end HS.out).symm
      go_wp2
      go_ret
      exact ⟨-1, rfl, by rw [← HR.out]; rfl, hbr⟩
theorem contains_tried (xs : List JobD)
    (ad : Option Addr) (cap : Nat) (hlen : xs.length ≤ 40) (w : World) (hx : JobsAt w ad xs) :
    Calls Tryd.prog 88 #[.slice ad xs.length cap, .func (.func 90) #[] #[]] w fun e w' => e = .returned (.bool (xs.any tried)) ∧ Below w.heap.size w w' := by
  have H := Lib.hid (index_tried xs ad cap hlen w hx)
  obtain ⟨c, hc⟩ : ∃ c, xs.any tried = c := ⟨_, rfl⟩
  rw [hc] at H ⊢
  clear hc hx
  go_enter Tryd.func88, Tryd.ntmps88
  go_wp2_with fail
  refine H.out.mono ?_
  rintro e w1 ⟨r, rfl, hr, b1⟩
  go_wp2
  go_ret
  exact ⟨by rw [← hr]; rfl, b1⟩
set_option maxRecDepth 100000 in
set_option maxHeartbeats 1000000 in
theorem index_zoned (xs : List NodeD)
    (ad : Option Addr) (cap : Nat) (hlen : xs.length ≤ 40) (w : World) (hx : NodesAt w ad xs) :
    Calls Tryd.prog 111 #[.slice ad xs.length cap, .func (.func 92) #[] #[]] w fun e w' => ∃ r : Int, e = .returned (.int .i64 r) ∧ decide (0 ≤ r) = xs.any zoned ∧ Below w.heap.size w w' := by
  have HX := Lib.hid hx
  clear hx
  go_enter Tryd.func111, Tryd.ntmps111
  go_wp2
  go_loopw [8] (fun iv wr => ∃ (i : Nat), iv = .int .i64 (i : Int) ∧ i ≤ xs.length ∧ Below w.heap.size w wr ∧ Hid (∀ j, (hj : j < xs.length) → j < i → zoned xs[j] = false)) (fun iv _ => xs.length - (intOf iv).toNat)
  case atStart => exact ⟨0, rfl, by omega, Below.refl _ _, fun j _ hj => by omega⟩
  case round =>
    obtain ⟨i, rfl, hi, hbr, HS⟩ := hrel
    by_cases h : (i : Int) < (xs.length : Int)
    · have hil : i < xs.length := by omega
      obtain ⟨a, rfl, hal, k0, k1, k2⟩ := nodesAt_next HX.out hbr i hil
      obtain ⟨x, hxi⟩ : ∃ x, xs[i] = x := ⟨_, rfl⟩
      rw [hxi] at k0 k1 k2
      have HPx := Lib.hid (zoned_is x)
      have Hxi := Lib.hid hxi
      clear hxi
      obtain ⟨c, hc⟩ : ∃ c, zoned x = c := ⟨_, rfl⟩
      rw [hc] at HPx
      have HCc := Lib.hid hc
      clear hc
      go_wp2_with fail
      refine (HPx.out _).mono ?_
      rintro e w1 ⟨rfl, b1⟩
      have hb1 := below_trans hbr b1 hbr.size
      cases c with
      | true =>
        have HR : Hid (true = xs.any zoned) := (any_stop hil (by rw [Hxi.out]; exact HCc.out)).symm
        go_wp2
        go_ret
        exact ⟨_, rfl, by rw [← HR.out]; simp, hb1⟩
      | false =>
        have HS2 : Hid (∀ j, (hj : j < xs.length) → j < i + 1 → zoned xs[j] = false) := by
          intro j hj hji
          by_cases e : j = i
          · subst e; rw [Hxi.out]; exact HCc.out
          · exact HS.out j hj (by omega)
        go_wp2
        go_roundw
        case rel => exact ⟨i + 1, by simp, by omega, hb1, HS2⟩
        case measure => simp [intOf]; omega
    · obtain rfl : i = xs.length := by omega
      have HR : Hid (false = xs.any zoned) := (any_end HS.out).symm
      go_wp2
      go_ret
      exact ⟨-1, rfl, by rw [← HR.out]; rfl, hbr⟩
theorem contains_zoned (xs : List NodeD)
    (ad : Option Addr) (cap : Nat) (hlen : xs.length ≤ 40) (w : World) (hx : NodesAt w ad xs) :
    Calls Tryd.prog 91 #[.slice ad xs.length cap, .func (.func 92) #[] #[]] w fun e w' => e = .returned (.bool (xs.any zoned)) ∧ Below w.heap.size w w' := by
  have H := Lib.hid (index_zoned xs ad cap hlen w hx)
  obtain ⟨c, hc⟩ : ∃ c, xs.any zoned = c := ⟨_, rfl⟩
  rw [hc] at H ⊢
  clear hc hx
  go_enter Tryd.func91, Tryd.ntmps91
  go_wp2_with fail
  refine H.out.mono ?_
  rintro e w1 ⟨r, rfl, hr, b1⟩
  go_wp2
  go_ret
  exact ⟨by rw [← hr]; rfl, b1⟩
/-- What Fits answers, and Used. -/
def fitsR (s : StD) (v : Int) : Bool × Nat := if checkE V8 s ≠ 0 then (false, checkE V8 s) else if 1 ≤ v ∧ v ≤ 3 then (fitsD s v, 0) else (false, 1)
def usedR (s : StD) (x : ByteArray) : Int × Nat := if checkE V8 s ≠ 0 then (0, checkE V8 s) else if hasNode s.nodes x = true then (usedD s.jobs s.leases x, 0) else (0, 6)
set_option maxRecDepth 100000 in
set_option maxHeartbeats 1000000 in
theorem needsThree_is (rev : Int) (aj an al : Option Addr) (cj cn cl : Nat) (jobs : List JobD) (nodes : List NodeD) (leases : List LeaseD) (hj : jobs.length ≤ 40) (w : World) (hmj : JobsAt w aj jobs) :
    Calls Tryd.prog 44 #[.agg #[.int .i64 rev, .slice aj jobs.length cj, .slice an nodes.length cn, .slice al leases.length cl]] w fun e w' => e = .returned (.bool (n3 ⟨rev, jobs, nodes, leases⟩)) ∧ Below w.heap.size w w' := by
  have H := Lib.hid (contains_tagged jobs aj cj hj (w.alloc (.cells #[.int .i64 rev, .slice aj jobs.length cj, .slice an nodes.length cn, .slice al leases.length cl] 26)) (jobsAt_next hmj (below_one _ _)))
  clear hmj
  by_cases h : rev ≠ 0
  · have hr : n3 ⟨rev, jobs, nodes, leases⟩ = true := by simp [n3, h]
    have h1 : (rev != 0) = true := by simpa using h
    rw [hr]
    go_enter Tryd.func44, Tryd.ntmps44
    go_wp2
    go_ret
    exact ⟨rfl, below_one _ _⟩
  · have h0 : rev = 0 := by simpa using h
    subst h0
    have hr : n3 ⟨0, jobs, nodes, leases⟩ = jobs.any tagged := by simp [n3]
    rw [hr]
    clear hr h
    generalize jobs.any tagged = c at *
    go_enter Tryd.func44, Tryd.ntmps44
    go_wp2_with fail
    refine H.out.mono ?_
    rintro e w1 ⟨rfl, b1⟩
    go_wp2
    go_ret
    exact ⟨rfl, below_trans (below_one _ _) b1 (by simp)⟩
set_option maxRecDepth 100000 in
set_option maxHeartbeats 1000000 in
theorem needsTwo_is (rev : Int) (aj an al : Option Addr) (cj cn cl : Nat) (jobs : List JobD) (nodes : List NodeD) (leases : List LeaseD) (hj : jobs.length ≤ 40) (hn : nodes.length ≤ 20) (w : World) (hmj : JobsAt w aj jobs) (hmn : NodesAt w an nodes) :
    Calls Tryd.prog 45 #[.agg #[.int .i64 rev, .slice aj jobs.length cj, .slice an nodes.length cn, .slice al leases.length cl]] w fun e w' => e = .returned (.bool (n2 ⟨rev, jobs, nodes, leases⟩)) ∧ Below w.heap.size w w' := by
  have q := box_new4 w (.int .i64 rev) (.slice aj jobs.length cj) (.slice an nodes.length cn) (.slice al leases.length cl) 26
  have hm1 := Lib.hid (nodesAt_next hmn (below_one w (.cells #[.int .i64 rev, .slice aj jobs.length cj, .slice an nodes.length cn, .slice al leases.length cl] 26)))
  have H := Lib.hid (contains_tried jobs aj cj hj (w.alloc (.cells #[.int .i64 rev, .slice aj jobs.length cj, .slice an nodes.length cn, .slice al leases.length cl] 26)) (jobsAt_next hmj (below_one _ _)))
  have hr : n2 ⟨rev, jobs, nodes, leases⟩ = (jobs.any tried || nodes.any zoned) := rfl
  rw [hr]
  clear hr hmj hmn
  obtain ⟨c, hc⟩ : ∃ c, jobs.any tried = c := ⟨_, rfl⟩
  rw [hc] at H ⊢
  clear hc
  go_enter Tryd.func45, Tryd.ntmps45
  go_wp2_with fail
  refine H.out.mono ?_
  rintro e w1 ⟨rfl, b1⟩
  have k2 := (box_next q b1).1 2 _ rfl
  have hb1 := below_trans (below_one _ _) b1 (by simp)
  cases c with
  | true =>
    go_wp2
    go_ret
    exact ⟨rfl, hb1⟩
  | false =>
    have H2 := Lib.hid (contains_zoned nodes an cn (by omega) w1 (nodesAt_next hm1.out b1))
    go_wp2_with fail
    refine H2.out.mono ?_
    rintro e w2 ⟨rfl, b2⟩
    go_wp2
    go_ret
    exact ⟨rfl, below_trans hb1 b2 hb1.size⟩
end Go.Proofs.YtdbopgmckndmeaaDoor
