/- Package up: same; slices.Equal at jobs, nodes and leases (the walks of WiEq, at the library's function). -/
import Derived.Test.YtclopkpfeofjmaaGreatDoorPkWi5
namespace Go.Proofs.YtclopkpfeofjmaaGreatDoor
open Go.RowKit

set_option maxRecDepth 100000 in
set_option maxHeartbeats 4000000 in
theorem equalJobs_is (xs ys : List JobD) (ad ad' : Option Addr) (cap cap' : Nat) (hx1 : xs.length ≤ 140737488355328) (w : World) (hx : JobsAt w ad xs) (hy : JobsAt w ad' ys) :
    Calls Tryz.prog 61 #[.slice ad xs.length cap, .slice ad' ys.length cap'] w fun e w' => ∃ c : Bool, e = .returned (.bool c) ∧ (c = true ↔ xs = ys) ∧ Below w.heap.size w w' := by
  by_cases hl : xs.length = ys.length
  case neg =>
    have hl' : ((xs.length : Int) != (ys.length : Int)) = true := by simp; omega
    have HN : Hid (¬ xs = ys) := fun e => hl (by rw [e])
    clear hx hy hl
    go_enter Tryz.func61, Tryz.ntmps61
    go_wp2
    go_ret
    exact ⟨false, rfl, ⟨fun h => (by cases h), fun h => absurd h HN.out⟩, Below.refl _ _⟩
  have HX := Lib.hid hx
  have HY := Lib.hid hy
  have HL := Lib.hid hl
  clear hx hy hl
  have hl0 : ((xs.length : Int) != (ys.length : Int)) = false := by simp [HL.out]
  go_enter Tryz.func61, Tryz.ntmps61
  go_wp2
  go_loopw [13] (fun iv wr => ∃ (i : Nat), iv = .int .i64 (i : Int) ∧ i ≤ xs.length ∧ Below w.heap.size w wr ∧ Hid (∀ j, j < i → xs[j]? = ys[j]?)) (fun iv _ => xs.length - (intOf iv).toNat)
  case atStart => exact ⟨0, rfl, by omega, Below.refl _ _, fun j hj => by omega⟩
  case round =>
    obtain ⟨i, rfl, hi, hbr, HS⟩ := hrel
    by_cases h : (i : Int) < (xs.length : Int)
    · have hil : i < xs.length := by omega
      have hil' : i < ys.length := by rw [← HL.out]; exact hil
      have hiy : (i : Int) < (ys.length : Int) := by omega
      obtain ⟨a, rfl, hal, k0, k1, k2, k3, k4⟩ := jobsAt_next HX.out hbr i hil
      obtain ⟨x, hxi⟩ : ∃ x, xs[i] = x := ⟨_, rfl⟩
      rw [hxi] at k0 k1 k2 k3 k4
      have bA := hbr
      have hY := jobsAt_next HY.out bA i hil'
      obtain ⟨a', rfl, hal', m0, m1, m2, m3, m4⟩ := hY
      obtain ⟨y, hyi⟩ : ∃ y, ys[i] = y := ⟨_, rfl⟩
      rw [hyi] at m0 m1 m2 m3 m4
      have qx : xs[i]? = some x := by rw [List.getElem?_eq_getElem hil, hxi]
      have qy : ys[i]? = some y := by rw [List.getElem?_eq_getElem hil', hyi]
      have HQ := Lib.hid (And.intro qx qy)
      have BA := Lib.hid bA
      clear hxi hyi qx qy bA
      by_cases hxy : x = y
      · subst hxy
        have h_name := lists_eq x.name
        have h_tag := lists_eq x.tag
        have HS2 : Hid (∀ j, j < i + 1 → xs[j]? = ys[j]?) := fun j hj => by
          by_cases e : j = i
          · subst e; rw [HQ.out.1, HQ.out.2]
          · exact HS.out j (by omega)
        go_wp2_with fail
        go_region
        go_wp2
        go_roundw
        case rel => exact ⟨i + 1, by simp, by omega, BA.out.drew, HS2⟩
        case measure => simp [intOf]; omega
      · have HN : Hid (¬ xs = ys) := fun e => by
          have h1 := HQ.out.1
          rw [e, HQ.out.2] at h1
          simp only [Option.some.injEq] at h1
          exact hxy h1.symm
        have hf := firstJob hxy
        clear hxy
        cases x with | mk x0 x1 x2 x3 x4 =>
        cases y with | mk y0 y1 y2 y3 y4 =>
        simp only at hf k0 k1 k2 k3 k4 m0 m1 m2 m3 m4
        rcases hf with hf | ⟨rfl, hf⟩ | ⟨rfl, rfl, hf⟩ | ⟨rfl, rfl, rfl, hf⟩ | ⟨rfl, rfl, rfl, rfl, hf⟩
        · go_wp2_with fail
          go_region
          go_wp2
          go_ret
          exact ⟨false, rfl, ⟨fun h => (by cases h), fun h => absurd h HN.out⟩, BA.out.drew⟩
        · have g0 := lists_eq x0
          go_wp2_with fail
          go_region
          go_wp2
          go_ret
          exact ⟨false, rfl, ⟨fun h => (by cases h), fun h => absurd h HN.out⟩, BA.out.drew⟩
        · have g0 := lists_eq x0
          go_wp2_with fail
          go_region
          go_wp2
          go_ret
          exact ⟨false, rfl, ⟨fun h => (by cases h), fun h => absurd h HN.out⟩, BA.out.drew⟩
        · have g0 := lists_eq x0
          go_wp2_with fail
          go_region
          go_wp2
          go_ret
          exact ⟨false, rfl, ⟨fun h => (by cases h), fun h => absurd h HN.out⟩, BA.out.drew⟩
        · have g0 := lists_eq x0
          go_wp2_with fail
          go_region
          go_wp2
          go_ret
          exact ⟨false, rfl, ⟨fun h => (by cases h), fun h => absurd h HN.out⟩, BA.out.drew⟩
    · obtain rfl : i = xs.length := by omega
      have HE := Lib.hid (list_same HL.out HS.out)
      go_wp2
      go_ret
      first | exact ⟨true, rfl, ⟨fun _ => HE.out, fun _ => rfl⟩, hbr⟩ | exact .inr ⟨rfl, HE.out, hbr⟩
set_option maxRecDepth 100000 in
set_option maxHeartbeats 4000000 in
theorem equalNodes_is (xs ys : List NodeD) (ad ad' : Option Addr) (cap cap' : Nat) (hx1 : xs.length ≤ 140737488355328) (w : World) (hx : NodesAt w ad xs) (hy : NodesAt w ad' ys) :
    Calls Tryz.prog 62 #[.slice ad xs.length cap, .slice ad' ys.length cap'] w fun e w' => ∃ c : Bool, e = .returned (.bool c) ∧ (c = true ↔ xs = ys) ∧ Below w.heap.size w w' := by
  by_cases hl : xs.length = ys.length
  case neg =>
    have hl' : ((xs.length : Int) != (ys.length : Int)) = true := by simp; omega
    have HN : Hid (¬ xs = ys) := fun e => hl (by rw [e])
    clear hx hy hl
    go_enter Tryz.func62, Tryz.ntmps62
    go_wp2
    go_ret
    exact ⟨false, rfl, ⟨fun h => (by cases h), fun h => absurd h HN.out⟩, Below.refl _ _⟩
  have HX := Lib.hid hx
  have HY := Lib.hid hy
  have HL := Lib.hid hl
  clear hx hy hl
  have hl0 : ((xs.length : Int) != (ys.length : Int)) = false := by simp [HL.out]
  go_enter Tryz.func62, Tryz.ntmps62
  go_wp2
  go_loopw [13] (fun iv wr => ∃ (i : Nat), iv = .int .i64 (i : Int) ∧ i ≤ xs.length ∧ Below w.heap.size w wr ∧ Hid (∀ j, j < i → xs[j]? = ys[j]?)) (fun iv _ => xs.length - (intOf iv).toNat)
  case atStart => exact ⟨0, rfl, by omega, Below.refl _ _, fun j hj => by omega⟩
  case round =>
    obtain ⟨i, rfl, hi, hbr, HS⟩ := hrel
    by_cases h : (i : Int) < (xs.length : Int)
    · have hil : i < xs.length := by omega
      have hil' : i < ys.length := by rw [← HL.out]; exact hil
      have hiy : (i : Int) < (ys.length : Int) := by omega
      obtain ⟨a, rfl, hal, k0, k1, k2⟩ := nodesAt_next HX.out hbr i hil
      obtain ⟨x, hxi⟩ : ∃ x, xs[i] = x := ⟨_, rfl⟩
      rw [hxi] at k0 k1 k2
      have bA := hbr
      have hY := nodesAt_next HY.out bA i hil'
      obtain ⟨a', rfl, hal', m0, m1, m2⟩ := hY
      obtain ⟨y, hyi⟩ : ∃ y, ys[i] = y := ⟨_, rfl⟩
      rw [hyi] at m0 m1 m2
      have qx : xs[i]? = some x := by rw [List.getElem?_eq_getElem hil, hxi]
      have qy : ys[i]? = some y := by rw [List.getElem?_eq_getElem hil', hyi]
      have HQ := Lib.hid (And.intro qx qy)
      have BA := Lib.hid bA
      clear hxi hyi qx qy bA
      by_cases hxy : x = y
      · subst hxy
        have h_name := lists_eq x.name
        have h_zone := lists_eq x.zone
        have HS2 : Hid (∀ j, j < i + 1 → xs[j]? = ys[j]?) := fun j hj => by
          by_cases e : j = i
          · subst e; rw [HQ.out.1, HQ.out.2]
          · exact HS.out j (by omega)
        go_wp2_with fail
        go_region
        go_wp2
        go_roundw
        case rel => exact ⟨i + 1, by simp, by omega, BA.out.drew, HS2⟩
        case measure => simp [intOf]; omega
      · have HN : Hid (¬ xs = ys) := fun e => by
          have h1 := HQ.out.1
          rw [e, HQ.out.2] at h1
          simp only [Option.some.injEq] at h1
          exact hxy h1.symm
        have hf := firstNode hxy
        clear hxy
        cases x with | mk x0 x1 x2 =>
        cases y with | mk y0 y1 y2 =>
        simp only at hf k0 k1 k2 m0 m1 m2
        rcases hf with hf | ⟨rfl, hf⟩ | ⟨rfl, rfl, hf⟩
        · go_wp2_with fail
          go_region
          go_wp2
          go_ret
          exact ⟨false, rfl, ⟨fun h => (by cases h), fun h => absurd h HN.out⟩, BA.out.drew⟩
        · have g0 := lists_eq x0
          go_wp2_with fail
          go_region
          go_wp2
          go_ret
          exact ⟨false, rfl, ⟨fun h => (by cases h), fun h => absurd h HN.out⟩, BA.out.drew⟩
        · have g0 := lists_eq x0
          go_wp2_with fail
          go_region
          go_wp2
          go_ret
          exact ⟨false, rfl, ⟨fun h => (by cases h), fun h => absurd h HN.out⟩, BA.out.drew⟩
    · obtain rfl : i = xs.length := by omega
      have HE := Lib.hid (list_same HL.out HS.out)
      go_wp2
      go_ret
      first | exact ⟨true, rfl, ⟨fun _ => HE.out, fun _ => rfl⟩, hbr⟩ | exact .inr ⟨rfl, HE.out, hbr⟩
set_option maxRecDepth 100000 in
set_option maxHeartbeats 4000000 in
theorem equalLeases_is (xs ys : List LeaseD) (ad ad' : Option Addr) (cap cap' : Nat) (hx1 : xs.length ≤ 140737488355328) (w : World) (hx : LeasesAt w ad xs) (hy : LeasesAt w ad' ys) :
    Calls Tryz.prog 63 #[.slice ad xs.length cap, .slice ad' ys.length cap'] w fun e w' => ∃ c : Bool, e = .returned (.bool c) ∧ (c = true ↔ xs = ys) ∧ Below w.heap.size w w' := by
  by_cases hl : xs.length = ys.length
  case neg =>
    have hl' : ((xs.length : Int) != (ys.length : Int)) = true := by simp; omega
    have HN : Hid (¬ xs = ys) := fun e => hl (by rw [e])
    clear hx hy hl
    go_enter Tryz.func63, Tryz.ntmps63
    go_wp2
    go_ret
    exact ⟨false, rfl, ⟨fun h => (by cases h), fun h => absurd h HN.out⟩, Below.refl _ _⟩
  have HX := Lib.hid hx
  have HY := Lib.hid hy
  have HL := Lib.hid hl
  clear hx hy hl
  have hl0 : ((xs.length : Int) != (ys.length : Int)) = false := by simp [HL.out]
  go_enter Tryz.func63, Tryz.ntmps63
  go_wp2
  go_loopw [13] (fun iv wr => ∃ (i : Nat), iv = .int .i64 (i : Int) ∧ i ≤ xs.length ∧ Below w.heap.size w wr ∧ Hid (∀ j, j < i → xs[j]? = ys[j]?)) (fun iv _ => xs.length - (intOf iv).toNat)
  case atStart => exact ⟨0, rfl, by omega, Below.refl _ _, fun j hj => by omega⟩
  case round =>
    obtain ⟨i, rfl, hi, hbr, HS⟩ := hrel
    by_cases h : (i : Int) < (xs.length : Int)
    · have hil : i < xs.length := by omega
      have hil' : i < ys.length := by rw [← HL.out]; exact hil
      have hiy : (i : Int) < (ys.length : Int) := by omega
      obtain ⟨a, rfl, hal, k0, k1, k2⟩ := leasesAt_next HX.out hbr i hil
      obtain ⟨x, hxi⟩ : ∃ x, xs[i] = x := ⟨_, rfl⟩
      rw [hxi] at k0 k1 k2
      have bA := hbr
      have hY := leasesAt_next HY.out bA i hil'
      obtain ⟨a', rfl, hal', m0, m1, m2⟩ := hY
      obtain ⟨y, hyi⟩ : ∃ y, ys[i] = y := ⟨_, rfl⟩
      rw [hyi] at m0 m1 m2
      have qx : xs[i]? = some x := by rw [List.getElem?_eq_getElem hil, hxi]
      have qy : ys[i]? = some y := by rw [List.getElem?_eq_getElem hil', hyi]
      have HQ := Lib.hid (And.intro qx qy)
      have BA := Lib.hid bA
      clear hxi hyi qx qy bA
      by_cases hxy : x = y
      · subst hxy
        have h_job := lists_eq x.job
        have h_node := lists_eq x.node
        have HS2 : Hid (∀ j, j < i + 1 → xs[j]? = ys[j]?) := fun j hj => by
          by_cases e : j = i
          · subst e; rw [HQ.out.1, HQ.out.2]
          · exact HS.out j (by omega)
        go_wp2_with fail
        go_region
        go_wp2
        go_roundw
        case rel => exact ⟨i + 1, by simp, by omega, BA.out.drew, HS2⟩
        case measure => simp [intOf]; omega
      · have HN : Hid (¬ xs = ys) := fun e => by
          have h1 := HQ.out.1
          rw [e, HQ.out.2] at h1
          simp only [Option.some.injEq] at h1
          exact hxy h1.symm
        have hf := firstLease hxy
        clear hxy
        cases x with | mk x0 x1 x2 =>
        cases y with | mk y0 y1 y2 =>
        simp only at hf k0 k1 k2 m0 m1 m2
        rcases hf with hf | ⟨rfl, hf⟩ | ⟨rfl, rfl, hf⟩
        · go_wp2_with fail
          go_region
          go_wp2
          go_ret
          exact ⟨false, rfl, ⟨fun h => (by cases h), fun h => absurd h HN.out⟩, BA.out.drew⟩
        · have g0 := lists_eq x0
          go_wp2_with fail
          go_region
          go_wp2
          go_ret
          exact ⟨false, rfl, ⟨fun h => (by cases h), fun h => absurd h HN.out⟩, BA.out.drew⟩
        · have g0 := lists_eq x0
          have g1 := lists_eq x1
          go_wp2_with fail
          go_region
          go_wp2
          go_ret
          exact ⟨false, rfl, ⟨fun h => (by cases h), fun h => absurd h HN.out⟩, BA.out.drew⟩
    · obtain rfl : i = xs.length := by omega
      have HE := Lib.hid (list_same HL.out HS.out)
      go_wp2
      go_ret
      first | exact ⟨true, rfl, ⟨fun _ => HE.out, fun _ => rfl⟩, hbr⟩ | exact .inr ⟨rfl, HE.out, hbr⟩
set_option maxRecDepth 100000 in
set_option maxHeartbeats 4000000 in
theorem usame_is (s t : StD) (aj an al aj' an' al' : Option Addr) (cj cn cl cj' cn' cl' : Nat) (hs : s.jobs.length ≤ 140737488355328 ∧ s.nodes.length ≤ 140737488355328 ∧ s.leases.length ≤ 140737488355328) (w : World)
    (hj : JobsAt w aj s.jobs) (hn : NodesAt w an s.nodes) (hl : LeasesAt w al s.leases) (hj' : JobsAt w aj' t.jobs) (hn' : NodesAt w an' t.nodes) (hl' : LeasesAt w al' t.leases) :
    Calls Tryz.prog 22 #[.agg #[.int .i64 s.rev, .slice aj s.jobs.length cj, .slice an s.nodes.length cn, .slice al s.leases.length cl], .agg #[.int .i64 t.rev, .slice aj' t.jobs.length cj', .slice an' t.nodes.length cn', .slice al' t.leases.length cl']] w fun e w' => ∃ c : Bool, e = .returned (.bool c) ∧ (c = true ↔ s = t) ∧ Below w.heap.size w w' := by
  obtain ⟨W, hW⟩ : ∃ W, (w.alloc (.cells #[.int .i64 s.rev, .slice aj s.jobs.length cj, .slice an s.nodes.length cn, .slice al s.leases.length cl] 30)).alloc (.cells #[.int .i64 t.rev, .slice aj' t.jobs.length cj', .slice an' t.nodes.length cn', .slice al' t.leases.length cl'] 30) = W := ⟨_, rfl⟩
  have q1 := box_alloc (box_new4 w (.int .i64 s.rev) (.slice aj s.jobs.length cj) (.slice an s.nodes.length cn) (.slice al s.leases.length cl) 30) (.cells #[.int .i64 t.rev, .slice aj' t.jobs.length cj', .slice an' t.nodes.length cn', .slice al' t.leases.length cl'] 30)
  have q2 := box_new4 (w.alloc (.cells #[.int .i64 s.rev, .slice aj s.jobs.length cj, .slice an s.nodes.length cn, .slice al s.leases.length cl] 30)) (.int .i64 t.rev) (.slice aj' t.jobs.length cj') (.slice an' t.nodes.length cn') (.slice al' t.leases.length cl') 30
  have bW : Below w.heap.size w W := by rw [← hW]; exact below_trans (below_one _ _) (below_one _ _) (by simp)
  rw [hW] at q1 q2
  rw [World.size_alloc] at q2
  have E := Lib.hid (@st_eq s t)
  have HJ := Lib.hid (fun W' (hb : Below w.heap.size w W') => equalJobs_is s.jobs t.jobs aj aj' cj cj' hs.1 W' (jobsAt_next hj hb) (jobsAt_next hj' hb))
  have HN := Lib.hid (fun W' (hb : Below w.heap.size w W') => equalNodes_is s.nodes t.nodes an an' cn cn' hs.2.1 W' (nodesAt_next hn hb) (nodesAt_next hn' hb))
  have HL := Lib.hid (fun W' (hb : Below w.heap.size w W') => equalLeases_is s.leases t.leases al al' cl cl' hs.2.2 W' (leasesAt_next hl hb) (leasesAt_next hl' hb))
  have Q1 := Lib.hid q1
  have Q2 := Lib.hid q2
  have a0 := q1.1 0 _ rfl
  have a1 := q1.1 1 _ rfl
  have b0 := q2.1 0 _ rfl
  have b1 := q2.1 1 _ rfl
  have HW := Lib.hid hW
  have BW := Lib.hid bW
  clear hj hn hl hj' hn' hl' q1 q2 hs bW
  by_cases h0 : s.rev = t.rev
  · have h0' : (s.rev == t.rev) = true := by simpa using h0
    have HJ1 := Lib.hid (HJ.out W BW.out)
    have H0 := Lib.hid h0
    clear h0
    go_enter Tryz.func22, Tryz.ntmps22
    go_wp2_with fail
    refine HJ1.out.mono ?_
    rintro e w1 ⟨c1, rfl, i1, x1⟩
    have B1 := below_trans BW.out x1 BW.out.size
    have p1 := box_next Q1.out x1
    have p2 := box_next Q2.out x1
    have a2 := p1.1 2 _ rfl
    have b2 := p2.1 2 _ rfl
    have I1 := Lib.hid i1
    clear a0 a1 b0 b1 i1
    cases c1 with
    | false =>
      go_wp2
      go_ret
      exact ⟨false, rfl, ⟨fun h => (by cases h), fun h => by have := I1.out.2 (E.out.1 h).2.1; cases this⟩, B1⟩
    | true =>
      have HN1 := Lib.hid (HN.out w1 B1)
      go_wp2_with fail
      refine HN1.out.mono ?_
      rintro e w2 ⟨c2, rfl, i2, x2⟩
      have B2 := below_trans B1 x2 B1.size
      have r1 := box_next p1 x2
      have r2 := box_next p2 x2
      have a3 := r1.1 3 _ rfl
      have b3 := r2.1 3 _ rfl
      have I2 := Lib.hid i2
      clear a2 b2 i2
      cases c2 with
      | false =>
        go_wp2
        go_ret
        exact ⟨false, rfl, ⟨fun h => (by cases h), fun h => by have := I2.out.2 (E.out.1 h).2.2.1; cases this⟩, B2⟩
      | true =>
        have HL1 := Lib.hid (HL.out w2 B2)
        go_wp2_with fail
        refine HL1.out.mono ?_
        rintro e w3 ⟨c3, rfl, i3, x3⟩
        have B3 := below_trans B2 x3 B2.size
        have I3 := Lib.hid i3
        clear i3 a3 b3
        go_wp2
        go_ret
        exact ⟨c3, rfl, ⟨fun h => E.out.2 ⟨H0.out, I1.out.1 (by simp), I2.out.1 (by simp), I3.out.1 h⟩, fun h => I3.out.2 (E.out.1 h).2.2.2⟩, B3⟩
  · have h0' : (s.rev == t.rev) = false := by simpa using h0
    have H0 := Lib.hid h0
    clear h0
    go_enter Tryz.func22, Tryz.ntmps22
    go_wp2
    go_ret
    exact ⟨false, rfl, ⟨fun h => (by cases h), fun h => absurd (E.out.1 h).1 H0.out⟩, BW.out⟩
end Go.Proofs.YtclopkpfeofjmaaGreatDoor
