/- Package up: each, at every function that it is handed. -/
import Derived.Test.YtclopkpfeofjmaaGreatDoorUpOne
namespace Go.Proofs.YtclopkpfeofjmaaGreatDoor
open Go.RowKit

theorem map_take {α β : Type} (g : α → β) (xs : List α) (i : Nat) (h : i < xs.length) : (xs.take (i + 1)).map g = (xs.take i).map g ++ [g xs[i]] := by rw [List.take_add_one, List.map_append, List.getElem?_eq_getElem h]; rfl
set_option maxRecDepth 100000 in
set_option maxHeartbeats 4000000 in
theorem eachJ_sep (xs : List JobD) (ad : Option Addr) (cap : Nat) (hlen : xs.length ≤ 40) (w : World) (hx : JobsAt w ad xs)
    (hF : ∀ x ∈ xs, ∀ w1, Below w.heap.size w w1 → Calls Tryz.prog 52 #[.agg #[.string x.name, .int .i64 x.prio, .int .i64 x.need, .int .i64 x.tries, .string x.tag]] w1 fun e w2 => e = .returned (.agg #[.string x.name, .int .i64 x.prio, .int .i64 x.need, .int .i64 x.tries, .string x.tag]) ∧ Below w1.heap.size w1 w2) :
    Calls Tryz.prog 51 #[.slice ad xs.length cap, .func (.func 52) #[] #[]] w fun e w' => ∃ ad' cap', e = .returned (.slice ad' xs.length cap') ∧ w'.ownsRow w.heap.size 50 5 (.slice ad' xs.length cap') xs.length (cJobs (xs.map id)) ∧ Below w.heap.size w w' := by
  obtain ⟨i0, qi, qz0, qz1, qz2⟩ := info_parts' Tryz.info_job
  have Hi := Lib.hid qi
  have Hz0 := Lib.hid qz0
  have Hz1 := Lib.hid qz1
  have Hz2 := Lib.hid qz2
  have HX := Lib.hid hx
  have HF := Lib.hid hF
  clear hx hF qi qz0 qz1 qz2
  go_enter Tryz.func51, Tryz.ntmps51
  go_wp2
  go_loopw [5, 10] (fun pv iv wr => ∃ (i : Nat), iv = .int .i64 (i : Int) ∧ i ≤ xs.length ∧ wr.ownsRow w.heap.size 50 5 pv i (cJobs ((xs.take i).map id)) ∧ Below w.heap.size w wr) (fun _ iv _ => xs.length - (intOf iv).toNat)
  case atStart => exact ⟨0, rfl, Nat.zero_le _, World.ownsRow_nil _ _ _ _, Below.refl _ _⟩
  case round =>
    obtain ⟨i, rfl, hi, hown, hbr⟩ := hrel
    by_cases h : (i : Int) < (xs.length : Int)
    · have hil : i < xs.length := by omega
      obtain ⟨a, rfl, hal, k0, k1, k2, k3, k4⟩ := jobsAt_next HX.out hbr i hil
      obtain ⟨x, hxi⟩ : ∃ x, xs[i] = x := ⟨_, rfl⟩
      rw [hxi] at k0 k1 k2 k3 k4
      have bA := below_one wr (.cells #[.string x.name, .int .i64 x.prio, .int .i64 x.need, .int .i64 x.tries, .string x.tag] 50)
      have BA := below_trans hbr bA hbr.size
      have HC := Lib.hid (HF.out x (hxi ▸ List.getElem_mem hil) _ BA)
      have HM := Lib.hid (map_take id xs i hil)
      rw [hxi] at HM
      have hown1 := own_next hown bA
      have HB := Lib.hid BA
      clear bA BA hxi
      go_wp2_with fail
      refine HC.out.mono ?_
      rintro r w2 ⟨rfl, b2⟩
      have hown2 := own_next hown1 b2
      have B2 := below_trans HB.out b2 HB.out.size
      have s2 := B2.size
      clear HC hown hown1 hbr HB b2 hal k0 k1 k2 k3 k4
      go_wp2_with (at_builtin; refine wpList_append_own _ rfl _ _ 26 rfl w.heap.size 50 i0 _ 5 56 Tryz.underlying26 Hi.out Hz0.out Hz1.out Hz2.out rfl (by decide) _ _ _ rfl (hown2.alloc _) ⟨w2.heap.size, 0, none⟩ 1 1 (cJob x) rfl rfl ?c1 ?c2 ?c3 ?c4 ?c5 ?_)
      case c1 => exact job_new w2 x _
      case c2 => exact job_ones x
      case c3 => unfold maxLen; omega
      case c4 => omega
      case c5 => simp; omega
      · intro v3 w3 own3 hg3 _
        have hb3 := (below_trans B2 (below_one w2 _) B2.size).grown hg3 (by simp; omega) (fun k hk' => (hown2.lt k hk').1)
        rw [← cJobs_one, ← cJobs_append] at own3
        have own4 : w3.ownsRow w.heap.size 50 5 v3 (i + 1) (cJobs ((xs.take (i + 1)).map id)) := by rw [HM.out]; simpa using own3
        clear hown2 B2 s2 own3 hg3
        go_wp2
        go_roundw
        case rel => exact ⟨i + 1, by simp, by omega, own4, hb3⟩
        case measure => simp [intOf]; omega
    · obtain rfl : i = xs.length := by omega
      rw [List.take_length] at hown
      have hl : (xs.map id).length = xs.length := List.length_map _
      have hown' := hown
      rw [← hl] at hown'
      obtain ⟨ad', cap', rfl, _⟩ := own_jobs hown'
      rw [hl] at hown ⊢
      clear hown'
      go_wp2
      go_ret
      exact ⟨_, _, rfl, (by first | exact hown | simpa using hown), hbr⟩
set_option maxRecDepth 100000 in
set_option maxHeartbeats 4000000 in
theorem eachN_sep (xs : List NodeD) (ad : Option Addr) (cap : Nat) (hlen : xs.length ≤ 40) (w : World) (hx : NodesAt w ad xs)
    (hF : ∀ x ∈ xs, ∀ w1, Below w.heap.size w w1 → Calls Tryz.prog 55 #[.agg #[.string x.name, .int .i64 x.room, .string x.zone]] w1 fun e w2 => e = .returned (.agg #[.string x.name, .int .i64 x.room, .string x.zone]) ∧ Below w1.heap.size w1 w2) :
    Calls Tryz.prog 54 #[.slice ad xs.length cap, .func (.func 55) #[] #[]] w fun e w' => ∃ ad' cap', e = .returned (.slice ad' xs.length cap') ∧ w'.ownsRow w.heap.size 52 3 (.slice ad' xs.length cap') xs.length (cNodes (xs.map id)) ∧ Below w.heap.size w w' := by
  obtain ⟨i0, qi, qz0, qz1, qz2⟩ := info_parts' Tryz.info_node
  have Hi := Lib.hid qi
  have Hz0 := Lib.hid qz0
  have Hz1 := Lib.hid qz1
  have Hz2 := Lib.hid qz2
  have HX := Lib.hid hx
  have HF := Lib.hid hF
  clear hx hF qi qz0 qz1 qz2
  go_enter Tryz.func54, Tryz.ntmps54
  go_wp2
  go_loopw [5, 10] (fun pv iv wr => ∃ (i : Nat), iv = .int .i64 (i : Int) ∧ i ≤ xs.length ∧ wr.ownsRow w.heap.size 52 3 pv i (cNodes ((xs.take i).map id)) ∧ Below w.heap.size w wr) (fun _ iv _ => xs.length - (intOf iv).toNat)
  case atStart => exact ⟨0, rfl, Nat.zero_le _, World.ownsRow_nil _ _ _ _, Below.refl _ _⟩
  case round =>
    obtain ⟨i, rfl, hi, hown, hbr⟩ := hrel
    by_cases h : (i : Int) < (xs.length : Int)
    · have hil : i < xs.length := by omega
      obtain ⟨a, rfl, hal, k0, k1, k2⟩ := nodesAt_next HX.out hbr i hil
      obtain ⟨x, hxi⟩ : ∃ x, xs[i] = x := ⟨_, rfl⟩
      rw [hxi] at k0 k1 k2
      have bA := below_one wr (.cells #[.string x.name, .int .i64 x.room, .string x.zone] 52)
      have BA := below_trans hbr bA hbr.size
      have HC := Lib.hid (HF.out x (hxi ▸ List.getElem_mem hil) _ BA)
      have HM := Lib.hid (map_take id xs i hil)
      rw [hxi] at HM
      have hown1 := own_next hown bA
      have HB := Lib.hid BA
      clear bA BA hxi
      go_wp2_with fail
      refine HC.out.mono ?_
      rintro r w2 ⟨rfl, b2⟩
      have hown2 := own_next hown1 b2
      have B2 := below_trans HB.out b2 HB.out.size
      have s2 := B2.size
      clear HC hown hown1 hbr HB b2 hal k0 k1 k2
      go_wp2_with (at_builtin; refine wpList_append_own _ rfl _ _ 27 rfl w.heap.size 52 i0 _ 3 40 Tryz.underlying27 Hi.out Hz0.out Hz1.out Hz2.out rfl (by decide) _ _ _ rfl (hown2.alloc _) ⟨w2.heap.size, 0, none⟩ 1 1 (cNode x) rfl rfl ?c1 ?c2 ?c3 ?c4 ?c5 ?_)
      case c1 => exact node_new w2 x _
      case c2 => exact node_ones x
      case c3 => unfold maxLen; omega
      case c4 => omega
      case c5 => simp; omega
      · intro v3 w3 own3 hg3 _
        have hb3 := (below_trans B2 (below_one w2 _) B2.size).grown hg3 (by simp; omega) (fun k hk' => (hown2.lt k hk').1)
        rw [← cNodes_one, ← cNodes_append] at own3
        have own4 : w3.ownsRow w.heap.size 52 3 v3 (i + 1) (cNodes ((xs.take (i + 1)).map id)) := by rw [HM.out]; simpa using own3
        clear hown2 B2 s2 own3 hg3
        go_wp2
        go_roundw
        case rel => exact ⟨i + 1, by simp, by omega, own4, hb3⟩
        case measure => simp [intOf]; omega
    · obtain rfl : i = xs.length := by omega
      rw [List.take_length] at hown
      have hl : (xs.map id).length = xs.length := List.length_map _
      have hown' := hown
      rw [← hl] at hown'
      obtain ⟨ad', cap', rfl, _⟩ := own_nodes hown'
      rw [hl] at hown ⊢
      clear hown'
      go_wp2
      go_ret
      exact ⟨_, _, rfl, (by first | exact hown | simpa using hown), hbr⟩
set_option maxRecDepth 100000 in
set_option maxHeartbeats 4000000 in
theorem eachL_sep (xs : List LeaseD) (ad : Option Addr) (cap : Nat) (hlen : xs.length ≤ 40) (w : World) (hx : LeasesAt w ad xs)
    (hF : ∀ x ∈ xs, ∀ w1, Below w.heap.size w w1 → Calls Tryz.prog 57 #[.agg #[.string x.job, .string x.node, .int .i64 x.til]] w1 fun e w2 => e = .returned (.agg #[.string x.job, .string x.node, .int .i64 x.til]) ∧ Below w1.heap.size w1 w2) :
    Calls Tryz.prog 56 #[.slice ad xs.length cap, .func (.func 57) #[] #[]] w fun e w' => ∃ ad' cap', e = .returned (.slice ad' xs.length cap') ∧ w'.ownsRow w.heap.size 48 3 (.slice ad' xs.length cap') xs.length (cLeases (xs.map id)) ∧ Below w.heap.size w w' := by
  obtain ⟨i0, qi, qz0, qz1, qz2⟩ := info_parts' Tryz.info_lease
  have Hi := Lib.hid qi
  have Hz0 := Lib.hid qz0
  have Hz1 := Lib.hid qz1
  have Hz2 := Lib.hid qz2
  have HX := Lib.hid hx
  have HF := Lib.hid hF
  clear hx hF qi qz0 qz1 qz2
  go_enter Tryz.func56, Tryz.ntmps56
  go_wp2
  go_loopw [5, 10] (fun pv iv wr => ∃ (i : Nat), iv = .int .i64 (i : Int) ∧ i ≤ xs.length ∧ wr.ownsRow w.heap.size 48 3 pv i (cLeases ((xs.take i).map id)) ∧ Below w.heap.size w wr) (fun _ iv _ => xs.length - (intOf iv).toNat)
  case atStart => exact ⟨0, rfl, Nat.zero_le _, World.ownsRow_nil _ _ _ _, Below.refl _ _⟩
  case round =>
    obtain ⟨i, rfl, hi, hown, hbr⟩ := hrel
    by_cases h : (i : Int) < (xs.length : Int)
    · have hil : i < xs.length := by omega
      obtain ⟨a, rfl, hal, k0, k1, k2⟩ := leasesAt_next HX.out hbr i hil
      obtain ⟨x, hxi⟩ : ∃ x, xs[i] = x := ⟨_, rfl⟩
      rw [hxi] at k0 k1 k2
      have bA := below_one wr (.cells #[.string x.job, .string x.node, .int .i64 x.til] 48)
      have BA := below_trans hbr bA hbr.size
      have HC := Lib.hid (HF.out x (hxi ▸ List.getElem_mem hil) _ BA)
      have HM := Lib.hid (map_take id xs i hil)
      rw [hxi] at HM
      have hown1 := own_next hown bA
      have HB := Lib.hid BA
      clear bA BA hxi
      go_wp2_with fail
      refine HC.out.mono ?_
      rintro r w2 ⟨rfl, b2⟩
      have hown2 := own_next hown1 b2
      have B2 := below_trans HB.out b2 HB.out.size
      have s2 := B2.size
      clear HC hown hown1 hbr HB b2 hal k0 k1 k2
      go_wp2_with (at_builtin; refine wpList_append_own _ rfl _ _ 28 rfl w.heap.size 48 i0 _ 3 40 Tryz.underlying28 Hi.out Hz0.out Hz1.out Hz2.out rfl (by decide) _ _ _ rfl (hown2.alloc _) ⟨w2.heap.size, 0, none⟩ 1 1 (cLease x) rfl rfl ?c1 ?c2 ?c3 ?c4 ?c5 ?_)
      case c1 => exact lease_new w2 x _
      case c2 => exact lease_ones x
      case c3 => unfold maxLen; omega
      case c4 => omega
      case c5 => simp; omega
      · intro v3 w3 own3 hg3 _
        have hb3 := (below_trans B2 (below_one w2 _) B2.size).grown hg3 (by simp; omega) (fun k hk' => (hown2.lt k hk').1)
        rw [← cLeases_one, ← cLeases_append] at own3
        have own4 : w3.ownsRow w.heap.size 48 3 v3 (i + 1) (cLeases ((xs.take (i + 1)).map id)) := by rw [HM.out]; simpa using own3
        clear hown2 B2 s2 own3 hg3
        go_wp2
        go_roundw
        case rel => exact ⟨i + 1, by simp, by omega, own4, hb3⟩
        case measure => simp [intOf]; omega
    · obtain rfl : i = xs.length := by omega
      rw [List.take_length] at hown
      have hl : (xs.map id).length = xs.length := List.length_map _
      have hown' := hown
      rw [← hl] at hown'
      obtain ⟨ad', cap', rfl, _⟩ := own_leases hown'
      rw [hl] at hown ⊢
      clear hown'
      go_wp2
      go_ret
      exact ⟨_, _, rfl, (by first | exact hown | simpa using hown), hbr⟩
set_option maxRecDepth 100000 in
set_option maxHeartbeats 4000000 in
theorem eachJ_raise (b : Nat) (ls : List LeaseD) (xs : List JobD) (ad : Option Addr) (cap : Nat) (hlen : xs.length ≤ 40) (w : World) (hx : JobsAt w ad xs)
    (hF : ∀ x ∈ xs, ∀ w1, Below w.heap.size w w1 → Calls Tryz.prog 80 #[.agg #[.string x.name, .int .i64 x.prio, .int .i64 x.need, .int .i64 x.tries, .string x.tag], .pointer (some ⟨b, 0, none⟩)] w1 fun e w2 => e = .returned (.agg #[.string (r2J ls x).name, .int .i64 (r2J ls x).prio, .int .i64 (r2J ls x).need, .int .i64 (r2J ls x).tries, .string (r2J ls x).tag]) ∧ Below w1.heap.size w1 w2) :
    Calls Tryz.prog 51 #[.slice ad xs.length cap, .func (.func 80) #[] #[.pointer (some ⟨b, 0, none⟩)]] w fun e w' => ∃ ad' cap', e = .returned (.slice ad' xs.length cap') ∧ w'.ownsRow w.heap.size 50 5 (.slice ad' xs.length cap') xs.length (cJobs (xs.map (r2J ls))) ∧ Below w.heap.size w w' := by
  obtain ⟨i0, qi, qz0, qz1, qz2⟩ := info_parts' Tryz.info_job
  have Hi := Lib.hid qi
  have Hz0 := Lib.hid qz0
  have Hz1 := Lib.hid qz1
  have Hz2 := Lib.hid qz2
  have HX := Lib.hid hx
  have HF := Lib.hid hF
  clear hx hF qi qz0 qz1 qz2
  go_enter Tryz.func51, Tryz.ntmps51
  go_wp2
  go_loopw [5, 10] (fun pv iv wr => ∃ (i : Nat), iv = .int .i64 (i : Int) ∧ i ≤ xs.length ∧ wr.ownsRow w.heap.size 50 5 pv i (cJobs ((xs.take i).map (r2J ls))) ∧ Below w.heap.size w wr) (fun _ iv _ => xs.length - (intOf iv).toNat)
  case atStart => exact ⟨0, rfl, Nat.zero_le _, World.ownsRow_nil _ _ _ _, Below.refl _ _⟩
  case round =>
    obtain ⟨i, rfl, hi, hown, hbr⟩ := hrel
    by_cases h : (i : Int) < (xs.length : Int)
    · have hil : i < xs.length := by omega
      obtain ⟨a, rfl, hal, k0, k1, k2, k3, k4⟩ := jobsAt_next HX.out hbr i hil
      obtain ⟨x, hxi⟩ : ∃ x, xs[i] = x := ⟨_, rfl⟩
      rw [hxi] at k0 k1 k2 k3 k4
      have bA := below_one wr (.cells #[.string x.name, .int .i64 x.prio, .int .i64 x.need, .int .i64 x.tries, .string x.tag] 50)
      have BA := below_trans hbr bA hbr.size
      have HC := Lib.hid (HF.out x (hxi ▸ List.getElem_mem hil) _ BA)
      have HM := Lib.hid (map_take (r2J ls) xs i hil)
      rw [hxi] at HM
      have hown1 := own_next hown bA
      have HB := Lib.hid BA
      clear bA BA hxi
      go_wp2_with fail
      refine HC.out.mono ?_
      rintro r w2 ⟨rfl, b2⟩
      have hown2 := own_next hown1 b2
      have B2 := below_trans HB.out b2 HB.out.size
      have s2 := B2.size
      clear HC hown hown1 hbr HB b2 hal k0 k1 k2 k3 k4
      go_wp2_with (at_builtin; refine wpList_append_own _ rfl _ _ 26 rfl w.heap.size 50 i0 _ 5 56 Tryz.underlying26 Hi.out Hz0.out Hz1.out Hz2.out rfl (by decide) _ _ _ rfl (hown2.alloc _) ⟨w2.heap.size, 0, none⟩ 1 1 (cJob (r2J ls x)) rfl rfl ?c1 ?c2 ?c3 ?c4 ?c5 ?_)
      case c1 => exact job_new w2 (r2J ls x) _
      case c2 => exact job_ones (r2J ls x)
      case c3 => unfold maxLen; omega
      case c4 => omega
      case c5 => simp; omega
      · intro v3 w3 own3 hg3 _
        have hb3 := (below_trans B2 (below_one w2 _) B2.size).grown hg3 (by simp; omega) (fun k hk' => (hown2.lt k hk').1)
        rw [← cJobs_one, ← cJobs_append] at own3
        have own4 : w3.ownsRow w.heap.size 50 5 v3 (i + 1) (cJobs ((xs.take (i + 1)).map (r2J ls))) := by rw [HM.out]; simpa using own3
        clear hown2 B2 s2 own3 hg3
        go_wp2
        go_roundw
        case rel => exact ⟨i + 1, by simp, by omega, own4, hb3⟩
        case measure => simp [intOf]; omega
    · obtain rfl : i = xs.length := by omega
      rw [List.take_length] at hown
      have hl : (xs.map (r2J ls)).length = xs.length := List.length_map _
      have hown' := hown
      rw [← hl] at hown'
      obtain ⟨ad', cap', rfl, _⟩ := own_jobs hown'
      rw [hl] at hown ⊢
      clear hown'
      go_wp2
      go_ret
      exact ⟨_, _, rfl, (by first | exact hown | simpa using hown), hbr⟩
set_option maxRecDepth 100000 in
set_option maxHeartbeats 4000000 in
theorem eachN_raise (xs : List NodeD) (ad : Option Addr) (cap : Nat) (hlen : xs.length ≤ 40) (w : World) (hx : NodesAt w ad xs)
    (hF : ∀ x ∈ xs, ∀ w1, Below w.heap.size w w1 → Calls Tryz.prog 82 #[.agg #[.string x.name, .int .i64 x.room, .string x.zone]] w1 fun e w2 => e = .returned (.agg #[.string (r2N x).name, .int .i64 (r2N x).room, .string (r2N x).zone]) ∧ Below w1.heap.size w1 w2) :
    Calls Tryz.prog 54 #[.slice ad xs.length cap, .func (.func 82) #[] #[]] w fun e w' => ∃ ad' cap', e = .returned (.slice ad' xs.length cap') ∧ w'.ownsRow w.heap.size 52 3 (.slice ad' xs.length cap') xs.length (cNodes (xs.map r2N)) ∧ Below w.heap.size w w' := by
  obtain ⟨i0, qi, qz0, qz1, qz2⟩ := info_parts' Tryz.info_node
  have Hi := Lib.hid qi
  have Hz0 := Lib.hid qz0
  have Hz1 := Lib.hid qz1
  have Hz2 := Lib.hid qz2
  have HX := Lib.hid hx
  have HF := Lib.hid hF
  clear hx hF qi qz0 qz1 qz2
  go_enter Tryz.func54, Tryz.ntmps54
  go_wp2
  go_loopw [5, 10] (fun pv iv wr => ∃ (i : Nat), iv = .int .i64 (i : Int) ∧ i ≤ xs.length ∧ wr.ownsRow w.heap.size 52 3 pv i (cNodes ((xs.take i).map r2N)) ∧ Below w.heap.size w wr) (fun _ iv _ => xs.length - (intOf iv).toNat)
  case atStart => exact ⟨0, rfl, Nat.zero_le _, World.ownsRow_nil _ _ _ _, Below.refl _ _⟩
  case round =>
    obtain ⟨i, rfl, hi, hown, hbr⟩ := hrel
    by_cases h : (i : Int) < (xs.length : Int)
    · have hil : i < xs.length := by omega
      obtain ⟨a, rfl, hal, k0, k1, k2⟩ := nodesAt_next HX.out hbr i hil
      obtain ⟨x, hxi⟩ : ∃ x, xs[i] = x := ⟨_, rfl⟩
      rw [hxi] at k0 k1 k2
      have bA := below_one wr (.cells #[.string x.name, .int .i64 x.room, .string x.zone] 52)
      have BA := below_trans hbr bA hbr.size
      have HC := Lib.hid (HF.out x (hxi ▸ List.getElem_mem hil) _ BA)
      have HM := Lib.hid (map_take r2N xs i hil)
      rw [hxi] at HM
      have hown1 := own_next hown bA
      have HB := Lib.hid BA
      clear bA BA hxi
      go_wp2_with fail
      refine HC.out.mono ?_
      rintro r w2 ⟨rfl, b2⟩
      have hown2 := own_next hown1 b2
      have B2 := below_trans HB.out b2 HB.out.size
      have s2 := B2.size
      clear HC hown hown1 hbr HB b2 hal k0 k1 k2
      go_wp2_with (at_builtin; refine wpList_append_own _ rfl _ _ 27 rfl w.heap.size 52 i0 _ 3 40 Tryz.underlying27 Hi.out Hz0.out Hz1.out Hz2.out rfl (by decide) _ _ _ rfl (hown2.alloc _) ⟨w2.heap.size, 0, none⟩ 1 1 (cNode (r2N x)) rfl rfl ?c1 ?c2 ?c3 ?c4 ?c5 ?_)
      case c1 => exact node_new w2 (r2N x) _
      case c2 => exact node_ones (r2N x)
      case c3 => unfold maxLen; omega
      case c4 => omega
      case c5 => simp; omega
      · intro v3 w3 own3 hg3 _
        have hb3 := (below_trans B2 (below_one w2 _) B2.size).grown hg3 (by simp; omega) (fun k hk' => (hown2.lt k hk').1)
        rw [← cNodes_one, ← cNodes_append] at own3
        have own4 : w3.ownsRow w.heap.size 52 3 v3 (i + 1) (cNodes ((xs.take (i + 1)).map r2N)) := by rw [HM.out]; simpa using own3
        clear hown2 B2 s2 own3 hg3
        go_wp2
        go_roundw
        case rel => exact ⟨i + 1, by simp, by omega, own4, hb3⟩
        case measure => simp [intOf]; omega
    · obtain rfl : i = xs.length := by omega
      rw [List.take_length] at hown
      have hl : (xs.map r2N).length = xs.length := List.length_map _
      have hown' := hown
      rw [← hl] at hown'
      obtain ⟨ad', cap', rfl, _⟩ := own_nodes hown'
      rw [hl] at hown ⊢
      clear hown'
      go_wp2
      go_ret
      exact ⟨_, _, rfl, (by first | exact hown | simpa using hown), hbr⟩
set_option maxRecDepth 100000 in
set_option maxHeartbeats 4000000 in
theorem eachJ_tag (xs : List JobD) (ad : Option Addr) (cap : Nat) (hlen : xs.length ≤ 40) (w : World) (hx : JobsAt w ad xs)
    (hF : ∀ x ∈ xs, ∀ w1, Below w.heap.size w w1 → Calls Tryz.prog 60 #[.agg #[.string x.name, .int .i64 x.prio, .int .i64 x.need, .int .i64 x.tries, .string x.tag]] w1 fun e w2 => e = .returned (.agg #[.string (noTag x).name, .int .i64 (noTag x).prio, .int .i64 (noTag x).need, .int .i64 (noTag x).tries, .string (noTag x).tag]) ∧ Below w1.heap.size w1 w2) :
    Calls Tryz.prog 51 #[.slice ad xs.length cap, .func (.func 60) #[] #[]] w fun e w' => ∃ ad' cap', e = .returned (.slice ad' xs.length cap') ∧ w'.ownsRow w.heap.size 50 5 (.slice ad' xs.length cap') xs.length (cJobs (xs.map noTag)) ∧ Below w.heap.size w w' := by
  obtain ⟨i0, qi, qz0, qz1, qz2⟩ := info_parts' Tryz.info_job
  have Hi := Lib.hid qi
  have Hz0 := Lib.hid qz0
  have Hz1 := Lib.hid qz1
  have Hz2 := Lib.hid qz2
  have HX := Lib.hid hx
  have HF := Lib.hid hF
  clear hx hF qi qz0 qz1 qz2
  go_enter Tryz.func51, Tryz.ntmps51
  go_wp2
  go_loopw [5, 10] (fun pv iv wr => ∃ (i : Nat), iv = .int .i64 (i : Int) ∧ i ≤ xs.length ∧ wr.ownsRow w.heap.size 50 5 pv i (cJobs ((xs.take i).map noTag)) ∧ Below w.heap.size w wr) (fun _ iv _ => xs.length - (intOf iv).toNat)
  case atStart => exact ⟨0, rfl, Nat.zero_le _, World.ownsRow_nil _ _ _ _, Below.refl _ _⟩
  case round =>
    obtain ⟨i, rfl, hi, hown, hbr⟩ := hrel
    by_cases h : (i : Int) < (xs.length : Int)
    · have hil : i < xs.length := by omega
      obtain ⟨a, rfl, hal, k0, k1, k2, k3, k4⟩ := jobsAt_next HX.out hbr i hil
      obtain ⟨x, hxi⟩ : ∃ x, xs[i] = x := ⟨_, rfl⟩
      rw [hxi] at k0 k1 k2 k3 k4
      have bA := below_one wr (.cells #[.string x.name, .int .i64 x.prio, .int .i64 x.need, .int .i64 x.tries, .string x.tag] 50)
      have BA := below_trans hbr bA hbr.size
      have HC := Lib.hid (HF.out x (hxi ▸ List.getElem_mem hil) _ BA)
      have HM := Lib.hid (map_take noTag xs i hil)
      rw [hxi] at HM
      have hown1 := own_next hown bA
      have HB := Lib.hid BA
      clear bA BA hxi
      go_wp2_with fail
      refine HC.out.mono ?_
      rintro r w2 ⟨rfl, b2⟩
      have hown2 := own_next hown1 b2
      have B2 := below_trans HB.out b2 HB.out.size
      have s2 := B2.size
      clear HC hown hown1 hbr HB b2 hal k0 k1 k2 k3 k4
      go_wp2_with (at_builtin; refine wpList_append_own _ rfl _ _ 26 rfl w.heap.size 50 i0 _ 5 56 Tryz.underlying26 Hi.out Hz0.out Hz1.out Hz2.out rfl (by decide) _ _ _ rfl (hown2.alloc _) ⟨w2.heap.size, 0, none⟩ 1 1 (cJob (noTag x)) rfl rfl ?c1 ?c2 ?c3 ?c4 ?c5 ?_)
      case c1 => exact job_new w2 (noTag x) _
      case c2 => exact job_ones (noTag x)
      case c3 => unfold maxLen; omega
      case c4 => omega
      case c5 => simp; omega
      · intro v3 w3 own3 hg3 _
        have hb3 := (below_trans B2 (below_one w2 _) B2.size).grown hg3 (by simp; omega) (fun k hk' => (hown2.lt k hk').1)
        rw [← cJobs_one, ← cJobs_append] at own3
        have own4 : w3.ownsRow w.heap.size 50 5 v3 (i + 1) (cJobs ((xs.take (i + 1)).map noTag)) := by rw [HM.out]; simpa using own3
        clear hown2 B2 s2 own3 hg3
        go_wp2
        go_roundw
        case rel => exact ⟨i + 1, by simp, by omega, own4, hb3⟩
        case measure => simp [intOf]; omega
    · obtain rfl : i = xs.length := by omega
      rw [List.take_length] at hown
      have hl : (xs.map noTag).length = xs.length := List.length_map _
      have hown' := hown
      rw [← hl] at hown'
      obtain ⟨ad', cap', rfl, _⟩ := own_jobs hown'
      rw [hl] at hown ⊢
      clear hown'
      go_wp2
      go_ret
      exact ⟨_, _, rfl, (by first | exact hown | simpa using hown), hbr⟩
set_option maxRecDepth 100000 in
set_option maxHeartbeats 4000000 in
theorem eachJ_tries (xs : List JobD) (ad : Option Addr) (cap : Nat) (hlen : xs.length ≤ 40) (w : World) (hx : JobsAt w ad xs)
    (hF : ∀ x ∈ xs, ∀ w1, Below w.heap.size w w1 → Calls Tryz.prog 58 #[.agg #[.string x.name, .int .i64 x.prio, .int .i64 x.need, .int .i64 x.tries, .string x.tag]] w1 fun e w2 => e = .returned (.agg #[.string (noTries x).name, .int .i64 (noTries x).prio, .int .i64 (noTries x).need, .int .i64 (noTries x).tries, .string (noTries x).tag]) ∧ Below w1.heap.size w1 w2) :
    Calls Tryz.prog 51 #[.slice ad xs.length cap, .func (.func 58) #[] #[]] w fun e w' => ∃ ad' cap', e = .returned (.slice ad' xs.length cap') ∧ w'.ownsRow w.heap.size 50 5 (.slice ad' xs.length cap') xs.length (cJobs (xs.map noTries)) ∧ Below w.heap.size w w' := by
  obtain ⟨i0, qi, qz0, qz1, qz2⟩ := info_parts' Tryz.info_job
  have Hi := Lib.hid qi
  have Hz0 := Lib.hid qz0
  have Hz1 := Lib.hid qz1
  have Hz2 := Lib.hid qz2
  have HX := Lib.hid hx
  have HF := Lib.hid hF
  clear hx hF qi qz0 qz1 qz2
  go_enter Tryz.func51, Tryz.ntmps51
  go_wp2
  go_loopw [5, 10] (fun pv iv wr => ∃ (i : Nat), iv = .int .i64 (i : Int) ∧ i ≤ xs.length ∧ wr.ownsRow w.heap.size 50 5 pv i (cJobs ((xs.take i).map noTries)) ∧ Below w.heap.size w wr) (fun _ iv _ => xs.length - (intOf iv).toNat)
  case atStart => exact ⟨0, rfl, Nat.zero_le _, World.ownsRow_nil _ _ _ _, Below.refl _ _⟩
  case round =>
    obtain ⟨i, rfl, hi, hown, hbr⟩ := hrel
    by_cases h : (i : Int) < (xs.length : Int)
    · have hil : i < xs.length := by omega
      obtain ⟨a, rfl, hal, k0, k1, k2, k3, k4⟩ := jobsAt_next HX.out hbr i hil
      obtain ⟨x, hxi⟩ : ∃ x, xs[i] = x := ⟨_, rfl⟩
      rw [hxi] at k0 k1 k2 k3 k4
      have bA := below_one wr (.cells #[.string x.name, .int .i64 x.prio, .int .i64 x.need, .int .i64 x.tries, .string x.tag] 50)
      have BA := below_trans hbr bA hbr.size
      have HC := Lib.hid (HF.out x (hxi ▸ List.getElem_mem hil) _ BA)
      have HM := Lib.hid (map_take noTries xs i hil)
      rw [hxi] at HM
      have hown1 := own_next hown bA
      have HB := Lib.hid BA
      clear bA BA hxi
      go_wp2_with fail
      refine HC.out.mono ?_
      rintro r w2 ⟨rfl, b2⟩
      have hown2 := own_next hown1 b2
      have B2 := below_trans HB.out b2 HB.out.size
      have s2 := B2.size
      clear HC hown hown1 hbr HB b2 hal k0 k1 k2 k3 k4
      go_wp2_with (at_builtin; refine wpList_append_own _ rfl _ _ 26 rfl w.heap.size 50 i0 _ 5 56 Tryz.underlying26 Hi.out Hz0.out Hz1.out Hz2.out rfl (by decide) _ _ _ rfl (hown2.alloc _) ⟨w2.heap.size, 0, none⟩ 1 1 (cJob (noTries x)) rfl rfl ?c1 ?c2 ?c3 ?c4 ?c5 ?_)
      case c1 => exact job_new w2 (noTries x) _
      case c2 => exact job_ones (noTries x)
      case c3 => unfold maxLen; omega
      case c4 => omega
      case c5 => simp; omega
      · intro v3 w3 own3 hg3 _
        have hb3 := (below_trans B2 (below_one w2 _) B2.size).grown hg3 (by simp; omega) (fun k hk' => (hown2.lt k hk').1)
        rw [← cJobs_one, ← cJobs_append] at own3
        have own4 : w3.ownsRow w.heap.size 50 5 v3 (i + 1) (cJobs ((xs.take (i + 1)).map noTries)) := by rw [HM.out]; simpa using own3
        clear hown2 B2 s2 own3 hg3
        go_wp2
        go_roundw
        case rel => exact ⟨i + 1, by simp, by omega, own4, hb3⟩
        case measure => simp [intOf]; omega
    · obtain rfl : i = xs.length := by omega
      rw [List.take_length] at hown
      have hl : (xs.map noTries).length = xs.length := List.length_map _
      have hown' := hown
      rw [← hl] at hown'
      obtain ⟨ad', cap', rfl, _⟩ := own_jobs hown'
      rw [hl] at hown ⊢
      clear hown'
      go_wp2
      go_ret
      exact ⟨_, _, rfl, (by first | exact hown | simpa using hown), hbr⟩
set_option maxRecDepth 100000 in
set_option maxHeartbeats 4000000 in
theorem eachN_zone (xs : List NodeD) (ad : Option Addr) (cap : Nat) (hlen : xs.length ≤ 40) (w : World) (hx : NodesAt w ad xs)
    (hF : ∀ x ∈ xs, ∀ w1, Below w.heap.size w w1 → Calls Tryz.prog 59 #[.agg #[.string x.name, .int .i64 x.room, .string x.zone]] w1 fun e w2 => e = .returned (.agg #[.string (noZone x).name, .int .i64 (noZone x).room, .string (noZone x).zone]) ∧ Below w1.heap.size w1 w2) :
    Calls Tryz.prog 54 #[.slice ad xs.length cap, .func (.func 59) #[] #[]] w fun e w' => ∃ ad' cap', e = .returned (.slice ad' xs.length cap') ∧ w'.ownsRow w.heap.size 52 3 (.slice ad' xs.length cap') xs.length (cNodes (xs.map noZone)) ∧ Below w.heap.size w w' := by
  obtain ⟨i0, qi, qz0, qz1, qz2⟩ := info_parts' Tryz.info_node
  have Hi := Lib.hid qi
  have Hz0 := Lib.hid qz0
  have Hz1 := Lib.hid qz1
  have Hz2 := Lib.hid qz2
  have HX := Lib.hid hx
  have HF := Lib.hid hF
  clear hx hF qi qz0 qz1 qz2
  go_enter Tryz.func54, Tryz.ntmps54
  go_wp2
  go_loopw [5, 10] (fun pv iv wr => ∃ (i : Nat), iv = .int .i64 (i : Int) ∧ i ≤ xs.length ∧ wr.ownsRow w.heap.size 52 3 pv i (cNodes ((xs.take i).map noZone)) ∧ Below w.heap.size w wr) (fun _ iv _ => xs.length - (intOf iv).toNat)
  case atStart => exact ⟨0, rfl, Nat.zero_le _, World.ownsRow_nil _ _ _ _, Below.refl _ _⟩
  case round =>
    obtain ⟨i, rfl, hi, hown, hbr⟩ := hrel
    by_cases h : (i : Int) < (xs.length : Int)
    · have hil : i < xs.length := by omega
      obtain ⟨a, rfl, hal, k0, k1, k2⟩ := nodesAt_next HX.out hbr i hil
      obtain ⟨x, hxi⟩ : ∃ x, xs[i] = x := ⟨_, rfl⟩
      rw [hxi] at k0 k1 k2
      have bA := below_one wr (.cells #[.string x.name, .int .i64 x.room, .string x.zone] 52)
      have BA := below_trans hbr bA hbr.size
      have HC := Lib.hid (HF.out x (hxi ▸ List.getElem_mem hil) _ BA)
      have HM := Lib.hid (map_take noZone xs i hil)
      rw [hxi] at HM
      have hown1 := own_next hown bA
      have HB := Lib.hid BA
      clear bA BA hxi
      go_wp2_with fail
      refine HC.out.mono ?_
      rintro r w2 ⟨rfl, b2⟩
      have hown2 := own_next hown1 b2
      have B2 := below_trans HB.out b2 HB.out.size
      have s2 := B2.size
      clear HC hown hown1 hbr HB b2 hal k0 k1 k2
      go_wp2_with (at_builtin; refine wpList_append_own _ rfl _ _ 27 rfl w.heap.size 52 i0 _ 3 40 Tryz.underlying27 Hi.out Hz0.out Hz1.out Hz2.out rfl (by decide) _ _ _ rfl (hown2.alloc _) ⟨w2.heap.size, 0, none⟩ 1 1 (cNode (noZone x)) rfl rfl ?c1 ?c2 ?c3 ?c4 ?c5 ?_)
      case c1 => exact node_new w2 (noZone x) _
      case c2 => exact node_ones (noZone x)
      case c3 => unfold maxLen; omega
      case c4 => omega
      case c5 => simp; omega
      · intro v3 w3 own3 hg3 _
        have hb3 := (below_trans B2 (below_one w2 _) B2.size).grown hg3 (by simp; omega) (fun k hk' => (hown2.lt k hk').1)
        rw [← cNodes_one, ← cNodes_append] at own3
        have own4 : w3.ownsRow w.heap.size 52 3 v3 (i + 1) (cNodes ((xs.take (i + 1)).map noZone)) := by rw [HM.out]; simpa using own3
        clear hown2 B2 s2 own3 hg3
        go_wp2
        go_roundw
        case rel => exact ⟨i + 1, by simp, by omega, own4, hb3⟩
        case measure => simp [intOf]; omega
    · obtain rfl : i = xs.length := by omega
      rw [List.take_length] at hown
      have hl : (xs.map noZone).length = xs.length := List.length_map _
      have hown' := hown
      rw [← hl] at hown'
      obtain ⟨ad', cap', rfl, _⟩ := own_nodes hown'
      rw [hl] at hown ⊢
      clear hown'
      go_wp2
      go_ret
      exact ⟨_, _, rfl, (by first | exact hown | simpa using hown), hbr⟩
end Go.Proofs.YtclopkpfeofjmaaGreatDoor
