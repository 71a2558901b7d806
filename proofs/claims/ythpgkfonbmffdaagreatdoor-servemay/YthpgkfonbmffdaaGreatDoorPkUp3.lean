import Derived.Test.YthpgkfonbmffdaaGreatDoorUpSep
/- Package up: functions that set one field of a row. -/
namespace Go.Proofs.YthpgkfonbmffdaaGreatDoor
open Go.RowKit

theorem sepJob_new (x : JobD) (w : World) {H : Nat} (hH : w.heap.size = H) {W0 : World} (hW0 : (w.alloc (.cells #[.string x.name, .int .i64 x.prio, .int .i64 x.need, .int .i64 x.tries, .string x.tag] 38)).alloc (.cells #[.string ⟨#[]⟩, .int .i64 0, .int .i64 0, .int .i64 0, .string ⟨#[]⟩] 38) = W0) : SepJob H x w W0 := by
  rw [← hW0, ← hH]
  refine ⟨objAt_next (objAt_new w _ _) (below_one _ _), ?_, below_trans (below_one _ _) (below_one _ _) (by simp)⟩
  have := objAt_new (w.alloc (.cells #[.string x.name, .int .i64 x.prio, .int .i64 x.need, .int .i64 x.tries, .string x.tag] 38)) #[.string ⟨#[]⟩, .int .i64 0, .int .i64 0, .int .i64 0, .string ⟨#[]⟩] 38
  rwa [World.size_alloc] at this
theorem sepNode_new (x : NodeD) (w : World) {H : Nat} (hH : w.heap.size = H) {W0 : World} (hW0 : (w.alloc (.cells #[.string x.name, .int .i64 x.room, .string x.zone] 40)).alloc (.cells #[.string ⟨#[]⟩, .int .i64 0, .string ⟨#[]⟩] 40) = W0) : SepNode H x w W0 := by
  rw [← hW0, ← hH]
  refine ⟨objAt_next (objAt_new w _ _) (below_one _ _), ?_, below_trans (below_one _ _) (below_one _ _) (by simp)⟩
  have := objAt_new (w.alloc (.cells #[.string x.name, .int .i64 x.room, .string x.zone] 40)) #[.string ⟨#[]⟩, .int .i64 0, .string ⟨#[]⟩] 40
  rwa [World.size_alloc] at this
end Go.Proofs.YthpgkfonbmffdaaGreatDoor

/- Package up: each, at every function that it is handed. -/
namespace Go.Proofs.YthpgkfonbmffdaaGreatDoor
open Go.RowKit

theorem map_take {α β : Type} (g : α → β) (xs : List α) (i : Nat) (h : i < xs.length) : (xs.take (i + 1)).map g = (xs.take i).map g ++ [g xs[i]] := by rw [List.take_add_one, List.map_append, List.getElem?_eq_getElem h]; rfl
set_option maxRecDepth 100000 in
set_option maxHeartbeats 4000000 in
theorem eachJ_sep (xs : List JobD) (ad : Option Addr) (cap : Nat) (hlen : xs.length ≤ 40) (w : World) (hx : JobsAt w ad xs)
    (hF : ∀ x ∈ xs, ∀ w1, Below w.heap.size w w1 → Calls Tryz.prog 65 #[.agg #[.string x.name, .int .i64 x.prio, .int .i64 x.need, .int .i64 x.tries, .string x.tag]] w1 fun e w2 => e = .returned (.agg #[.string x.name, .int .i64 x.prio, .int .i64 x.need, .int .i64 x.tries, .string x.tag]) ∧ Below w1.heap.size w1 w2) :
    Calls Tryz.prog 64 #[.slice ad xs.length cap, .func (.func 65) #[] #[]] w fun e w' => ∃ ad' cap', e = .returned (.slice ad' xs.length cap') ∧ w'.ownsRow w.heap.size 38 5 (.slice ad' xs.length cap') xs.length (cJobs (xs.map id)) ∧ Below w.heap.size w w' := by
  obtain ⟨i0, qi, qz0, qz1, qz2⟩ := info_parts' Tryz.info_job
  have Hi := Lib.hid qi
  have Hz0 := Lib.hid qz0
  have Hz1 := Lib.hid qz1
  have Hz2 := Lib.hid qz2
  have HX := Lib.hid hx
  have HF := Lib.hid hF
  clear hx hF qi qz0 qz1 qz2
  go_enter Tryz.func64, Tryz.ntmps64
  go_wp2
  go_loopw [5, 10] (fun pv iv wr => ∃ (i : Nat), iv = .int .i64 (i : Int) ∧ i ≤ xs.length ∧ wr.ownsRow w.heap.size 38 5 pv i (cJobs ((xs.take i).map id)) ∧ Below w.heap.size w wr) (fun _ iv _ => xs.length - (intOf iv).toNat)
  case atStart => exact ⟨0, rfl, Nat.zero_le _, World.ownsRow_nil _ _ _ _, Below.refl _ _⟩
  case round =>
    obtain ⟨i, rfl, hi, hown, hbr⟩ := hrel
    by_cases h : (i : Int) < (xs.length : Int)
    · have hil : i < xs.length := by omega
      obtain ⟨a, rfl, hal, k0, k1, k2, k3, k4⟩ := jobsAt_next HX.out hbr i hil
      obtain ⟨x, hxi⟩ : ∃ x, xs[i] = x := ⟨_, rfl⟩
      rw [hxi] at k0 k1 k2 k3 k4
      have bA := below_one wr (.cells #[.string x.name, .int .i64 x.prio, .int .i64 x.need, .int .i64 x.tries, .string x.tag] 38)
      have BA := below_trans hbr bA hbr.size
      have HC := Lib.hid (HF.out x (hxi ▸ List.getElem_mem hil) _ BA)
      have HM := Lib.hid (map_take id xs i hil)
      rw [hxi] at HM
      have hown1 := own_next hown bA
      have HB := Lib.hid BA
      clear bA BA hxi
      go_wp2_with fail
      refine HC.out.mono ?_
      rintro r w2 ⟨rfl, b2⟩
      have hown2 := own_next hown1 b2
      have B2 := below_trans HB.out b2 HB.out.size
      have s2 := B2.size
      clear HC hown hown1 hbr HB b2 hal k0 k1 k2 k3 k4
      go_wp2_with (at_builtin; refine wpList_append_own _ rfl _ _ 22 rfl w.heap.size 38 i0 _ 5 56 Tryz.underlying22 Hi.out Hz0.out Hz1.out Hz2.out rfl (by decide) _ _ _ rfl (hown2.alloc _) ⟨w2.heap.size, 0, none⟩ 1 1 (cJob x) rfl rfl ?c1 ?c2 ?c3 ?c4 ?c5 ?_)
      case c1 => exact job_new w2 x _
      case c2 => exact job_ones x
      case c3 => unfold maxLen; omega
      case c4 => omega
      case c5 => simp; omega
      · intro v3 w3 own3 hg3 _
        have hb3 := (below_trans B2 (below_one w2 _) B2.size).grown hg3 (by simp; omega) (fun k hk' => (hown2.lt k hk').1)
        rw [← cJobs_one, ← cJobs_append] at own3
        have own4 : w3.ownsRow w.heap.size 38 5 v3 (i + 1) (cJobs ((xs.take (i + 1)).map id)) := by rw [HM.out]; simpa using own3
        clear hown2 B2 s2 own3 hg3
        go_wp2
        go_roundw
        case rel => exact ⟨i + 1, by simp, by omega, own4, hb3⟩
        case measure => simp [intOf]; omega
    · obtain rfl : i = xs.length := by omega
      rw [List.take_length] at hown
      have hl : (xs.map id).length = xs.length := List.length_map _
      have hown' := hown
      rw [← hl] at hown'
      obtain ⟨ad', cap', rfl, _⟩ := own_jobs hown'
      rw [hl] at hown ⊢
      clear hown'
      go_wp2
      go_ret
      exact ⟨_, _, rfl, (by first | exact hown | simpa using hown), hbr⟩
set_option maxRecDepth 100000 in
set_option maxHeartbeats 4000000 in
theorem eachN_sep (xs : List NodeD) (ad : Option Addr) (cap : Nat) (hlen : xs.length ≤ 40) (w : World) (hx : NodesAt w ad xs)
    (hF : ∀ x ∈ xs, ∀ w1, Below w.heap.size w w1 → Calls Tryz.prog 67 #[.agg #[.string x.name, .int .i64 x.room, .string x.zone]] w1 fun e w2 => e = .returned (.agg #[.string x.name, .int .i64 x.room, .string x.zone]) ∧ Below w1.heap.size w1 w2) :
    Calls Tryz.prog 66 #[.slice ad xs.length cap, .func (.func 67) #[] #[]] w fun e w' => ∃ ad' cap', e = .returned (.slice ad' xs.length cap') ∧ w'.ownsRow w.heap.size 40 3 (.slice ad' xs.length cap') xs.length (cNodes (xs.map id)) ∧ Below w.heap.size w w' := by
  obtain ⟨i0, qi, qz0, qz1, qz2⟩ := info_parts' Tryz.info_node
  have Hi := Lib.hid qi
  have Hz0 := Lib.hid qz0
  have Hz1 := Lib.hid qz1
  have Hz2 := Lib.hid qz2
  have HX := Lib.hid hx
  have HF := Lib.hid hF
  clear hx hF qi qz0 qz1 qz2
  go_enter Tryz.func66, Tryz.ntmps66
  go_wp2
  go_loopw [5, 10] (fun pv iv wr => ∃ (i : Nat), iv = .int .i64 (i : Int) ∧ i ≤ xs.length ∧ wr.ownsRow w.heap.size 40 3 pv i (cNodes ((xs.take i).map id)) ∧ Below w.heap.size w wr) (fun _ iv _ => xs.length - (intOf iv).toNat)
  case atStart => exact ⟨0, rfl, Nat.zero_le _, World.ownsRow_nil _ _ _ _, Below.refl _ _⟩
  case round =>
    obtain ⟨i, rfl, hi, hown, hbr⟩ := hrel
    by_cases h : (i : Int) < (xs.length : Int)
    · have hil : i < xs.length := by omega
      obtain ⟨a, rfl, hal, k0, k1, k2⟩ := nodesAt_next HX.out hbr i hil
      obtain ⟨x, hxi⟩ : ∃ x, xs[i] = x := ⟨_, rfl⟩
      rw [hxi] at k0 k1 k2
      have bA := below_one wr (.cells #[.string x.name, .int .i64 x.room, .string x.zone] 40)
      have BA := below_trans hbr bA hbr.size
      have HC := Lib.hid (HF.out x (hxi ▸ List.getElem_mem hil) _ BA)
      have HM := Lib.hid (map_take id xs i hil)
      rw [hxi] at HM
      have hown1 := own_next hown bA
      have HB := Lib.hid BA
      clear bA BA hxi
      go_wp2_with fail
      refine HC.out.mono ?_
      rintro r w2 ⟨rfl, b2⟩
      have hown2 := own_next hown1 b2
      have B2 := below_trans HB.out b2 HB.out.size
      have s2 := B2.size
      clear HC hown hown1 hbr HB b2 hal k0 k1 k2
      go_wp2_with (at_builtin; refine wpList_append_own _ rfl _ _ 23 rfl w.heap.size 40 i0 _ 3 40 Tryz.underlying23 Hi.out Hz0.out Hz1.out Hz2.out rfl (by decide) _ _ _ rfl (hown2.alloc _) ⟨w2.heap.size, 0, none⟩ 1 1 (cNode x) rfl rfl ?c1 ?c2 ?c3 ?c4 ?c5 ?_)
      case c1 => exact node_new w2 x _
      case c2 => exact node_ones x
      case c3 => unfold maxLen; omega
      case c4 => omega
      case c5 => simp; omega
      · intro v3 w3 own3 hg3 _
        have hb3 := (below_trans B2 (below_one w2 _) B2.size).grown hg3 (by simp; omega) (fun k hk' => (hown2.lt k hk').1)
        rw [← cNodes_one, ← cNodes_append] at own3
        have own4 : w3.ownsRow w.heap.size 40 3 v3 (i + 1) (cNodes ((xs.take (i + 1)).map id)) := by rw [HM.out]; simpa using own3
        clear hown2 B2 s2 own3 hg3
        go_wp2
        go_roundw
        case rel => exact ⟨i + 1, by simp, by omega, own4, hb3⟩
        case measure => simp [intOf]; omega
    · obtain rfl : i = xs.length := by omega
      rw [List.take_length] at hown
      have hl : (xs.map id).length = xs.length := List.length_map _
      have hown' := hown
      rw [← hl] at hown'
      obtain ⟨ad', cap', rfl, _⟩ := own_nodes hown'
      rw [hl] at hown ⊢
      clear hown'
      go_wp2
      go_ret
      exact ⟨_, _, rfl, (by first | exact hown | simpa using hown), hbr⟩
set_option maxRecDepth 100000 in
set_option maxHeartbeats 4000000 in
theorem eachL_sep (xs : List LeaseD) (ad : Option Addr) (cap : Nat) (hlen : xs.length ≤ 40) (w : World) (hx : LeasesAt w ad xs)
    (hF : ∀ x ∈ xs, ∀ w1, Below w.heap.size w w1 → Calls Tryz.prog 69 #[.agg #[.string x.job, .string x.node, .int .i64 x.til]] w1 fun e w2 => e = .returned (.agg #[.string x.job, .string x.node, .int .i64 x.til]) ∧ Below w1.heap.size w1 w2) :
    Calls Tryz.prog 68 #[.slice ad xs.length cap, .func (.func 69) #[] #[]] w fun e w' => ∃ ad' cap', e = .returned (.slice ad' xs.length cap') ∧ w'.ownsRow w.heap.size 42 3 (.slice ad' xs.length cap') xs.length (cLeases (xs.map id)) ∧ Below w.heap.size w w' := by
  obtain ⟨i0, qi, qz0, qz1, qz2⟩ := info_parts' Tryz.info_lease
  have Hi := Lib.hid qi
  have Hz0 := Lib.hid qz0
  have Hz1 := Lib.hid qz1
  have Hz2 := Lib.hid qz2
  have HX := Lib.hid hx
  have HF := Lib.hid hF
  clear hx hF qi qz0 qz1 qz2
  go_enter Tryz.func68, Tryz.ntmps68
  go_wp2
  go_loopw [5, 10] (fun pv iv wr => ∃ (i : Nat), iv = .int .i64 (i : Int) ∧ i ≤ xs.length ∧ wr.ownsRow w.heap.size 42 3 pv i (cLeases ((xs.take i).map id)) ∧ Below w.heap.size w wr) (fun _ iv _ => xs.length - (intOf iv).toNat)
  case atStart => exact ⟨0, rfl, Nat.zero_le _, World.ownsRow_nil _ _ _ _, Below.refl _ _⟩
  case round =>
    obtain ⟨i, rfl, hi, hown, hbr⟩ := hrel
    by_cases h : (i : Int) < (xs.length : Int)
    · have hil : i < xs.length := by omega
      obtain ⟨a, rfl, hal, k0, k1, k2⟩ := leasesAt_next HX.out hbr i hil
      obtain ⟨x, hxi⟩ : ∃ x, xs[i] = x := ⟨_, rfl⟩
      rw [hxi] at k0 k1 k2
      have bA := below_one wr (.cells #[.string x.job, .string x.node, .int .i64 x.til] 42)
      have BA := below_trans hbr bA hbr.size
      have HC := Lib.hid (HF.out x (hxi ▸ List.getElem_mem hil) _ BA)
      have HM := Lib.hid (map_take id xs i hil)
      rw [hxi] at HM
      have hown1 := own_next hown bA
      have HB := Lib.hid BA
      clear bA BA hxi
      go_wp2_with fail
      refine HC.out.mono ?_
      rintro r w2 ⟨rfl, b2⟩
      have hown2 := own_next hown1 b2
      have B2 := below_trans HB.out b2 HB.out.size
      have s2 := B2.size
      clear HC hown hown1 hbr HB b2 hal k0 k1 k2
      go_wp2_with (at_builtin; refine wpList_append_own _ rfl _ _ 24 rfl w.heap.size 42 i0 _ 3 40 Tryz.underlying24 Hi.out Hz0.out Hz1.out Hz2.out rfl (by decide) _ _ _ rfl (hown2.alloc _) ⟨w2.heap.size, 0, none⟩ 1 1 (cLease x) rfl rfl ?c1 ?c2 ?c3 ?c4 ?c5 ?_)
      case c1 => exact lease_new w2 x _
      case c2 => exact lease_ones x
      case c3 => unfold maxLen; omega
      case c4 => omega
      case c5 => simp; omega
      · intro v3 w3 own3 hg3 _
        have hb3 := (below_trans B2 (below_one w2 _) B2.size).grown hg3 (by simp; omega) (fun k hk' => (hown2.lt k hk').1)
        rw [← cLeases_one, ← cLeases_append] at own3
        have own4 : w3.ownsRow w.heap.size 42 3 v3 (i + 1) (cLeases ((xs.take (i + 1)).map id)) := by rw [HM.out]; simpa using own3
        clear hown2 B2 s2 own3 hg3
        go_wp2
        go_roundw
        case rel => exact ⟨i + 1, by simp, by omega, own4, hb3⟩
        case measure => simp [intOf]; omega
    · obtain rfl : i = xs.length := by omega
      rw [List.take_length] at hown
      have hl : (xs.map id).length = xs.length := List.length_map _
      have hown' := hown
      rw [← hl] at hown'
      obtain ⟨ad', cap', rfl, _⟩ := own_leases hown'
      rw [hl] at hown ⊢
      clear hown'
      go_wp2
      go_ret
      exact ⟨_, _, rfl, (by first | exact hown | simpa using hown), hbr⟩
end Go.Proofs.YthpgkfonbmffdaaGreatDoor
