/- slices.Grow of nil, slices.Concat of rows. -/
import Derived.Test.YthpgkfonbmffdaaGreatDoorSvFind
import Derived.Test.YthpgkfonbmffdaaGreatDoorPkSt2
import Derived.Lib.AppendZeros
namespace Go.Proofs.YthpgkfonbmffdaaGreatDoor
open Go.RowKit Go.Lib

/-- A new row of zeros, cut to nothing, is owned. -/
theorem own_room {e sz n : Nat} (w : World) (z : Array Value) (hz : z.size = sz) (hn : n ≤ 1000) : (w.drew.alloc (.cells (Builtin.zeroCells z n ++ Builtin.zeroCells z (grownCap w n 0 e - n)) e)).ownsRow w.heap.size e sz (.slice (some ⟨w.heap.size, 0, none⟩) 0 (grownCap w n 0 e)) 0 [] := by
  have h1 := grownCap_ge w n 0 e
  refine ⟨by simp, .inr ⟨w.heap.size, _, _, rfl, Nat.le_refl _, heap_alloc_new w.drew _, Nat.zero_le _, grownCap_le_maxLen w n 0 e (by unfold maxLen; omega), ?_, by simp⟩⟩
  rw [Array.size_append, size_zeroCells, size_zeroCells, hz, ← Nat.add_mul, Nat.add_sub_cancel' h1]


/-! ### Job -/
set_option maxRecDepth 100000 in
theorem svGrowJob_is (n : Nat) (hn : n ≤ 1000) (w : World) : Calls Tryz.prog 165 #[.slice none 0 0, .int .i64 (n : Int)] w fun e w' => ∃ ad cap, e = .returned (.slice ad 0 cap) ∧ w'.ownsRow w.heap.size 38 5 (.slice ad 0 cap) 0 [] ∧ Below w.heap.size w w' := by
  obtain ⟨i0, qi, qz0, qz1, qz2⟩ := info_parts' Tryz.info_job
  by_cases h0 : n = 0
  · subst h0
    clear qi qz0 qz1 qz2
    go_enter Tryz.func165, Tryz.ntmps165
    go_wp2
    go_ret
    exact ⟨none, 0, rfl, World.ownsRow_nil _ _ _ _, Below.refl _ _⟩
  · have HO := Lib.hid (own_room (e := 38) (sz := 5) (n := n) w #[.string ⟨#[]⟩, .int .i64 0, .int .i64 0, .int .i64 0, .string ⟨#[]⟩] rfl hn)
    have HR := Lib.hid (fun ty => Lib.run_append_nil_zeros (P := Tryz.prog) w 22 3 ty 38 i0 _ .i64 .i64 Tryz.underlying22 Tryz.underlying3 qi qz0 n (by omega) (by rw [qz1]; decide) (by omega) (by rw [qz2]; omega))
    clear qi qz0 qz1 qz2
    have hlt : (0 : Int) < (n : Int) := by omega
    have hnn : ¬ ((n : Int) < 0) := by omega
    go_enter Tryz.func165, Tryz.ntmps165
    go_wp2_with (at_builtin; refine Lib.wpList_append_run _ rfl _ _ _ _ rfl _ _ rfl rfl _ _ (HR.out _) ?_)
    have B2 : Below w.heap.size w (w.drew.alloc (.cells (Builtin.zeroCells #[.string ⟨#[]⟩, .int .i64 0, .int .i64 0, .int .i64 0, .string ⟨#[]⟩] n ++ Builtin.zeroCells #[.string ⟨#[]⟩, .int .i64 0, .int .i64 0, .int .i64 0, .string ⟨#[]⟩] (grownCap w n 0 38 - n)) 38)) := (Below.refl w.heap.size w).drew.alloc (Nat.le_refl _) _
    have B2 := Lib.hid B2
    go_wp2
    go_ret
    exact ⟨_, _, rfl, HO.out, B2.out⟩
/-- Rows beside each other, to be joined. -/
def catJob (ps : List (Option Addr × List JobD × Nat)) : List JobD := ps.flatMap (·.2.1)
def PartsJob (w : World) (ob : Nat) (ps : List (Option Addr × List JobD × Nat)) : Prop := ob < w.heap.size ∧ ∀ i (h : i < ps.length), w.cell? ⟨ob, i, none⟩ = some (.slice ps[i].1 ps[i].2.1.length ps[i].2.2) ∧ JobsAt w ps[i].1 ps[i].2.1
theorem partsJob_next {w w' : World} {ob : Nat} {ps : List (Option Addr × List JobD × Nat)} (h : PartsJob w ob ps) (hb : Below w.heap.size w w') : PartsJob w' ob ps := ⟨Nat.lt_of_lt_of_le h.1 hb.size, fun i hi => ⟨by rw [hb.cell (p := ⟨ob, i, none⟩) h.1]; exact (h.2 i hi).1, jobsAt_next (h.2 i hi).2 hb⟩⟩
theorem catJob_take (ps : List (Option Addr × List JobD × Nat)) {i : Nat} (h : i < ps.length) : catJob (ps.take (i + 1)) = catJob (ps.take i) ++ ps[i].2.1 := by
  unfold catJob; rw [List.take_succ_eq_append_getElem h, List.flatMap_append]; simp
theorem catJob_le (ps : List (Option Addr × List JobD × Nat)) (i : Nat) : (catJob (ps.take i)).length ≤ (catJob ps).length := by
  have : catJob ps = catJob (ps.take i) ++ catJob (ps.drop i) := by unfold catJob; rw [← List.flatMap_append, List.take_append_drop]
  rw [this, List.length_append]; omega
set_option maxRecDepth 100000 in
set_option maxHeartbeats 4000000 in
theorem svCatJob_is (ps : List (Option Addr × List JobD × Nat)) (ob c : Nat) (hl : (catJob ps).length ≤ 1000) (hp : ps.length ≤ 10) (w : World) (hx : PartsJob w ob ps) :
    Calls Tryz.prog 136 #[.slice (some ⟨ob, 0, none⟩) ps.length c] w fun e w' => ∃ ad cap, e = .returned (.slice ad (catJob ps).length cap) ∧ w'.ownsRow w.heap.size 38 5 (.slice ad (catJob ps).length cap) (catJob ps).length (cJobs (catJob ps)) ∧ Below w.heap.size w w' := by
  obtain ⟨i0, qi, qz0, qz1, qz2⟩ := info_parts' Tryz.info_job
  have Hi := Lib.hid qi
  have Hz0 := Lib.hid qz0
  have Hz1 := Lib.hid qz1
  have Hz2 := Lib.hid qz2
  have HX := Lib.hid hx
  clear qi qz0 qz1 qz2 hx
  go_enter Tryz.func136, Tryz.ntmps136
  go_wp2
  go_loopw [3, 11] (fun sv iv wr => ∃ i : Nat, iv = .int .i64 (i : Int) ∧ sv = .int .i64 ((catJob (ps.take i)).length : Int) ∧ i ≤ ps.length ∧ Below w.heap.size w wr) (fun _ iv _ => ps.length - (intOf iv).toNat)
  case atStart => exact ⟨0, rfl, by simp [catJob], Nat.zero_le _, Below.refl _ _⟩
  case round =>
    obtain ⟨i, rfl, rfl, hi, hbr⟩ := hrel
    by_cases h : (i : Int) < (ps.length : Int)
    case pos =>
      have hil : i < ps.length := by omega
      obtain ⟨k0, _⟩ := (partsJob_next HX.out hbr).2 i hil
      have hob := (partsJob_next HX.out hbr).1
      have hE := catJob_take ps hil
      have hE2 := catJob_le ps (i + 1)
      rw [hE, List.length_append] at hE2
      obtain ⟨⟨pa, pl, pc⟩, hpi⟩ : ∃ p, ps[i] = p := ⟨_, rfl⟩
      rw [hpi] at k0 hE hE2
      simp only at k0 hE hE2
      have HE : Hid ((catJob (ps.take (i + 1))).length = (catJob (ps.take i)).length + pl.length) := by show _ = _; rw [hE, List.length_append]
      obtain ⟨L, hL⟩ : ∃ L, (catJob (ps.take i)).length = L := ⟨_, rfl⟩
      rw [hL] at HE hE2 ⊢
      have hnn : ¬ ((L : Int) + (pl.length : Int) < 0) := by omega
      have HB := Lib.hid hbr
      clear hE hbr hpi hL
      go_wp2
      go_roundw
      case rel => exact ⟨i + 1, by simp, by rw [HE.out]; simp, by omega, HB.out⟩
      case measure => simp [intOf]; omega
    case neg =>
      obtain rfl : i = ps.length := by omega
      rw [List.take_length]
      have C1 := Lib.hid (svGrowJob_is (catJob ps).length hl wr)
      have HB := Lib.hid hbr
      clear hbr hi h
      go_wp2_with fail
      refine C1.out.mono ?_
      rintro e w1 ⟨pad, pcap, rfl, own0, b1⟩
      have B1 := Lib.hid (below_trans HB.out b1 HB.out.size)
      have O0 := Lib.hid (ownsRow_low own0 HB.out.size)
      clear own0 b1 C1
      go_wp2
      go_loopw [6, 27] (fun pv iv wr => ∃ i : Nat, iv = .int .i64 (i : Int) ∧ i ≤ ps.length ∧ wr.ownsRow w.heap.size 38 5 pv (catJob (ps.take i)).length (cJobs (catJob (ps.take i))) ∧ Below w.heap.size w wr) (fun _ iv _ => ps.length - (intOf iv).toNat)
      case atStart => exact ⟨0, rfl, Nat.zero_le _, by simpa [catJob, cJobs] using O0.out, B1.out⟩
      case round =>
        obtain ⟨i, rfl, hi, own, hbr⟩ := hrel
        obtain ⟨n0, hn0⟩ : ∃ n0, (catJob (ps.take i)).length = n0 := ⟨_, rfl⟩
        rw [hn0] at own
        obtain ⟨qad, qcap, rfl⟩ := ownRow_slice own
        by_cases h : (i : Int) < (ps.length : Int)
        case pos =>
          subst hn0
          have hil : i < ps.length := by omega
          obtain ⟨k0, ka⟩ := (partsJob_next HX.out hbr).2 i hil
          have hob := (partsJob_next HX.out hbr).1
          have hE := catJob_take ps hil
          have hE2 := catJob_le ps (i + 1)
          rw [hE, List.length_append] at hE2
          obtain ⟨⟨pa, pl, pc⟩, hpi⟩ : ∃ p, ps[i] = p := ⟨_, rfl⟩
          rw [hpi] at k0 hE hE2 ka
          simp only at k0 hE hE2 ka
          have HE := Lib.hid hE
          obtain ⟨L, hL⟩ : ∃ L, catJob (ps.take i) = L := ⟨_, rfl⟩
          rw [hL] at HE hE2 own ⊢
          have HB := Lib.hid hbr
          have OW := Lib.hid own
          have KA := Lib.hid ka
          clear hE hbr hpi hL own ka
          go_wp2_with (at_builtin; refine wpList_app rfl _ _ 22 rfl w.heap.size 38 i0 _ 5 56 Tryz.underlying22 Hi.out Hz0.out Hz1.out Hz2.out rfl (by decide) _ _ _ rfl OW.out _ _ _ (cJobs pl) rfl ?c1 ?c2 ?c3 ?c4 ?c5 ?c6 ?_)
          case c1 => rw [cJobs_length]
          case c2 => exact src_job KA.out
          case c3 => exact cJobs_ones pl
          case c4 => unfold maxLen; omega
          case c5 => omega
          case c6 => exact HB.out.size
          intro v' w1 own1 hg _
          have B2 := Lib.hid (HB.out.grown hg HB.out.size (fun k hk => (OW.out.lt k hk).1))
          rw [← cJobs_append, ← List.length_append] at own1
          obtain ⟨ad2, cap2, rfl⟩ := ownRow_slice own1
          have O1 := Lib.hid own1
          clear own1 hg
          go_wp2
          go_roundw
          case rel => exact ⟨i + 1, by simp, by omega, by rw [HE.out]; exact O1.out, B2.out⟩
          case measure => simp [intOf]; omega
        case neg =>
          obtain rfl : i = ps.length := by omega
          rw [List.take_length] at own hn0
          subst hn0
          have Q := Lib.hid (And.intro own hbr)
          clear own hbr hi h
          go_wp2
          go_ret
          exact ⟨qad, qcap, rfl, Q.out⟩

/-! ### Node -/
set_option maxRecDepth 100000 in
theorem svGrowNode_is (n : Nat) (hn : n ≤ 1000) (w : World) : Calls Tryz.prog 168 #[.slice none 0 0, .int .i64 (n : Int)] w fun e w' => ∃ ad cap, e = .returned (.slice ad 0 cap) ∧ w'.ownsRow w.heap.size 40 3 (.slice ad 0 cap) 0 [] ∧ Below w.heap.size w w' := by
  obtain ⟨i0, qi, qz0, qz1, qz2⟩ := info_parts' Tryz.info_node
  by_cases h0 : n = 0
  · subst h0
    clear qi qz0 qz1 qz2
    go_enter Tryz.func168, Tryz.ntmps168
    go_wp2
    go_ret
    exact ⟨none, 0, rfl, World.ownsRow_nil _ _ _ _, Below.refl _ _⟩
  · have HO := Lib.hid (own_room (e := 40) (sz := 3) (n := n) w #[.string ⟨#[]⟩, .int .i64 0, .string ⟨#[]⟩] rfl hn)
    have HR := Lib.hid (fun ty => Lib.run_append_nil_zeros (P := Tryz.prog) w 23 3 ty 40 i0 _ .i64 .i64 Tryz.underlying23 Tryz.underlying3 qi qz0 n (by omega) (by rw [qz1]; decide) (by omega) (by rw [qz2]; omega))
    clear qi qz0 qz1 qz2
    have hlt : (0 : Int) < (n : Int) := by omega
    have hnn : ¬ ((n : Int) < 0) := by omega
    go_enter Tryz.func168, Tryz.ntmps168
    go_wp2_with (at_builtin; refine Lib.wpList_append_run _ rfl _ _ _ _ rfl _ _ rfl rfl _ _ (HR.out _) ?_)
    have B2 : Below w.heap.size w (w.drew.alloc (.cells (Builtin.zeroCells #[.string ⟨#[]⟩, .int .i64 0, .string ⟨#[]⟩] n ++ Builtin.zeroCells #[.string ⟨#[]⟩, .int .i64 0, .string ⟨#[]⟩] (grownCap w n 0 40 - n)) 40)) := (Below.refl w.heap.size w).drew.alloc (Nat.le_refl _) _
    have B2 := Lib.hid B2
    go_wp2
    go_ret
    exact ⟨_, _, rfl, HO.out, B2.out⟩
/-- Rows beside each other, to be joined. -/
def catNode (ps : List (Option Addr × List NodeD × Nat)) : List NodeD := ps.flatMap (·.2.1)
def PartsNode (w : World) (ob : Nat) (ps : List (Option Addr × List NodeD × Nat)) : Prop := ob < w.heap.size ∧ ∀ i (h : i < ps.length), w.cell? ⟨ob, i, none⟩ = some (.slice ps[i].1 ps[i].2.1.length ps[i].2.2) ∧ NodesAt w ps[i].1 ps[i].2.1
theorem partsNode_next {w w' : World} {ob : Nat} {ps : List (Option Addr × List NodeD × Nat)} (h : PartsNode w ob ps) (hb : Below w.heap.size w w') : PartsNode w' ob ps := ⟨Nat.lt_of_lt_of_le h.1 hb.size, fun i hi => ⟨by rw [hb.cell (p := ⟨ob, i, none⟩) h.1]; exact (h.2 i hi).1, nodesAt_next (h.2 i hi).2 hb⟩⟩
theorem catNode_take (ps : List (Option Addr × List NodeD × Nat)) {i : Nat} (h : i < ps.length) : catNode (ps.take (i + 1)) = catNode (ps.take i) ++ ps[i].2.1 := by
  unfold catNode; rw [List.take_succ_eq_append_getElem h, List.flatMap_append]; simp
theorem catNode_le (ps : List (Option Addr × List NodeD × Nat)) (i : Nat) : (catNode (ps.take i)).length ≤ (catNode ps).length := by
  have : catNode ps = catNode (ps.take i) ++ catNode (ps.drop i) := by unfold catNode; rw [← List.flatMap_append, List.take_append_drop]
  rw [this, List.length_append]; omega
set_option maxRecDepth 100000 in
set_option maxHeartbeats 4000000 in
theorem svCatNode_is (ps : List (Option Addr × List NodeD × Nat)) (ob c : Nat) (hl : (catNode ps).length ≤ 1000) (hp : ps.length ≤ 10) (w : World) (hx : PartsNode w ob ps) :
    Calls Tryz.prog 138 #[.slice (some ⟨ob, 0, none⟩) ps.length c] w fun e w' => ∃ ad cap, e = .returned (.slice ad (catNode ps).length cap) ∧ w'.ownsRow w.heap.size 40 3 (.slice ad (catNode ps).length cap) (catNode ps).length (cNodes (catNode ps)) ∧ Below w.heap.size w w' := by
  obtain ⟨i0, qi, qz0, qz1, qz2⟩ := info_parts' Tryz.info_node
  have Hi := Lib.hid qi
  have Hz0 := Lib.hid qz0
  have Hz1 := Lib.hid qz1
  have Hz2 := Lib.hid qz2
  have HX := Lib.hid hx
  clear qi qz0 qz1 qz2 hx
  go_enter Tryz.func138, Tryz.ntmps138
  go_wp2
  go_loopw [3, 11] (fun sv iv wr => ∃ i : Nat, iv = .int .i64 (i : Int) ∧ sv = .int .i64 ((catNode (ps.take i)).length : Int) ∧ i ≤ ps.length ∧ Below w.heap.size w wr) (fun _ iv _ => ps.length - (intOf iv).toNat)
  case atStart => exact ⟨0, rfl, by simp [catNode], Nat.zero_le _, Below.refl _ _⟩
  case round =>
    obtain ⟨i, rfl, rfl, hi, hbr⟩ := hrel
    by_cases h : (i : Int) < (ps.length : Int)
    case pos =>
      have hil : i < ps.length := by omega
      obtain ⟨k0, _⟩ := (partsNode_next HX.out hbr).2 i hil
      have hob := (partsNode_next HX.out hbr).1
      have hE := catNode_take ps hil
      have hE2 := catNode_le ps (i + 1)
      rw [hE, List.length_append] at hE2
      obtain ⟨⟨pa, pl, pc⟩, hpi⟩ : ∃ p, ps[i] = p := ⟨_, rfl⟩
      rw [hpi] at k0 hE hE2
      simp only at k0 hE hE2
      have HE : Hid ((catNode (ps.take (i + 1))).length = (catNode (ps.take i)).length + pl.length) := by show _ = _; rw [hE, List.length_append]
      obtain ⟨L, hL⟩ : ∃ L, (catNode (ps.take i)).length = L := ⟨_, rfl⟩
      rw [hL] at HE hE2 ⊢
      have hnn : ¬ ((L : Int) + (pl.length : Int) < 0) := by omega
      have HB := Lib.hid hbr
      clear hE hbr hpi hL
      go_wp2
      go_roundw
      case rel => exact ⟨i + 1, by simp, by rw [HE.out]; simp, by omega, HB.out⟩
      case measure => simp [intOf]; omega
    case neg =>
      obtain rfl : i = ps.length := by omega
      rw [List.take_length]
      have C1 := Lib.hid (svGrowNode_is (catNode ps).length hl wr)
      have HB := Lib.hid hbr
      clear hbr hi h
      go_wp2_with fail
      refine C1.out.mono ?_
      rintro e w1 ⟨pad, pcap, rfl, own0, b1⟩
      have B1 := Lib.hid (below_trans HB.out b1 HB.out.size)
      have O0 := Lib.hid (ownsRow_low own0 HB.out.size)
      clear own0 b1 C1
      go_wp2
      go_loopw [6, 27] (fun pv iv wr => ∃ i : Nat, iv = .int .i64 (i : Int) ∧ i ≤ ps.length ∧ wr.ownsRow w.heap.size 40 3 pv (catNode (ps.take i)).length (cNodes (catNode (ps.take i))) ∧ Below w.heap.size w wr) (fun _ iv _ => ps.length - (intOf iv).toNat)
      case atStart => exact ⟨0, rfl, Nat.zero_le _, by simpa [catNode, cNodes] using O0.out, B1.out⟩
      case round =>
        obtain ⟨i, rfl, hi, own, hbr⟩ := hrel
        obtain ⟨n0, hn0⟩ : ∃ n0, (catNode (ps.take i)).length = n0 := ⟨_, rfl⟩
        rw [hn0] at own
        obtain ⟨qad, qcap, rfl⟩ := ownRow_slice own
        by_cases h : (i : Int) < (ps.length : Int)
        case pos =>
          subst hn0
          have hil : i < ps.length := by omega
          obtain ⟨k0, ka⟩ := (partsNode_next HX.out hbr).2 i hil
          have hob := (partsNode_next HX.out hbr).1
          have hE := catNode_take ps hil
          have hE2 := catNode_le ps (i + 1)
          rw [hE, List.length_append] at hE2
          obtain ⟨⟨pa, pl, pc⟩, hpi⟩ : ∃ p, ps[i] = p := ⟨_, rfl⟩
          rw [hpi] at k0 hE hE2 ka
          simp only at k0 hE hE2 ka
          have HE := Lib.hid hE
          obtain ⟨L, hL⟩ : ∃ L, catNode (ps.take i) = L := ⟨_, rfl⟩
          rw [hL] at HE hE2 own ⊢
          have HB := Lib.hid hbr
          have OW := Lib.hid own
          have KA := Lib.hid ka
          clear hE hbr hpi hL own ka
          go_wp2_with (at_builtin; refine wpList_app rfl _ _ 23 rfl w.heap.size 40 i0 _ 3 40 Tryz.underlying23 Hi.out Hz0.out Hz1.out Hz2.out rfl (by decide) _ _ _ rfl OW.out _ _ _ (cNodes pl) rfl ?c1 ?c2 ?c3 ?c4 ?c5 ?c6 ?_)
          case c1 => rw [cNodes_length]
          case c2 => exact src_node KA.out
          case c3 => exact cNodes_ones pl
          case c4 => unfold maxLen; omega
          case c5 => omega
          case c6 => exact HB.out.size
          intro v' w1 own1 hg _
          have B2 := Lib.hid (HB.out.grown hg HB.out.size (fun k hk => (OW.out.lt k hk).1))
          rw [← cNodes_append, ← List.length_append] at own1
          obtain ⟨ad2, cap2, rfl⟩ := ownRow_slice own1
          have O1 := Lib.hid own1
          clear own1 hg
          go_wp2
          go_roundw
          case rel => exact ⟨i + 1, by simp, by omega, by rw [HE.out]; exact O1.out, B2.out⟩
          case measure => simp [intOf]; omega
        case neg =>
          obtain rfl : i = ps.length := by omega
          rw [List.take_length] at own hn0
          subst hn0
          have Q := Lib.hid (And.intro own hbr)
          clear own hbr hi h
          go_wp2
          go_ret
          exact ⟨qad, qcap, rfl, Q.out⟩

/-! ### Lease -/
set_option maxRecDepth 100000 in
theorem svGrowLease_is (n : Nat) (hn : n ≤ 1000) (w : World) : Calls Tryz.prog 183 #[.slice none 0 0, .int .i64 (n : Int)] w fun e w' => ∃ ad cap, e = .returned (.slice ad 0 cap) ∧ w'.ownsRow w.heap.size 42 3 (.slice ad 0 cap) 0 [] ∧ Below w.heap.size w w' := by
  obtain ⟨i0, qi, qz0, qz1, qz2⟩ := info_parts' Tryz.info_lease
  by_cases h0 : n = 0
  · subst h0
    clear qi qz0 qz1 qz2
    go_enter Tryz.func183, Tryz.ntmps183
    go_wp2
    go_ret
    exact ⟨none, 0, rfl, World.ownsRow_nil _ _ _ _, Below.refl _ _⟩
  · have HO := Lib.hid (own_room (e := 42) (sz := 3) (n := n) w #[.string ⟨#[]⟩, .string ⟨#[]⟩, .int .i64 0] rfl hn)
    have HR := Lib.hid (fun ty => Lib.run_append_nil_zeros (P := Tryz.prog) w 24 3 ty 42 i0 _ .i64 .i64 Tryz.underlying24 Tryz.underlying3 qi qz0 n (by omega) (by rw [qz1]; decide) (by omega) (by rw [qz2]; omega))
    clear qi qz0 qz1 qz2
    have hlt : (0 : Int) < (n : Int) := by omega
    have hnn : ¬ ((n : Int) < 0) := by omega
    go_enter Tryz.func183, Tryz.ntmps183
    go_wp2_with (at_builtin; refine Lib.wpList_append_run _ rfl _ _ _ _ rfl _ _ rfl rfl _ _ (HR.out _) ?_)
    have B2 : Below w.heap.size w (w.drew.alloc (.cells (Builtin.zeroCells #[.string ⟨#[]⟩, .string ⟨#[]⟩, .int .i64 0] n ++ Builtin.zeroCells #[.string ⟨#[]⟩, .string ⟨#[]⟩, .int .i64 0] (grownCap w n 0 42 - n)) 42)) := (Below.refl w.heap.size w).drew.alloc (Nat.le_refl _) _
    have B2 := Lib.hid B2
    go_wp2
    go_ret
    exact ⟨_, _, rfl, HO.out, B2.out⟩
/-- Rows beside each other, to be joined. -/
def catLease (ps : List (Option Addr × List LeaseD × Nat)) : List LeaseD := ps.flatMap (·.2.1)
def PartsLease (w : World) (ob : Nat) (ps : List (Option Addr × List LeaseD × Nat)) : Prop := ob < w.heap.size ∧ ∀ i (h : i < ps.length), w.cell? ⟨ob, i, none⟩ = some (.slice ps[i].1 ps[i].2.1.length ps[i].2.2) ∧ LeasesAt w ps[i].1 ps[i].2.1
theorem partsLease_next {w w' : World} {ob : Nat} {ps : List (Option Addr × List LeaseD × Nat)} (h : PartsLease w ob ps) (hb : Below w.heap.size w w') : PartsLease w' ob ps := ⟨Nat.lt_of_lt_of_le h.1 hb.size, fun i hi => ⟨by rw [hb.cell (p := ⟨ob, i, none⟩) h.1]; exact (h.2 i hi).1, leasesAt_next (h.2 i hi).2 hb⟩⟩
theorem catLease_take (ps : List (Option Addr × List LeaseD × Nat)) {i : Nat} (h : i < ps.length) : catLease (ps.take (i + 1)) = catLease (ps.take i) ++ ps[i].2.1 := by
  unfold catLease; rw [List.take_succ_eq_append_getElem h, List.flatMap_append]; simp
theorem catLease_le (ps : List (Option Addr × List LeaseD × Nat)) (i : Nat) : (catLease (ps.take i)).length ≤ (catLease ps).length := by
  have : catLease ps = catLease (ps.take i) ++ catLease (ps.drop i) := by unfold catLease; rw [← List.flatMap_append, List.take_append_drop]
  rw [this, List.length_append]; omega
set_option maxRecDepth 100000 in
set_option maxHeartbeats 4000000 in
theorem svCatLease_is (ps : List (Option Addr × List LeaseD × Nat)) (ob c : Nat) (hl : (catLease ps).length ≤ 1000) (hp : ps.length ≤ 10) (w : World) (hx : PartsLease w ob ps) :
    Calls Tryz.prog 173 #[.slice (some ⟨ob, 0, none⟩) ps.length c] w fun e w' => ∃ ad cap, e = .returned (.slice ad (catLease ps).length cap) ∧ w'.ownsRow w.heap.size 42 3 (.slice ad (catLease ps).length cap) (catLease ps).length (cLeases (catLease ps)) ∧ Below w.heap.size w w' := by
  obtain ⟨i0, qi, qz0, qz1, qz2⟩ := info_parts' Tryz.info_lease
  have Hi := Lib.hid qi
  have Hz0 := Lib.hid qz0
  have Hz1 := Lib.hid qz1
  have Hz2 := Lib.hid qz2
  have HX := Lib.hid hx
  clear qi qz0 qz1 qz2 hx
  go_enter Tryz.func173, Tryz.ntmps173
  go_wp2
  go_loopw [3, 11] (fun sv iv wr => ∃ i : Nat, iv = .int .i64 (i : Int) ∧ sv = .int .i64 ((catLease (ps.take i)).length : Int) ∧ i ≤ ps.length ∧ Below w.heap.size w wr) (fun _ iv _ => ps.length - (intOf iv).toNat)
  case atStart => exact ⟨0, rfl, by simp [catLease], Nat.zero_le _, Below.refl _ _⟩
  case round =>
    obtain ⟨i, rfl, rfl, hi, hbr⟩ := hrel
    by_cases h : (i : Int) < (ps.length : Int)
    case pos =>
      have hil : i < ps.length := by omega
      obtain ⟨k0, _⟩ := (partsLease_next HX.out hbr).2 i hil
      have hob := (partsLease_next HX.out hbr).1
      have hE := catLease_take ps hil
      have hE2 := catLease_le ps (i + 1)
      rw [hE, List.length_append] at hE2
      obtain ⟨⟨pa, pl, pc⟩, hpi⟩ : ∃ p, ps[i] = p := ⟨_, rfl⟩
      rw [hpi] at k0 hE hE2
      simp only at k0 hE hE2
      have HE : Hid ((catLease (ps.take (i + 1))).length = (catLease (ps.take i)).length + pl.length) := by show _ = _; rw [hE, List.length_append]
      obtain ⟨L, hL⟩ : ∃ L, (catLease (ps.take i)).length = L := ⟨_, rfl⟩
      rw [hL] at HE hE2 ⊢
      have hnn : ¬ ((L : Int) + (pl.length : Int) < 0) := by omega
      have HB := Lib.hid hbr
      clear hE hbr hpi hL
      go_wp2
      go_roundw
      case rel => exact ⟨i + 1, by simp, by rw [HE.out]; simp, by omega, HB.out⟩
      case measure => simp [intOf]; omega
    case neg =>
      obtain rfl : i = ps.length := by omega
      rw [List.take_length]
      have C1 := Lib.hid (svGrowLease_is (catLease ps).length hl wr)
      have HB := Lib.hid hbr
      clear hbr hi h
      go_wp2_with fail
      refine C1.out.mono ?_
      rintro e w1 ⟨pad, pcap, rfl, own0, b1⟩
      have B1 := Lib.hid (below_trans HB.out b1 HB.out.size)
      have O0 := Lib.hid (ownsRow_low own0 HB.out.size)
      clear own0 b1 C1
      go_wp2
      go_loopw [6, 27] (fun pv iv wr => ∃ i : Nat, iv = .int .i64 (i : Int) ∧ i ≤ ps.length ∧ wr.ownsRow w.heap.size 42 3 pv (catLease (ps.take i)).length (cLeases (catLease (ps.take i))) ∧ Below w.heap.size w wr) (fun _ iv _ => ps.length - (intOf iv).toNat)
      case atStart => exact ⟨0, rfl, Nat.zero_le _, by simpa [catLease, cLeases] using O0.out, B1.out⟩
      case round =>
        obtain ⟨i, rfl, hi, own, hbr⟩ := hrel
        obtain ⟨n0, hn0⟩ : ∃ n0, (catLease (ps.take i)).length = n0 := ⟨_, rfl⟩
        rw [hn0] at own
        obtain ⟨qad, qcap, rfl⟩ := ownRow_slice own
        by_cases h : (i : Int) < (ps.length : Int)
        case pos =>
          subst hn0
          have hil : i < ps.length := by omega
          obtain ⟨k0, ka⟩ := (partsLease_next HX.out hbr).2 i hil
          have hob := (partsLease_next HX.out hbr).1
          have hE := catLease_take ps hil
          have hE2 := catLease_le ps (i + 1)
          rw [hE, List.length_append] at hE2
          obtain ⟨⟨pa, pl, pc⟩, hpi⟩ : ∃ p, ps[i] = p := ⟨_, rfl⟩
          rw [hpi] at k0 hE hE2 ka
          simp only at k0 hE hE2 ka
          have HE := Lib.hid hE
          obtain ⟨L, hL⟩ : ∃ L, catLease (ps.take i) = L := ⟨_, rfl⟩
          rw [hL] at HE hE2 own ⊢
          have HB := Lib.hid hbr
          have OW := Lib.hid own
          have KA := Lib.hid ka
          clear hE hbr hpi hL own ka
          go_wp2_with (at_builtin; refine wpList_app rfl _ _ 24 rfl w.heap.size 42 i0 _ 3 40 Tryz.underlying24 Hi.out Hz0.out Hz1.out Hz2.out rfl (by decide) _ _ _ rfl OW.out _ _ _ (cLeases pl) rfl ?c1 ?c2 ?c3 ?c4 ?c5 ?c6 ?_)
          case c1 => rw [cLeases_length]
          case c2 => exact src_lease KA.out
          case c3 => exact cLeases_ones pl
          case c4 => unfold maxLen; omega
          case c5 => omega
          case c6 => exact HB.out.size
          intro v' w1 own1 hg _
          have B2 := Lib.hid (HB.out.grown hg HB.out.size (fun k hk => (OW.out.lt k hk).1))
          rw [← cLeases_append, ← List.length_append] at own1
          obtain ⟨ad2, cap2, rfl⟩ := ownRow_slice own1
          have O1 := Lib.hid own1
          clear own1 hg
          go_wp2
          go_roundw
          case rel => exact ⟨i + 1, by simp, by omega, by rw [HE.out]; exact O1.out, B2.out⟩
          case measure => simp [intOf]; omega
        case neg =>
          obtain rfl : i = ps.length := by omega
          rw [List.take_length] at own hn0
          subst hn0
          have Q := Lib.hid (And.intro own hbr)
          clear own hbr hi h
          go_wp2
          go_ret
          exact ⟨qad, qcap, rfl, Q.out⟩
end Go.Proofs.YthpgkfonbmffdaaGreatDoor
