/- For every state the law DeltaAll of the package brackenkeep returns true, as a tied card: applying the delta that removes all leaves a state of nothing, and it is the delta to that state. Condition: the library's two tables unicode/utf8.first and acceptRanges start as their text lays them (the card ties them; first is pinned). -/
import Derived.Test.YthfbjmjohmkfjaaGreatDoorDlUse2
import Derived.Test.YthfbjmjohmkfjaaGreatDoorDlAll
import Derived.Test.YthfbjmjohmkfjaaGreatDoorDlGrow
namespace Go.Proofs.YthfbjmjohmkfjaaGreatDoor.deltaAll
open Go.ChangeShapes Go.WideShapes Go.ChangeAt Go.RowKit
set_option linter.unusedVariables false

set_option maxRecDepth 100000 in
set_option maxHeartbeats 8000000 in
theorem walk (Ms : StM) (s : StD) (hws : wState s) (hzs : SzState s) (w : World) (hms : StateAt w Ms s) (hT : Tabs w) :
    Calls Tryz.prog 7 #[stV Ms s] w fun e w' => e = .returned (.bool true) ∧ Below w.heap.size w w' := by
  obtain ⟨ajs, cjs, ans, cns, als, cls⟩ := Ms
  have hms : JobsAt w ajs s.jobs ∧ NodesAt w ans s.nodes ∧ LeasesAt w als s.leases := hms
  show Calls _ _ #[.agg #[.int .i64 s.rev, .slice ajs s.jobs.length cjs, .slice ans s.nodes.length cns, .slice als s.leases.length cls]] _ _
  have B0 : Below w.heap.size w w := Below.refl _ _
  have bA := below_one w (.cells #[.int .i64 s.rev, .slice ajs s.jobs.length cjs, .slice ans s.nodes.length cns, .slice als s.leases.length cls] 26)
  have iN := bxS_new (cj := cjs) (cn := cns) (cl := cls) (w := w) (And.intro (jobsAt_next hms.1 B0) (And.intro (nodesAt_next hms.2.1 B0) (leasesAt_next hms.2.2 B0)))
  have Is0 := iN
  have B0 := below_trans B0 bA B0.size
  clear bA iN
  obtain ⟨W0, hW0⟩ : ∃ W0, (w.alloc (.cells #[.int .i64 s.rev, .slice ajs s.jobs.length cjs, .slice ans s.nodes.length cns, .slice als s.leases.length cls] 26)) = W0 := ⟨_, rfl⟩
  rw [hW0] at B0 Is0
  have HT := Lib.hid hT
  have HWs := Lib.hid hws
  try simp only [World.size_alloc] at Is0
  have B0 := Lib.hid B0
  have Is0 := Lib.hid Is0
  clear hT hms hws hzs
  obtain ⟨ec, hec⟩ : ∃ e, checkE V8 s = e := ⟨_, rfl⟩
  have HC := Lib.hid hec
  by_cases hc : ec ≠ 0
  · have hc' : ((ec : Int) != 0) = true := by simp; omega
    clear hc hec
    have C := Lib.hid (differed_is W0 (HT.out.below B0.out))
    go_enter Tryz.func7, Tryz.ntmps7
    go_wp2_with fail
    refine C.out.mono ?_
    rintro e W1 ⟨rfl, b⟩
    have Is1 := Lib.hid (bxS_next Is0.out b)
    have B1 := Lib.hid (below_trans B0.out b B0.out.size)
    clear b C
    have C := Lib.hid ((by have h := check_any s.rev ajs ans als cjs cns cls s.jobs s.nodes s.leases HWs.out W1 (HT.out.below B1.out) Is1.out.2.1 Is1.out.2.2.1 Is1.out.2.2.2; rw [show (⟨s.rev, s.jobs, s.nodes, s.leases⟩ : StD) = s from rfl, HC.out] at h; exact h : Calls Tryz.prog 19 #[.agg #[.int .i64 s.rev, .slice ajs s.jobs.length cjs, .slice ans s.nodes.length cns, .slice als s.leases.length cls]] W1 fun e w' => e = .returned (.int .i64 (ec : Nat)) ∧ Below W1.heap.size W1 w'))
    obtain ⟨zs0, zs1, zs2, zs3⟩ := bxS_cells Is1.out
    go_wp2_with fail
    refine C.out.mono ?_
    rintro e W2 ⟨rfl, b⟩
    clear zs0 zs1 zs2 zs3
    have Is2 := Lib.hid (bxS_next Is1.out b)
    have B2 := Lib.hid (below_trans B1.out b B1.out.size)
    clear b C
    go_wp2
    go_ret
    exact ⟨rfl, B2.out⟩
  obtain rfl : ec = 0 := by simpa using hc
  clear hc
  have hv := ((check_zero V8 s).1 hec).1
  clear hec
  by_cases hr : s.rev = 1099511627776
  · have hr' : (s.rev == 1099511627776) = true := by simpa using hr
    have HR := Lib.hid hr
    clear hr hv
    have C := Lib.hid (differed_is W0 (HT.out.below B0.out))
    go_enter Tryz.func7, Tryz.ntmps7
    go_wp2_with fail
    refine C.out.mono ?_
    rintro e W1 ⟨rfl, b⟩
    have Is1 := Lib.hid (bxS_next Is0.out b)
    have B1 := Lib.hid (below_trans B0.out b B0.out.size)
    clear b C
    have C := Lib.hid ((by have h := check_any s.rev ajs ans als cjs cns cls s.jobs s.nodes s.leases HWs.out W1 (HT.out.below B1.out) Is1.out.2.1 Is1.out.2.2.1 Is1.out.2.2.2; rw [show (⟨s.rev, s.jobs, s.nodes, s.leases⟩ : StD) = s from rfl, HC.out] at h; exact h : Calls Tryz.prog 19 #[.agg #[.int .i64 s.rev, .slice ajs s.jobs.length cjs, .slice ans s.nodes.length cns, .slice als s.leases.length cls]] W1 fun e w' => e = .returned (.int .i64 (0 : Nat)) ∧ Below W1.heap.size W1 w'))
    obtain ⟨zs0, zs1, zs2, zs3⟩ := bxS_cells Is1.out
    go_wp2_with fail
    refine C.out.mono ?_
    rintro e W2 ⟨rfl, b⟩
    clear zs0 zs1 zs2 zs3
    have Is2 := Lib.hid (bxS_next Is1.out b)
    have B2 := Lib.hid (below_trans B1.out b B1.out.size)
    clear b C
    obtain ⟨zs0, zs1, zs2, zs3⟩ := bxS_cells Is2.out
    go_wp2
    go_ret
    exact ⟨rfl, B2.out⟩
  have hr2 : 0 ≤ s.rev ∧ s.rev < 1099511627776 := by omega
  have hr' : (s.rev == 1099511627776) = false := by simpa using hr
  have E1 := Lib.hid (apply_bare HC.out hr2.2)
  have E2 := Lib.hid (diff_all HC.out hr2.2)
  have HWA := Lib.hid (wDelta_all HWs.out hr2)
  have HWB : Hid (wState (bareS (s.rev + 1))) := wState_chk (check_bare (by omega))
  have HLD := Lib.hid (lenD_all HC.out)
  have HLS := Lib.hid (valid_facts HC.out).2.1
  have HR := Lib.hid hr2
  have u1 : IntKind.i64.wrap (s.rev + 1) = s.rev + 1 := IntWalk.i64_in _ (by omega)
  clear hr hv hr2
  have C := Lib.hid (differed_is W0 (HT.out.below B0.out))
  go_enter Tryz.func7, Tryz.ntmps7
  go_wp2_with fail
  refine C.out.mono ?_
  rintro e W1 ⟨rfl, b⟩
  have Is1 := Lib.hid (bxS_next Is0.out b)
  have B1 := Lib.hid (below_trans B0.out b B0.out.size)
  clear b C
  have C := Lib.hid ((by have h := check_any s.rev ajs ans als cjs cns cls s.jobs s.nodes s.leases HWs.out W1 (HT.out.below B1.out) Is1.out.2.1 Is1.out.2.2.1 Is1.out.2.2.2; rw [show (⟨s.rev, s.jobs, s.nodes, s.leases⟩ : StD) = s from rfl, HC.out] at h; exact h : Calls Tryz.prog 19 #[.agg #[.int .i64 s.rev, .slice ajs s.jobs.length cjs, .slice ans s.nodes.length cns, .slice als s.leases.length cls]] W1 fun e w' => e = .returned (.int .i64 (0 : Nat)) ∧ Below W1.heap.size W1 w'))
  obtain ⟨zs0, zs1, zs2, zs3⟩ := bxS_cells Is1.out
  go_wp2_with fail
  refine C.out.mono ?_
  rintro e W2 ⟨rfl, b⟩
  clear zs0 zs1 zs2 zs3
  have Is2 := Lib.hid (bxS_next Is1.out b)
  have B2 := Lib.hid (below_trans B1.out b B1.out.size)
  clear b C
  obtain ⟨L, hL⟩ : ∃ L, W2.heap.size = L := ⟨_, rfl⟩
  obtain ⟨V1, hV1⟩ : ∃ V, W2.alloc (.cells #[.int .i64 s.rev, .int .i64 (s.rev + 1), .slice none 0 0, .slice none 0 0, .slice none 0 0, .slice none 0 0, .slice none 0 0, .slice none 0 0] 29) = V := ⟨_, rfl⟩
  have bA := below_one W2 (.cells #[.int .i64 s.rev, .int .i64 (s.rev + 1), .slice none 0 0, .slice none 0 0, .slice none 0 0, .slice none 0 0, .slice none 0 0, .slice none 0 0] 29)
  have OL := objAt_new W2 #[.int .i64 s.rev, .int .i64 (s.rev + 1), .slice none 0 0, .slice none 0 0, .slice none 0 0, .slice none 0 0, .slice none 0 0, .slice none 0 0] 29
  rw [hV1] at bA OL
  rw [hL] at OL bA
  have hHL : w.heap.size < L := by have := objAt_lt Is2.out.1; omega
  have BL := Lib.hid bA
  have HV1 := Lib.hid hV1
  have HLL := Lib.hid hL
  have y0 := objAt_cell Is2.out.1 0 rfl
  have yl := objAt_lt Is2.out.1
  clear bA hV1
  go_upto_region 6 with fail
  rw [HV1.out]
  clear y0 yl u1 hr'
  obtain ⟨i3, ti, tz0, tz1, tz2⟩ := info_parts' info_str
  have Gi := Lib.hid ti
  have Gz0 := Lib.hid tz0
  have Gz1 := Lib.hid tz1
  have Gz2 := Lib.hid tz2
  clear ti tz0 tz1 tz2
  have lL0 := objAt_lt OL
  have iS := bxS_next Is2.out (show Below W2.heap.size W2 V1 by rw [HLL.out]; exact BL.out)
  obtain ⟨y0, y1, y2, y3⟩ := bxS_cells iS
  have HOL := Lib.hid OL
  have ll := HLS.out
  have yl := objAt_lt iS.1
  clear OL iS
  go_wp2
  clear y0 y1 y2 y3 yl
  go_loopw [33] (fun iv wr => ∃ (i : Nat) (pv : Value) (out : List ByteArray), iv = .int .i64 (i : Int) ∧ i ≤ s.jobs.length ∧ Hid (((s.jobs.take i).map (·.name)) = out) ∧ ObjAt L #[.int .i64 s.rev, .int .i64 (s.rev + 1), .slice none 0 0, .slice none 0 0, .slice none 0 0, pv, .slice none 0 0, .slice none 0 0] 29 wr ∧ wr.ownsRow V1.heap.size 9 1 pv out.length (cNms out) ∧ V1.grownBy wr (some L)) (fun iv _ => s.jobs.length - (intOf iv).toNat)
  case atStart => exact ⟨0, _, [], rfl, Nat.zero_le _, by show _ = _; simp, HOL.out, by exact World.ownsRow_nil _ _ _ _, gN_refl _ _⟩
  case round =>
    obtain ⟨i, pv, out, rfl, hi, HO, oL, hown, hgr⟩ := hrel
    obtain ⟨pad, pcap, rfl⟩ := ownRow_slice hown
    by_cases h : (i : Int) < (s.jobs.length : Int)
    case pos =>
      have hil : i < s.jobs.length := by omega
      have hlr := gN_below BL.out (by omega) (Nat.le_refl _) hgr
      have iS := bxS_next Is2.out (show Below W2.heap.size W2 wr by rw [HLL.out]; exact hlr)
      obtain ⟨a, rfl, hal, k0, k1, k2, k3, k4⟩ := iS.2.1 i hil
      obtain ⟨x, hxi⟩ : ∃ x, s.jobs[i] = x := ⟨_, rfl⟩
      rw [hxi] at k0 k1 k2 k3 k4
      have hmt := map_takeN (fun z : JobD => z.name) s.jobs hil
      rw [hxi] at hmt
      have HMT := Lib.hid hmt
      obtain ⟨LX, hLX⟩ : ∃ L, wr.heap.size = L := ⟨_, rfl⟩
      obtain ⟨V, hV⟩ : ∃ V, wr.alloc (.cells #[.string x.name, .int .i64 x.prio, .int .i64 x.need, .int .i64 x.tries, .string x.tag] 48) = V := ⟨_, rfl⟩
      have bX := below_one wr (.cells #[.string x.name, .int .i64 x.prio, .int .i64 x.need, .int .i64 x.tries, .string x.tag] 48)
      have oX := objAt_new wr #[.string x.name, .int .i64 x.prio, .int .i64 x.need, .int .i64 x.tries, .string x.tag] 48
      rw [hV] at bX oX
      rw [hLX] at oX
      have oLV := objAt_next oL bX
      have ownV := own_next hown bX
      have grV := gN_next hgr bX
      have hcap : out.length ≤ 40 := by rw [← HO.out, List.length_map, List.length_take]; omega
      have sV := grV.size
      have e0 := objAt_cell oX 0 rfl
      have e1 := objAt_cell oX 1 rfl
      have e2 := objAt_cell oX 2 rfl
      have e3 := objAt_cell oX 3 rfl
      have e4 := objAt_cell oX 4 rfl
      have el := objAt_lt oX
      have d5 := objAt_cell oLV 5 rfl
      have dl := objAt_lt oLV
      have Q := Lib.hid (And.intro oLV grV)
      clear oL hown hgr hlr iS hxi hmt oX oLV grV bX
      go_wp2_with (at_builtin; refine wpList_append_own _ rfl _ _ 27 rfl V1.heap.size 9 i3 _ 1 16 Tryz.underlying27 Gi.out Gz0.out Gz1.out Gz2.out rfl (by decide) _ _ _ rfl (ownV.alloc _) ⟨V.heap.size, 0, none⟩ 1 1 [.string x.name] rfl rfl (cell_one_new _ _ _) (by simp [Value.oneCell']) (by unfold maxLen; omega) (by omega) (by simp; omega) ?_)
      intro v3 w3 own3 hg3 _
      obtain ⟨oLV, grV⟩ := Q.out
      have bN := below_one V (.cells #[.string x.name] 9)
      have lW := lL0
      have oL3 := objAt_app (objAt_next oLV bN) (ownV.alloc _) lW hg3
      have g3 := gN_app (gN_next grV bN) hg3 (fun k hk => (ownV.lt k hk).1)
      obtain ⟨ad3, cap3, rfl⟩ := ownRow_slice own3
      have f3 := objAt_free oL3 5
      have d3 := objAt_cell oL3 5 rfl
      have dl3 := objAt_lt oL3
      have oL4 : ObjAt L #[.int .i64 s.rev, .int .i64 (s.rev + 1), .slice none 0 0, .slice none 0 0, .slice none 0 0, .slice ad3 (out.length + 1) cap3, .slice none 0 0, .slice none 0 0] 29 _ := objAt_set oL3 5 (.slice ad3 (out.length + 1) cap3)
      have own4 := own_set own3 lW 5 (.slice ad3 (out.length + 1) cap3)
      have g4 := gN_set g3 5 (.slice ad3 (out.length + 1) cap3)
      have Q4 := Lib.hid (And.intro oL4 (And.intro own4 g4))
      clear oLV grV bN oL3 g3 own3 hg3 ownV oL4 own4 g4 Q d5 dl el hal e0 e1 e2 e3 e4 k0 k1 k2 k3 k4
      go_wp2
      go_roundw
      case rel =>
        obtain ⟨oL4, own4, g4⟩ := Q4.out
        exact ⟨i + 1, _, out ++ [x.name], by simp, by omega, by show _ = _; rw [HMT.out, HO.out], oL4, by rw [List.length_append, cNms_append]; exact own4, g4⟩
      case measure => simp [intOf]; omega
    case neg =>
      obtain rfl : i = s.jobs.length := by omega
      have HZ0 : Hid (s.jobs.map (·.name) = out) := by show _ = _; have := HO.out; rwa [List.take_length] at this
      obtain ⟨z0, hg⟩ : ∃ g, g = out := ⟨_, rfl⟩
      subst hg
      clear HO
      have hlr := gN_below BL.out (by omega) (Nat.le_refl _) hgr
      have OD0 := Lib.hid (ownsRow_low (B' := L) hown (by omega))
      obtain ⟨V2, hWE⟩ : ∃ W, W = wr := ⟨_, rfl⟩
      subst hWE
      obtain ⟨g0, hg⟩ : ∃ g, g = pad := ⟨_, rfl⟩
      subst hg
      obtain ⟨t0, hg⟩ : ∃ g, g = pcap := ⟨_, rfl⟩
      subst hg
      have OL := oL
      clear BL
      have BL := Lib.hid hlr
      clear oL hown hgr HOL hi h hlr lL0
      have lL1 := objAt_lt OL
      have iS := bxS_next Is2.out (show Below W2.heap.size W2 V2 by rw [HLL.out]; exact BL.out)
      obtain ⟨y0, y1, y2, y3⟩ := bxS_cells iS
      have HOL := Lib.hid OL
      have ll := HLS.out
      have yl := objAt_lt iS.1
      clear OL iS
      go_wp2
      clear y0 y1 y2 y3 yl
      go_loopw [48] (fun iv wr => ∃ (i : Nat) (pv : Value) (out : List ByteArray), iv = .int .i64 (i : Int) ∧ i ≤ s.nodes.length ∧ Hid (((s.nodes.take i).map (·.name)) = out) ∧ ObjAt L #[.int .i64 s.rev, .int .i64 (s.rev + 1), .slice none 0 0, .slice none 0 0, .slice none 0 0, .slice g0 z0.length t0, pv, .slice none 0 0] 29 wr ∧ wr.ownsRow V2.heap.size 9 1 pv out.length (cNms out) ∧ V2.grownBy wr (some L)) (fun iv _ => s.nodes.length - (intOf iv).toNat)
      case atStart => exact ⟨0, _, [], rfl, Nat.zero_le _, by show _ = _; simp, HOL.out, by exact World.ownsRow_nil _ _ _ _, gN_refl _ _⟩
      case round =>
        obtain ⟨i, pv, out, rfl, hi, HO, oL, hown, hgr⟩ := hrel
        obtain ⟨pad, pcap, rfl⟩ := ownRow_slice hown
        by_cases h : (i : Int) < (s.nodes.length : Int)
        case pos =>
          have hil : i < s.nodes.length := by omega
          have hlr := gN_below BL.out (by omega) (Nat.le_refl _) hgr
          have iS := bxS_next Is2.out (show Below W2.heap.size W2 wr by rw [HLL.out]; exact hlr)
          obtain ⟨a, rfl, hal, k0, k1, k2⟩ := iS.2.2.1 i hil
          obtain ⟨x, hxi⟩ : ∃ x, s.nodes[i] = x := ⟨_, rfl⟩
          rw [hxi] at k0 k1 k2
          have hmt := map_takeN (fun z : NodeD => z.name) s.nodes hil
          rw [hxi] at hmt
          have HMT := Lib.hid hmt
          obtain ⟨LX, hLX⟩ : ∃ L, wr.heap.size = L := ⟨_, rfl⟩
          obtain ⟨V, hV⟩ : ∃ V, wr.alloc (.cells #[.string x.name, .int .i64 x.room, .string x.zone] 50) = V := ⟨_, rfl⟩
          have bX := below_one wr (.cells #[.string x.name, .int .i64 x.room, .string x.zone] 50)
          have oX := objAt_new wr #[.string x.name, .int .i64 x.room, .string x.zone] 50
          rw [hV] at bX oX
          rw [hLX] at oX
          have oLV := objAt_next oL bX
          have ownV := own_next hown bX
          have grV := gN_next hgr bX
          have hcap : out.length ≤ 40 := by rw [← HO.out, List.length_map, List.length_take]; omega
          have sV := grV.size
          have e0 := objAt_cell oX 0 rfl
          have e1 := objAt_cell oX 1 rfl
          have e2 := objAt_cell oX 2 rfl
          have el := objAt_lt oX
          have d6 := objAt_cell oLV 6 rfl
          have dl := objAt_lt oLV
          have Q := Lib.hid (And.intro oLV grV)
          clear oL hown hgr hlr iS hxi hmt oX oLV grV bX
          go_wp2_with (at_builtin; refine wpList_append_own _ rfl _ _ 27 rfl V2.heap.size 9 i3 _ 1 16 Tryz.underlying27 Gi.out Gz0.out Gz1.out Gz2.out rfl (by decide) _ _ _ rfl (ownV.alloc _) ⟨V.heap.size, 0, none⟩ 1 1 [.string x.name] rfl rfl (cell_one_new _ _ _) (by simp [Value.oneCell']) (by unfold maxLen; omega) (by omega) (by simp; omega) ?_)
          intro v3 w3 own3 hg3 _
          obtain ⟨oLV, grV⟩ := Q.out
          have bN := below_one V (.cells #[.string x.name] 9)
          have lW := lL1
          have oL3 := objAt_app (objAt_next oLV bN) (ownV.alloc _) lW hg3
          have g3 := gN_app (gN_next grV bN) hg3 (fun k hk => (ownV.lt k hk).1)
          obtain ⟨ad3, cap3, rfl⟩ := ownRow_slice own3
          have f3 := objAt_free oL3 6
          have d3 := objAt_cell oL3 6 rfl
          have dl3 := objAt_lt oL3
          have oL4 : ObjAt L #[.int .i64 s.rev, .int .i64 (s.rev + 1), .slice none 0 0, .slice none 0 0, .slice none 0 0, .slice g0 z0.length t0, .slice ad3 (out.length + 1) cap3, .slice none 0 0] 29 _ := objAt_set oL3 6 (.slice ad3 (out.length + 1) cap3)
          have own4 := own_set own3 lW 6 (.slice ad3 (out.length + 1) cap3)
          have g4 := gN_set g3 6 (.slice ad3 (out.length + 1) cap3)
          have Q4 := Lib.hid (And.intro oL4 (And.intro own4 g4))
          clear oLV grV bN oL3 g3 own3 hg3 ownV oL4 own4 g4 Q d6 dl el hal e0 e1 e2 k0 k1 k2
          go_wp2
          go_roundw
          case rel =>
            obtain ⟨oL4, own4, g4⟩ := Q4.out
            exact ⟨i + 1, _, out ++ [x.name], by simp, by omega, by show _ = _; rw [HMT.out, HO.out], oL4, by rw [List.length_append, cNms_append]; exact own4, g4⟩
          case measure => simp [intOf]; omega
        case neg =>
          obtain rfl : i = s.nodes.length := by omega
          have HZ1 : Hid (s.nodes.map (·.name) = out) := by show _ = _; have := HO.out; rwa [List.take_length] at this
          obtain ⟨z1, hg⟩ : ∃ g, g = out := ⟨_, rfl⟩
          subst hg
          clear HO
          have hlr := gN_below BL.out (by omega) (Nat.le_refl _) hgr
          have OD1 := Lib.hid (ownsRow_low (B' := L) hown (by omega))
          have OD0 := Lib.hid (own_gN OD0.out HOL.out (by decide) hgr)
          obtain ⟨V3, hWE⟩ : ∃ W, W = wr := ⟨_, rfl⟩
          subst hWE
          obtain ⟨g1, hg⟩ : ∃ g, g = pad := ⟨_, rfl⟩
          subst hg
          obtain ⟨t1, hg⟩ : ∃ g, g = pcap := ⟨_, rfl⟩
          subst hg
          have OL := oL
          clear BL
          have BL := Lib.hid hlr
          clear oL hown hgr HOL hi h hlr lL1
          have lL2 := objAt_lt OL
          have iS := bxS_next Is2.out (show Below W2.heap.size W2 V3 by rw [HLL.out]; exact BL.out)
          obtain ⟨y0, y1, y2, y3⟩ := bxS_cells iS
          have HOL := Lib.hid OL
          have ll := HLS.out
          have yl := objAt_lt iS.1
          clear OL iS
          go_wp2
          clear y0 y1 y2 y3 yl
          go_loopw [63] (fun iv wr => ∃ (i : Nat) (pv : Value) (out : List ByteArray), iv = .int .i64 (i : Int) ∧ i ≤ s.leases.length ∧ Hid (((s.leases.take i).map (·.job)) = out) ∧ ObjAt L #[.int .i64 s.rev, .int .i64 (s.rev + 1), .slice none 0 0, .slice none 0 0, .slice none 0 0, .slice g0 z0.length t0, .slice g1 z1.length t1, pv] 29 wr ∧ wr.ownsRow V3.heap.size 9 1 pv out.length (cNms out) ∧ V3.grownBy wr (some L)) (fun iv _ => s.leases.length - (intOf iv).toNat)
          case atStart => exact ⟨0, _, [], rfl, Nat.zero_le _, by show _ = _; simp, HOL.out, by exact World.ownsRow_nil _ _ _ _, gN_refl _ _⟩
          case round =>
            obtain ⟨i, pv, out, rfl, hi, HO, oL, hown, hgr⟩ := hrel
            obtain ⟨pad, pcap, rfl⟩ := ownRow_slice hown
            by_cases h : (i : Int) < (s.leases.length : Int)
            case pos =>
              have hil : i < s.leases.length := by omega
              have hlr := gN_below BL.out (by omega) (Nat.le_refl _) hgr
              have iS := bxS_next Is2.out (show Below W2.heap.size W2 wr by rw [HLL.out]; exact hlr)
              obtain ⟨a, rfl, hal, k0, k1, k2⟩ := iS.2.2.2 i hil
              obtain ⟨x, hxi⟩ : ∃ x, s.leases[i] = x := ⟨_, rfl⟩
              rw [hxi] at k0 k1 k2
              have hmt := map_takeN (fun z : LeaseD => z.job) s.leases hil
              rw [hxi] at hmt
              have HMT := Lib.hid hmt
              obtain ⟨LX, hLX⟩ : ∃ L, wr.heap.size = L := ⟨_, rfl⟩
              obtain ⟨V, hV⟩ : ∃ V, wr.alloc (.cells #[.string x.job, .string x.node, .int .i64 x.til] 52) = V := ⟨_, rfl⟩
              have bX := below_one wr (.cells #[.string x.job, .string x.node, .int .i64 x.til] 52)
              have oX := objAt_new wr #[.string x.job, .string x.node, .int .i64 x.til] 52
              rw [hV] at bX oX
              rw [hLX] at oX
              have oLV := objAt_next oL bX
              have ownV := own_next hown bX
              have grV := gN_next hgr bX
              have hcap : out.length ≤ 40 := by rw [← HO.out, List.length_map, List.length_take]; omega
              have sV := grV.size
              have e0 := objAt_cell oX 0 rfl
              have e1 := objAt_cell oX 1 rfl
              have e2 := objAt_cell oX 2 rfl
              have el := objAt_lt oX
              have d7 := objAt_cell oLV 7 rfl
              have dl := objAt_lt oLV
              have Q := Lib.hid (And.intro oLV grV)
              clear oL hown hgr hlr iS hxi hmt oX oLV grV bX
              go_wp2_with (at_builtin; refine wpList_append_own _ rfl _ _ 27 rfl V3.heap.size 9 i3 _ 1 16 Tryz.underlying27 Gi.out Gz0.out Gz1.out Gz2.out rfl (by decide) _ _ _ rfl (ownV.alloc _) ⟨V.heap.size, 0, none⟩ 1 1 [.string x.job] rfl rfl (cell_one_new _ _ _) (by simp [Value.oneCell']) (by unfold maxLen; omega) (by omega) (by simp; omega) ?_)
              intro v3 w3 own3 hg3 _
              obtain ⟨oLV, grV⟩ := Q.out
              have bN := below_one V (.cells #[.string x.job] 9)
              have lW := lL2
              have oL3 := objAt_app (objAt_next oLV bN) (ownV.alloc _) lW hg3
              have g3 := gN_app (gN_next grV bN) hg3 (fun k hk => (ownV.lt k hk).1)
              obtain ⟨ad3, cap3, rfl⟩ := ownRow_slice own3
              have f3 := objAt_free oL3 7
              have d3 := objAt_cell oL3 7 rfl
              have dl3 := objAt_lt oL3
              have oL4 : ObjAt L #[.int .i64 s.rev, .int .i64 (s.rev + 1), .slice none 0 0, .slice none 0 0, .slice none 0 0, .slice g0 z0.length t0, .slice g1 z1.length t1, .slice ad3 (out.length + 1) cap3] 29 _ := objAt_set oL3 7 (.slice ad3 (out.length + 1) cap3)
              have own4 := own_set own3 lW 7 (.slice ad3 (out.length + 1) cap3)
              have g4 := gN_set g3 7 (.slice ad3 (out.length + 1) cap3)
              have Q4 := Lib.hid (And.intro oL4 (And.intro own4 g4))
              clear oLV grV bN oL3 g3 own3 hg3 ownV oL4 own4 g4 Q d7 dl el hal e0 e1 e2 k0 k1 k2
              go_wp2
              go_roundw
              case rel =>
                obtain ⟨oL4, own4, g4⟩ := Q4.out
                exact ⟨i + 1, _, out ++ [x.job], by simp, by omega, by show _ = _; rw [HMT.out, HO.out], oL4, by rw [List.length_append, cNms_append]; exact own4, g4⟩
              case measure => simp [intOf]; omega
            case neg =>
              obtain rfl : i = s.leases.length := by omega
              have HZ2 : Hid (s.leases.map (·.job) = out) := by show _ = _; have := HO.out; rwa [List.take_length] at this
              obtain ⟨z2, hg⟩ : ∃ g, g = out := ⟨_, rfl⟩
              subst hg
              clear HO
              have hlr := gN_below BL.out (by omega) (Nat.le_refl _) hgr
              have OD2 := Lib.hid (ownsRow_low (B' := L) hown (by omega))
              have OD0 := Lib.hid (own_gN OD0.out HOL.out (by decide) hgr)
              have OD1 := Lib.hid (own_gN OD1.out HOL.out (by decide) hgr)
              obtain ⟨V4, hWE⟩ : ∃ W, W = wr := ⟨_, rfl⟩
              subst hWE
              obtain ⟨g2, hg⟩ : ∃ g, g = pad := ⟨_, rfl⟩
              subst hg
              obtain ⟨t2, hg⟩ : ∃ g, g = pcap := ⟨_, rfl⟩
              subst hg
              have OL := oL
              clear BL
              have BL := Lib.hid hlr
              clear oL hown hgr HOL hi h hlr lL2
              have eZ : allD s = ⟨s.rev, s.rev + 1, [], [], [], z0, z1, z2⟩ := by unfold allD; rw [HZ0.out, HZ1.out, HZ2.out]
              rw [eZ] at E1 E2 HWA HLD
              clear eZ HZ0 HZ1 HZ2
              have DA : DeltaAt V4 ⟨none, 0, none, 0, none, 0, g0, t0, g1, t1, g2, t2⟩ (⟨s.rev, s.rev + 1, [], [], [], z0, z1, z2⟩ : DelD) := ⟨⟨fun i hi => absurd hi (by simp), fun i hi => absurd hi (by simp), fun i hi => absurd hi (by simp)⟩, ownNms OD0.out rfl, ownNms OD1.out rfl, ownNms OD2.out rfl⟩
              have iS := bxS_next Is2.out (show Below W2.heap.size W2 V4 by rw [HLL.out]; exact BL.out)
              have B4 := Lib.hid (below_trans B2.out (show Below W2.heap.size W2 V4 by rw [HLL.out]; exact BL.out) B2.out.size)
              have IS := Lib.hid iS
              have IDd : Hid (ObjAt L #[.int .i64 s.rev, .int .i64 (s.rev + 1), .slice none 0 0, .slice none 0 0, .slice none 0 0, .slice g0 z0.length t0, .slice g1 z1.length t1, .slice g2 z2.length t2] 29 V4 ∧ DeltaAt V4 ⟨none, 0, none, 0, none, 0, g0, t0, g1, t1, g2, t2⟩ (⟨s.rev, s.rev + 1, [], [], [], z0, z1, z2⟩ : DelD)) := (show _ ∧ _ from ⟨OL, DA⟩)
              clear OL DA iS OD0 OD1 OD2
              have C0 : Calls Tryz.prog 12 #[.agg #[.int .i64 s.rev, .slice ajs s.jobs.length cjs, .slice ans s.nodes.length cns, .slice als s.leases.length cls], .agg #[.int .i64 s.rev, .int .i64 (s.rev + 1), .slice none 0 0, .slice none 0 0, .slice none 0 0, .slice g0 z0.length t0, .slice g1 z1.length t1, .slice g2 z2.length t2]] V4 fun e w' => ∃ aj' an' al' cj' cn' cl', e = .returned (.tuple #[.agg #[.int .i64 (s.rev + 1), .slice aj' 0 cj', .slice an' 0 cn', .slice al' 0 cl'], .int .i64 0]) ∧ OwnS V4.heap.size aj' an' al' cj' cn' cl' (bareS (s.rev + 1)) w' ∧ Below V4.heap.size V4 w' := dapply_at (s := s) (d := (⟨s.rev, s.rev + 1, [], [], [], z0, z1, z2⟩ : DelD)) (M := ⟨none, 0, none, 0, none, 0, g0, t0, g1, t1, g2, t2⟩) (cj := cjs) (cn := cns) (cl := cls) HWs.out HWA.out E1.out (HT.out.below B4.out) IS.out.2 IDd.out.2
              have C := Lib.hid C0
              clear C0
              obtain ⟨zs0, zs1, zs2, zs3⟩ := bxS_cells IS.out
              have zsl := objAt_lt IS.out.1
              have zIDd0 := objAt_cell IDd.out.1 0 rfl
              have zIDd1 := objAt_cell IDd.out.1 1 rfl
              have zIDd2 := objAt_cell IDd.out.1 2 rfl
              have zIDd3 := objAt_cell IDd.out.1 3 rfl
              have zIDd4 := objAt_cell IDd.out.1 4 rfl
              have zIDd5 := objAt_cell IDd.out.1 5 rfl
              have zIDd6 := objAt_cell IDd.out.1 6 rfl
              have zIDd7 := objAt_cell IDd.out.1 7 rfl
              have zIDdl := objAt_lt IDd.out.1
              go_wp2_with fail
              refine C.out.mono ?_
              rintro e w5 ⟨qj, qn, ql, rj, rn, rl, rfl, ow, b⟩
              clear C
              clear zs0 zs1 zs2 zs3 zsl
              clear zIDd0 zIDd1 zIDd2 zIDd3 zIDd4 zIDd5 zIDd6 zIDd7 zIDdl
              obtain ⟨Lt, hLt⟩ : ∃ L, w5.heap.size = L := ⟨_, rfl⟩
              obtain ⟨W5, hW5⟩ : ∃ W, w5.alloc (.cells #[.int .i64 (s.rev + 1), .slice qj 0 rj, .slice qn 0 rn, .slice ql 0 rl] 26) = W := ⟨_, rfl⟩
              have bA := below_one w5 (.cells #[.int .i64 (s.rev + 1), .slice qj 0 rj, .slice qn 0 rn, .slice ql 0 rl] 26)
              have oN := objAt_new w5 #[.int .i64 (s.rev + 1), .slice qj 0 rj, .slice qn 0 rn, .slice ql 0 rl] 26
              rw [hW5] at bA oN
              rw [hLt] at oN
              have IS := Lib.hid (bxS_next (bxS_next IS.out b) bA)
              have IDd := Lib.hid (And.intro (objAt_next (objAt_next IDd.out.1 b) bA) (deltaAt_next (deltaAt_next IDd.out.2 b) bA))
              have ITt := Lib.hid (And.intro oN (And.intro (jobsAt_next (ownS_at ow).1 bA) (And.intro (nodesAt_next (ownS_at ow).2.1 bA) (leasesAt_next (ownS_at ow).2.2 bA))))
              have B5 := Lib.hid (below_trans (below_trans B4.out b B4.out.size) bA (Nat.le_trans B4.out.size b.size))
              clear ow b bA oN
              have u1 : IntKind.i64.wrap (s.rev + 1) = s.rev + 1 := IntWalk.i64_in _ (by have := HR.out; omega)
              have C0 : Calls Tryz.prog 8 #[.agg #[.int .i64 s.rev, .slice ajs s.jobs.length cjs, .slice ans s.nodes.length cns, .slice als s.leases.length cls], .agg #[.int .i64 (s.rev + 1), .slice none 0 0, .slice none 0 0, .slice none 0 0]] W5 fun e w' => ∃ M : DlM, e = .returned (.tuple #[.agg #[.int .i64 s.rev, .int .i64 (s.rev + 1), .slice M.aj 0 M.cj, .slice M.an 0 M.cn, .slice M.al 0 M.cl, .slice M.gj z0.length M.hj, .slice M.gn z1.length M.hn, .slice M.gl z2.length M.hl], .int .i64 0]) ∧ OwnD W5.heap.size M (⟨s.rev, s.rev + 1, [], [], [], z0, z1, z2⟩ : DelD) w' ∧ Below W5.heap.size W5 w' := ddiff_at (a := s) (b := bareS (s.rev + 1)) (D := (⟨s.rev, s.rev + 1, [], [], [], z0, z1, z2⟩ : DelD)) (c := 0) (cj := cjs) (cn := cns) (cl := cls) (dj := 0) (dn := 0) (dl := 0) (bj := none) (bn := none) (bl := none) HWs.out HWB.out E2.out (HT.out.below B5.out) IS.out.2 ⟨fun i hi => absurd hi (by simp [bareS]), fun i hi => absurd hi (by simp [bareS]), fun i hi => absurd hi (by simp [bareS])⟩
              have C := Lib.hid C0
              clear C0
              obtain ⟨zs0, zs1, zs2, zs3⟩ := bxS_cells IS.out
              have zsl := objAt_lt IS.out.1
              go_wp2_with fail
              refine C.out.mono ?_
              rintro e w6 ⟨Mu, rfl, ow, b⟩
              clear C
              clear zs0 zs1 zs2 zs3 zsl
              obtain ⟨Lu, hLu⟩ : ∃ L, w6.heap.size = L := ⟨_, rfl⟩
              obtain ⟨W6, hW6⟩ : ∃ W, w6.alloc (.cells #[.int .i64 s.rev, .int .i64 (s.rev + 1), .slice Mu.aj 0 Mu.cj, .slice Mu.an 0 Mu.cn, .slice Mu.al 0 Mu.cl, .slice Mu.gj z0.length Mu.hj, .slice Mu.gn z1.length Mu.hn, .slice Mu.gl z2.length Mu.hl] 29) = W := ⟨_, rfl⟩
              have bA := below_one w6 (.cells #[.int .i64 s.rev, .int .i64 (s.rev + 1), .slice Mu.aj 0 Mu.cj, .slice Mu.an 0 Mu.cn, .slice Mu.al 0 Mu.cl, .slice Mu.gj z0.length Mu.hj, .slice Mu.gn z1.length Mu.hn, .slice Mu.gl z2.length Mu.hl] 29)
              have oN := objAt_new w6 #[.int .i64 s.rev, .int .i64 (s.rev + 1), .slice Mu.aj 0 Mu.cj, .slice Mu.an 0 Mu.cn, .slice Mu.al 0 Mu.cl, .slice Mu.gj z0.length Mu.hj, .slice Mu.gn z1.length Mu.hn, .slice Mu.gl z2.length Mu.hl] 29
              rw [hW6] at bA oN
              rw [hLu] at oN
              have IS := Lib.hid (bxS_next (bxS_next IS.out b) bA)
              have IDd := Lib.hid (And.intro (objAt_next (objAt_next IDd.out.1 b) bA) (deltaAt_next (deltaAt_next IDd.out.2 b) bA))
              have ITt := Lib.hid (And.intro (objAt_next (objAt_next ITt.out.1 b) bA) (And.intro (jobsAt_next (jobsAt_next ITt.out.2.1 b) bA) (And.intro (nodesAt_next (nodesAt_next ITt.out.2.2.1 b) bA) (leasesAt_next (leasesAt_next ITt.out.2.2.2 b) bA))))
              have IDu := Lib.hid (And.intro oN (deltaAt_next (ownD_at ow) bA))
              have B6 := Lib.hid (below_trans (below_trans B5.out b B5.out.size) bA (Nat.le_trans B5.out.size b.size))
              clear ow b bA oN
              have C0 : Calls Tryz.prog 14 #[.agg #[.int .i64 (s.rev + 1), .slice qj 0 rj, .slice qn 0 rn, .slice ql 0 rl], .agg #[.int .i64 (s.rev + 1), .slice none 0 0, .slice none 0 0, .slice none 0 0]] W6 fun e w' => ∃ c : Bool, e = .returned (.bool c) ∧ (c = true ↔ bareS (s.rev + 1) = bareS (s.rev + 1)) ∧ Below W6.heap.size W6 w' := same_is (bareS (s.rev + 1)) (bareS (s.rev + 1)) qj qn ql none none none rj rn rl 0 0 0 ⟨by simp [bareS], by simp [bareS], by simp [bareS]⟩ W6 ITt.out.2.1 ITt.out.2.2.1 ITt.out.2.2.2 (fun i hi => absurd hi (by simp [bareS])) (fun i hi => absurd hi (by simp [bareS])) (fun i hi => absurd hi (by simp [bareS]))
              have C := Lib.hid C0
              clear C0
              obtain ⟨zs0, zs1, zs2, zs3⟩ := bxS_cells IS.out
              have zsl := objAt_lt IS.out.1
              have zITt0 := objAt_cell ITt.out.1 0 rfl
              have zITt1 := objAt_cell ITt.out.1 1 rfl
              have zITt2 := objAt_cell ITt.out.1 2 rfl
              have zITt3 := objAt_cell ITt.out.1 3 rfl
              have zITtl := objAt_lt ITt.out.1
              go_wp2_with fail
              refine C.out.mono ?_
              rintro e W7 ⟨c0, rfl, hc, b⟩
              clear C
              clear zs0 zs1 zs2 zs3 zsl
              clear zITt0 zITt1 zITt2 zITt3 zITtl
              obtain rfl : c0 = true := hc.2 (by first | rfl | trivial)
              have IDd := Lib.hid (And.intro (objAt_next IDd.out.1 b) (deltaAt_next IDd.out.2 b))
              have IDu := Lib.hid (And.intro (objAt_next IDu.out.1 b) (deltaAt_next IDu.out.2 b))
              have B7 := Lib.hid (below_trans B6.out b B6.out.size)
              clear hc b u1
              have C0 : Calls Tryz.prog 10 #[.agg #[.int .i64 s.rev, .int .i64 (s.rev + 1), .slice none 0 0, .slice none 0 0, .slice none 0 0, .slice g0 z0.length t0, .slice g1 z1.length t1, .slice g2 z2.length t2], .agg #[.int .i64 s.rev, .int .i64 (s.rev + 1), .slice Mu.aj 0 Mu.cj, .slice Mu.an 0 Mu.cn, .slice Mu.al 0 Mu.cl, .slice Mu.gj z0.length Mu.hj, .slice Mu.gn z1.length Mu.hn, .slice Mu.gl z2.length Mu.hl]] W7 fun e w' => ∃ c : Bool, e = .returned (.bool c) ∧ (c = true ↔ (⟨s.rev, s.rev + 1, [], [], [], z0, z1, z2⟩ : DelD) = (⟨s.rev, s.rev + 1, [], [], [], z0, z1, z2⟩ : DelD)) ∧ Below W7.heap.size W7 w' := deltaEq_at (d := (⟨s.rev, s.rev + 1, [], [], [], z0, z1, z2⟩ : DelD)) (t := (⟨s.rev, s.rev + 1, [], [], [], z0, z1, z2⟩ : DelD)) (M := ⟨none, 0, none, 0, none, 0, g0, t0, g1, t1, g2, t2⟩) (M' := Mu) HLD.out IDd.out.2 IDu.out.2
              have C := Lib.hid C0
              clear C0
              have zIDd0 := objAt_cell IDd.out.1 0 rfl
              have zIDd1 := objAt_cell IDd.out.1 1 rfl
              have zIDd2 := objAt_cell IDd.out.1 2 rfl
              have zIDd3 := objAt_cell IDd.out.1 3 rfl
              have zIDd4 := objAt_cell IDd.out.1 4 rfl
              have zIDd5 := objAt_cell IDd.out.1 5 rfl
              have zIDd6 := objAt_cell IDd.out.1 6 rfl
              have zIDd7 := objAt_cell IDd.out.1 7 rfl
              have zIDdl := objAt_lt IDd.out.1
              have zIDu0 := objAt_cell IDu.out.1 0 rfl
              have zIDu1 := objAt_cell IDu.out.1 1 rfl
              have zIDu2 := objAt_cell IDu.out.1 2 rfl
              have zIDu3 := objAt_cell IDu.out.1 3 rfl
              have zIDu4 := objAt_cell IDu.out.1 4 rfl
              have zIDu5 := objAt_cell IDu.out.1 5 rfl
              have zIDu6 := objAt_cell IDu.out.1 6 rfl
              have zIDu7 := objAt_cell IDu.out.1 7 rfl
              have zIDul := objAt_lt IDu.out.1
              go_wp2_with fail
              refine C.out.mono ?_
              rintro e W8 ⟨c0, rfl, hc, b⟩
              clear C
              clear zIDd0 zIDd1 zIDd2 zIDd3 zIDd4 zIDd5 zIDd6 zIDd7 zIDdl
              clear zIDu0 zIDu1 zIDu2 zIDu3 zIDu4 zIDu5 zIDu6 zIDu7 zIDul
              obtain rfl : c0 = true := hc.2 (by first | rfl | trivial)
              have B8 := Lib.hid (below_trans B7.out b B7.out.size)
              clear hc b
              go_wp2
              go_ret
              exact ⟨rfl, B8.out⟩

theorem own : ownKnob Tryz.prog.godebug = none := by kernel_rfl
theorem laidOut : laidOutB Tryz.prog = true := by kernel_rfl
theorem laid_met (os : Os) : laidMet Tryz.prog Rows.deltaAllRow.laid ((laidWorld os).forCall (fun _ _ => 0) ⟨#[], #[.agg #[.int .i64 0, .slice none 0 0, .slice none 0 0, .slice none 0 0]], []⟩).memory :=
  laidMet_of_run' 8 (by kernel_rfl) (by kernel_rfl)
theorem reads (os : Os) {H : Type} (enc : TypeId × Value → H) : ∃ places, DataW.whole enc Tryz.prog ((laidWorld os).forCall (fun _ _ => 0) ⟨#[], #[.agg #[.int .i64 0, .slice none 0 0, .slice none 0 0, .slice none 0 0]], []⟩).memory Tryz.f7.params.toList Rows.deltaAllSpec.vars false #[Value.agg #[.int .i64 0, .slice none 0 0, .slice none 0 0, .slice none 0 0]].toList 8 = some ([.agg [.lit (.int .i64 0), .nil, .nil, .nil]], [], places) :=
  ⟨[], by kernel_rfl⟩
set_option maxRecDepth 100000 in
set_option maxHeartbeats 2000000 in
theorem lifted (os : Os) (started : os.Started) (H : Type) (enc : TypeId × Value → H) (F : Stop.Interp) :
    ReturnsInHanded {} Tryz.checked os 7 .any ((OpenSpec.ofChange Rows.deltaAllSpec).preRow enc Tryz.prog Tryz.f7 Rows.deltaAllRow.domain false Rows.deltaAllRow.laid) (((OpenSpec.ofChange Rows.deltaAllSpec).at F).post enc Tryz.prog Tryz.f7 false true false false) := by
  obtain ⟨places, hx⟩ := reads os enc
  refine returnsInHanded_of_row (C := Tryz.checked) (s := (OpenSpec.ofChange Rows.deltaAllSpec)) own started (by kernel_rfl) Tryz.func7
    (witness_row_atRef (enc := enc) (C := Tryz.checked) false (laidWorld os) #[.agg #[.int .i64 0, .slice none 0 0, .slice none 0 0, .slice none 0 0]] rfl (by kernel_rfl) (by kernel_rfl) (by kernel_rfl)
      (OpenSpec.preRow_of_cond 8 hx (by kernel_rfl) (fun k hk => by cases hk) (by kernel_rfl) (laid_met os))) ?_
  intro W base args ds gs before hval0 hW _ _ hsz0 hL _ _
  have hval : ∀ (j : Nat) t v, Tryz.f7.params[j]? = some t → args[j]? = some v → Value.okWide Tryz.prog W .any base t v := hval0
  have hW' := hW
  obtain ⟨p, q, hA0, hV, rfl, hfz, hnd⟩ := hW
  have hA : DataW.TrodAll enc Tryz.prog W 0 (fun _ => true) true Tryz.f7.params.toList args.toList ds p := hA0
  have hsz : (DataW.weightsEach Tryz.prog (Tryz.f7.params.toList ++ Rows.deltaAllSpec.plain.varTypes Tryz.prog) (ds ++ gs)).all (· ≤ reachBytes) = true := hsz0
  rw [Tryz.params7] at hA hval hsz
  obtain ⟨v0, vs0, d0, ds0, p0, q0, hargs, rfl, rfl, h0, r0⟩ := trodAll_cons hA
  obtain ⟨rfl, rfl, rfl⟩ := trodAll_nil r0
  obtain rfl : args = #[v0] := by cases args; simp_all
  obtain ⟨rfl, rfl⟩ := trodVars_none hV
  obtain ⟨M0, st0, rfl, m0, x0, w0⟩ := open_state (hval 0 26 v0 rfl rfl) h0
  have s0 := sized_state hsz rfl (j := 0) rfl x0
  clear hA0 hval0
  refine (walk M0 st0 w0 s0 W m0 (tabs_of hL)).mono fun e W' ⟨he, bel⟩ => ?_
  subst he
  exact ⟨_, rfl, _, _, _, [], _, [], hW', trodAll_mk1 (shut_bool Tryz.underlying4 _), (trodAll_cons_mk (Below.trod laidOut (by kernel_rfl) (of_decide_eq_true (by kernel_rfl)) h0 bel (fun x hx => by simpa using hW'.lt x (by simp [hx]))) trodAll_mk0), rfl, bel.frame _, fun h => by cases h⟩
theorem said : Rows.DeltaAllSaid :=
  OpenClaim.holds_of_cond 7 Tryz.f7 rfl rfl rfl rfl rfl rfl rfl ⟨rfl, rfl, rfl, rfl, rfl⟩ rfl rfl rfl rfl rfl (by kernel_rfl) Tryz.func7 (by kernel_rfl)
    (of_decide_eq_true (by kernel_rfl)) (by unfold Func.isWrapper; first | (rw [if_pos (by decide +kernel)]; kernel_rfl) | (rw [if_neg (by decide +kernel)]; exact ⟨rfl, rfl⟩))
    (fun os started H enc _ F => by rw [OpenClaim.pre_eq_preRow]; exact lifted os started H enc F)
theorem plain (f : FuncId) (fn : Func) (hf : Tryz.pinned.checked.prog.funcNamed Rows.deltaAllRow.func = some f) (hfn : Tryz.pinned.checked.prog.funcs[f]? = some fn) :
    false = Tryz.pinned.checked.prog.looks [] ∧ ∀ (j : Nat) t, fn.params[j]? = some t → Tryz.pinned.checked.prog.wantsStandIn t = false := by
  obtain rfl : f = 7 := Option.some.inj ((show Tryz.prog.funcNamed Rows.deltaAllRow.func = some 7 by kernel_rfl).symm.trans hf) |>.symm
  obtain rfl : fn = Tryz.f7 := (Option.some.inj (Tryz.func7.symm.trans hfn)).symm
  refine ⟨by kernel_rfl, fun j t ht => ?_⟩
  rw [Tryz.params7] at ht
  obtain rfl : t = 26 := by simpa using Array.mem_of_getElem? ht
  exact (show Tryz.prog.wantsStandIn 26 = false by kernel_rfl)
theorem proved : Rows.DeltaAllCardSaid :=
  Claim7.holds_tied_plain_at .later [] _ _ _ _ said (fun _ h => by cases h) (by kernel_rfl) (fun _ h => by cases h) deltaAll_row_tie rfl ⟨rfl, rfl⟩ (by kernel_rfl) rfl plain (by kernel_rfl)
#print axioms proved
end Go.Proofs.YthfbjmjohmkfjaaGreatDoor.deltaAll
