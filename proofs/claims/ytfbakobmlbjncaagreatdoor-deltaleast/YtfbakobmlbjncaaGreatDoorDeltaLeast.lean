/- For every two states the law DeltaLeast of the package brackenkeep returns true, as a tied card: nothing is told that there was just so, and nothing gone that is there. Condition: the library's two tables unicode/utf8.first and acceptRanges start as their text lays them (the card ties them; first is pinned). -/
import Derived.Test.YtfbakobmlbjncaaGreatDoorDlLeast
namespace Go.Proofs.YtfbakobmlbjncaaGreatDoor.deltaLeast
open Go.ChangeShapes Go.WideShapes Go.ChangeAt Go.RowKit
set_option linter.unusedVariables false

set_option maxRecDepth 100000 in
set_option maxHeartbeats 4000000 in
theorem walk (Ms : StM) (s : StD) (Mt : StM) (t : StD) (hws : wState s) (hwt : wState t) (hzs : SzState s) (hzt : SzState t) (w : World) (hms : StateAt w Ms s) (hmt : StateAt w Mt t) (hT : Tabs w) :
    Calls Tryz.prog 6 #[stV Ms s, stV Mt t] w fun e w' => e = .returned (.bool true) ∧ Below w.heap.size w w' := by
  obtain ⟨ajs, cjs, ans, cns, als, cls⟩ := Ms
  have hms : JobsAt w ajs s.jobs ∧ NodesAt w ans s.nodes ∧ LeasesAt w als s.leases := hms
  obtain ⟨ajt, cjt, ant, cnt, alt, clt⟩ := Mt
  have hmt : JobsAt w ajt t.jobs ∧ NodesAt w ant t.nodes ∧ LeasesAt w alt t.leases := hmt
  show Calls _ _ #[.agg #[.int .i64 s.rev, .slice ajs s.jobs.length cjs, .slice ans s.nodes.length cns, .slice als s.leases.length cls], .agg #[.int .i64 t.rev, .slice ajt t.jobs.length cjt, .slice ant t.nodes.length cnt, .slice alt t.leases.length clt]] _ _
  have B0 : Below w.heap.size w w := Below.refl _ _
  have bA := below_one w (.cells #[.int .i64 s.rev, .slice ajs s.jobs.length cjs, .slice ans s.nodes.length cns, .slice als s.leases.length cls] 26)
  have iN := bxS_new (cj := cjs) (cn := cns) (cl := cls) (w := w) (And.intro (jobsAt_next hms.1 B0) (And.intro (nodesAt_next hms.2.1 B0) (leasesAt_next hms.2.2 B0)))
  have Is0 := iN
  have B0 := below_trans B0 bA B0.size
  clear bA iN
  have bA := below_one (w.alloc (.cells #[.int .i64 s.rev, .slice ajs s.jobs.length cjs, .slice ans s.nodes.length cns, .slice als s.leases.length cls] 26)) (.cells #[.int .i64 t.rev, .slice ajt t.jobs.length cjt, .slice ant t.nodes.length cnt, .slice alt t.leases.length clt] 26)
  have iN := bxS_new (cj := cjt) (cn := cnt) (cl := clt) (w := (w.alloc (.cells #[.int .i64 s.rev, .slice ajs s.jobs.length cjs, .slice ans s.nodes.length cns, .slice als s.leases.length cls] 26))) (And.intro (jobsAt_next hmt.1 B0) (And.intro (nodesAt_next hmt.2.1 B0) (leasesAt_next hmt.2.2 B0)))
  have Is0 := bxS_next Is0 bA
  have It0 := iN
  have B0 := below_trans B0 bA B0.size
  clear bA iN
  obtain ⟨W0, hW0⟩ : ∃ W0, ((w.alloc (.cells #[.int .i64 s.rev, .slice ajs s.jobs.length cjs, .slice ans s.nodes.length cns, .slice als s.leases.length cls] 26)).alloc (.cells #[.int .i64 t.rev, .slice ajt t.jobs.length cjt, .slice ant t.nodes.length cnt, .slice alt t.leases.length clt] 26)) = W0 := ⟨_, rfl⟩
  rw [hW0] at B0 Is0 It0
  have HT := Lib.hid hT
  have HWs := Lib.hid hws
  have HWt := Lib.hid hwt
  try simp only [World.size_alloc] at Is0 It0
  have B0 := Lib.hid B0
  have Is0 := Lib.hid Is0
  have It0 := Lib.hid It0
  clear hT hms hws hzs hmt hwt hzt
  rcases diff_cases s t with ⟨c, hc, e1⟩ | ⟨e1, h1, h2, h3⟩
  · have hc' : ((c : Int) != 0) = true := by simp; omega
    obtain ⟨Z, hZ⟩ : ∃ Z, zeroDel = Z := ⟨_, rfl⟩
    rw [hZ] at e1
    have E1 := Lib.hid e1
    clear hc hZ e1
    have C := Lib.hid (differed_is W0 (HT.out.below B0.out))
    go_enter Tryz.func6, Tryz.ntmps6
    go_wp2_with fail
    refine C.out.mono ?_
    rintro e W1 ⟨rfl, b⟩
    have Is1 := Lib.hid (bxS_next Is0.out b)
    have It1 := Lib.hid (bxS_next It0.out b)
    have B1 := Lib.hid (below_trans B0.out b B0.out.size)
    clear b C
    have C := Lib.hid (ddiff_at (cj := cjs) (cn := cns) (cl := cls) (dj := cjt) (dn := cnt) (dl := clt) HWs.out HWt.out E1.out (HT.out.below B1.out) Is1.out.2 It1.out.2)
    obtain ⟨zs0, zs1, zs2, zs3⟩ := bxS_cells Is1.out
    obtain ⟨zt0, zt1, zt2, zt3⟩ := bxS_cells It1.out
    go_wp2_with fail
    refine C.out.mono ?_
    rintro e w2 ⟨Md, rfl, ow, b⟩
    clear zs0 zs1 zs2 zs3 zt0 zt1 zt2 zt3
    obtain ⟨Ld, hLd⟩ : ∃ L, w2.heap.size = L := ⟨_, rfl⟩
    obtain ⟨W2, hW2⟩ : ∃ W, w2.alloc (.cells #[.int .i64 Z.frm, .int .i64 Z.til, .slice Md.aj Z.jobs.length Md.cj, .slice Md.an Z.nodes.length Md.cn, .slice Md.al Z.leases.length Md.cl, .slice Md.gj Z.gj.length Md.hj, .slice Md.gn Z.gn.length Md.hn, .slice Md.gl Z.gl.length Md.hl] 29) = W := ⟨_, rfl⟩
    have bA := below_one w2 (.cells #[.int .i64 Z.frm, .int .i64 Z.til, .slice Md.aj Z.jobs.length Md.cj, .slice Md.an Z.nodes.length Md.cn, .slice Md.al Z.leases.length Md.cl, .slice Md.gj Z.gj.length Md.hj, .slice Md.gn Z.gn.length Md.hn, .slice Md.gl Z.gl.length Md.hl] 29)
    have iN := bxD_new (ownD_at ow)
    rw [hW2] at bA iN
    rw [hLd] at iN
    have Is2 := Lib.hid (bxS_next (bxS_next Is1.out b) bA)
    have It2 := Lib.hid (bxS_next (bxS_next It1.out b) bA)
    have Id2 := Lib.hid iN
    have B2 := Lib.hid (below_trans (below_trans B1.out b B1.out.size) bA (Nat.le_trans B1.out.size b.size))
    clear bA iN ow b C
    go_wp2
    go_ret
    exact ⟨rfl, B2.out⟩
  have HLs := Lib.hid (lenS_valid h1)
  have HLt := Lib.hid (lenS_valid h2)
  have hLD := lenD_valid (dcheck_diff h1 h2 h3)
  have HP := Lib.hid (least_diff (t := t) h1)
  obtain ⟨D, hD⟩ : ∃ D, diffS s t = D := ⟨_, rfl⟩
  rw [hD] at e1 HP hLD
  have E1 := Lib.hid e1
  have HLD := Lib.hid hLD
  clear hD e1 h1 h2 h3 hLD
  have C := Lib.hid (differed_is W0 (HT.out.below B0.out))
  go_enter Tryz.func6, Tryz.ntmps6
  go_wp2_with fail
  refine C.out.mono ?_
  rintro e W1 ⟨rfl, b⟩
  have Is1 := Lib.hid (bxS_next Is0.out b)
  have It1 := Lib.hid (bxS_next It0.out b)
  have B1 := Lib.hid (below_trans B0.out b B0.out.size)
  clear b C
  have C := Lib.hid (ddiff_at (cj := cjs) (cn := cns) (cl := cls) (dj := cjt) (dn := cnt) (dl := clt) HWs.out HWt.out E1.out (HT.out.below B1.out) Is1.out.2 It1.out.2)
  obtain ⟨zs0, zs1, zs2, zs3⟩ := bxS_cells Is1.out
  obtain ⟨zt0, zt1, zt2, zt3⟩ := bxS_cells It1.out
  go_wp2_with fail
  refine C.out.mono ?_
  rintro e w2 ⟨⟨Md_aj, Md_cj, Md_an, Md_cn, Md_al, Md_cl, Md_gj, Md_hj, Md_gn, Md_hn, Md_gl, Md_hl⟩, rfl, ow, b⟩
  clear zs0 zs1 zs2 zs3 zt0 zt1 zt2 zt3
  obtain ⟨Ld, hLd⟩ : ∃ L, w2.heap.size = L := ⟨_, rfl⟩
  obtain ⟨W2, hW2⟩ : ∃ W, w2.alloc (.cells #[.int .i64 D.frm, .int .i64 D.til, .slice Md_aj D.jobs.length Md_cj, .slice Md_an D.nodes.length Md_cn, .slice Md_al D.leases.length Md_cl, .slice Md_gj D.gj.length Md_hj, .slice Md_gn D.gn.length Md_hn, .slice Md_gl D.gl.length Md_hl] 29) = W := ⟨_, rfl⟩
  have bA := below_one w2 (.cells #[.int .i64 D.frm, .int .i64 D.til, .slice Md_aj D.jobs.length Md_cj, .slice Md_an D.nodes.length Md_cn, .slice Md_al D.leases.length Md_cl, .slice Md_gj D.gj.length Md_hj, .slice Md_gn D.gn.length Md_hn, .slice Md_gl D.gl.length Md_hl] 29)
  have iN := bxD_new (ownD_at ow)
  dsimp only at iN
  rw [hW2] at bA iN
  rw [hLd] at iN
  have Is2 := Lib.hid (bxS_next (bxS_next Is1.out b) bA)
  have It2 := Lib.hid (bxS_next (bxS_next It1.out b) bA)
  have Id2 := Lib.hid iN
  have B2 := Lib.hid (below_trans (below_trans B1.out b B1.out.size) bA (Nat.le_trans B1.out.size b.size))
  clear bA iN ow b C
  obtain ⟨zs0, zs1, zs2, zs3⟩ := bxS_cells Is2.out
  obtain ⟨zt0, zt1, zt2, zt3⟩ := bxS_cells It2.out
  obtain ⟨zd0, zd1, zd2, zd3, zd4, zd5, zd6, zd7⟩ := bxD_cells Id2.out
  dsimp only at zd2 zd3 zd4 zd5 zd6 zd7
  have hlen := HLD.out.1.1
  go_wp2
  clear zs0 zs1 zs2 zs3 zt0 zt1 zt2 zt3 zd0 zd1 zd2 zd3 zd4 zd5 zd6 zd7
  go_loopw [30] (fun iv wr => ∃ (i : Nat), iv = .int .i64 (i : Int) ∧ i ≤ D.jobs.length ∧ Below W2.heap.size W2 wr) (fun iv _ => D.jobs.length - (intOf iv).toNat)
  case atStart => exact ⟨0, rfl, Nat.zero_le _, Below.refl _ _⟩
  case round =>
    obtain ⟨i, rfl, hi, hbr⟩ := hrel
    by_cases h : (i : Int) < (D.jobs.length : Int)
    case pos =>
      have hil : i < D.jobs.length := by omega
      obtain ⟨x, hxi⟩ : ∃ x, D.jobs[i] = x := ⟨_, rfl⟩
      have iD := bxD_next Id2.out hbr
      have iS := bxS_next Is2.out hbr
      have iT := bxS_next It2.out hbr
      obtain ⟨a, hae, hal, k0, k1, k2, k3, k4⟩ := iD.2.1.1 i hil
      rw [hxi] at k0 k1 k2 k3 k4
      dsimp only at hae
      subst hae
      have HX : Hid (x ∈ D.jobs) := by show _ ∈ _; rw [← hxi]; exact List.getElem_mem hil
      have BR := below_trans B2.out hbr B2.out.size
      obtain ⟨LX, hLX⟩ : ∃ L, wr.heap.size = L := ⟨_, rfl⟩
      obtain ⟨V, hV⟩ : ∃ V, wr.alloc (.cells #[.string x.name, .int .i64 x.prio, .int .i64 x.need, .int .i64 x.tries, .string x.tag] 41) = V := ⟨_, rfl⟩
      have bA := below_one wr (.cells #[.string x.name, .int .i64 x.prio, .int .i64 x.need, .int .i64 x.tries, .string x.tag] 41)
      have oX := objAt_new wr #[.string x.name, .int .i64 x.prio, .int .i64 x.need, .int .i64 x.tries, .string x.tag] 41
      rw [hV] at bA oX
      rw [hLX] at oX
      have jS := bxS_next iS bA
      have jT := bxS_next iT bA
      have C1 := Lib.hid (hasJob_is s.jobs x false ⟨fun h => (by cases h), fun h => absurd h (HP.out.1.1 x HX.out).1⟩ ajs cjs HLs.out.1 V jS.2.1)
      have BV := below_trans BR bA BR.size
      have ZZ := Lib.hid (And.intro jS (And.intro jT (And.intro oX BV)))
      have BW1 := Lib.hid (below_trans hbr bA hbr.size)
      obtain ⟨zs0, zs1, zs2, zs3⟩ := bxS_cells jS
      have e0 := objAt_cell oX 0 rfl
      have e1 := objAt_cell oX 1 rfl
      have e2 := objAt_cell oX 2 rfl
      have e3 := objAt_cell oX 3 rfl
      have e4 := objAt_cell oX 4 rfl
      have el := objAt_lt oX
      clear iD iS iT jS jT oX BV BR bA hbr hxi
      go_wp2_with fail
      refine C1.out.mono ?_
      rintro e w2 ⟨rfl, b2⟩
      obtain ⟨jS, jT, oX, BV⟩ := ZZ.out
      have C2 := Lib.hid (hasJob_is t.jobs x true ⟨fun _ => (HP.out.1.1 x HX.out).2, fun _ => rfl⟩ ajt cjt HLt.out.1 w2 (bxS_next jT b2).2.1)
      have oX2 := objAt_next oX b2
      have B2 := below_trans BW1.out b2 (Nat.le_trans BW1.out.size (Nat.le_refl _))
      clear zs0 zs1 zs2 zs3 el e0 e1 e2 e3 e4
      obtain ⟨zt0, zt1, zt2, zt3⟩ := bxS_cells (bxS_next jT b2)
      have e0 := objAt_cell oX2 0 rfl
      have e1 := objAt_cell oX2 1 rfl
      have e2 := objAt_cell oX2 2 rfl
      have e3 := objAt_cell oX2 3 rfl
      have e4 := objAt_cell oX2 4 rfl
      have el := objAt_lt oX2
      have BB := Lib.hid B2
      clear jS jT oX BV oX2 B2 b2
      go_wp2_with fail
      refine C2.out.mono ?_
      rintro e w3 ⟨rfl, b3⟩
      have B3 := Lib.hid (below_trans BB.out b3 BB.out.size)
      clear b3 el zt0 zt1 zt2 zt3 e0 e1 e2 e3 e4
      go_wp2
      go_roundw
      case rel => exact ⟨i + 1, by simp, by omega, B3.out⟩
      case measure => simp [intOf]; omega
    case neg =>
      obtain rfl : i = D.jobs.length := by omega
      obtain ⟨W3, hE⟩ : ∃ W, W = wr := ⟨_, rfl⟩
      subst hE
      have Is3 := Lib.hid (bxS_next Is2.out hbr)
      have It3 := Lib.hid (bxS_next It2.out hbr)
      have Id3 := Lib.hid (bxD_next Id2.out hbr)
      have B3 := Lib.hid (below_trans B2.out hbr B2.out.size)
      clear hbr hi h hlen
      obtain ⟨zs0, zs1, zs2, zs3⟩ := bxS_cells Is3.out
      obtain ⟨zt0, zt1, zt2, zt3⟩ := bxS_cells It3.out
      obtain ⟨zd0, zd1, zd2, zd3, zd4, zd5, zd6, zd7⟩ := bxD_cells Id3.out
      dsimp only at zd2 zd3 zd4 zd5 zd6 zd7
      have hlen := HLD.out.1.2.1
      go_wp2
      clear zs0 zs1 zs2 zs3 zt0 zt1 zt2 zt3 zd0 zd1 zd2 zd3 zd4 zd5 zd6 zd7
      go_loopw [49] (fun iv wr => ∃ (i : Nat), iv = .int .i64 (i : Int) ∧ i ≤ D.nodes.length ∧ Below W3.heap.size W3 wr) (fun iv _ => D.nodes.length - (intOf iv).toNat)
      case atStart => exact ⟨0, rfl, Nat.zero_le _, Below.refl _ _⟩
      case round =>
        obtain ⟨i, rfl, hi, hbr⟩ := hrel
        by_cases h : (i : Int) < (D.nodes.length : Int)
        case pos =>
          have hil : i < D.nodes.length := by omega
          obtain ⟨x, hxi⟩ : ∃ x, D.nodes[i] = x := ⟨_, rfl⟩
          have iD := bxD_next Id3.out hbr
          have iS := bxS_next Is3.out hbr
          have iT := bxS_next It3.out hbr
          obtain ⟨a, hae, hal, k0, k1, k2⟩ := iD.2.1.2.1 i hil
          rw [hxi] at k0 k1 k2
          dsimp only at hae
          subst hae
          have HX : Hid (x ∈ D.nodes) := by show _ ∈ _; rw [← hxi]; exact List.getElem_mem hil
          have BR := below_trans B3.out hbr B3.out.size
          obtain ⟨LX, hLX⟩ : ∃ L, wr.heap.size = L := ⟨_, rfl⟩
          obtain ⟨V, hV⟩ : ∃ V, wr.alloc (.cells #[.string x.name, .int .i64 x.room, .string x.zone] 44) = V := ⟨_, rfl⟩
          have bA := below_one wr (.cells #[.string x.name, .int .i64 x.room, .string x.zone] 44)
          have oX := objAt_new wr #[.string x.name, .int .i64 x.room, .string x.zone] 44
          rw [hV] at bA oX
          rw [hLX] at oX
          have jS := bxS_next iS bA
          have jT := bxS_next iT bA
          have C1 := Lib.hid (hasNode_is s.nodes x false ⟨fun h => (by cases h), fun h => absurd h (HP.out.1.2.1 x HX.out).1⟩ ans cns HLs.out.2.1 V jS.2.2.1)
          have BV := below_trans BR bA BR.size
          have ZZ := Lib.hid (And.intro jS (And.intro jT (And.intro oX BV)))
          have BW1 := Lib.hid (below_trans hbr bA hbr.size)
          obtain ⟨zs0, zs1, zs2, zs3⟩ := bxS_cells jS
          have e0 := objAt_cell oX 0 rfl
          have e1 := objAt_cell oX 1 rfl
          have e2 := objAt_cell oX 2 rfl
          have el := objAt_lt oX
          clear iD iS iT jS jT oX BV BR bA hbr hxi
          go_wp2_with fail
          refine C1.out.mono ?_
          rintro e w2 ⟨rfl, b2⟩
          obtain ⟨jS, jT, oX, BV⟩ := ZZ.out
          have C2 := Lib.hid (hasNode_is t.nodes x true ⟨fun _ => (HP.out.1.2.1 x HX.out).2, fun _ => rfl⟩ ant cnt HLt.out.2.1 w2 (bxS_next jT b2).2.2.1)
          have oX2 := objAt_next oX b2
          have B2 := below_trans BW1.out b2 (Nat.le_trans BW1.out.size (Nat.le_refl _))
          clear zs0 zs1 zs2 zs3 el e0 e1 e2
          obtain ⟨zt0, zt1, zt2, zt3⟩ := bxS_cells (bxS_next jT b2)
          have e0 := objAt_cell oX2 0 rfl
          have e1 := objAt_cell oX2 1 rfl
          have e2 := objAt_cell oX2 2 rfl
          have el := objAt_lt oX2
          have BB := Lib.hid B2
          clear jS jT oX BV oX2 B2 b2
          go_wp2_with fail
          refine C2.out.mono ?_
          rintro e w3 ⟨rfl, b3⟩
          have B3 := Lib.hid (below_trans BB.out b3 BB.out.size)
          clear b3 el zt0 zt1 zt2 zt3 e0 e1 e2
          go_wp2
          go_roundw
          case rel => exact ⟨i + 1, by simp, by omega, B3.out⟩
          case measure => simp [intOf]; omega
        case neg =>
          obtain rfl : i = D.nodes.length := by omega
          obtain ⟨W4, hE⟩ : ∃ W, W = wr := ⟨_, rfl⟩
          subst hE
          have Is4 := Lib.hid (bxS_next Is3.out hbr)
          have It4 := Lib.hid (bxS_next It3.out hbr)
          have Id4 := Lib.hid (bxD_next Id3.out hbr)
          have B4 := Lib.hid (below_trans B3.out hbr B3.out.size)
          clear hbr hi h hlen
          obtain ⟨zs0, zs1, zs2, zs3⟩ := bxS_cells Is4.out
          obtain ⟨zt0, zt1, zt2, zt3⟩ := bxS_cells It4.out
          obtain ⟨zd0, zd1, zd2, zd3, zd4, zd5, zd6, zd7⟩ := bxD_cells Id4.out
          dsimp only at zd2 zd3 zd4 zd5 zd6 zd7
          have hlen := HLD.out.1.2.2
          go_wp2
          clear zs0 zs1 zs2 zs3 zt0 zt1 zt2 zt3 zd0 zd1 zd2 zd3 zd4 zd5 zd6 zd7
          go_loopw [68] (fun iv wr => ∃ (i : Nat), iv = .int .i64 (i : Int) ∧ i ≤ D.leases.length ∧ Below W4.heap.size W4 wr) (fun iv _ => D.leases.length - (intOf iv).toNat)
          case atStart => exact ⟨0, rfl, Nat.zero_le _, Below.refl _ _⟩
          case round =>
            obtain ⟨i, rfl, hi, hbr⟩ := hrel
            by_cases h : (i : Int) < (D.leases.length : Int)
            case pos =>
              have hil : i < D.leases.length := by omega
              obtain ⟨x, hxi⟩ : ∃ x, D.leases[i] = x := ⟨_, rfl⟩
              have iD := bxD_next Id4.out hbr
              have iS := bxS_next Is4.out hbr
              have iT := bxS_next It4.out hbr
              obtain ⟨a, hae, hal, k0, k1, k2⟩ := iD.2.1.2.2 i hil
              rw [hxi] at k0 k1 k2
              dsimp only at hae
              subst hae
              have HX : Hid (x ∈ D.leases) := by show _ ∈ _; rw [← hxi]; exact List.getElem_mem hil
              have BR := below_trans B4.out hbr B4.out.size
              obtain ⟨LX, hLX⟩ : ∃ L, wr.heap.size = L := ⟨_, rfl⟩
              obtain ⟨V, hV⟩ : ∃ V, wr.alloc (.cells #[.string x.job, .string x.node, .int .i64 x.til] 47) = V := ⟨_, rfl⟩
              have bA := below_one wr (.cells #[.string x.job, .string x.node, .int .i64 x.til] 47)
              have oX := objAt_new wr #[.string x.job, .string x.node, .int .i64 x.til] 47
              rw [hV] at bA oX
              rw [hLX] at oX
              have jS := bxS_next iS bA
              have jT := bxS_next iT bA
              have C1 := Lib.hid (hasLease_is s.leases x false ⟨fun h => (by cases h), fun h => absurd h (HP.out.1.2.2 x HX.out).1⟩ als cls HLs.out.2.2 V jS.2.2.2)
              have BV := below_trans BR bA BR.size
              have ZZ := Lib.hid (And.intro jS (And.intro jT (And.intro oX BV)))
              have BW1 := Lib.hid (below_trans hbr bA hbr.size)
              obtain ⟨zs0, zs1, zs2, zs3⟩ := bxS_cells jS
              have e0 := objAt_cell oX 0 rfl
              have e1 := objAt_cell oX 1 rfl
              have e2 := objAt_cell oX 2 rfl
              have el := objAt_lt oX
              clear iD iS iT jS jT oX BV BR bA hbr hxi
              go_wp2_with fail
              refine C1.out.mono ?_
              rintro e w2 ⟨rfl, b2⟩
              obtain ⟨jS, jT, oX, BV⟩ := ZZ.out
              have C2 := Lib.hid (hasLease_is t.leases x true ⟨fun _ => (HP.out.1.2.2 x HX.out).2, fun _ => rfl⟩ alt clt HLt.out.2.2 w2 (bxS_next jT b2).2.2.2)
              have oX2 := objAt_next oX b2
              have B2 := below_trans BW1.out b2 (Nat.le_trans BW1.out.size (Nat.le_refl _))
              clear zs0 zs1 zs2 zs3 el e0 e1 e2
              obtain ⟨zt0, zt1, zt2, zt3⟩ := bxS_cells (bxS_next jT b2)
              have e0 := objAt_cell oX2 0 rfl
              have e1 := objAt_cell oX2 1 rfl
              have e2 := objAt_cell oX2 2 rfl
              have el := objAt_lt oX2
              have BB := Lib.hid B2
              clear jS jT oX BV oX2 B2 b2
              go_wp2_with fail
              refine C2.out.mono ?_
              rintro e w3 ⟨rfl, b3⟩
              have B3 := Lib.hid (below_trans BB.out b3 BB.out.size)
              clear b3 el zt0 zt1 zt2 zt3 e0 e1 e2
              go_wp2
              go_roundw
              case rel => exact ⟨i + 1, by simp, by omega, B3.out⟩
              case measure => simp [intOf]; omega
            case neg =>
              obtain rfl : i = D.leases.length := by omega
              obtain ⟨W5, hE⟩ : ∃ W, W = wr := ⟨_, rfl⟩
              subst hE
              have Is5 := Lib.hid (bxS_next Is4.out hbr)
              have It5 := Lib.hid (bxS_next It4.out hbr)
              have Id5 := Lib.hid (bxD_next Id4.out hbr)
              have B5 := Lib.hid (below_trans B4.out hbr B4.out.size)
              clear hbr hi h hlen
              obtain ⟨zs0, zs1, zs2, zs3⟩ := bxS_cells Is5.out
              obtain ⟨zt0, zt1, zt2, zt3⟩ := bxS_cells It5.out
              obtain ⟨zd0, zd1, zd2, zd3, zd4, zd5, zd6, zd7⟩ := bxD_cells Id5.out
              dsimp only at zd2 zd3 zd4 zd5 zd6 zd7
              have hlen := HLD.out.2.1
              go_wp2
              clear zs0 zs1 zs2 zs3 zt0 zt1 zt2 zt3 zd0 zd1 zd2 zd3 zd4 zd5 zd6 zd7
              go_loopw [87] (fun iv wr => ∃ (i : Nat), iv = .int .i64 (i : Int) ∧ i ≤ D.gj.length ∧ Below W5.heap.size W5 wr) (fun iv _ => D.gj.length - (intOf iv).toNat)
              case atStart => exact ⟨0, rfl, Nat.zero_le _, Below.refl _ _⟩
              case round =>
                obtain ⟨i, rfl, hi, hbr⟩ := hrel
                by_cases h : (i : Int) < (D.gj.length : Int)
                case pos =>
                  have hil : i < D.gj.length := by omega
                  obtain ⟨x, hxi⟩ : ∃ x, D.gj[i] = x := ⟨_, rfl⟩
                  have iD := bxD_next Id5.out hbr
                  have iS := bxS_next Is5.out hbr
                  have iT := bxS_next It5.out hbr
                  obtain ⟨a, hae, hal, k0⟩ := iD.2.2.1 i hil
                  rw [hxi] at k0
                  dsimp only at hae
                  subst hae
                  have HX : Hid (x ∈ D.gj) := by show _ ∈ _; rw [← hxi]; exact List.getElem_mem hil
                  have BR := below_trans B5.out hbr B5.out.size
                  have C1 := Lib.hid (jobAt_is s.jobs ajs cjs HLs.out.1 x wr iS.2.1)
                  have ZZ := Lib.hid (And.intro iT BR)
                  have BW1 := Lib.hid hbr
                  obtain ⟨zs0, zs1, zs2, zs3⟩ := bxS_cells iS
                  clear iD iS iT BR hbr hxi
                  go_wp2_with fail
                  refine C1.out.mono ?_
                  rintro e w2 ⟨r1, rfl, a1, b2⟩
                  have hr1 := at_there a1 (HP.out.2.1 x HX.out).1
                  obtain ⟨iT, BR⟩ := ZZ.out
                  have C2 := Lib.hid (jobAt_is t.jobs ajt cjt HLt.out.1 x w2 (bxS_next iT b2).2.1)
                  have B2 := below_trans BW1.out b2 BW1.out.size
                  clear zs0 zs1 zs2 zs3 a1
                  obtain ⟨zt0, zt1, zt2, zt3⟩ := bxS_cells (bxS_next iT b2)
                  have BB := Lib.hid B2
                  have hr1' : ¬ (r1 < 0) := by omega
                  clear iT BR B2 b2
                  go_wp2_with fail
                  refine C2.out.mono ?_
                  rintro e w3 ⟨r2, rfl, a2, b3⟩
                  have hr2 := at_gone a2 (HP.out.2.1 x HX.out).2
                  have hr2' : ¬ (0 ≤ r2) := by omega
                  have B3 := Lib.hid (below_trans BB.out b3 BB.out.size)
                  clear b3 a2 zt0 zt1 zt2 zt3
                  go_wp2
                  go_roundw
                  case rel => exact ⟨i + 1, by simp, by omega, B3.out⟩
                  case measure => simp [intOf]; omega
                case neg =>
                  obtain rfl : i = D.gj.length := by omega
                  obtain ⟨W6, hE⟩ : ∃ W, W = wr := ⟨_, rfl⟩
                  subst hE
                  have Is6 := Lib.hid (bxS_next Is5.out hbr)
                  have It6 := Lib.hid (bxS_next It5.out hbr)
                  have Id6 := Lib.hid (bxD_next Id5.out hbr)
                  have B6 := Lib.hid (below_trans B5.out hbr B5.out.size)
                  clear hbr hi h hlen
                  obtain ⟨zs0, zs1, zs2, zs3⟩ := bxS_cells Is6.out
                  obtain ⟨zt0, zt1, zt2, zt3⟩ := bxS_cells It6.out
                  obtain ⟨zd0, zd1, zd2, zd3, zd4, zd5, zd6, zd7⟩ := bxD_cells Id6.out
                  dsimp only at zd2 zd3 zd4 zd5 zd6 zd7
                  have hlen := HLD.out.2.2.2
                  go_wp2
                  clear zs0 zs1 zs2 zs3 zt0 zt1 zt2 zt3 zd0 zd1 zd2 zd3 zd4 zd5 zd6 zd7
                  go_loopw [107] (fun iv wr => ∃ (i : Nat), iv = .int .i64 (i : Int) ∧ i ≤ D.gl.length ∧ Below W6.heap.size W6 wr) (fun iv _ => D.gl.length - (intOf iv).toNat)
                  case atStart => exact ⟨0, rfl, Nat.zero_le _, Below.refl _ _⟩
                  case round =>
                    obtain ⟨i, rfl, hi, hbr⟩ := hrel
                    by_cases h : (i : Int) < (D.gl.length : Int)
                    case pos =>
                      have hil : i < D.gl.length := by omega
                      obtain ⟨x, hxi⟩ : ∃ x, D.gl[i] = x := ⟨_, rfl⟩
                      have iD := bxD_next Id6.out hbr
                      have iS := bxS_next Is6.out hbr
                      have iT := bxS_next It6.out hbr
                      obtain ⟨a, hae, hal, k0⟩ := iD.2.2.2.2 i hil
                      rw [hxi] at k0
                      dsimp only at hae
                      subst hae
                      have HX : Hid (x ∈ D.gl) := by show _ ∈ _; rw [← hxi]; exact List.getElem_mem hil
                      have BR := below_trans B6.out hbr B6.out.size
                      have C1 := Lib.hid (leaseAt_is s.leases als cls HLs.out.2.2 x wr iS.2.2.2)
                      have ZZ := Lib.hid (And.intro iT BR)
                      have BW1 := Lib.hid hbr
                      obtain ⟨zs0, zs1, zs2, zs3⟩ := bxS_cells iS
                      clear iD iS iT BR hbr hxi
                      go_wp2_with fail
                      refine C1.out.mono ?_
                      rintro e w2 ⟨r1, rfl, a1, b2⟩
                      have hr1 := at_there a1 (HP.out.2.2.1 x HX.out).1
                      obtain ⟨iT, BR⟩ := ZZ.out
                      have C2 := Lib.hid (leaseAt_is t.leases alt clt HLt.out.2.2 x w2 (bxS_next iT b2).2.2.2)
                      have B2 := below_trans BW1.out b2 BW1.out.size
                      clear zs0 zs1 zs2 zs3 a1
                      obtain ⟨zt0, zt1, zt2, zt3⟩ := bxS_cells (bxS_next iT b2)
                      have BB := Lib.hid B2
                      have hr1' : ¬ (r1 < 0) := by omega
                      clear iT BR B2 b2
                      go_wp2_with fail
                      refine C2.out.mono ?_
                      rintro e w3 ⟨r2, rfl, a2, b3⟩
                      have hr2 := at_gone a2 (HP.out.2.2.1 x HX.out).2
                      have hr2' : ¬ (0 ≤ r2) := by omega
                      have B3 := Lib.hid (below_trans BB.out b3 BB.out.size)
                      clear b3 a2 zt0 zt1 zt2 zt3
                      go_wp2
                      go_roundw
                      case rel => exact ⟨i + 1, by simp, by omega, B3.out⟩
                      case measure => simp [intOf]; omega
                    case neg =>
                      obtain rfl : i = D.gl.length := by omega
                      obtain ⟨W7, hE⟩ : ∃ W, W = wr := ⟨_, rfl⟩
                      subst hE
                      have Is7 := Lib.hid (bxS_next Is6.out hbr)
                      have It7 := Lib.hid (bxS_next It6.out hbr)
                      have Id7 := Lib.hid (bxD_next Id6.out hbr)
                      have B7 := Lib.hid (below_trans B6.out hbr B6.out.size)
                      clear hbr hi h hlen
                      have hq := HP.out.2.2.2
                      have l1 := HLs.out.1
                      have l2 := HLt.out.1
                      have l3 := HLD.out.2.1
                      have u1 : IntKind.i64.wrap ((s.jobs.length : Int) - (D.gj.length : Int)) = (s.jobs.length : Int) - (D.gj.length : Int) := IntWalk.i64_in _ (by omega)
                      have u2 : (s.jobs.length : Int) - (D.gj.length : Int) ≤ (t.jobs.length : Int) := by omega
                      clear hq l1 l2 l3
                      obtain ⟨zs0, zs1, zs2, zs3⟩ := bxS_cells Is7.out
                      obtain ⟨zt0, zt1, zt2, zt3⟩ := bxS_cells It7.out
                      obtain ⟨zd0, zd1, zd2, zd3, zd4, zd5, zd6, zd7⟩ := bxD_cells Id7.out
                      dsimp only at zd2 zd3 zd4 zd5 zd6 zd7
                      go_wp2
                      go_ret
                      exact ⟨rfl, B7.out⟩

theorem own : ownKnob Tryz.prog.godebug = none := by kernel_rfl
theorem laidOut : laidOutB Tryz.prog = true := by kernel_rfl
theorem laid_met (os : Os) : laidMet Tryz.prog Rows.deltaLeastRow.laid ((laidWorld os).forCall (fun _ _ => 0) ⟨#[], #[.agg #[.int .i64 0, .slice none 0 0, .slice none 0 0, .slice none 0 0], .agg #[.int .i64 0, .slice none 0 0, .slice none 0 0, .slice none 0 0]], []⟩).memory :=
  laidMet_of_run' 8 (by kernel_rfl) (by kernel_rfl)
theorem reads (os : Os) {H : Type} (enc : TypeId × Value → H) : ∃ places, DataW.whole enc Tryz.prog ((laidWorld os).forCall (fun _ _ => 0) ⟨#[], #[.agg #[.int .i64 0, .slice none 0 0, .slice none 0 0, .slice none 0 0], .agg #[.int .i64 0, .slice none 0 0, .slice none 0 0, .slice none 0 0]], []⟩).memory Tryz.f6.params.toList Rows.deltaLeastSpec.vars false #[Value.agg #[.int .i64 0, .slice none 0 0, .slice none 0 0, .slice none 0 0], Value.agg #[.int .i64 0, .slice none 0 0, .slice none 0 0, .slice none 0 0]].toList 8 = some ([.agg [.lit (.int .i64 0), .nil, .nil, .nil], .agg [.lit (.int .i64 0), .nil, .nil, .nil]], [], places) :=
  ⟨[], by kernel_rfl⟩
set_option maxRecDepth 100000 in
set_option maxHeartbeats 2000000 in
theorem lifted (os : Os) (started : os.Started) (H : Type) (enc : TypeId × Value → H) (F : Stop.Interp) :
    ReturnsInHanded {} Tryz.checked os 6 .any ((OpenSpec.ofChange Rows.deltaLeastSpec).preRow enc Tryz.prog Tryz.f6 Rows.deltaLeastRow.domain false Rows.deltaLeastRow.laid) (((OpenSpec.ofChange Rows.deltaLeastSpec).at F).post enc Tryz.prog Tryz.f6 false true false false) := by
  obtain ⟨places, hx⟩ := reads os enc
  refine returnsInHanded_of_row (C := Tryz.checked) (s := (OpenSpec.ofChange Rows.deltaLeastSpec)) own started (by kernel_rfl) Tryz.func6
    (witness_row_atRef (enc := enc) (C := Tryz.checked) false (laidWorld os) #[.agg #[.int .i64 0, .slice none 0 0, .slice none 0 0, .slice none 0 0], .agg #[.int .i64 0, .slice none 0 0, .slice none 0 0, .slice none 0 0]] rfl (by kernel_rfl) (by kernel_rfl) (by kernel_rfl)
      (OpenSpec.preRow_of_cond 8 hx (by kernel_rfl) (fun k hk => by cases hk) (by kernel_rfl) (laid_met os))) ?_
  intro W base args ds gs before hval0 hW _ _ hsz0 hL _ _
  have hval : ∀ (j : Nat) t v, Tryz.f6.params[j]? = some t → args[j]? = some v → Value.okWide Tryz.prog W .any base t v := hval0
  have hW' := hW
  obtain ⟨p, q, hA0, hV, rfl, hfz, hnd⟩ := hW
  have hA : DataW.TrodAll enc Tryz.prog W 0 (fun _ => true) true Tryz.f6.params.toList args.toList ds p := hA0
  have hsz : (DataW.weightsEach Tryz.prog (Tryz.f6.params.toList ++ Rows.deltaLeastSpec.plain.varTypes Tryz.prog) (ds ++ gs)).all (· ≤ reachBytes) = true := hsz0
  rw [Tryz.params6] at hA hval hsz
  obtain ⟨v0, vs0, d0, ds0, p0, q0, hargs, rfl, rfl, h0, r0⟩ := trodAll_cons hA
  obtain ⟨v1, vs1, d1, ds1, p1, q1, rfl, rfl, rfl, h1, r1⟩ := trodAll_cons r0
  obtain ⟨rfl, rfl, rfl⟩ := trodAll_nil r1
  obtain rfl : args = #[v0, v1] := by cases args; simp_all
  obtain ⟨rfl, rfl⟩ := trodVars_none hV
  obtain ⟨M0, st0, rfl, m0, x0, w0⟩ := open_state (hval 0 26 v0 rfl rfl) h0
  obtain ⟨M1, st1, rfl, m1, x1, w1⟩ := open_state (hval 1 26 v1 rfl rfl) h1
  have s0 := sized_state hsz rfl (j := 0) rfl x0
  have s1 := sized_state hsz rfl (j := 1) rfl x1
  clear hA0 hval0
  refine (walk M0 st0 M1 st1 w0 w1 s0 s1 W m0 m1 (tabs_of hL)).mono fun e W' ⟨he, bel⟩ => ?_
  subst he
  exact ⟨_, rfl, _, _, _, [], _, [], hW', trodAll_mk1 (shut_bool Tryz.underlying4 _), (trodAll_cons_mk (Below.trod laidOut (by kernel_rfl) (of_decide_eq_true (by kernel_rfl)) h0 bel (fun x hx => by simpa using hW'.lt x (by simp [hx]))) (trodAll_cons_mk (Below.trod laidOut (by kernel_rfl) (of_decide_eq_true (by kernel_rfl)) h1 bel (fun x hx => by simpa using hW'.lt x (by simp [hx]))) trodAll_mk0)), rfl, bel.frame _, fun h => by cases h⟩
theorem said : Rows.DeltaLeastSaid :=
  OpenClaim.holds_of_cond 6 Tryz.f6 rfl rfl rfl rfl rfl rfl rfl ⟨rfl, rfl, rfl, rfl, rfl⟩ rfl rfl rfl rfl rfl (by kernel_rfl) Tryz.func6 (by kernel_rfl)
    (of_decide_eq_true (by kernel_rfl)) (by unfold Func.isWrapper; first | (rw [if_pos (by decide +kernel)]; kernel_rfl) | (rw [if_neg (by decide +kernel)]; exact ⟨rfl, rfl⟩))
    (fun os started H enc _ F => by rw [OpenClaim.pre_eq_preRow]; exact lifted os started H enc F)
theorem plain (f : FuncId) (fn : Func) (hf : Tryz.pinned.checked.prog.funcNamed Rows.deltaLeastRow.func = some f) (hfn : Tryz.pinned.checked.prog.funcs[f]? = some fn) :
    false = Tryz.pinned.checked.prog.looks [] ∧ ∀ (j : Nat) t, fn.params[j]? = some t → Tryz.pinned.checked.prog.wantsStandIn t = false := by
  obtain rfl : f = 6 := Option.some.inj ((show Tryz.prog.funcNamed Rows.deltaLeastRow.func = some 6 by kernel_rfl).symm.trans hf) |>.symm
  obtain rfl : fn = Tryz.f6 := (Option.some.inj (Tryz.func6.symm.trans hfn)).symm
  refine ⟨by kernel_rfl, fun j t ht => ?_⟩
  rw [Tryz.params6] at ht
  obtain rfl : t = 26 := by simpa using Array.mem_of_getElem? ht
  exact (show Tryz.prog.wantsStandIn 26 = false by kernel_rfl)
theorem proved : Rows.DeltaLeastCardSaid :=
  Claim7.holds_tied_plain_at .later [] _ _ _ _ said (fun _ h => by cases h) (by kernel_rfl) (fun _ h => by cases h) deltaLeast_row_tie rfl ⟨rfl, rfl⟩ (by kernel_rfl) rfl plain (by kernel_rfl)
#print axioms proved
end Go.Proofs.YtfbakobmlbjncaaGreatDoor.deltaLeast
