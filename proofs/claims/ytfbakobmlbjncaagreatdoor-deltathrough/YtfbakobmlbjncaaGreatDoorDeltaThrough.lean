/- For every three states the law DeltaThrough of the package brackenkeep returns true, as a tied card: from the first to the third it is as from the first to the second, and on. Condition: the library's two tables unicode/utf8.first and acceptRanges start as their text lays them (the card ties them; first is pinned). -/
import Derived.Test.YtfbakobmlbjncaaGreatDoorDlUse
namespace Go.Proofs.YtfbakobmlbjncaaGreatDoor.deltaThrough
open Go.ChangeShapes Go.WideShapes Go.ChangeAt Go.RowKit
set_option linter.unusedVariables false

set_option maxRecDepth 100000 in
set_option maxHeartbeats 4000000 in
theorem walk (Ms : StM) (s : StD) (Mt : StM) (t : StD) (Mu : StM) (u : StD) (hws : wState s) (hwt : wState t) (hwu : wState u) (hzs : SzState s) (hzt : SzState t) (hzu : SzState u) (w : World) (hms : StateAt w Ms s) (hmt : StateAt w Mt t) (hmu : StateAt w Mu u) (hT : Tabs w) :
    Calls Tryz.prog 9 #[stV Ms s, stV Mt t, stV Mu u] w fun e w' => e = .returned (.bool true) ∧ Below w.heap.size w w' := by
  obtain ⟨ajs, cjs, ans, cns, als, cls⟩ := Ms
  have hms : JobsAt w ajs s.jobs ∧ NodesAt w ans s.nodes ∧ LeasesAt w als s.leases := hms
  obtain ⟨ajt, cjt, ant, cnt, alt, clt⟩ := Mt
  have hmt : JobsAt w ajt t.jobs ∧ NodesAt w ant t.nodes ∧ LeasesAt w alt t.leases := hmt
  obtain ⟨aju, cju, anu, cnu, alu, clu⟩ := Mu
  have hmu : JobsAt w aju u.jobs ∧ NodesAt w anu u.nodes ∧ LeasesAt w alu u.leases := hmu
  show Calls _ _ #[.agg #[.int .i64 s.rev, .slice ajs s.jobs.length cjs, .slice ans s.nodes.length cns, .slice als s.leases.length cls], .agg #[.int .i64 t.rev, .slice ajt t.jobs.length cjt, .slice ant t.nodes.length cnt, .slice alt t.leases.length clt], .agg #[.int .i64 u.rev, .slice aju u.jobs.length cju, .slice anu u.nodes.length cnu, .slice alu u.leases.length clu]] _ _
  have B0 : Below w.heap.size w w := Below.refl _ _
  have bA := below_one w (.cells #[.int .i64 s.rev, .slice ajs s.jobs.length cjs, .slice ans s.nodes.length cns, .slice als s.leases.length cls] 26)
  have iN := bxS_new (cj := cjs) (cn := cns) (cl := cls) (w := w) (And.intro (jobsAt_next hms.1 B0) (And.intro (nodesAt_next hms.2.1 B0) (leasesAt_next hms.2.2 B0)))
  have Is0 := iN
  have B0 := below_trans B0 bA B0.size
  clear bA iN
  have bA := below_one (w.alloc (.cells #[.int .i64 s.rev, .slice ajs s.jobs.length cjs, .slice ans s.nodes.length cns, .slice als s.leases.length cls] 26)) (.cells #[.int .i64 t.rev, .slice ajt t.jobs.length cjt, .slice ant t.nodes.length cnt, .slice alt t.leases.length clt] 26)
  have iN := bxS_new (cj := cjt) (cn := cnt) (cl := clt) (w := (w.alloc (.cells #[.int .i64 s.rev, .slice ajs s.jobs.length cjs, .slice ans s.nodes.length cns, .slice als s.leases.length cls] 26))) (And.intro (jobsAt_next hmt.1 B0) (And.intro (nodesAt_next hmt.2.1 B0) (leasesAt_next hmt.2.2 B0)))
  have Is0 := bxS_next Is0 bA
  have It0 := iN
  have B0 := below_trans B0 bA B0.size
  clear bA iN
  have bA := below_one ((w.alloc (.cells #[.int .i64 s.rev, .slice ajs s.jobs.length cjs, .slice ans s.nodes.length cns, .slice als s.leases.length cls] 26)).alloc (.cells #[.int .i64 t.rev, .slice ajt t.jobs.length cjt, .slice ant t.nodes.length cnt, .slice alt t.leases.length clt] 26)) (.cells #[.int .i64 u.rev, .slice aju u.jobs.length cju, .slice anu u.nodes.length cnu, .slice alu u.leases.length clu] 26)
  have iN := bxS_new (cj := cju) (cn := cnu) (cl := clu) (w := ((w.alloc (.cells #[.int .i64 s.rev, .slice ajs s.jobs.length cjs, .slice ans s.nodes.length cns, .slice als s.leases.length cls] 26)).alloc (.cells #[.int .i64 t.rev, .slice ajt t.jobs.length cjt, .slice ant t.nodes.length cnt, .slice alt t.leases.length clt] 26))) (And.intro (jobsAt_next hmu.1 B0) (And.intro (nodesAt_next hmu.2.1 B0) (leasesAt_next hmu.2.2 B0)))
  have Is0 := bxS_next Is0 bA
  have It0 := bxS_next It0 bA
  have Iu0 := iN
  have B0 := below_trans B0 bA B0.size
  clear bA iN
  obtain ⟨W0, hW0⟩ : ∃ W0, (((w.alloc (.cells #[.int .i64 s.rev, .slice ajs s.jobs.length cjs, .slice ans s.nodes.length cns, .slice als s.leases.length cls] 26)).alloc (.cells #[.int .i64 t.rev, .slice ajt t.jobs.length cjt, .slice ant t.nodes.length cnt, .slice alt t.leases.length clt] 26)).alloc (.cells #[.int .i64 u.rev, .slice aju u.jobs.length cju, .slice anu u.nodes.length cnu, .slice alu u.leases.length clu] 26)) = W0 := ⟨_, rfl⟩
  rw [hW0] at B0 Is0 It0 Iu0
  have HT := Lib.hid hT
  have HWs := Lib.hid hws
  have HWt := Lib.hid hwt
  have HWu := Lib.hid hwu
  try simp only [World.size_alloc] at Is0 It0 Iu0
  have B0 := Lib.hid B0
  have Is0 := Lib.hid Is0
  have It0 := Lib.hid It0
  have Iu0 := Lib.hid Iu0
  clear hT hms hws hzs hmt hwt hzt hmu hwu hzu
  rcases diff_cases s t with ⟨c, hc, e1⟩ | ⟨e1, h1, h2, h3⟩
  · have hc' : ((c : Int) != 0) = true := by simp; omega
    obtain ⟨Z, hZ⟩ : ∃ Z, zeroDel = Z := ⟨_, rfl⟩
    rw [hZ] at e1
    have E1 := Lib.hid e1
    obtain ⟨⟨D2, c2⟩, h2⟩ : ∃ Q, diffR V8 t u = Q := ⟨_, rfl⟩
    obtain ⟨⟨D3, c3⟩, h3⟩ : ∃ Q, diffR V8 s u = Q := ⟨_, rfl⟩
    have E2 := Lib.hid h2
    have E3 := Lib.hid h3
    clear hc hZ e1 h2 h3
    have C := Lib.hid (differed_is W0 (HT.out.below B0.out))
    go_enter Tryz.func9, Tryz.ntmps9
    go_wp2_with fail
    refine C.out.mono ?_
    rintro e W1 ⟨rfl, b⟩
    have Is1 := Lib.hid (bxS_next Is0.out b)
    have It1 := Lib.hid (bxS_next It0.out b)
    have Iu1 := Lib.hid (bxS_next Iu0.out b)
    have B1 := Lib.hid (below_trans B0.out b B0.out.size)
    clear b C
    have C := Lib.hid (ddiff_at (cj := cjs) (cn := cns) (cl := cls) (dj := cjt) (dn := cnt) (dl := clt) HWs.out HWt.out E1.out (HT.out.below B1.out) Is1.out.2 It1.out.2)
    obtain ⟨zs0, zs1, zs2, zs3⟩ := bxS_cells Is1.out
    obtain ⟨zt0, zt1, zt2, zt3⟩ := bxS_cells It1.out
    go_wp2_with fail
    refine C.out.mono ?_
    rintro e w2 ⟨Mx, rfl, ow, b⟩
    clear zs0 zs1 zs2 zs3 zt0 zt1 zt2 zt3
    obtain ⟨Lx, hLx⟩ : ∃ L, w2.heap.size = L := ⟨_, rfl⟩
    obtain ⟨W2, hW2⟩ : ∃ W, w2.alloc (.cells #[.int .i64 Z.frm, .int .i64 Z.til, .slice Mx.aj Z.jobs.length Mx.cj, .slice Mx.an Z.nodes.length Mx.cn, .slice Mx.al Z.leases.length Mx.cl, .slice Mx.gj Z.gj.length Mx.hj, .slice Mx.gn Z.gn.length Mx.hn, .slice Mx.gl Z.gl.length Mx.hl] 29) = W := ⟨_, rfl⟩
    have bA := below_one w2 (.cells #[.int .i64 Z.frm, .int .i64 Z.til, .slice Mx.aj Z.jobs.length Mx.cj, .slice Mx.an Z.nodes.length Mx.cn, .slice Mx.al Z.leases.length Mx.cl, .slice Mx.gj Z.gj.length Mx.hj, .slice Mx.gn Z.gn.length Mx.hn, .slice Mx.gl Z.gl.length Mx.hl] 29)
    have iN := bxD_new (ownD_at ow)
    rw [hW2] at bA iN
    rw [hLx] at iN
    have Is2 := Lib.hid (bxS_next (bxS_next Is1.out b) bA)
    have It2 := Lib.hid (bxS_next (bxS_next It1.out b) bA)
    have Iu2 := Lib.hid (bxS_next (bxS_next Iu1.out b) bA)
    have Ix2 := Lib.hid iN
    have B2 := Lib.hid (below_trans (below_trans B1.out b B1.out.size) bA (Nat.le_trans B1.out.size b.size))
    clear bA iN ow b C
    have C := Lib.hid (ddiff_at (cj := cjt) (cn := cnt) (cl := clt) (dj := cju) (dn := cnu) (dl := clu) HWt.out HWu.out E2.out (HT.out.below B2.out) It2.out.2 Iu2.out.2)
    obtain ⟨zt0, zt1, zt2, zt3⟩ := bxS_cells It2.out
    obtain ⟨zu0, zu1, zu2, zu3⟩ := bxS_cells Iu2.out
    go_wp2_with fail
    refine C.out.mono ?_
    rintro e w3 ⟨My, rfl, ow, b⟩
    clear zt0 zt1 zt2 zt3 zu0 zu1 zu2 zu3
    obtain ⟨Ly, hLy⟩ : ∃ L, w3.heap.size = L := ⟨_, rfl⟩
    obtain ⟨W3, hW3⟩ : ∃ W, w3.alloc (.cells #[.int .i64 D2.frm, .int .i64 D2.til, .slice My.aj D2.jobs.length My.cj, .slice My.an D2.nodes.length My.cn, .slice My.al D2.leases.length My.cl, .slice My.gj D2.gj.length My.hj, .slice My.gn D2.gn.length My.hn, .slice My.gl D2.gl.length My.hl] 29) = W := ⟨_, rfl⟩
    have bA := below_one w3 (.cells #[.int .i64 D2.frm, .int .i64 D2.til, .slice My.aj D2.jobs.length My.cj, .slice My.an D2.nodes.length My.cn, .slice My.al D2.leases.length My.cl, .slice My.gj D2.gj.length My.hj, .slice My.gn D2.gn.length My.hn, .slice My.gl D2.gl.length My.hl] 29)
    have iN := bxD_new (ownD_at ow)
    rw [hW3] at bA iN
    rw [hLy] at iN
    have Is3 := Lib.hid (bxS_next (bxS_next Is2.out b) bA)
    have It3 := Lib.hid (bxS_next (bxS_next It2.out b) bA)
    have Iu3 := Lib.hid (bxS_next (bxS_next Iu2.out b) bA)
    have Ix3 := Lib.hid (bxD_next (bxD_next Ix2.out b) bA)
    have Iy3 := Lib.hid iN
    have B3 := Lib.hid (below_trans (below_trans B2.out b B2.out.size) bA (Nat.le_trans B2.out.size b.size))
    clear bA iN ow b C
    have C := Lib.hid (ddiff_at (cj := cjs) (cn := cns) (cl := cls) (dj := cju) (dn := cnu) (dl := clu) HWs.out HWu.out E3.out (HT.out.below B3.out) Is3.out.2 Iu3.out.2)
    obtain ⟨zs0, zs1, zs2, zs3⟩ := bxS_cells Is3.out
    obtain ⟨zu0, zu1, zu2, zu3⟩ := bxS_cells Iu3.out
    go_wp2_with fail
    refine C.out.mono ?_
    rintro e w4 ⟨Mz, rfl, ow, b⟩
    clear zs0 zs1 zs2 zs3 zu0 zu1 zu2 zu3
    obtain ⟨Lz, hLz⟩ : ∃ L, w4.heap.size = L := ⟨_, rfl⟩
    obtain ⟨W4, hW4⟩ : ∃ W, w4.alloc (.cells #[.int .i64 D3.frm, .int .i64 D3.til, .slice Mz.aj D3.jobs.length Mz.cj, .slice Mz.an D3.nodes.length Mz.cn, .slice Mz.al D3.leases.length Mz.cl, .slice Mz.gj D3.gj.length Mz.hj, .slice Mz.gn D3.gn.length Mz.hn, .slice Mz.gl D3.gl.length Mz.hl] 29) = W := ⟨_, rfl⟩
    have bA := below_one w4 (.cells #[.int .i64 D3.frm, .int .i64 D3.til, .slice Mz.aj D3.jobs.length Mz.cj, .slice Mz.an D3.nodes.length Mz.cn, .slice Mz.al D3.leases.length Mz.cl, .slice Mz.gj D3.gj.length Mz.hj, .slice Mz.gn D3.gn.length Mz.hn, .slice Mz.gl D3.gl.length Mz.hl] 29)
    have iN := bxD_new (ownD_at ow)
    rw [hW4] at bA iN
    rw [hLz] at iN
    have Is4 := Lib.hid (bxS_next (bxS_next Is3.out b) bA)
    have It4 := Lib.hid (bxS_next (bxS_next It3.out b) bA)
    have Iu4 := Lib.hid (bxS_next (bxS_next Iu3.out b) bA)
    have Ix4 := Lib.hid (bxD_next (bxD_next Ix3.out b) bA)
    have Iy4 := Lib.hid (bxD_next (bxD_next Iy3.out b) bA)
    have Iz4 := Lib.hid iN
    have B4 := Lib.hid (below_trans (below_trans B3.out b B3.out.size) bA (Nat.le_trans B3.out.size b.size))
    clear bA iN ow b C
    go_wp2
    go_ret
    exact ⟨rfl, B4.out⟩
  rcases diff_cases t u with ⟨c, hc, e2⟩ | ⟨e2, _, h4, h5⟩
  · have hc' : ((c : Int) != 0) = true := by simp; omega
    obtain ⟨Z, hZ⟩ : ∃ Z, zeroDel = Z := ⟨_, rfl⟩
    obtain ⟨D1, hD1⟩ : ∃ D, diffS s t = D := ⟨_, rfl⟩
    rw [hZ] at e2
    rw [hD1] at e1
    have E1 := Lib.hid e1
    have E2 := Lib.hid e2
    obtain ⟨⟨D3, c3⟩, h6⟩ : ∃ Q, diffR V8 s u = Q := ⟨_, rfl⟩
    have E3 := Lib.hid h6
    clear hc hZ hD1 e1 e2 h1 h2 h3 h6
    have C := Lib.hid (differed_is W0 (HT.out.below B0.out))
    go_enter Tryz.func9, Tryz.ntmps9
    go_wp2_with fail
    refine C.out.mono ?_
    rintro e W1 ⟨rfl, b⟩
    have Is1 := Lib.hid (bxS_next Is0.out b)
    have It1 := Lib.hid (bxS_next It0.out b)
    have Iu1 := Lib.hid (bxS_next Iu0.out b)
    have B1 := Lib.hid (below_trans B0.out b B0.out.size)
    clear b C
    have C := Lib.hid (ddiff_at (cj := cjs) (cn := cns) (cl := cls) (dj := cjt) (dn := cnt) (dl := clt) HWs.out HWt.out E1.out (HT.out.below B1.out) Is1.out.2 It1.out.2)
    obtain ⟨zs0, zs1, zs2, zs3⟩ := bxS_cells Is1.out
    obtain ⟨zt0, zt1, zt2, zt3⟩ := bxS_cells It1.out
    go_wp2_with fail
    refine C.out.mono ?_
    rintro e w2 ⟨Mx, rfl, ow, b⟩
    clear zs0 zs1 zs2 zs3 zt0 zt1 zt2 zt3
    obtain ⟨Lx, hLx⟩ : ∃ L, w2.heap.size = L := ⟨_, rfl⟩
    obtain ⟨W2, hW2⟩ : ∃ W, w2.alloc (.cells #[.int .i64 D1.frm, .int .i64 D1.til, .slice Mx.aj D1.jobs.length Mx.cj, .slice Mx.an D1.nodes.length Mx.cn, .slice Mx.al D1.leases.length Mx.cl, .slice Mx.gj D1.gj.length Mx.hj, .slice Mx.gn D1.gn.length Mx.hn, .slice Mx.gl D1.gl.length Mx.hl] 29) = W := ⟨_, rfl⟩
    have bA := below_one w2 (.cells #[.int .i64 D1.frm, .int .i64 D1.til, .slice Mx.aj D1.jobs.length Mx.cj, .slice Mx.an D1.nodes.length Mx.cn, .slice Mx.al D1.leases.length Mx.cl, .slice Mx.gj D1.gj.length Mx.hj, .slice Mx.gn D1.gn.length Mx.hn, .slice Mx.gl D1.gl.length Mx.hl] 29)
    have iN := bxD_new (ownD_at ow)
    rw [hW2] at bA iN
    rw [hLx] at iN
    have Is2 := Lib.hid (bxS_next (bxS_next Is1.out b) bA)
    have It2 := Lib.hid (bxS_next (bxS_next It1.out b) bA)
    have Iu2 := Lib.hid (bxS_next (bxS_next Iu1.out b) bA)
    have Ix2 := Lib.hid iN
    have B2 := Lib.hid (below_trans (below_trans B1.out b B1.out.size) bA (Nat.le_trans B1.out.size b.size))
    clear bA iN ow b C
    have C := Lib.hid (ddiff_at (cj := cjt) (cn := cnt) (cl := clt) (dj := cju) (dn := cnu) (dl := clu) HWt.out HWu.out E2.out (HT.out.below B2.out) It2.out.2 Iu2.out.2)
    obtain ⟨zt0, zt1, zt2, zt3⟩ := bxS_cells It2.out
    obtain ⟨zu0, zu1, zu2, zu3⟩ := bxS_cells Iu2.out
    go_wp2_with fail
    refine C.out.mono ?_
    rintro e w3 ⟨My, rfl, ow, b⟩
    clear zt0 zt1 zt2 zt3 zu0 zu1 zu2 zu3
    obtain ⟨Ly, hLy⟩ : ∃ L, w3.heap.size = L := ⟨_, rfl⟩
    obtain ⟨W3, hW3⟩ : ∃ W, w3.alloc (.cells #[.int .i64 Z.frm, .int .i64 Z.til, .slice My.aj Z.jobs.length My.cj, .slice My.an Z.nodes.length My.cn, .slice My.al Z.leases.length My.cl, .slice My.gj Z.gj.length My.hj, .slice My.gn Z.gn.length My.hn, .slice My.gl Z.gl.length My.hl] 29) = W := ⟨_, rfl⟩
    have bA := below_one w3 (.cells #[.int .i64 Z.frm, .int .i64 Z.til, .slice My.aj Z.jobs.length My.cj, .slice My.an Z.nodes.length My.cn, .slice My.al Z.leases.length My.cl, .slice My.gj Z.gj.length My.hj, .slice My.gn Z.gn.length My.hn, .slice My.gl Z.gl.length My.hl] 29)
    have iN := bxD_new (ownD_at ow)
    rw [hW3] at bA iN
    rw [hLy] at iN
    have Is3 := Lib.hid (bxS_next (bxS_next Is2.out b) bA)
    have It3 := Lib.hid (bxS_next (bxS_next It2.out b) bA)
    have Iu3 := Lib.hid (bxS_next (bxS_next Iu2.out b) bA)
    have Ix3 := Lib.hid (bxD_next (bxD_next Ix2.out b) bA)
    have Iy3 := Lib.hid iN
    have B3 := Lib.hid (below_trans (below_trans B2.out b B2.out.size) bA (Nat.le_trans B2.out.size b.size))
    clear bA iN ow b C
    have C := Lib.hid (ddiff_at (cj := cjs) (cn := cns) (cl := cls) (dj := cju) (dn := cnu) (dl := clu) HWs.out HWu.out E3.out (HT.out.below B3.out) Is3.out.2 Iu3.out.2)
    obtain ⟨zs0, zs1, zs2, zs3⟩ := bxS_cells Is3.out
    obtain ⟨zu0, zu1, zu2, zu3⟩ := bxS_cells Iu3.out
    go_wp2_with fail
    refine C.out.mono ?_
    rintro e w4 ⟨Mz, rfl, ow, b⟩
    clear zs0 zs1 zs2 zs3 zu0 zu1 zu2 zu3
    obtain ⟨Lz, hLz⟩ : ∃ L, w4.heap.size = L := ⟨_, rfl⟩
    obtain ⟨W4, hW4⟩ : ∃ W, w4.alloc (.cells #[.int .i64 D3.frm, .int .i64 D3.til, .slice Mz.aj D3.jobs.length Mz.cj, .slice Mz.an D3.nodes.length Mz.cn, .slice Mz.al D3.leases.length Mz.cl, .slice Mz.gj D3.gj.length Mz.hj, .slice Mz.gn D3.gn.length Mz.hn, .slice Mz.gl D3.gl.length Mz.hl] 29) = W := ⟨_, rfl⟩
    have bA := below_one w4 (.cells #[.int .i64 D3.frm, .int .i64 D3.til, .slice Mz.aj D3.jobs.length Mz.cj, .slice Mz.an D3.nodes.length Mz.cn, .slice Mz.al D3.leases.length Mz.cl, .slice Mz.gj D3.gj.length Mz.hj, .slice Mz.gn D3.gn.length Mz.hn, .slice Mz.gl D3.gl.length Mz.hl] 29)
    have iN := bxD_new (ownD_at ow)
    rw [hW4] at bA iN
    rw [hLz] at iN
    have Is4 := Lib.hid (bxS_next (bxS_next Is3.out b) bA)
    have It4 := Lib.hid (bxS_next (bxS_next It3.out b) bA)
    have Iu4 := Lib.hid (bxS_next (bxS_next Iu3.out b) bA)
    have Ix4 := Lib.hid (bxD_next (bxD_next Ix3.out b) bA)
    have Iy4 := Lib.hid (bxD_next (bxD_next Iy3.out b) bA)
    have Iz4 := Lib.hid iN
    have B4 := Lib.hid (below_trans (below_trans B3.out b B3.out.size) bA (Nat.le_trans B3.out.size b.size))
    clear bA iN ow b C
    go_wp2
    go_ret
    exact ⟨rfl, B4.out⟩
  · have A1 := Lib.hid (apply_back h1 h2 h3)
    have A2 := Lib.hid (apply_back h2 h4 h5)
    have A3 := Lib.hid (apply_back h1 h4 (show s.rev < u.rev by omega))
    have e3 := diffR_ok h1 h4 (show s.rev < u.rev by omega)
    have HD1 := Lib.hid (wDelta_diff HWs.out HWt.out)
    have HD2 := Lib.hid (wDelta_diff HWt.out HWu.out)
    have HD3 := Lib.hid (wDelta_diff HWs.out HWu.out)
    have HLT := Lib.hid (lenS_valid h4)
    obtain ⟨D1, hD1⟩ : ∃ D, diffS s t = D := ⟨_, rfl⟩
    obtain ⟨D2, hD2⟩ : ∃ D, diffS t u = D := ⟨_, rfl⟩
    obtain ⟨D3, hD3⟩ : ∃ D, diffS s u = D := ⟨_, rfl⟩
    rw [hD1] at e1 A1 HD1
    rw [hD2] at e2 A2 HD2
    rw [hD3] at e3 A3 HD3
    have E1 := Lib.hid e1
    have E2 := Lib.hid e2
    have E3 := Lib.hid e3
    clear hD1 hD2 hD3 e1 e2 e3 h1 h2 h3 h4 h5
    have C := Lib.hid (differed_is W0 (HT.out.below B0.out))
    go_enter Tryz.func9, Tryz.ntmps9
    go_wp2_with fail
    refine C.out.mono ?_
    rintro e W1 ⟨rfl, b⟩
    have Is1 := Lib.hid (bxS_next Is0.out b)
    have It1 := Lib.hid (bxS_next It0.out b)
    have Iu1 := Lib.hid (bxS_next Iu0.out b)
    have B1 := Lib.hid (below_trans B0.out b B0.out.size)
    clear b C
    have C := Lib.hid (ddiff_at (cj := cjs) (cn := cns) (cl := cls) (dj := cjt) (dn := cnt) (dl := clt) HWs.out HWt.out E1.out (HT.out.below B1.out) Is1.out.2 It1.out.2)
    obtain ⟨zs0, zs1, zs2, zs3⟩ := bxS_cells Is1.out
    obtain ⟨zt0, zt1, zt2, zt3⟩ := bxS_cells It1.out
    go_wp2_with fail
    refine C.out.mono ?_
    rintro e w2 ⟨Mx, rfl, ow, b⟩
    clear zs0 zs1 zs2 zs3 zt0 zt1 zt2 zt3
    obtain ⟨Lx, hLx⟩ : ∃ L, w2.heap.size = L := ⟨_, rfl⟩
    obtain ⟨W2, hW2⟩ : ∃ W, w2.alloc (.cells #[.int .i64 D1.frm, .int .i64 D1.til, .slice Mx.aj D1.jobs.length Mx.cj, .slice Mx.an D1.nodes.length Mx.cn, .slice Mx.al D1.leases.length Mx.cl, .slice Mx.gj D1.gj.length Mx.hj, .slice Mx.gn D1.gn.length Mx.hn, .slice Mx.gl D1.gl.length Mx.hl] 29) = W := ⟨_, rfl⟩
    have bA := below_one w2 (.cells #[.int .i64 D1.frm, .int .i64 D1.til, .slice Mx.aj D1.jobs.length Mx.cj, .slice Mx.an D1.nodes.length Mx.cn, .slice Mx.al D1.leases.length Mx.cl, .slice Mx.gj D1.gj.length Mx.hj, .slice Mx.gn D1.gn.length Mx.hn, .slice Mx.gl D1.gl.length Mx.hl] 29)
    have iN := bxD_new (ownD_at ow)
    rw [hW2] at bA iN
    rw [hLx] at iN
    have Is2 := Lib.hid (bxS_next (bxS_next Is1.out b) bA)
    have It2 := Lib.hid (bxS_next (bxS_next It1.out b) bA)
    have Iu2 := Lib.hid (bxS_next (bxS_next Iu1.out b) bA)
    have Ix2 := Lib.hid iN
    have B2 := Lib.hid (below_trans (below_trans B1.out b B1.out.size) bA (Nat.le_trans B1.out.size b.size))
    clear bA iN ow b C
    have C := Lib.hid (ddiff_at (cj := cjt) (cn := cnt) (cl := clt) (dj := cju) (dn := cnu) (dl := clu) HWt.out HWu.out E2.out (HT.out.below B2.out) It2.out.2 Iu2.out.2)
    obtain ⟨zt0, zt1, zt2, zt3⟩ := bxS_cells It2.out
    obtain ⟨zu0, zu1, zu2, zu3⟩ := bxS_cells Iu2.out
    go_wp2_with fail
    refine C.out.mono ?_
    rintro e w3 ⟨My, rfl, ow, b⟩
    clear zt0 zt1 zt2 zt3 zu0 zu1 zu2 zu3
    obtain ⟨Ly, hLy⟩ : ∃ L, w3.heap.size = L := ⟨_, rfl⟩
    obtain ⟨W3, hW3⟩ : ∃ W, w3.alloc (.cells #[.int .i64 D2.frm, .int .i64 D2.til, .slice My.aj D2.jobs.length My.cj, .slice My.an D2.nodes.length My.cn, .slice My.al D2.leases.length My.cl, .slice My.gj D2.gj.length My.hj, .slice My.gn D2.gn.length My.hn, .slice My.gl D2.gl.length My.hl] 29) = W := ⟨_, rfl⟩
    have bA := below_one w3 (.cells #[.int .i64 D2.frm, .int .i64 D2.til, .slice My.aj D2.jobs.length My.cj, .slice My.an D2.nodes.length My.cn, .slice My.al D2.leases.length My.cl, .slice My.gj D2.gj.length My.hj, .slice My.gn D2.gn.length My.hn, .slice My.gl D2.gl.length My.hl] 29)
    have iN := bxD_new (ownD_at ow)
    rw [hW3] at bA iN
    rw [hLy] at iN
    have Is3 := Lib.hid (bxS_next (bxS_next Is2.out b) bA)
    have It3 := Lib.hid (bxS_next (bxS_next It2.out b) bA)
    have Iu3 := Lib.hid (bxS_next (bxS_next Iu2.out b) bA)
    have Ix3 := Lib.hid (bxD_next (bxD_next Ix2.out b) bA)
    have Iy3 := Lib.hid iN
    have B3 := Lib.hid (below_trans (below_trans B2.out b B2.out.size) bA (Nat.le_trans B2.out.size b.size))
    clear bA iN ow b C
    have C := Lib.hid (ddiff_at (cj := cjs) (cn := cns) (cl := cls) (dj := cju) (dn := cnu) (dl := clu) HWs.out HWu.out E3.out (HT.out.below B3.out) Is3.out.2 Iu3.out.2)
    obtain ⟨zs0, zs1, zs2, zs3⟩ := bxS_cells Is3.out
    obtain ⟨zu0, zu1, zu2, zu3⟩ := bxS_cells Iu3.out
    go_wp2_with fail
    refine C.out.mono ?_
    rintro e w4 ⟨Mz, rfl, ow, b⟩
    clear zs0 zs1 zs2 zs3 zu0 zu1 zu2 zu3
    obtain ⟨Lz, hLz⟩ : ∃ L, w4.heap.size = L := ⟨_, rfl⟩
    obtain ⟨W4, hW4⟩ : ∃ W, w4.alloc (.cells #[.int .i64 D3.frm, .int .i64 D3.til, .slice Mz.aj D3.jobs.length Mz.cj, .slice Mz.an D3.nodes.length Mz.cn, .slice Mz.al D3.leases.length Mz.cl, .slice Mz.gj D3.gj.length Mz.hj, .slice Mz.gn D3.gn.length Mz.hn, .slice Mz.gl D3.gl.length Mz.hl] 29) = W := ⟨_, rfl⟩
    have bA := below_one w4 (.cells #[.int .i64 D3.frm, .int .i64 D3.til, .slice Mz.aj D3.jobs.length Mz.cj, .slice Mz.an D3.nodes.length Mz.cn, .slice Mz.al D3.leases.length Mz.cl, .slice Mz.gj D3.gj.length Mz.hj, .slice Mz.gn D3.gn.length Mz.hn, .slice Mz.gl D3.gl.length Mz.hl] 29)
    have iN := bxD_new (ownD_at ow)
    rw [hW4] at bA iN
    rw [hLz] at iN
    have Is4 := Lib.hid (bxS_next (bxS_next Is3.out b) bA)
    have It4 := Lib.hid (bxS_next (bxS_next It3.out b) bA)
    have Iu4 := Lib.hid (bxS_next (bxS_next Iu3.out b) bA)
    have Ix4 := Lib.hid (bxD_next (bxD_next Ix3.out b) bA)
    have Iy4 := Lib.hid (bxD_next (bxD_next Iy3.out b) bA)
    have Iz4 := Lib.hid iN
    have B4 := Lib.hid (below_trans (below_trans B3.out b B3.out.size) bA (Nat.le_trans B3.out.size b.size))
    clear bA iN ow b C
    have C := Lib.hid (dapply_at (cj := cjs) (cn := cns) (cl := cls) HWs.out HD1.out A1.out (HT.out.below B4.out) Is4.out.2 Ix4.out.2)
    obtain ⟨zs0, zs1, zs2, zs3⟩ := bxS_cells Is4.out
    obtain ⟨zx0, zx1, zx2, zx3, zx4, zx5, zx6, zx7⟩ := bxD_cells Ix4.out
    go_wp2_with fail
    refine C.out.mono ?_
    rintro e w5 ⟨pj, pn, pl, pp, pq, pr, rfl, ow, b⟩
    clear zs0 zs1 zs2 zs3 zx0 zx1 zx2 zx3 zx4 zx5 zx6 zx7
    obtain ⟨Lp, hLp⟩ : ∃ L, w5.heap.size = L := ⟨_, rfl⟩
    obtain ⟨W5, hW5⟩ : ∃ W, w5.alloc (.cells #[.int .i64 t.rev, .slice pj t.jobs.length pp, .slice pn t.nodes.length pq, .slice pl t.leases.length pr] 26) = W := ⟨_, rfl⟩
    have bA := below_one w5 (.cells #[.int .i64 t.rev, .slice pj t.jobs.length pp, .slice pn t.nodes.length pq, .slice pl t.leases.length pr] 26)
    have iN := bxS_new (cj := pp) (cn := pq) (cl := pr) (ownS_at ow)
    rw [hW5] at bA iN
    rw [hLp] at iN
    have Is5 := Lib.hid (bxS_next (bxS_next Is4.out b) bA)
    have It5 := Lib.hid (bxS_next (bxS_next It4.out b) bA)
    have Iu5 := Lib.hid (bxS_next (bxS_next Iu4.out b) bA)
    have Ix5 := Lib.hid (bxD_next (bxD_next Ix4.out b) bA)
    have Iy5 := Lib.hid (bxD_next (bxD_next Iy4.out b) bA)
    have Iz5 := Lib.hid (bxD_next (bxD_next Iz4.out b) bA)
    have Ip5 := Lib.hid iN
    have B5 := Lib.hid (below_trans (below_trans B4.out b B4.out.size) bA (Nat.le_trans B4.out.size b.size))
    clear bA iN ow b C
    have C := Lib.hid (dapply_at (cj := pp) (cn := pq) (cl := pr) HWt.out HD2.out A2.out (HT.out.below B5.out) Ip5.out.2 Iy5.out.2)
    obtain ⟨zp0, zp1, zp2, zp3⟩ := bxS_cells Ip5.out
    obtain ⟨zy0, zy1, zy2, zy3, zy4, zy5, zy6, zy7⟩ := bxD_cells Iy5.out
    go_wp2_with fail
    refine C.out.mono ?_
    rintro e w6 ⟨qj, qn, ql, qp, qq, qr, rfl, ow, b⟩
    clear zp0 zp1 zp2 zp3 zy0 zy1 zy2 zy3 zy4 zy5 zy6 zy7
    obtain ⟨Lq, hLq⟩ : ∃ L, w6.heap.size = L := ⟨_, rfl⟩
    obtain ⟨W6, hW6⟩ : ∃ W, w6.alloc (.cells #[.int .i64 u.rev, .slice qj u.jobs.length qp, .slice qn u.nodes.length qq, .slice ql u.leases.length qr] 26) = W := ⟨_, rfl⟩
    have bA := below_one w6 (.cells #[.int .i64 u.rev, .slice qj u.jobs.length qp, .slice qn u.nodes.length qq, .slice ql u.leases.length qr] 26)
    have iN := bxS_new (cj := qp) (cn := qq) (cl := qr) (ownS_at ow)
    rw [hW6] at bA iN
    rw [hLq] at iN
    have Is6 := Lib.hid (bxS_next (bxS_next Is5.out b) bA)
    have It6 := Lib.hid (bxS_next (bxS_next It5.out b) bA)
    have Iu6 := Lib.hid (bxS_next (bxS_next Iu5.out b) bA)
    have Ix6 := Lib.hid (bxD_next (bxD_next Ix5.out b) bA)
    have Iy6 := Lib.hid (bxD_next (bxD_next Iy5.out b) bA)
    have Iz6 := Lib.hid (bxD_next (bxD_next Iz5.out b) bA)
    have Ip6 := Lib.hid (bxS_next (bxS_next Ip5.out b) bA)
    have Iq6 := Lib.hid iN
    have B6 := Lib.hid (below_trans (below_trans B5.out b B5.out.size) bA (Nat.le_trans B5.out.size b.size))
    clear bA iN ow b C
    have C := Lib.hid (dapply_at (cj := cjs) (cn := cns) (cl := cls) HWs.out HD3.out A3.out (HT.out.below B6.out) Is6.out.2 Iz6.out.2)
    obtain ⟨zs0, zs1, zs2, zs3⟩ := bxS_cells Is6.out
    obtain ⟨zz0, zz1, zz2, zz3, zz4, zz5, zz6, zz7⟩ := bxD_cells Iz6.out
    go_wp2_with fail
    refine C.out.mono ?_
    rintro e w7 ⟨rj, rn, rl, rp, rq, rr, rfl, ow, b⟩
    clear zs0 zs1 zs2 zs3 zz0 zz1 zz2 zz3 zz4 zz5 zz6 zz7
    obtain ⟨Lr, hLr⟩ : ∃ L, w7.heap.size = L := ⟨_, rfl⟩
    obtain ⟨W7, hW7⟩ : ∃ W, w7.alloc (.cells #[.int .i64 u.rev, .slice rj u.jobs.length rp, .slice rn u.nodes.length rq, .slice rl u.leases.length rr] 26) = W := ⟨_, rfl⟩
    have bA := below_one w7 (.cells #[.int .i64 u.rev, .slice rj u.jobs.length rp, .slice rn u.nodes.length rq, .slice rl u.leases.length rr] 26)
    have iN := bxS_new (cj := rp) (cn := rq) (cl := rr) (ownS_at ow)
    rw [hW7] at bA iN
    rw [hLr] at iN
    have Is7 := Lib.hid (bxS_next (bxS_next Is6.out b) bA)
    have It7 := Lib.hid (bxS_next (bxS_next It6.out b) bA)
    have Iu7 := Lib.hid (bxS_next (bxS_next Iu6.out b) bA)
    have Ix7 := Lib.hid (bxD_next (bxD_next Ix6.out b) bA)
    have Iy7 := Lib.hid (bxD_next (bxD_next Iy6.out b) bA)
    have Iz7 := Lib.hid (bxD_next (bxD_next Iz6.out b) bA)
    have Ip7 := Lib.hid (bxS_next (bxS_next Ip6.out b) bA)
    have Iq7 := Lib.hid (bxS_next (bxS_next Iq6.out b) bA)
    have Ir7 := Lib.hid iN
    have B7 := Lib.hid (below_trans (below_trans B6.out b B6.out.size) bA (Nat.le_trans B6.out.size b.size))
    clear bA iN ow b C
    have C := Lib.hid (same_is u u qj qn ql rj rn rl qp qq qr rp rq rr HLT.out W7 Iq7.out.2.1 Iq7.out.2.2.1 Iq7.out.2.2.2 Ir7.out.2.1 Ir7.out.2.2.1 Ir7.out.2.2.2)
    obtain ⟨zq0, zq1, zq2, zq3⟩ := bxS_cells Iq7.out
    obtain ⟨zr0, zr1, zr2, zr3⟩ := bxS_cells Ir7.out
    go_wp2_with fail
    refine C.out.mono ?_
    rintro e W8 ⟨c0, rfl, hc, b⟩
    clear zq0 zq1 zq2 zq3 zr0 zr1 zr2 zr3
    obtain rfl : c0 = true := hc.2 (by first | rfl | trivial)
    clear hc
    have Is8 := Lib.hid (bxS_next Is7.out b)
    have It8 := Lib.hid (bxS_next It7.out b)
    have Iu8 := Lib.hid (bxS_next Iu7.out b)
    have Ix8 := Lib.hid (bxD_next Ix7.out b)
    have Iy8 := Lib.hid (bxD_next Iy7.out b)
    have Iz8 := Lib.hid (bxD_next Iz7.out b)
    have Ip8 := Lib.hid (bxS_next Ip7.out b)
    have Iq8 := Lib.hid (bxS_next Iq7.out b)
    have Ir8 := Lib.hid (bxS_next Ir7.out b)
    have B8 := Lib.hid (below_trans B7.out b B7.out.size)
    clear b C
    have C := Lib.hid (same_is u u rj rn rl aju anu alu rp rq rr cju cnu clu HLT.out W8 Ir8.out.2.1 Ir8.out.2.2.1 Ir8.out.2.2.2 Iu8.out.2.1 Iu8.out.2.2.1 Iu8.out.2.2.2)
    obtain ⟨zr0, zr1, zr2, zr3⟩ := bxS_cells Ir8.out
    obtain ⟨zu0, zu1, zu2, zu3⟩ := bxS_cells Iu8.out
    go_wp2_with fail
    refine C.out.mono ?_
    rintro e W9 ⟨c0, rfl, hc, b⟩
    clear zr0 zr1 zr2 zr3 zu0 zu1 zu2 zu3
    obtain rfl : c0 = true := hc.2 (by first | rfl | trivial)
    clear hc
    have Is9 := Lib.hid (bxS_next Is8.out b)
    have It9 := Lib.hid (bxS_next It8.out b)
    have Iu9 := Lib.hid (bxS_next Iu8.out b)
    have Ix9 := Lib.hid (bxD_next Ix8.out b)
    have Iy9 := Lib.hid (bxD_next Iy8.out b)
    have Iz9 := Lib.hid (bxD_next Iz8.out b)
    have Ip9 := Lib.hid (bxS_next Ip8.out b)
    have Iq9 := Lib.hid (bxS_next Iq8.out b)
    have Ir9 := Lib.hid (bxS_next Ir8.out b)
    have B9 := Lib.hid (below_trans B8.out b B8.out.size)
    clear b C
    go_wp2
    go_ret
    exact ⟨rfl, B9.out⟩

theorem own : ownKnob Tryz.prog.godebug = none := by kernel_rfl
theorem laidOut : laidOutB Tryz.prog = true := by kernel_rfl
theorem laid_met (os : Os) : laidMet Tryz.prog Rows.deltaThroughRow.laid ((laidWorld os).forCall (fun _ _ => 0) ⟨#[], #[.agg #[.int .i64 0, .slice none 0 0, .slice none 0 0, .slice none 0 0], .agg #[.int .i64 0, .slice none 0 0, .slice none 0 0, .slice none 0 0], .agg #[.int .i64 0, .slice none 0 0, .slice none 0 0, .slice none 0 0]], []⟩).memory :=
  laidMet_of_run' 8 (by kernel_rfl) (by kernel_rfl)
theorem reads (os : Os) {H : Type} (enc : TypeId × Value → H) : ∃ places, DataW.whole enc Tryz.prog ((laidWorld os).forCall (fun _ _ => 0) ⟨#[], #[.agg #[.int .i64 0, .slice none 0 0, .slice none 0 0, .slice none 0 0], .agg #[.int .i64 0, .slice none 0 0, .slice none 0 0, .slice none 0 0], .agg #[.int .i64 0, .slice none 0 0, .slice none 0 0, .slice none 0 0]], []⟩).memory Tryz.f9.params.toList Rows.deltaThroughSpec.vars false #[Value.agg #[.int .i64 0, .slice none 0 0, .slice none 0 0, .slice none 0 0], Value.agg #[.int .i64 0, .slice none 0 0, .slice none 0 0, .slice none 0 0], Value.agg #[.int .i64 0, .slice none 0 0, .slice none 0 0, .slice none 0 0]].toList 8 = some ([.agg [.lit (.int .i64 0), .nil, .nil, .nil], .agg [.lit (.int .i64 0), .nil, .nil, .nil], .agg [.lit (.int .i64 0), .nil, .nil, .nil]], [], places) :=
  ⟨[], by kernel_rfl⟩
set_option maxRecDepth 100000 in
set_option maxHeartbeats 2000000 in
theorem lifted (os : Os) (started : os.Started) (H : Type) (enc : TypeId × Value → H) (F : Stop.Interp) :
    ReturnsInHanded {} Tryz.checked os 9 .any ((OpenSpec.ofChange Rows.deltaThroughSpec).preRow enc Tryz.prog Tryz.f9 Rows.deltaThroughRow.domain false Rows.deltaThroughRow.laid) (((OpenSpec.ofChange Rows.deltaThroughSpec).at F).post enc Tryz.prog Tryz.f9 false true false false) := by
  obtain ⟨places, hx⟩ := reads os enc
  refine returnsInHanded_of_row (C := Tryz.checked) (s := (OpenSpec.ofChange Rows.deltaThroughSpec)) own started (by kernel_rfl) Tryz.func9
    (witness_row_atRef (enc := enc) (C := Tryz.checked) false (laidWorld os) #[.agg #[.int .i64 0, .slice none 0 0, .slice none 0 0, .slice none 0 0], .agg #[.int .i64 0, .slice none 0 0, .slice none 0 0, .slice none 0 0], .agg #[.int .i64 0, .slice none 0 0, .slice none 0 0, .slice none 0 0]] rfl (by kernel_rfl) (by kernel_rfl) (by kernel_rfl)
      (OpenSpec.preRow_of_cond 8 hx (by kernel_rfl) (fun k hk => by cases hk) (by kernel_rfl) (laid_met os))) ?_
  intro W base args ds gs before hval0 hW _ _ hsz0 hL _ _
  have hval : ∀ (j : Nat) t v, Tryz.f9.params[j]? = some t → args[j]? = some v → Value.okWide Tryz.prog W .any base t v := hval0
  have hW' := hW
  obtain ⟨p, q, hA0, hV, rfl, hfz, hnd⟩ := hW
  have hA : DataW.TrodAll enc Tryz.prog W 0 (fun _ => true) true Tryz.f9.params.toList args.toList ds p := hA0
  have hsz : (DataW.weightsEach Tryz.prog (Tryz.f9.params.toList ++ Rows.deltaThroughSpec.plain.varTypes Tryz.prog) (ds ++ gs)).all (· ≤ reachBytes) = true := hsz0
  rw [Tryz.params9] at hA hval hsz
  obtain ⟨v0, vs0, d0, ds0, p0, q0, hargs, rfl, rfl, h0, r0⟩ := trodAll_cons hA
  obtain ⟨v1, vs1, d1, ds1, p1, q1, rfl, rfl, rfl, h1, r1⟩ := trodAll_cons r0
  obtain ⟨v2, vs2, d2, ds2, p2, q2, rfl, rfl, rfl, h2, r2⟩ := trodAll_cons r1
  obtain ⟨rfl, rfl, rfl⟩ := trodAll_nil r2
  obtain rfl : args = #[v0, v1, v2] := by cases args; simp_all
  obtain ⟨rfl, rfl⟩ := trodVars_none hV
  obtain ⟨M0, st0, rfl, m0, x0, w0⟩ := open_state (hval 0 26 v0 rfl rfl) h0
  obtain ⟨M1, st1, rfl, m1, x1, w1⟩ := open_state (hval 1 26 v1 rfl rfl) h1
  obtain ⟨M2, st2, rfl, m2, x2, w2⟩ := open_state (hval 2 26 v2 rfl rfl) h2
  have s0 := sized_state hsz rfl (j := 0) rfl x0
  have s1 := sized_state hsz rfl (j := 1) rfl x1
  have s2 := sized_state hsz rfl (j := 2) rfl x2
  clear hA0 hval0
  refine (walk M0 st0 M1 st1 M2 st2 w0 w1 w2 s0 s1 s2 W m0 m1 m2 (tabs_of hL)).mono fun e W' ⟨he, bel⟩ => ?_
  subst he
  exact ⟨_, rfl, _, _, _, [], _, [], hW', trodAll_mk1 (shut_bool Tryz.underlying4 _), (trodAll_cons_mk (Below.trod laidOut (by kernel_rfl) (of_decide_eq_true (by kernel_rfl)) h0 bel (fun x hx => by simpa using hW'.lt x (by simp [hx]))) (trodAll_cons_mk (Below.trod laidOut (by kernel_rfl) (of_decide_eq_true (by kernel_rfl)) h1 bel (fun x hx => by simpa using hW'.lt x (by simp [hx]))) (trodAll_cons_mk (Below.trod laidOut (by kernel_rfl) (of_decide_eq_true (by kernel_rfl)) h2 bel (fun x hx => by simpa using hW'.lt x (by simp [hx]))) trodAll_mk0))), rfl, bel.frame _, fun h => by cases h⟩
theorem said : Rows.DeltaThroughSaid :=
  OpenClaim.holds_of_cond 9 Tryz.f9 rfl rfl rfl rfl rfl rfl rfl ⟨rfl, rfl, rfl, rfl, rfl⟩ rfl rfl rfl rfl rfl (by kernel_rfl) Tryz.func9 (by kernel_rfl)
    (of_decide_eq_true (by kernel_rfl)) (by unfold Func.isWrapper; first | (rw [if_pos (by decide +kernel)]; kernel_rfl) | (rw [if_neg (by decide +kernel)]; exact ⟨rfl, rfl⟩))
    (fun os started H enc _ F => by rw [OpenClaim.pre_eq_preRow]; exact lifted os started H enc F)
theorem plain (f : FuncId) (fn : Func) (hf : Tryz.pinned.checked.prog.funcNamed Rows.deltaThroughRow.func = some f) (hfn : Tryz.pinned.checked.prog.funcs[f]? = some fn) :
    false = Tryz.pinned.checked.prog.looks [] ∧ ∀ (j : Nat) t, fn.params[j]? = some t → Tryz.pinned.checked.prog.wantsStandIn t = false := by
  obtain rfl : f = 9 := Option.some.inj ((show Tryz.prog.funcNamed Rows.deltaThroughRow.func = some 9 by kernel_rfl).symm.trans hf) |>.symm
  obtain rfl : fn = Tryz.f9 := (Option.some.inj (Tryz.func9.symm.trans hfn)).symm
  refine ⟨by kernel_rfl, fun j t ht => ?_⟩
  rw [Tryz.params9] at ht
  obtain rfl : t = 26 := by simpa using Array.mem_of_getElem? ht
  exact (show Tryz.prog.wantsStandIn 26 = false by kernel_rfl)
theorem proved : Rows.DeltaThroughCardSaid :=
  Claim7.holds_tied_plain_at .later [] _ _ _ _ said (fun _ h => by cases h) (by kernel_rfl) (fun _ h => by cases h) deltaThrough_row_tie rfl ⟨rfl, rfl⟩ (by kernel_rfl) rfl plain (by kernel_rfl)
#print axioms proved
end Go.Proofs.YtfbakobmlbjncaaGreatDoor.deltaThrough
