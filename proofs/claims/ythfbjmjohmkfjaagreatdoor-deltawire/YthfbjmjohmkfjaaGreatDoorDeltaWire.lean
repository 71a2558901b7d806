/- For every delta and every string the law DeltaWire of the package brackenkeep returns true, as a tied card: a delta is decoded as it was encoded, and what is decoded is encoded so. Condition: the library's two tables unicode/utf8.first and acceptRanges start as their text lays them (the card ties them; first is pinned). -/
import Derived.Test.YthfbjmjohmkfjaaGreatDoorDlUse3
import Derived.Test.YthfbjmjohmkfjaaGreatDoorDlUse
import Derived.Test.YthfbjmjohmkfjaaGreatDoorPkWi5
namespace Go.Proofs.YthfbjmjohmkfjaaGreatDoor.deltaWire
open Go.ChangeShapes Go.WideShapes Go.ChangeAt Go.RowKit
open Go.ChangeMaps (open_string shut_string)
set_option linter.unusedVariables false

set_option maxRecDepth 100000 in
set_option maxHeartbeats 8000000 in
theorem walk (Md : DlM) (d : DelD) (sb : ByteArray) (hwd : wDelta d) (hwsb : sb.size ≤ maxLen) (hzsb : sb.data.toList.length ≤ reachBytes) (w : World) (hmd : DeltaAt w Md d) (hT : Tabs w) :
    Calls Tryz.prog 5 #[.agg (dlC Md d), .string sb] w fun e w' => e = .returned (.bool true) ∧ Below w.heap.size w w' := by
  show Calls _ _ #[.agg #[.int .i64 d.frm, .int .i64 d.til, .slice Md.aj d.jobs.length Md.cj, .slice Md.an d.nodes.length Md.cn, .slice Md.al d.leases.length Md.cl, .slice Md.gj d.gj.length Md.hj, .slice Md.gn d.gn.length Md.hn, .slice Md.gl d.gl.length Md.hl], .string sb] _ _
  have B0 : Below w.heap.size w w := Below.refl _ _
  have bA := below_one w (.cells #[.int .i64 d.frm, .int .i64 d.til, .slice Md.aj d.jobs.length Md.cj, .slice Md.an d.nodes.length Md.cn, .slice Md.al d.leases.length Md.cl, .slice Md.gj d.gj.length Md.hj, .slice Md.gn d.gn.length Md.hn, .slice Md.gl d.gl.length Md.hl] 29)
  have iN := bxD_new (deltaAt_next hmd B0)
  have Id0 := iN
  have B0 := below_trans B0 bA B0.size
  clear bA iN
  obtain ⟨W0, hW0⟩ : ∃ W0, (w.alloc (.cells #[.int .i64 d.frm, .int .i64 d.til, .slice Md.aj d.jobs.length Md.cj, .slice Md.an d.nodes.length Md.cn, .slice Md.al d.leases.length Md.cl, .slice Md.gj d.gj.length Md.hj, .slice Md.gn d.gn.length Md.hn, .slice Md.gl d.gl.length Md.hl] 29)) = W0 := ⟨_, rfl⟩
  rw [hW0] at B0 Id0
  have HT := Lib.hid hT
  have HWd := Lib.hid hwd
  have B0 := Lib.hid B0
  have Id0 := Lib.hid Id0
  have hssb := str_reach hzsb
  clear hzsb
  clear hT hmd hwd
  have hsb2 : sb.size ≤ 1152921504606846976 := by omega
  have HSB := Lib.hid hsb2
  clear hsb2
  rcases denc_cases d with ⟨c, hc, e1⟩ | ⟨e1, h1, h6⟩
  · have hc' : ((c : Int) == 0) = false := by simp; omega
    have E1 := Lib.hid e1
    clear hc e1
    rcases ddec_cases sb.data.toList with ⟨f, hf, e2⟩ | ⟨D, e2, e3, h3⟩
    · have hf' : ((f : Int) != 0) = true := by simp; omega
      have E3 := Lib.hid denc_zero
      have HLZ := Lib.hid lenD_zero
      have HWZ := Lib.hid wDelta_zero
      obtain ⟨Z, hZ⟩ : ∃ Z, zeroDel = Z := ⟨_, rfl⟩
      rw [hZ] at e2 E3 HLZ HWZ
      have HZ := Lib.hid hZ.symm
      have E2 := Lib.hid e2
      clear hf hZ e2
      have C := Lib.hid (differed_is W0 (HT.out.below B0.out))
      go_enter Tryz.func5, Tryz.ntmps5
      go_wp2_with fail
      refine C.out.mono ?_
      rintro e W1 ⟨rfl, b⟩
      have Id1 := Lib.hid (bxD_next Id0.out b)
      have B1 := Lib.hid (below_trans B0.out b B0.out.size)
      clear b C
      have C := Lib.hid (dencode_at HWd.out E1.out rfl (HT.out.below B1.out) Id1.out.2)
      obtain ⟨zd0, zd1, zd2, zd3, zd4, zd5, zd6, zd7⟩ := bxD_cells Id1.out
      go_wp2_with fail
      refine C.out.mono ?_
      rintro e W2 ⟨rfl, b⟩
      clear zd0 zd1 zd2 zd3 zd4 zd5 zd6 zd7
      have Id2 := Lib.hid (bxD_next Id1.out b)
      have B2 := Lib.hid (below_trans B1.out b B1.out.size)
      clear b C
      have C := Lib.hid (ddecode_at HSB.out E2.out (HT.out.below B2.out))
      go_wp2_with fail
      refine C.out.mono ?_
      rintro e w3 ⟨My, rfl, ow, b⟩
      obtain ⟨Ly, hLy⟩ : ∃ L, w3.heap.size = L := ⟨_, rfl⟩
      obtain ⟨W3, hW3⟩ : ∃ W, w3.alloc (.cells #[.int .i64 Z.frm, .int .i64 Z.til, .slice My.aj Z.jobs.length My.cj, .slice My.an Z.nodes.length My.cn, .slice My.al Z.leases.length My.cl, .slice My.gj Z.gj.length My.hj, .slice My.gn Z.gn.length My.hn, .slice My.gl Z.gl.length My.hl] 29) = W := ⟨_, rfl⟩
      have bA := below_one w3 (.cells #[.int .i64 Z.frm, .int .i64 Z.til, .slice My.aj Z.jobs.length My.cj, .slice My.an Z.nodes.length My.cn, .slice My.al Z.leases.length My.cl, .slice My.gj Z.gj.length My.hj, .slice My.gn Z.gn.length My.hn, .slice My.gl Z.gl.length My.hl] 29)
      have iN := bxD_new (ownD_at ow)
      rw [hW3] at bA iN
      rw [hLy] at iN
      have Id3 := Lib.hid (bxD_next (bxD_next Id2.out b) bA)
      have Iy3 := Lib.hid iN
      have B3 := Lib.hid (below_trans (below_trans B2.out b B2.out.size) bA (Nat.le_trans B2.out.size b.size))
      clear bA iN ow b C
      have C := Lib.hid (dencode_at HWZ.out E3.out rfl (HT.out.below B3.out) Iy3.out.2)
      obtain ⟨zy0, zy1, zy2, zy3, zy4, zy5, zy6, zy7⟩ := bxD_cells Iy3.out
      go_wp2_with fail
      refine C.out.mono ?_
      rintro e W4 ⟨rfl, b⟩
      clear zy0 zy1 zy2 zy3 zy4 zy5 zy6 zy7
      have Id4 := Lib.hid (bxD_next Id3.out b)
      have Iy4 := Lib.hid (bxD_next Iy3.out b)
      have B4 := Lib.hid (below_trans B3.out b B3.out.size)
      clear b C
      have C := Lib.hid (deltaEq_zero HLZ.out Iy4.out.2)
      obtain ⟨zy0, zy1, zy2, zy3, zy4, zy5, zy6, zy7⟩ := bxD_cells Iy4.out
      go_wp2_with fail
      refine C.out.mono ?_
      rintro e W5 ⟨c0, rfl, hc, b⟩
      clear zy0 zy1 zy2 zy3 zy4 zy5 zy6 zy7
      obtain rfl : c0 = true := hc.2 HZ.out
      clear hc
      have Id5 := Lib.hid (bxD_next Id4.out b)
      have Iy5 := Lib.hid (bxD_next Iy4.out b)
      have B5 := Lib.hid (below_trans B4.out b B4.out.size)
      clear b C
      go_wp2
      go_ret
      exact ⟨rfl, B5.out⟩
    · have E2 := Lib.hid e2
      have E3 := Lib.hid e3
      have HWD := Lib.hid (wDelta_valid h3)
      clear e2 e3 h3
      have C := Lib.hid (differed_is W0 (HT.out.below B0.out))
      go_enter Tryz.func5, Tryz.ntmps5
      go_wp2_with fail
      refine C.out.mono ?_
      rintro e W1 ⟨rfl, b⟩
      have Id1 := Lib.hid (bxD_next Id0.out b)
      have B1 := Lib.hid (below_trans B0.out b B0.out.size)
      clear b C
      have C := Lib.hid (dencode_at HWd.out E1.out rfl (HT.out.below B1.out) Id1.out.2)
      obtain ⟨zd0, zd1, zd2, zd3, zd4, zd5, zd6, zd7⟩ := bxD_cells Id1.out
      go_wp2_with fail
      refine C.out.mono ?_
      rintro e W2 ⟨rfl, b⟩
      clear zd0 zd1 zd2 zd3 zd4 zd5 zd6 zd7
      have Id2 := Lib.hid (bxD_next Id1.out b)
      have B2 := Lib.hid (below_trans B1.out b B1.out.size)
      clear b C
      have C := Lib.hid (ddecode_at HSB.out E2.out (HT.out.below B2.out))
      go_wp2_with fail
      refine C.out.mono ?_
      rintro e w3 ⟨My, rfl, ow, b⟩
      obtain ⟨Ly, hLy⟩ : ∃ L, w3.heap.size = L := ⟨_, rfl⟩
      obtain ⟨W3, hW3⟩ : ∃ W, w3.alloc (.cells #[.int .i64 D.frm, .int .i64 D.til, .slice My.aj D.jobs.length My.cj, .slice My.an D.nodes.length My.cn, .slice My.al D.leases.length My.cl, .slice My.gj D.gj.length My.hj, .slice My.gn D.gn.length My.hn, .slice My.gl D.gl.length My.hl] 29) = W := ⟨_, rfl⟩
      have bA := below_one w3 (.cells #[.int .i64 D.frm, .int .i64 D.til, .slice My.aj D.jobs.length My.cj, .slice My.an D.nodes.length My.cn, .slice My.al D.leases.length My.cl, .slice My.gj D.gj.length My.hj, .slice My.gn D.gn.length My.hn, .slice My.gl D.gl.length My.hl] 29)
      have iN := bxD_new (ownD_at ow)
      rw [hW3] at bA iN
      rw [hLy] at iN
      have Id3 := Lib.hid (bxD_next (bxD_next Id2.out b) bA)
      have Iy3 := Lib.hid iN
      have B3 := Lib.hid (below_trans (below_trans B2.out b B2.out.size) bA (Nat.le_trans B2.out.size b.size))
      clear bA iN ow b C
      have C := Lib.hid (dencode_at HWD.out E3.out (str_self sb) (HT.out.below B3.out) Iy3.out.2)
      obtain ⟨zy0, zy1, zy2, zy3, zy4, zy5, zy6, zy7⟩ := bxD_cells Iy3.out
      go_wp2_with fail
      refine C.out.mono ?_
      rintro e W4 ⟨rfl, b⟩
      clear zy0 zy1 zy2 zy3 zy4 zy5 zy6 zy7
      have Id4 := Lib.hid (bxD_next Id3.out b)
      have Iy4 := Lib.hid (bxD_next Iy3.out b)
      have B4 := Lib.hid (below_trans B3.out b B3.out.size)
      clear b C
      go_wp2
      go_ret
      exact ⟨rfl, B4.out⟩
  · have E4 : Hid (ddecR V8 (⟨(delB d).toArray⟩ : ByteArray).data.toList = (d, 0)) := del_back h1 h6
    have hsz : (⟨(delB d).toArray⟩ : ByteArray).size ≤ 1152921504606846976 := by simp [ByteArray.size]; omega
    have HLD := Lib.hid (lenD_valid h1)
    obtain ⟨S, hS⟩ : ∃ S : ByteArray, (⟨(delB d).toArray⟩ : ByteArray) = S := ⟨_, rfl⟩
    rw [hS] at E4 hsz
    have HSZ := Lib.hid hsz
    have HS := Lib.hid hS
    have E1 := Lib.hid e1
    clear e1 h1 h6 hS hsz
    rcases ddec_cases sb.data.toList with ⟨f, hf, e2⟩ | ⟨D, e2, e3, h3⟩
    · have hf' : ((f : Int) != 0) = true := by simp; omega
      have E3 := Lib.hid denc_zero
      have HLZ := Lib.hid lenD_zero
      have HWZ := Lib.hid wDelta_zero
      obtain ⟨Z, hZ⟩ : ∃ Z, zeroDel = Z := ⟨_, rfl⟩
      rw [hZ] at e2 E3 HLZ HWZ
      have HZ := Lib.hid hZ.symm
      have E2 := Lib.hid e2
      clear hf hZ e2
      have C := Lib.hid (differed_is W0 (HT.out.below B0.out))
      go_enter Tryz.func5, Tryz.ntmps5
      go_wp2_with fail
      refine C.out.mono ?_
      rintro e W1 ⟨rfl, b⟩
      have Id1 := Lib.hid (bxD_next Id0.out b)
      have B1 := Lib.hid (below_trans B0.out b B0.out.size)
      clear b C
      have C := Lib.hid (dencode_at HWd.out E1.out HS.out (HT.out.below B1.out) Id1.out.2)
      obtain ⟨zd0, zd1, zd2, zd3, zd4, zd5, zd6, zd7⟩ := bxD_cells Id1.out
      go_wp2_with fail
      refine C.out.mono ?_
      rintro e W2 ⟨rfl, b⟩
      clear zd0 zd1 zd2 zd3 zd4 zd5 zd6 zd7
      have Id2 := Lib.hid (bxD_next Id1.out b)
      have B2 := Lib.hid (below_trans B1.out b B1.out.size)
      clear b C
      have C := Lib.hid (ddecode_at HSZ.out E4.out (HT.out.below B2.out))
      go_wp2_with fail
      refine C.out.mono ?_
      rintro e w3 ⟨Mx, rfl, ow, b⟩
      obtain ⟨Lx, hLx⟩ : ∃ L, w3.heap.size = L := ⟨_, rfl⟩
      obtain ⟨W3, hW3⟩ : ∃ W, w3.alloc (.cells #[.int .i64 d.frm, .int .i64 d.til, .slice Mx.aj d.jobs.length Mx.cj, .slice Mx.an d.nodes.length Mx.cn, .slice Mx.al d.leases.length Mx.cl, .slice Mx.gj d.gj.length Mx.hj, .slice Mx.gn d.gn.length Mx.hn, .slice Mx.gl d.gl.length Mx.hl] 29) = W := ⟨_, rfl⟩
      have bA := below_one w3 (.cells #[.int .i64 d.frm, .int .i64 d.til, .slice Mx.aj d.jobs.length Mx.cj, .slice Mx.an d.nodes.length Mx.cn, .slice Mx.al d.leases.length Mx.cl, .slice Mx.gj d.gj.length Mx.hj, .slice Mx.gn d.gn.length Mx.hn, .slice Mx.gl d.gl.length Mx.hl] 29)
      have iN := bxD_new (ownD_at ow)
      rw [hW3] at bA iN
      rw [hLx] at iN
      have Id3 := Lib.hid (bxD_next (bxD_next Id2.out b) bA)
      have Ix3 := Lib.hid iN
      have B3 := Lib.hid (below_trans (below_trans B2.out b B2.out.size) bA (Nat.le_trans B2.out.size b.size))
      clear bA iN ow b C
      have C := Lib.hid (deltaEq_at HLD.out Ix3.out.2 Id3.out.2)
      obtain ⟨zx0, zx1, zx2, zx3, zx4, zx5, zx6, zx7⟩ := bxD_cells Ix3.out
      obtain ⟨zd0, zd1, zd2, zd3, zd4, zd5, zd6, zd7⟩ := bxD_cells Id3.out
      go_wp2_with fail
      refine C.out.mono ?_
      rintro e W4 ⟨c0, rfl, hc, b⟩
      clear zx0 zx1 zx2 zx3 zx4 zx5 zx6 zx7 zd0 zd1 zd2 zd3 zd4 zd5 zd6 zd7
      obtain rfl : c0 = true := hc.2 (by first | rfl | trivial)
      clear hc
      have Id4 := Lib.hid (bxD_next Id3.out b)
      have Ix4 := Lib.hid (bxD_next Ix3.out b)
      have B4 := Lib.hid (below_trans B3.out b B3.out.size)
      clear b C
      have C := Lib.hid (ddecode_at HSB.out E2.out (HT.out.below B4.out))
      go_wp2_with fail
      refine C.out.mono ?_
      rintro e w5 ⟨My, rfl, ow, b⟩
      obtain ⟨Ly, hLy⟩ : ∃ L, w5.heap.size = L := ⟨_, rfl⟩
      obtain ⟨W5, hW5⟩ : ∃ W, w5.alloc (.cells #[.int .i64 Z.frm, .int .i64 Z.til, .slice My.aj Z.jobs.length My.cj, .slice My.an Z.nodes.length My.cn, .slice My.al Z.leases.length My.cl, .slice My.gj Z.gj.length My.hj, .slice My.gn Z.gn.length My.hn, .slice My.gl Z.gl.length My.hl] 29) = W := ⟨_, rfl⟩
      have bA := below_one w5 (.cells #[.int .i64 Z.frm, .int .i64 Z.til, .slice My.aj Z.jobs.length My.cj, .slice My.an Z.nodes.length My.cn, .slice My.al Z.leases.length My.cl, .slice My.gj Z.gj.length My.hj, .slice My.gn Z.gn.length My.hn, .slice My.gl Z.gl.length My.hl] 29)
      have iN := bxD_new (ownD_at ow)
      rw [hW5] at bA iN
      rw [hLy] at iN
      have Id5 := Lib.hid (bxD_next (bxD_next Id4.out b) bA)
      have Ix5 := Lib.hid (bxD_next (bxD_next Ix4.out b) bA)
      have Iy5 := Lib.hid iN
      have B5 := Lib.hid (below_trans (below_trans B4.out b B4.out.size) bA (Nat.le_trans B4.out.size b.size))
      clear bA iN ow b C
      have C := Lib.hid (dencode_at HWZ.out E3.out rfl (HT.out.below B5.out) Iy5.out.2)
      obtain ⟨zy0, zy1, zy2, zy3, zy4, zy5, zy6, zy7⟩ := bxD_cells Iy5.out
      go_wp2_with fail
      refine C.out.mono ?_
      rintro e W6 ⟨rfl, b⟩
      clear zy0 zy1 zy2 zy3 zy4 zy5 zy6 zy7
      have Id6 := Lib.hid (bxD_next Id5.out b)
      have Ix6 := Lib.hid (bxD_next Ix5.out b)
      have Iy6 := Lib.hid (bxD_next Iy5.out b)
      have B6 := Lib.hid (below_trans B5.out b B5.out.size)
      clear b C
      have C := Lib.hid (deltaEq_zero HLZ.out Iy6.out.2)
      obtain ⟨zy0, zy1, zy2, zy3, zy4, zy5, zy6, zy7⟩ := bxD_cells Iy6.out
      go_wp2_with fail
      refine C.out.mono ?_
      rintro e W7 ⟨c0, rfl, hc, b⟩
      clear zy0 zy1 zy2 zy3 zy4 zy5 zy6 zy7
      obtain rfl : c0 = true := hc.2 HZ.out
      clear hc
      have Id7 := Lib.hid (bxD_next Id6.out b)
      have Ix7 := Lib.hid (bxD_next Ix6.out b)
      have Iy7 := Lib.hid (bxD_next Iy6.out b)
      have B7 := Lib.hid (below_trans B6.out b B6.out.size)
      clear b C
      go_wp2
      go_ret
      exact ⟨rfl, B7.out⟩
    · have E2 := Lib.hid e2
      have E3 := Lib.hid e3
      have HWD := Lib.hid (wDelta_valid h3)
      clear e2 e3 h3
      have C := Lib.hid (differed_is W0 (HT.out.below B0.out))
      go_enter Tryz.func5, Tryz.ntmps5
      go_wp2_with fail
      refine C.out.mono ?_
      rintro e W1 ⟨rfl, b⟩
      have Id1 := Lib.hid (bxD_next Id0.out b)
      have B1 := Lib.hid (below_trans B0.out b B0.out.size)
      clear b C
      have C := Lib.hid (dencode_at HWd.out E1.out HS.out (HT.out.below B1.out) Id1.out.2)
      obtain ⟨zd0, zd1, zd2, zd3, zd4, zd5, zd6, zd7⟩ := bxD_cells Id1.out
      go_wp2_with fail
      refine C.out.mono ?_
      rintro e W2 ⟨rfl, b⟩
      clear zd0 zd1 zd2 zd3 zd4 zd5 zd6 zd7
      have Id2 := Lib.hid (bxD_next Id1.out b)
      have B2 := Lib.hid (below_trans B1.out b B1.out.size)
      clear b C
      have C := Lib.hid (ddecode_at HSZ.out E4.out (HT.out.below B2.out))
      go_wp2_with fail
      refine C.out.mono ?_
      rintro e w3 ⟨Mx, rfl, ow, b⟩
      obtain ⟨Lx, hLx⟩ : ∃ L, w3.heap.size = L := ⟨_, rfl⟩
      obtain ⟨W3, hW3⟩ : ∃ W, w3.alloc (.cells #[.int .i64 d.frm, .int .i64 d.til, .slice Mx.aj d.jobs.length Mx.cj, .slice Mx.an d.nodes.length Mx.cn, .slice Mx.al d.leases.length Mx.cl, .slice Mx.gj d.gj.length Mx.hj, .slice Mx.gn d.gn.length Mx.hn, .slice Mx.gl d.gl.length Mx.hl] 29) = W := ⟨_, rfl⟩
      have bA := below_one w3 (.cells #[.int .i64 d.frm, .int .i64 d.til, .slice Mx.aj d.jobs.length Mx.cj, .slice Mx.an d.nodes.length Mx.cn, .slice Mx.al d.leases.length Mx.cl, .slice Mx.gj d.gj.length Mx.hj, .slice Mx.gn d.gn.length Mx.hn, .slice Mx.gl d.gl.length Mx.hl] 29)
      have iN := bxD_new (ownD_at ow)
      rw [hW3] at bA iN
      rw [hLx] at iN
      have Id3 := Lib.hid (bxD_next (bxD_next Id2.out b) bA)
      have Ix3 := Lib.hid iN
      have B3 := Lib.hid (below_trans (below_trans B2.out b B2.out.size) bA (Nat.le_trans B2.out.size b.size))
      clear bA iN ow b C
      have C := Lib.hid (deltaEq_at HLD.out Ix3.out.2 Id3.out.2)
      obtain ⟨zx0, zx1, zx2, zx3, zx4, zx5, zx6, zx7⟩ := bxD_cells Ix3.out
      obtain ⟨zd0, zd1, zd2, zd3, zd4, zd5, zd6, zd7⟩ := bxD_cells Id3.out
      go_wp2_with fail
      refine C.out.mono ?_
      rintro e W4 ⟨c0, rfl, hc, b⟩
      clear zx0 zx1 zx2 zx3 zx4 zx5 zx6 zx7 zd0 zd1 zd2 zd3 zd4 zd5 zd6 zd7
      obtain rfl : c0 = true := hc.2 (by first | rfl | trivial)
      clear hc
      have Id4 := Lib.hid (bxD_next Id3.out b)
      have Ix4 := Lib.hid (bxD_next Ix3.out b)
      have B4 := Lib.hid (below_trans B3.out b B3.out.size)
      clear b C
      have C := Lib.hid (ddecode_at HSB.out E2.out (HT.out.below B4.out))
      go_wp2_with fail
      refine C.out.mono ?_
      rintro e w5 ⟨My, rfl, ow, b⟩
      obtain ⟨Ly, hLy⟩ : ∃ L, w5.heap.size = L := ⟨_, rfl⟩
      obtain ⟨W5, hW5⟩ : ∃ W, w5.alloc (.cells #[.int .i64 D.frm, .int .i64 D.til, .slice My.aj D.jobs.length My.cj, .slice My.an D.nodes.length My.cn, .slice My.al D.leases.length My.cl, .slice My.gj D.gj.length My.hj, .slice My.gn D.gn.length My.hn, .slice My.gl D.gl.length My.hl] 29) = W := ⟨_, rfl⟩
      have bA := below_one w5 (.cells #[.int .i64 D.frm, .int .i64 D.til, .slice My.aj D.jobs.length My.cj, .slice My.an D.nodes.length My.cn, .slice My.al D.leases.length My.cl, .slice My.gj D.gj.length My.hj, .slice My.gn D.gn.length My.hn, .slice My.gl D.gl.length My.hl] 29)
      have iN := bxD_new (ownD_at ow)
      rw [hW5] at bA iN
      rw [hLy] at iN
      have Id5 := Lib.hid (bxD_next (bxD_next Id4.out b) bA)
      have Ix5 := Lib.hid (bxD_next (bxD_next Ix4.out b) bA)
      have Iy5 := Lib.hid iN
      have B5 := Lib.hid (below_trans (below_trans B4.out b B4.out.size) bA (Nat.le_trans B4.out.size b.size))
      clear bA iN ow b C
      have C := Lib.hid (dencode_at HWD.out E3.out (str_self sb) (HT.out.below B5.out) Iy5.out.2)
      obtain ⟨zy0, zy1, zy2, zy3, zy4, zy5, zy6, zy7⟩ := bxD_cells Iy5.out
      go_wp2_with fail
      refine C.out.mono ?_
      rintro e W6 ⟨rfl, b⟩
      clear zy0 zy1 zy2 zy3 zy4 zy5 zy6 zy7
      have Id6 := Lib.hid (bxD_next Id5.out b)
      have Ix6 := Lib.hid (bxD_next Ix5.out b)
      have Iy6 := Lib.hid (bxD_next Iy5.out b)
      have B6 := Lib.hid (below_trans B5.out b B5.out.size)
      clear b C
      go_wp2
      go_ret
      exact ⟨rfl, B6.out⟩

theorem own : ownKnob Tryz.prog.godebug = none := by kernel_rfl
theorem laidOut : laidOutB Tryz.prog = true := by kernel_rfl
theorem laid_met (os : Os) : laidMet Tryz.prog Rows.deltaWireRow.laid ((laidWorld os).forCall (fun _ _ => 0) ⟨#[], #[.agg #[.int .i64 0, .int .i64 0, .slice none 0 0, .slice none 0 0, .slice none 0 0, .slice none 0 0, .slice none 0 0, .slice none 0 0], .string ⟨#[]⟩], []⟩).memory :=
  laidMet_of_run' 8 (by kernel_rfl) (by kernel_rfl)
theorem reads (os : Os) {H : Type} (enc : TypeId × Value → H) : ∃ places, DataW.whole enc Tryz.prog ((laidWorld os).forCall (fun _ _ => 0) ⟨#[], #[.agg #[.int .i64 0, .int .i64 0, .slice none 0 0, .slice none 0 0, .slice none 0 0, .slice none 0 0, .slice none 0 0, .slice none 0 0], .string ⟨#[]⟩], []⟩).memory Tryz.f5.params.toList Rows.deltaWireSpec.vars false #[Value.agg #[.int .i64 0, .int .i64 0, .slice none 0 0, .slice none 0 0, .slice none 0 0, .slice none 0 0, .slice none 0 0, .slice none 0 0], Value.string ⟨#[]⟩].toList 8 = some ([.agg [.lit (.int .i64 0), .lit (.int .i64 0), .nil, .nil, .nil, .nil, .nil, .nil], .lit (.string [])], [], places) :=
  ⟨[], by kernel_rfl⟩
set_option maxRecDepth 100000 in
set_option maxHeartbeats 2000000 in
theorem lifted (os : Os) (started : os.Started) (H : Type) (enc : TypeId × Value → H) (F : Stop.Interp) :
    ReturnsInHanded {} Tryz.checked os 5 .any ((OpenSpec.ofChange Rows.deltaWireSpec).preRow enc Tryz.prog Tryz.f5 Rows.deltaWireRow.domain false Rows.deltaWireRow.laid) (((OpenSpec.ofChange Rows.deltaWireSpec).at F).post enc Tryz.prog Tryz.f5 false true false false) := by
  obtain ⟨places, hx⟩ := reads os enc
  refine returnsInHanded_of_row (C := Tryz.checked) (s := (OpenSpec.ofChange Rows.deltaWireSpec)) own started (by kernel_rfl) Tryz.func5
    (witness_row_atRef (enc := enc) (C := Tryz.checked) false (laidWorld os) #[.agg #[.int .i64 0, .int .i64 0, .slice none 0 0, .slice none 0 0, .slice none 0 0, .slice none 0 0, .slice none 0 0, .slice none 0 0], .string ⟨#[]⟩] rfl (by kernel_rfl) (by kernel_rfl) (by kernel_rfl)
      (OpenSpec.preRow_of_cond 8 hx (by kernel_rfl) (fun k hk => by cases hk) (by kernel_rfl) (laid_met os))) ?_
  intro W base args ds gs before hval0 hW _ _ hsz0 hL _ _
  have hval : ∀ (j : Nat) t v, Tryz.f5.params[j]? = some t → args[j]? = some v → Value.okWide Tryz.prog W .any base t v := hval0
  have hW' := hW
  obtain ⟨p, q, hA0, hV, rfl, hfz, hnd⟩ := hW
  have hA : DataW.TrodAll enc Tryz.prog W 0 (fun _ => true) true Tryz.f5.params.toList args.toList ds p := hA0
  have hsz : (DataW.weightsEach Tryz.prog (Tryz.f5.params.toList ++ Rows.deltaWireSpec.plain.varTypes Tryz.prog) (ds ++ gs)).all (· ≤ reachBytes) = true := hsz0
  rw [Tryz.params5] at hA hval hsz
  obtain ⟨v0, vs0, d0, ds0, p0, q0, hargs, rfl, rfl, h0, r0⟩ := trodAll_cons hA
  obtain ⟨v1, vs1, d1, ds1, p1, q1, rfl, rfl, rfl, h1, r1⟩ := trodAll_cons r0
  obtain ⟨rfl, rfl, rfl⟩ := trodAll_nil r1
  obtain rfl : args = #[v0, v1] := by cases args; simp_all
  obtain ⟨rfl, rfl⟩ := trodVars_none hV
  obtain ⟨M0, dl0, rfl, m0, w0⟩ := open_delta (hval 0 29 v0 rfl rfl) h0
  obtain ⟨a1, rfl, rfl, rfl, w1⟩ := open_string Tryz.underlying9 (hval 1 9 v1 rfl rfl) h1
  have s1 : a1.data.toList.length ≤ reachBytes := sized_string hsz (j := 1) (t := 9) rfl rfl
  clear hA0 hval0
  refine (walk M0 dl0 a1 w0 w1 s1 W m0 (tabs_of hL)).mono fun e W' ⟨he, bel⟩ => ?_
  subst he
  exact ⟨_, rfl, _, _, _, [], _, [], hW', trodAll_mk1 (shut_bool Tryz.underlying4 _), (trodAll_cons_mk (Below.trod laidOut (by kernel_rfl) (of_decide_eq_true (by kernel_rfl)) h0 bel (fun x hx => by simpa using hW'.lt x (by simp [hx]))) (trodAll_cons_mk (shut_string Tryz.underlying9 w1) trodAll_mk0)), rfl, bel.frame _, fun h => by cases h⟩
theorem said : Rows.DeltaWireSaid :=
  OpenClaim.holds_of_cond 5 Tryz.f5 rfl rfl rfl rfl rfl rfl rfl ⟨rfl, rfl, rfl, rfl, rfl⟩ rfl rfl rfl rfl rfl (by kernel_rfl) Tryz.func5 (by kernel_rfl)
    (of_decide_eq_true (by kernel_rfl)) (by unfold Func.isWrapper; first | (rw [if_pos (by decide +kernel)]; kernel_rfl) | (rw [if_neg (by decide +kernel)]; exact ⟨rfl, rfl⟩))
    (fun os started H enc _ F => by rw [OpenClaim.pre_eq_preRow]; exact lifted os started H enc F)
theorem plain (f : FuncId) (fn : Func) (hf : Tryz.pinned.checked.prog.funcNamed Rows.deltaWireRow.func = some f) (hfn : Tryz.pinned.checked.prog.funcs[f]? = some fn) :
    false = Tryz.pinned.checked.prog.looks [] ∧ ∀ (j : Nat) t, fn.params[j]? = some t → Tryz.pinned.checked.prog.wantsStandIn t = false := by
  obtain rfl : f = 5 := Option.some.inj ((show Tryz.prog.funcNamed Rows.deltaWireRow.func = some 5 by kernel_rfl).symm.trans hf) |>.symm
  obtain rfl : fn = Tryz.f5 := (Option.some.inj (Tryz.func5.symm.trans hfn)).symm
  refine ⟨by kernel_rfl, fun j t ht => ?_⟩
  rw [Tryz.params5] at ht
  have hm : t = 29 ∨ t = 9 := by simpa using Array.mem_of_getElem? ht
  rcases hm with rfl | rfl
  · exact (show Tryz.prog.wantsStandIn 29 = false by kernel_rfl)
  · exact (show Tryz.prog.wantsStandIn 9 = false by kernel_rfl)
theorem proved : Rows.DeltaWireCardSaid :=
  Claim7.holds_tied_plain_at .later [] _ _ _ _ said (fun _ h => by cases h) (by kernel_rfl) (fun _ h => by cases h) deltaWire_row_tie rfl ⟨rfl, rfl⟩ (by kernel_rfl) rfl plain (by kernel_rfl)
#print axioms proved
end Go.Proofs.YthfbjmjohmkfjaaGreatDoor.deltaWire
