/- Package delta: Encode at every delta. -/
import Derived.Test.YthfbjmjohmkfjaaDoorDlWhole
import Derived.Test.YthfbjmjohmkfjaaDoorPkDl2
namespace Go.Proofs.YthfbjmjohmkfjaaDoor
open Go.RowKit

theorem delB_ne (d : DelD) : delB d ≠ [] := by
  have h := num_pos d.frm.toNat
  unfold delB intE
  intro e
  have := congrArg List.length e
  simp only [List.length_append, List.length_nil] at this
  omega
set_option maxRecDepth 100000 in
set_option maxHeartbeats 8000000 in
theorem dencode_any (d : DelD) (M : DlM) (hwd : wDelta d) (w : World) (hT : Tabs w) (hm : DeltaAt w M d) :
    Calls Tryd.prog 5 #[.agg #[.int .i64 d.frm, .int .i64 d.til, .slice M.aj d.jobs.length M.cj, .slice M.an d.nodes.length M.cn, .slice M.al d.leases.length M.cl, .slice M.gj d.gj.length M.hj, .slice M.gn d.gn.length M.hn, .slice M.gl d.gl.length M.hl]] w fun e w' => e = .returned (.tuple #[.string ⟨(dencR V8 d).1.toArray⟩, .int .i64 ((dencR V8 d).2 : Nat)]) ∧ Below w.heap.size w w' := by
  have bW := below_one w (.cells #[.int .i64 d.frm, .int .i64 d.til, .slice M.aj d.jobs.length M.cj, .slice M.an d.nodes.length M.cn, .slice M.al d.leases.length M.cl, .slice M.gj d.gj.length M.hj, .slice M.gn d.gn.length M.hn, .slice M.gl d.gl.length M.hl] 27)
  have oB := objAt_new w #[.int .i64 d.frm, .int .i64 d.til, .slice M.aj d.jobs.length M.cj, .slice M.an d.nodes.length M.cn, .slice M.al d.leases.length M.cl, .slice M.gj d.gj.length M.hj, .slice M.gn d.gn.length M.hn, .slice M.gl d.gl.length M.hl] 27
  have HC := dcheck_any M d hwd _ (hT.below bW) (deltaAt_next hm bW)
  obtain ⟨c, hc⟩ : ∃ c, dcheckE V8 d = c := ⟨_, rfl⟩
  rw [hc] at HC
  have HC : Hid (Calls Tryd.prog 7 #[.agg #[.int .i64 d.frm, .int .i64 d.til, .slice M.aj d.jobs.length M.cj, .slice M.an d.nodes.length M.cn, .slice M.al d.leases.length M.cl, .slice M.gj d.gj.length M.hj, .slice M.gn d.gn.length M.hn, .slice M.gl d.gl.length M.hl]] (w.alloc (.cells #[.int .i64 d.frm, .int .i64 d.til, .slice M.aj d.jobs.length M.cj, .slice M.an d.nodes.length M.cn, .slice M.al d.leases.length M.cl, .slice M.gj d.gj.length M.hj, .slice M.gn d.gn.length M.hn, .slice M.gl d.gl.length M.hl] 27)) fun e w' => e = .returned (.int .i64 (c : Nat)) ∧ Below (w.alloc (.cells #[.int .i64 d.frm, .int .i64 d.til, .slice M.aj d.jobs.length M.cj, .slice M.an d.nodes.length M.cn, .slice M.al d.leases.length M.cl, .slice M.gj d.gj.length M.hj, .slice M.gn d.gn.length M.hn, .slice M.gl d.gl.length M.hl] 27)).heap.size (w.alloc (.cells #[.int .i64 d.frm, .int .i64 d.til, .slice M.aj d.jobs.length M.cj, .slice M.an d.nodes.length M.cn, .slice M.al d.leases.length M.cl, .slice M.gj d.gj.length M.hj, .slice M.gn d.gn.length M.hn, .slice M.gl d.gl.length M.hl] 27)) w') := Lib.hid HC
  have OB := Lib.hid oB
  have BW := Lib.hid bW
  have b0 := objAt_cell oB 0 rfl
  have b1 := objAt_cell oB 1 rfl
  have b2 := objAt_cell oB 2 rfl
  have b3 := objAt_cell oB 3 rfl
  have b4 := objAt_cell oB 4 rfl
  have b5 := objAt_cell oB 5 rfl
  have b6 := objAt_cell oB 6 rfl
  have b7 := objAt_cell oB 7 rfl
  have bl := objAt_lt oB
  clear oB bW
  by_cases h0 : c ≠ 0
  · have hr : dencR V8 d = ([], c) := by unfold dencR; rw [hc, if_pos h0]
    have h0' : ((c : Int) != 0) = true := by simp; omega
    rw [hr]
    clear hr h0 hm hT hwd hc
    go_enter Tryd.func5, Tryd.ntmps5
    go_wp2_with fail
    refine HC.out.mono ?_
    rintro e w1 ⟨rfl, x1⟩
    go_wp2
    go_ret2
    exact ⟨rfl, below_trans BW.out x1 (by simp)⟩
  · have h0 : c = 0 := by simpa using h0
    subst h0
    have hv := (dcheck_zero V8 d).1 hc
    have hok := ok_del V8 hv
    have htil : d.til ≤ 9223372036854775807 := by have := hv.1; omega
    have hwr := wrt_del hok htil ⟨false, [], ⟨#[]⟩, 0⟩ rfl
    have hin : InD d ⟨false, [], ⟨#[]⟩, 0⟩ := ⟨.inl ⟨rfl, hok.1, hok.2.1, htil⟩, hok.2.2⟩
    have hdr : dencR V8 d = if 6000 < (delB d).length then ([], 2) else (delB d, 0) := by unfold dencR; rw [if_neg (by simp [hc])]
    have HMM := Lib.hid hm
    have HT := Lib.hid hT
    have HIN := Lib.hid hin
    have HWR := Lib.hid hwr
    have HDR := Lib.hid hdr
    have hne := delB_ne d
    obtain ⟨S, hS⟩ : ∃ S : ByteArray, (⟨(delB d).toArray⟩ : ByteArray) = S := ⟨_, rfl⟩
    have hSz : S.size = (delB d).length := by rw [← hS]; simp [ByteArray.size]
    have HS := Lib.hid hS
    have HNE := Lib.hid hne
    obtain ⟨R, hR⟩ : ∃ R, dencR V8 d = R := ⟨_, rfl⟩
    rw [hR]
    have HR := Lib.hid hR
    clear hm hT hwd hc hv hok htil hwr hin hdr hne hS hR
    go_enter Tryd.func5, Tryd.ntmps5
    go_wp2_with fail
    refine HC.out.mono ?_
    rintro e w1 ⟨rfl, x1⟩
    have hB1 := below_trans BW.out x1 (by simp)
    have O1 := objAt_next OB.out x1
    obtain ⟨W1, hW1⟩ : ∃ W1, w1.alloc (.cells #[.int .i64 3, .bool false, .pointer none, .slice none 0 0, .string ⟨#[]⟩, .int .i64 0] 84) = W1 := ⟨_, rfl⟩
    have bA := below_one w1 (.cells #[.int .i64 3, .bool false, .pointer none, .slice none 0 0, .string ⟨#[]⟩, .int .i64 0] 84)
    have O2 := objAt_next O1 bA
    have hc0 := code_new w1 3 false ⟨#[]⟩
    have H1 := Lib.hid (writer_is 3 w1)
    rw [hW1] at bA O2 hc0 H1
    have sW1 : W1.heap.size = w1.heap.size + 1 := by rw [← hW1, World.size_alloc]
    have HW := dwhole_is d M HIN.out (Nat.zero_le _) (Nat.zero_le _) _ hc0 ⟨w1, rfl, HT.out.below hB1, bA⟩ ⟨w1, rfl, bA, deltaAt_next HMM.out hB1⟩
    rw [HWR.out] at HW
    have HW := Lib.hid HW
    have HB1 := Lib.hid hB1
    have HBA := Lib.hid bA
    clear b0 b1 b2 b3 b4 b5 b6 b7 bl
    have a0 := objAt_cell O2 0 rfl
    have a1 := objAt_cell O2 1 rfl
    have a2 := objAt_cell O2 2 rfl
    have a3 := objAt_cell O2 3 rfl
    have a4 := objAt_cell O2 4 rfl
    have a5 := objAt_cell O2 5 rfl
    have a6 := objAt_cell O2 6 rfl
    have a7 := objAt_cell O2 7 rfl
    have aL := objAt_lt O2
    clear O1 O2 hc0 hB1 bA hW1
    go_wp2_with fail
    refine H1.out.mono ?_
    rintro e w1' ⟨rfl, rfl⟩
    go_wp2_with fail
    refine HW.out.mono ?_
    rintro e w2 ⟨Mr, rfl, _, hc2, hk2⟩
    have HWr : Hid (Calls Tryd.prog 13 #[.pointer (some ⟨w1.heap.size, 0, none⟩)] w2 fun e w' => e = .returned (.tuple #[.string S, .int .i64 0]) ∧ Keep w1.heap.size w2 w') := by
      show Calls _ _ _ _ _
      have h := written_is (m := ⟨false, [] ++ delB d, ⟨#[]⟩, 0⟩) (by rw [List.nil_append]; exact HNE.out) rfl w2 hc2
      rw [← HS.out]
      exact h
    have HK := Lib.hid hk2
    clear hc2 hk2 a0 a1 a2 a3 a4 a5 a6 a7 aL HW H1
    go_wp2_with fail
    refine HWr.out.mono ?_
    rintro e w3 ⟨rfl, hk3⟩
    have BF : Hid (Below w.heap.size w w3) := by
      show Below _ _ _
      have h2 := keep_low (keep_trans HK.out hk3) (by omega)
      exact below_trans HB1.out (HBA.out.trans h2) HB1.out.size
    clear hk3 HWr
    by_cases h6 : 6000 < (delB d).length
    · have hR := HR.out.symm.trans (HDR.out.trans (if_pos h6))
      have h6' : (6000 : Int) < (S.size : Int) := by omega
      have HRR := Lib.hid hR
      clear hR hSz h6
      go_wp2
      go_ret2
      exact ⟨by have h := HRR.out; subst h; rfl, BF.out⟩
    · have hR := HR.out.symm.trans (HDR.out.trans (if_neg h6))
      have h6' : ¬ ((6000 : Int) < (S.size : Int)) := by omega
      have HRR := Lib.hid hR
      clear hR hSz h6
      go_wp2
      go_ret2
      exact ⟨by have h := HRR.out; subst h; rw [← HS.out]; rfl, BF.out⟩
end Go.Proofs.YthfbjmjohmkfjaaDoor
