/- The laws' own closed fact on a server. -/
import Derived.Test.YthpgkfonbmffdaaGreatDoorSvDo2
import Derived.Test.YthpgkfonbmffdaaGreatDoorPkSt2
import Derived.Test.YthpgkfonbmffdaaGreatDoorDlEq
namespace Go.Proofs.YthpgkfonbmffdaaGreatDoor
open Go.RowKit Go.Lib

def svS : StD := ⟨4, sampleJ, sampleN, sampleL⟩
theorem svS_ok : checkE V8 svS = 0 := sample_check
theorem served_plain : doR V8 svS 0 (tickQ 9) = (⟨⟨5, sampleJ, sampleN, []⟩, 9⟩, 0, true) := by
  have e := run_tick (U := V8) (s := svS) (now := 0) (n := 9) (by decide)
  rw [if_neg (by decide)] at e
  have e2 : tickS (0 + 9) svS = ⟨4, sampleJ, sampleN, []⟩ := by unfold tickS svS leasesT sampleL; simp
  rw [e2] at e
  have k : ¬ SameRows svS (runR V8 svS 0 (tickQ 9)).1.s := by
    rw [e]; intro h
    have h3 : sampleL = [] := h.2.2
    simp [sampleL] at h3
  rw [doR_new (by rw [e]) k (by decide), e]
  rfl
theorem served_gone : (told svS (⟨⟨5, sampleJ, sampleN, []⟩, 9⟩, 0, true)).gl = [⟨#[97]⟩] := by
  unfold told
  rw [if_pos rfl]
  simp [diffS, goneL, svS, sampleL]
theorem wJ0 : wJob zJob := ⟨by decide, by decide, by decide, by decide, by decide⟩
theorem wN0 : wNode zNode := ⟨by decide, by decide, by decide⟩
theorem wL0 : wLease zLease := ⟨by decide, by decide, by decide⟩
theorem wE0 : (⟨#[]⟩ : ByteArray).size ≤ maxLen := by decide
theorem wI {n : Int} (h : 0 ≤ n ∧ n ≤ 9) : (Lit.int .i64 n).wf = true := wf_sv (by omega)
theorem wReq_tick {n : Int} (h : 0 ≤ n ∧ n ≤ 1099511627776) : wReq (tickQ n) := ⟨wI (n := 7) (by decide), wJ0, wN0, wL0, wE0, wf_sv (by show _ ≤ n ∧ n ≤ _; omega)⟩
theorem sv_sample (w : World) : Calls Tryz.prog 47 #[] w fun e w' => ∃ aj an al cj cn cl, e = .returned (.agg #[.int .i64 4, .slice aj sampleJ.length cj, .slice an sampleN.length cn, .slice al sampleL.length cl]) ∧ OwnS w.heap.size aj an al cj cn cl svS w' ∧ Below w.heap.size w w' :=
  (sample_is w).mono (by rintro e w' ⟨rfl, o1, o2, o3, b⟩; exact ⟨_, _, _, _, _, _, rfl, ⟨o1, o2, o3⟩, b⟩)
set_option maxRecDepth 100000 in
set_option maxHeartbeats 4000000 in
theorem served_is (w : World) (hT : Tabs w) : Calls Tryz.prog 22 #[] w fun e w' => e = .returned (.bool true) ∧ Below w.heap.size w w' := by
  have HT := Lib.hid hT
  clear hT
  go_enter Tryz.func22, Tryz.ntmps22
  go_wp2_with fail
  refine (sv_sample w).mono ?_
  rintro e w1 ⟨aj, an, al, cj, cn, cl, rfl, o1, b1⟩
  have C1 := svNew_ok svS aj an al cj cn cl svS_ok w1 (HT.out.below b1) (ownS_at o1)
  have C1 : Calls Tryz.prog 13 #[.agg #[.int .i64 4, .slice aj sampleJ.length cj, .slice an sampleN.length cn, .slice al sampleL.length cl]] w1 _ := C1
  have C1 := Lib.hid C1
  have B1 := Lib.hid b1
  clear b1 o1
  go_wp2_with fail
  refine C1.out.mono ?_
  rintro e w2 ⟨b, rfl, hb, sv, b2⟩
  have B2 := below_trans B1.out b2 B1.out.size
  have C2 := do_is ⟨svS, 0⟩ svS_ok (by decide) (tickQ 9) (wReq_tick (by decide)) b w2 (HT.out.below B2) sv
  have C2 : Calls Tryz.prog 16 #[.pointer (some ⟨b, 0, none⟩), .agg #[.int .i64 7, .string ⟨#[]⟩, .int .i64 0, .int .i64 0, .int .i64 0, .string ⟨#[]⟩, .string ⟨#[]⟩, .int .i64 0, .string ⟨#[]⟩, .string ⟨#[]⟩, .string ⟨#[]⟩, .int .i64 0, .string ⟨#[]⟩, .int .i64 9]] w2 (DoPost b svS (doR V8 svS 0 (tickQ 9)) w2) := C2
  rw [served_plain] at C2
  unfold DoPost at C2
  have hgl := served_gone
  obtain ⟨D, hD⟩ : ∃ D, told svS (⟨⟨5, sampleJ, sampleN, []⟩, 9⟩, 0, true) = D := ⟨_, rfl⟩
  rw [hD] at hgl
  simp only [hD] at C2
  have C2 := Lib.hid C2
  have HG := Lib.hid hgl
  have BB2 := Lib.hid (And.intro B2 (And.intro (svAt_lt sv) (show w.heap.size ≤ b from Nat.le_trans B1.out.size hb)))
  clear sv b2 B2 hD hgl C1 hb
  go_wp2_with fail
  refine C2.out.mono ?_
  rintro e w3 ⟨M, rfl, s3, d3, g3⟩
  have bx1 := below_one w3 (.cells #[.int .i64 0, .int .i64 5] 46)
  obtain ⟨X1, hX1⟩ : ∃ X, w3.alloc (.cells #[.int .i64 0, .int .i64 5] 46) = X := ⟨_, rfl⟩
  have oR := objAt_new w3 #[.int .i64 0, .int .i64 5] 46
  rw [hX1] at bx1 oR
  have oE := objAt_new X1 #[.int .i64 D.frm, .int .i64 D.til, .slice M.aj D.jobs.length M.cj, .slice M.an D.nodes.length M.cn, .slice M.al D.leases.length M.cl, .slice M.gj D.gj.length M.hj, .slice M.gn D.gn.length M.hn, .slice M.gl D.gl.length M.hl] 49
  have bx2 := below_one X1 (.cells #[.int .i64 D.frm, .int .i64 D.til, .slice M.aj D.jobs.length M.cj, .slice M.an D.nodes.length M.cn, .slice M.al D.leases.length M.cl, .slice M.gj D.gj.length M.hj, .slice M.gn D.gn.length M.hn, .slice M.gl D.gl.length M.hl] 49)
  obtain ⟨X2, hX2⟩ : ∃ X, X1.alloc (.cells #[.int .i64 D.frm, .int .i64 D.til, .slice M.aj D.jobs.length M.cj, .slice M.an D.nodes.length M.cn, .slice M.al D.leases.length M.cl, .slice M.gj D.gj.length M.hj, .slice M.gn D.gn.length M.hn, .slice M.gl D.gl.length M.hl] 49) = X := ⟨_, rfl⟩
  rw [hX2] at bx2 oE
  have n2 : X2.heap.size = w3.heap.size + 1 + 1 := by rw [← hX2, World.size_alloc, ← hX1, World.size_alloc]
  have n1 : X1.heap.size = w3.heap.size + 1 := by rw [← hX1, World.size_alloc]
  have bx3 := below_one X2 (.cells #[.string ⟨#[97]⟩] 9)
  have oS := objAt_new X2 #[.string ⟨#[97]⟩] 9
  have b3 : Below w3.heap.size w3 (X2.alloc (.cells #[.string ⟨#[97]⟩] 9)) := below_trans (below_trans bx1 bx2 bx1.size) bx3 (by omega)
  obtain ⟨X3, hX3⟩ : ∃ X, X2.alloc (.cells #[.string ⟨#[97]⟩] 9) = X := ⟨_, rfl⟩
  rw [hX3] at bx3 oS b3
  rw [n2] at oS
  have C3 := eqNms_is [⟨#[97]⟩] [⟨#[97]⟩] M.gl (some ⟨w3.heap.size + 1 + 1, 0, none⟩) M.hl 1 (by simp) X3 (by have := nmsAt_next (ownD_at d3).2.2.2 b3; rw [HG.out] at this; exact this) (fun i hi => ⟨_, rfl, objAt_lt oS, by
    have : i = 0 := by simp at hi; exact hi
    subst this
    exact objAt_cell oS 0 rfl⟩)
  have hlen : D.gl.length = 1 := by rw [HG.out]; rfl
  have C3 : Calls Tryz.prog 46 #[.slice M.gl D.gl.length M.hl, .slice (some ⟨w3.heap.size + 1 + 1, 0, none⟩) 1 1] X3 (fun e w' => ∃ c : Bool, e = .returned (.bool c) ∧ (c = true ↔ [(⟨#[97]⟩ : ByteArray)] = [⟨#[97]⟩]) ∧ Below X3.heap.size X3 w') := by rw [hlen]; exact C3
  have C3 := Lib.hid C3
  have s4 := svAt_next s3 b3
  have BF := Lib.hid (below_trans (gN_below BB2.out.1 BB2.out.1.size BB2.out.2.2 g3) b3 (by have := BB2.out.1.size; have := g3.size; omega))
  have S4 := Lib.hid s4
  have hwb : w.heap.size ≤ X3.heap.size := by have := BB2.out.1.size; have := g3.size; have := b3.size; omega
  clear s3 d3 g3 bx1 bx2 bx3 oR oE oS b3 s4 n1 n2 hlen
  rw [← hX2, ← hX1] at hX3
  clear hX1 hX2
  go_wp2_with fail
  refine C3.out.mono ?_
  rintro e w4 ⟨c, rfl, hc, b4⟩
  obtain rfl : c = true := by simpa using hc
  have C4 := Lib.hid (svNow_is b ⟨⟨5, sampleJ, sampleN, []⟩, 9⟩ w4 (svAt_next S4.out b4))
  have BF4 := Lib.hid (below_trans BF.out b4 hwb)
  clear b4 hc C3
  go_wp2_with fail
  refine C4.out.mono ?_
  rintro e w5 ⟨rfl, rfl⟩
  go_wp2
  go_ret
  exact ⟨rfl, BF4.out⟩
end Go.Proofs.YthpgkfonbmffdaaGreatDoor
