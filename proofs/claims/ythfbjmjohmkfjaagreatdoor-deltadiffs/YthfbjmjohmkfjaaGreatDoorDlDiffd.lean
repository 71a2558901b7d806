/- The laws' own closed fact about deltas: differed. -/
import Derived.Test.YthfbjmjohmkfjaaGreatDoorDlEq
import Derived.Test.YthfbjmjohmkfjaaGreatDoorDlDiff
import Derived.Test.YthfbjmjohmkfjaaGreatDoorPkSt2
namespace Go.Proofs.YthfbjmjohmkfjaaGreatDoor
open Go.RowKit Go.Lib

def sampS : StD := ⟨4, sampleJ, sampleN, sampleL⟩
def sampT : StD := ⟨9, sampleJ, sampleN, []⟩
theorem sample_own (w : World) : Calls Tryz.prog 59 #[] w fun e w' => ∃ aj an al cj cn cl, e = .returned (.agg #[.int .i64 4, .slice aj sampleJ.length cj, .slice an sampleN.length cn, .slice al sampleL.length cl]) ∧ OwnS w.heap.size aj an al cj cn cl sampS w' ∧ Below w.heap.size w w' :=
  (sample_is w).mono (by rintro e w' ⟨rfl, o1, o2, o3, b⟩; exact ⟨_, _, _, _, _, _, rfl, ⟨o1, o2, o3⟩, b⟩)
theorem sampT_check : checkE V8 sampT = 0 := by
  simp [sampT, checkE, headSE, sampleJ, sampleN, rowsE, jobE, nodeE, isName, isNote, v1, v0, size1, size0, inR, orE, badO, lt_ab, roomE, usedD, sumZ]
theorem wState_chk {s : StD} (h : checkE V8 s = 0) : wState s := wState_ok (v := 3) (ok_of_valid ((check_zero V8 s).1 h) (by simp [fitsD]))
theorem samp_diff : diffR V8 sampS sampT = (⟨4, 9, [], [], [], [], [], [⟨#[97]⟩]⟩, 0) := by
  rw [diffR_ok (show checkE V8 sampS = 0 from sample_check) sampT_check (by decide)]
  unfold diffS sampS sampT
  simp only [new_self, gone_self]
  simp [newL, goneL, sampleL]
/-- The changed sample in its block. -/
def DsAt (N H : Nat) (aj an : Option Addr) (cj cn : Nat) (w V : World) : Prop := ObjAt N #[.int .i64 9, .slice aj sampleJ.length cj, .slice an sampleN.length cn, .slice none 0 0] 26 V ∧ Below H w V ∧ H ≤ N ∧ JobsAt V aj sampleJ ∧ NodesAt V an sampleN
theorem ds_next {N H : Nat} {aj an : Option Addr} {cj cn : Nat} {w V V' : World} (h : DsAt N H aj an cj cn w V) (b : Below V.heap.size V V') : DsAt N H aj an cj cn w V' :=
  ⟨objAt_next h.1 b, below_trans h.2.1 b (by have := objAt_lt h.1; have := h.2.2.1; omega), h.2.2.1, jobsAt_next h.2.2.2.1 b, nodesAt_next h.2.2.2.2 b⟩
theorem ds_drew {N H : Nat} {aj an : Option Addr} {cj cn : Nat} {w V : World} (h : DsAt N H aj an cj cn w V) : DsAt N H aj an cj cn w V.drew := ⟨objAt_drew h.1, h.2.1.drew, h.2.2.1, h.2.2.2.1, h.2.2.2.2⟩
theorem ds_size {N H : Nat} {aj an : Option Addr} {cj cn : Nat} {w V : World} (h : DsAt N H aj an cj cn w V) : H ≤ V.heap.size := by have := objAt_lt h.1; have := h.2.2.1; omega
theorem samp_call (ja na la : Option Addr) (jc nc lc : Nat) (jb nb : Option Addr) (kc mc : Nat) (w : World) (hT : Tabs w) (h : JobsAt w ja sampS.jobs ∧ NodesAt w na sampS.nodes ∧ LeasesAt w la sampS.leases) (h2 : JobsAt w jb sampleJ ∧ NodesAt w nb sampleN) :
    Calls Tryz.prog 8 #[.agg #[.int .i64 4, .slice ja sampleJ.length jc, .slice na sampleN.length nc, .slice la sampleL.length lc], .agg #[.int .i64 9, .slice jb sampleJ.length kc, .slice nb sampleN.length mc, .slice none 0 0]] w fun e w' => ∃ M : DlM, e = .returned (.tuple #[.agg #[.int .i64 4, .int .i64 9, .slice M.aj 0 M.cj, .slice M.an 0 M.cn, .slice M.al 0 M.cl, .slice M.gj 0 M.hj, .slice M.gn 0 M.hn, .slice M.gl 1 M.hl], .int .i64 0]) ∧ OwnD w.heap.size M ⟨4, 9, [], [], [], [], [], [⟨#[97]⟩]⟩ w' ∧ Below w.heap.size w w' := by
  have h := ddiff_any sampS sampT ja na la jb nb none jc nc lc kc mc 0 (wState_chk sample_check) (wState_chk sampT_check) w hT h ⟨h2.1, h2.2, fun i hi => absurd hi (by simp [sampT])⟩
  rw [samp_diff] at h
  exact h
def DdRel (H : Nat) (w : World) (p e : Value) (wc : World) : Prop := ∃ (L : Nat) (M : DlM), p = .pointer (some ⟨L, 0, none⟩) ∧ e = .int .i64 0 ∧ ObjAt L #[.int .i64 4, .int .i64 9, .slice M.aj 0 M.cj, .slice M.an 0 M.cn, .slice M.al 0 M.cl, .slice M.gj 0 M.hj, .slice M.gn 0 M.hn, .slice M.gl 1 M.hl] 29 wc ∧ OwnD H M ⟨4, 9, [], [], [], [], [], [⟨#[97]⟩]⟩ wc ∧ Below H w wc
theorem dd_put {H K : Nat} {w v : World} {M : DlM} {a0 a1 a2 a3 a4 a5 a6 a7 : Value} (z : ObjAt K #[a0, a1, a2, a3, a4, a5, a6, a7] 29 v) (o : OwnD H M ⟨4, 9, [], [], [], [], [], [⟨#[97]⟩]⟩ v) (b : Below H w v) (hK : H ≤ K) : DdRel H w (.pointer (some ⟨K, 0, none⟩)) (.int .i64 0) ((((((((v.setCell ⟨K, 0, none⟩ (.int .i64 4)).setCell ⟨K, 1, none⟩ (.int .i64 9)).setCell ⟨K, 2, none⟩ (.slice M.aj 0 M.cj)).setCell ⟨K, 3, none⟩ (.slice M.an 0 M.cn)).setCell ⟨K, 4, none⟩ (.slice M.al 0 M.cl)).setCell ⟨K, 5, none⟩ (.slice M.gj 0 M.hj)).setCell ⟨K, 6, none⟩ (.slice M.gn 0 M.hn)).setCell ⟨K, 7, none⟩ (.slice M.gl 1 M.hl)) :=
  ⟨K, M, rfl, rfl, obj_put8 z (.int .i64 4) (.int .i64 9) (.slice M.aj 0 M.cj) (.slice M.an 0 M.cn) (.slice M.al 0 M.cl) (.slice M.gj 0 M.hj) (.slice M.gn 0 M.hn) (.slice M.gl 1 M.hl), ownD_put8 o z (.int .i64 4) (.int .i64 9) (.slice M.aj 0 M.cj) (.slice M.an 0 M.cn) (.slice M.al 0 M.cl) (.slice M.gj 0 M.hj) (.slice M.gn 0 M.hn) (.slice M.gl 1 M.hl), below_put8 b hK (.int .i64 4) (.int .i64 9) (.slice M.aj 0 M.cj) (.slice M.an 0 M.cn) (.slice M.al 0 M.cl) (.slice M.gj 0 M.hj) (.slice M.gn 0 M.hn) (.slice M.gl 1 M.hl)⟩
theorem dd_new {H : Nat} {w v : World} {M : DlM} (o : OwnD H M ⟨4, 9, [], [], [], [], [], [⟨#[97]⟩]⟩ v) (b : Below H w v) (hs : H ≤ v.heap.size) : DdRel H w (.pointer (some ⟨v.heap.size, 0, none⟩)) (.int .i64 0) (v.alloc (.cells #[.int .i64 4, .int .i64 9, .slice M.aj 0 M.cj, .slice M.an 0 M.cn, .slice M.al 0 M.cl, .slice M.gj 0 M.hj, .slice M.gn 0 M.hn, .slice M.gl 1 M.hl] 29)) :=
  ⟨_, M, rfl, rfl, objAt_new _ _ _, ownD_next o (below_one _ _), below_trans b (below_one _ _) hs⟩
set_option maxRecDepth 100000 in
set_option maxHeartbeats 4000000 in
theorem differed_is (w : World) (hT : Tabs w) : Calls Tryz.prog 15 #[] w fun e w' => e = .returned (.bool true) ∧ Below w.heap.size w w' := by
  have C1 := Lib.hid (sample_own w)
  obtain ⟨H, hH⟩ : ∃ H, w.heap.size = H := ⟨_, rfl⟩
  rw [hH] at C1 ⊢
  have HT := Lib.hid hT
  clear hT
  go_enter Tryz.func15, Tryz.ntmps15
  go_wp2_with fail
  refine C1.out.mono ?_
  rintro e w1 ⟨aj, an, al, cj, cn, cl, rfl, O1, b1⟩
  obtain ⟨N, hN⟩ : ∃ N, w1.heap.size = N := ⟨_, rfl⟩
  have bN : H ≤ N := by have := b1.size; omega
  obtain ⟨W2, hW2⟩ : ∃ W, w1.alloc (.cells #[.int .i64 9, .slice aj sampleJ.length cj, .slice an sampleN.length cn, .slice none 0 0] 26) = W := ⟨_, rfl⟩
  have bA : Below w1.heap.size w1 W2 := by rw [← hW2]; exact below_one _ _
  have oN2 : ObjAt N #[.int .i64 9, .slice aj sampleJ.length cj, .slice an sampleN.length cn, .slice none 0 0] 26 W2 := by rw [← hW2, ← hN]; exact objAt_new w1 _ _
  have O1' := ownS_next O1 bA
  have B2 := below_trans b1 bA (by omega)
  have OJ := O1'.1
  have ON := O1'.2.1
  have D0 : Hid (DsAt N H aj an cj cn w W2) := (show DsAt _ _ _ _ _ _ _ _ from ⟨oN2, B2, bN, ownJobs OJ rfl, ownNodes ON rfl⟩)
  have h0 := objAt_cell oN2 0 rfl
  have h1 := objAt_cell oN2 1 rfl
  have h2 := objAt_cell oN2 2 rfl
  have h3 := objAt_cell oN2 3 rfl
  have hl := objAt_lt oN2
  have HW2 := Lib.hid hW2
  have HC := Lib.hid sample_own
  clear C1 O1 O1' b1 bA oN2 B2 OJ ON bN hW2
  go_upto_region 4 with fail
  rw [HW2.out]
  go_cut [2, 3] from 13 (fun p e wc => DdRel H w p e wc)
  case first =>
    go_region_law (first
      | (go_simp; go_at_call 59; (with_reducible refine (HC.out _).mono ?_); rintro e x1_ ⟨ja, na, la, jc, nc, lc, rfl, OA, b3⟩; have D3 := Lib.hid (ds_next (by first | exact ds_drew D0.out | exact ds_drew (ds_next D0.out (below_one _ _))) b3); have C3 := Lib.hid (fun V (bv : Below x1_.heap.size x1_ V) => samp_call ja na la jc nc lc aj an cj cn V (HT.out.below (by rw [hH]; exact (ds_next D3.out bv).2.1)) ⟨jobsAt_next (ownS_at OA).1 bv, nodesAt_next (ownS_at OA).2.1 bv, leasesAt_next (ownS_at OA).2.2 bv⟩ ⟨(ds_next D3.out bv).2.2.2.1, (ds_next D3.out bv).2.2.2.2⟩); have u0 := objAt_cell D3.out.1 0 rfl; have u1 := objAt_cell D3.out.1 1 rfl; have u2 := objAt_cell D3.out.1 2 rfl; have u3 := objAt_cell D3.out.1 3 rfl; have ul := objAt_lt D3.out.1; (first | (have Z3 : Hid (ObjAt W2.heap.size #[.int .i64 0, .int .i64 0, .slice none 0 0, .slice none 0 0, .slice none 0 0, .slice none 0 0, .slice none 0 0, .slice none 0 0] 29 x1_) := objAt_next (w := (W2.alloc (.cells #[.int .i64 0, .int .i64 0, .slice none 0 0, .slice none 0 0, .slice none 0 0, .slice none 0 0, .slice none 0 0, .slice none 0 0] 29)).drew) (objAt_new W2 #[.int .i64 0, .int .i64 0, .slice none 0 0, .slice none 0 0, .slice none 0 0, .slice none 0 0, .slice none 0 0, .slice none 0 0] 29) b3) | skip); clear OA b3)
      | (go_simp; go_at_call 8; (first | (with_reducible refine (C3.out x1_ (Below.refl _ _)).mono ?_) | (with_reducible refine (C3.out _ (below_one _ _)).mono ?_)); rintro e x2_ ⟨M, rfl, OB, b4⟩; have D4 := Lib.hid (ds_next (by first | exact D3.out | exact ds_next D3.out (below_one _ _)) b4); have OB4 := Lib.hid (ownD_low (B' := H) OB (by first | exact ds_size D3.out | exact ds_size (ds_next D3.out (below_one _ _)))); (first | (have Z4 := objAt_next Z3.out b4; have k0 := objAt_cell Z4 0 rfl; have f0 := objAt_free Z4 0; have k1 := objAt_cell Z4 1 rfl; have f1 := objAt_free Z4 1; have k2 := objAt_cell Z4 2 rfl; have f2 := objAt_free Z4 2; have k3 := objAt_cell Z4 3 rfl; have f3 := objAt_free Z4 3; have k4 := objAt_cell Z4 4 rfl; have f4 := objAt_free Z4 4; have k5 := objAt_cell Z4 5 rfl; have f5 := objAt_free Z4 5; have k6 := objAt_cell Z4 6 rfl; have f6 := objAt_free Z4 6; have k7 := objAt_cell Z4 7 rfl; have f7 := objAt_free Z4 7; have kl := objAt_lt Z4; have ZL := Lib.hid (ds_size D0.out); have Z4 := Lib.hid Z4) | (have Z4 := objAt_next (objAt_new x1_ #[.int .i64 0, .int .i64 0, .slice none 0 0, .slice none 0 0, .slice none 0 0, .slice none 0 0, .slice none 0 0, .slice none 0 0] 29) b4; have k0 := objAt_cell Z4 0 rfl; have f0 := objAt_free Z4 0; have k1 := objAt_cell Z4 1 rfl; have f1 := objAt_free Z4 1; have k2 := objAt_cell Z4 2 rfl; have f2 := objAt_free Z4 2; have k3 := objAt_cell Z4 3 rfl; have f3 := objAt_free Z4 3; have k4 := objAt_cell Z4 4 rfl; have f4 := objAt_free Z4 4; have k5 := objAt_cell Z4 5 rfl; have f5 := objAt_free Z4 5; have k6 := objAt_cell Z4 6 rfl; have f6 := objAt_free Z4 6; have k7 := objAt_cell Z4 7 rfl; have f7 := objAt_free Z4 7; have kl := objAt_lt Z4; have ZL := Lib.hid (ds_size D3.out); have Z4 := Lib.hid Z4) | skip); clear OB b4))
    all_goals
      go_wp2_with fail
      go_meet
      case rel =>
        first
          | (have R := dd_put Z4.out OB4.out D4.out.2.1 ZL.out; with_reducible exact R)
          | (have R := dd_new OB4.out D4.out.2.1 (ds_size D4.out); with_reducible exact R)
  case rest =>
    obtain ⟨L, M, rfl, rfl, oD, OD, B⟩ := hcut
    have m0 := objAt_cell oD 0 rfl
    have m1 := objAt_cell oD 1 rfl
    have m2 := objAt_cell oD 2 rfl
    have m7 := objAt_cell oD 7 rfl
    have ml := objAt_lt oD
    have bA := below_one wc (.cells #[.string ⟨#[97]⟩] 9)
    have oA := objAt_new wc #[.string ⟨#[97]⟩] 9
    have sz : H ≤ wc.heap.size := by have := B.size; omega
    have CE := Lib.hid (eqNms_is [⟨#[97]⟩] [⟨#[97]⟩] M.gl (some ⟨wc.heap.size, 0, none⟩) M.hl 1 (by simp) (wc.alloc (.cells #[.string ⟨#[97]⟩] 9)) (nmsAt_next (ownD_at OD).2.2.2 bA) (fun i hi => ⟨_, rfl, objAt_lt oA, by
      have : i = 0 := by simp at hi; exact hi
      subst this
      exact objAt_cell oA 0 rfl⟩))
    have P := Lib.hid (And.intro oD (And.intro B (And.intro bA sz)))
    clear oD OD B bA oA sz
    go_wp2_with fail
    refine CE.out.mono ?_
    rintro e w5 ⟨c, rfl, hc, b5⟩
    obtain rfl : c = true := hc.2 (by first | rfl | trivial)
    obtain ⟨oD, B, bA, sz⟩ := P.out
    have B5 := Lib.hid (below_trans (below_trans B bA sz) b5 (by simp; omega))
    have k2 := objAt_cell (objAt_next (objAt_next oD bA) b5) 2 rfl
    clear oD B bA sz b5 hc m0 m1 m2 m7 ml
    go_wp2
    go_ret
    exact ⟨rfl, B5.out⟩
end Go.Proofs.YthfbjmjohmkfjaaGreatDoor
