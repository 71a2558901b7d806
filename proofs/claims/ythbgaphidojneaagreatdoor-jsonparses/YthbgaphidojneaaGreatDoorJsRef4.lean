/- The reference's function literal that reads a state's JSON form. -/
import Derived.Test.YthbgaphidojneaaGreatDoorJsRef3
namespace Go.Proofs.YthbgaphidojneaaGreatDoor
open Go.RowKit

set_option maxRecDepth 100000 in
set_option maxHeartbeats 16000000 in
theorem jbody_is {b c : Nat} {l : List UInt8} (hl : l.length ≤ 60000) (w : World) (h : SxAt b l w) (hS : ObjAt c #[.int .i64 0, .slice none 0 0, .slice none 0 0, .slice none 0 0] 26 w) (hne : b ≠ c) :
    Calls Tryz.prog 19 #[.pointer (some ⟨b, 0, none⟩), .pointer (some ⟨c, 0, none⟩)] w (BdPost b c l w) := by
  obtain ⟨i0, z0, z1, z2, z3⟩ := info_parts' Tryz.info_job
  have I00 := Lib.hid z0
  have I01 := Lib.hid z1
  have I02 := Lib.hid z2
  have I03 := Lib.hid z3
  clear z0 z1 z2 z3
  obtain ⟨i1, z0, z1, z2, z3⟩ := info_parts' Tryz.info_node
  have I10 := Lib.hid z0
  have I11 := Lib.hid z1
  have I12 := Lib.hid z2
  have I13 := Lib.hid z3
  clear z0 z1 z2 z3
  obtain ⟨i2, z0, z1, z2, z3⟩ := info_parts' Tryz.info_lease
  have I20 := Lib.hid z0
  have I21 := Lib.hid z1
  have I22 := Lib.hid z2
  have I23 := Lib.hid z3
  clear z0 z1 z2 z3
  have HH : Hid (Hold b c l 0 [] [] [] (.slice none 0 0) (.slice none 0 0) (.slice none 0 0) w w) := ⟨objAt_lt h, objAt_lt hS, hne, h, jk_refl b c w, hS, World.ownsRow_nil _ _ _ _, World.ownsRow_nil _ _ _ _, World.ownsRow_nil _ _ _ _⟩
  have hL := Lib.hid hl
  clear h hS hl hne
  go_enter Tryz.func19, Tryz.ntmps19
  have HC := Lib.hid (sxMust_is [123, 34, 114, 101, 118, 34, 58] w HH.out.sx)
  go_wp2_with fail
  refine HC.out.mono ?_
  rintro e wa ⟨g, ⟨rfl, ev, he⟩ | ⟨u, la, ha, rfl, s⟩⟩
  · have HB := Lib.hid (hold_throw (l := l) HH.out g (⟨ev, by rw [stP_parts]; exact bindD_err he⟩))
    unfold thrown
    clear he g
    go_wp2
    exact ⟨rfl, HB.out⟩
  have HA := Lib.hid ha
  have HH1 := Lib.hid (hold_sx HH.out g s)
  have L1 := shr_lit _ _ l u la ha
  clear ha g s HC HH
  have HC := Lib.hid (sxDig_is (by have := hL.out; omega) wa HH1.out.sx)
  go_wp2_with fail
  refine HC.out.mono ?_
  rintro e wb ⟨g, ⟨rfl, ev, he⟩ | ⟨r, lb, hb, rfl, s⟩⟩
  · have HB := Lib.hid (hold_throw (l := l) HH1.out g (⟨ev, by rw [stP_parts, bindD_ok HA.out]; exact bindD_err he⟩))
    unfold thrown
    clear he g
    go_wp2
    exact ⟨rfl, HB.out⟩
  have HB := Lib.hid hb
  have HH2 := Lib.hid (hold_sx HH1.out g s)
  have L2 := shr_dig la r lb hb
  have HH3 := Lib.hid (hold_rev HH2.out r)
  have c0 := objAt_cell HH2.out.obj 0 rfl
  have f0 := objAt_free HH2.out.obj 0
  have t0 := objAt_lt HH2.out.obj
  clear hb g s HC HH1
  have HC := Lib.hid (sxMust_is [44, 34, 106, 111, 98, 115, 34, 58, 91] _ HH3.out.sx)
  go_wp2_with fail
  refine HC.out.mono ?_
  rintro e wz ⟨g, ⟨rfl, ev, he⟩ | ⟨u, lz, hz, rfl, s⟩⟩
  · have HB := Lib.hid (hold_throw (l := l) HH3.out g (⟨ev, by rw [stP_parts, bindD_ok HA.out, bindD_ok HB.out]; exact bindD_err he⟩))
    unfold thrown
    clear he g
    go_wp2
    exact ⟨rfl, HB.out⟩
  have P0 : Hid (stP l = (bindD (rowsJ jobP) (st1 r)) lz) := by show _ = _; rw [stP_parts, bindD_ok HA.out, bindD_ok HB.out, bindD_ok hz]
  have HZ := Lib.hid (hold_sx HH3.out g s)
  have L3 := shr_lit _ _ lb u lz hz
  have lz60 : lz.length ≤ 60000 := by have := hL.out; omega
  clear hz g s HC HH2 HH3 HA HB c0 f0 t0 L1 L2 L3 hL
  go_wp2
  go_loopw [3] (fun iv wr => ∃ (js : List JobD) (li : List UInt8) (y : Value), iv = .int .i64 (js.length : Int) ∧ Hold b c li r js [] [] y (.slice none 0 0) (.slice none 0 0) w wr ∧ js.length + li.length ≤ 60000 ∧ Hid (rowsJ jobP lz = rowsAt jobP (decide (js.length = 0)) js li)) (fun _ wr => sxLen wr b)
  case atStart => exact ⟨[], lz, _, rfl, HZ.out, by simpa using lz60, rfl⟩
  case round =>
    clear HZ lz60
    obtain ⟨js, li, y, rfl, hh, hlen, HG⟩ := hrel
    have HH := Lib.hid hh
    have HM := Lib.hid (sxLen_of hh.sx)
    have SK := Lib.hid (sxSkip_is [93] wr hh.sx)
    clear hh
    go_wp2_with fail
    refine SK.out.mono ?_
    rintro e w1 ⟨cc, rfl, g, ⟨rfl, hq, s⟩ | ⟨rfl, hq, s⟩⟩
    rotate_left
    · have HR := Lib.hid (jrows_in shr_job HG.out hq)
      have H1 := Lib.hid (hold_sx HH.out g s)
      clear hq g s SK HH HG
      have HC := Lib.hid (sxComma_is js.length w1 H1.out.sx)
      go_wp2_with fail
      refine HC.out.mono ?_
      rintro e w2 ⟨g, ⟨rfl, ev, he⟩ | ⟨u, lc, hc, rfl, s⟩⟩
      · have HB := Lib.hid (hold_throw (l := l) H1.out g (⟨ev, P0.out.trans (bindD_err (HR.out.trans (bindD_err he)))⟩))
        unfold thrown
        clear he g
        go_wp2
        exact ⟨rfl, HB.out⟩
      have HR2 := Lib.hid (HR.out.trans (bindD_ok hc))
      have hlc := jrows_cm hc
      have H2 := Lib.hid (holdJ_new (hold_sx H1.out g s) #[.string ⟨#[]⟩, .int .i64 0, .int .i64 0, .int .i64 0, .string ⟨#[]⟩] 51)
      clear hc g s HC H1 HR
      have HC := Lib.hid (sxMust_is [123, 34, 110, 97, 109, 101, 34, 58] _ H2.out.hold.sx)
      go_wp2_with fail
      refine HC.out.mono ?_
      rintro e wm1 ⟨g, ⟨rfl, ev, he⟩ | ⟨um1, lm1, hm1, rfl, s⟩⟩
      · have HB := Lib.hid (hold_throw (l := l) H2.out.hold g (⟨ev, P0.out.trans (bindD_err (HR2.out.trans (bindD_err (by unfold jobP; rw [bindD_err he]))))⟩))
        unfold thrown
        clear he g
        go_wp2
        exact ⟨rfl, HB.out⟩
      have Km1 := Lib.hid hm1
      have Sm1 := shr_lit _ _ lc um1 lm1 hm1
      have H2' := Lib.hid (holdJ_sx H2.out g s)
      clear hm1 g s HC H2
      have HC := Lib.hid (sxQuo_is (by omega) _ H2'.out.hold.sx)
      go_wp2_with fail
      refine HC.out.mono ?_
      rintro e wm2 ⟨g, ⟨rfl, ev, he⟩ | ⟨x0, lm2, hm2, rfl, s⟩⟩
      · have HB := Lib.hid (hold_throw (l := l) H2'.out.hold g (⟨ev, P0.out.trans (bindD_err (HR2.out.trans (bindD_err (by unfold jobP; rw [bindD_ok Km1.out, bindD_err he]))))⟩))
        unfold thrown
        clear he g
        go_wp2
        exact ⟨rfl, HB.out⟩
      have Km2 := Lib.hid hm2
      have Sm2 := shr_quoB lm1 x0 lm2 hm2
      have H3 := Lib.hid (holdJ_sx H2'.out g s)
      have q0 := objAt_cell H3.out.job 0 rfl
      have q1 := objAt_free H3.out.job 0
      have q2 := objAt_lt H3.out.job
      have H2 : Hid (HoldJ _ #[.string x0, .int .i64 0, .int .i64 0, .int .i64 0, .string ⟨#[]⟩] 51 b c lm2 r js [] [] y (.slice none 0 0) (.slice none 0 0) w _) := holdJ_set H3.out 0 (.string x0)
      clear hm2 g s HC H2' H3
      have HC := Lib.hid (sxMust_is [44, 34, 112, 114, 105, 111, 34, 58] _ H2.out.hold.sx)
      go_wp2_with fail
      refine HC.out.mono ?_
      rintro e wm3 ⟨g, ⟨rfl, ev, he⟩ | ⟨um3, lm3, hm3, rfl, s⟩⟩
      · have HB := Lib.hid (hold_throw (l := l) H2.out.hold g (⟨ev, P0.out.trans (bindD_err (HR2.out.trans (bindD_err (by unfold jobP; rw [bindD_ok Km1.out, bindD_ok Km2.out, bindD_err he]))))⟩))
        unfold thrown
        clear he g
        go_wp2
        exact ⟨rfl, HB.out⟩
      have Km3 := Lib.hid hm3
      have Sm3 := shr_lit _ _ lm2 um3 lm3 hm3
      have H2' := Lib.hid (holdJ_sx H2.out g s)
      clear hm3 g s HC H2
      have HC := Lib.hid (sxDig_is (by omega) _ H2'.out.hold.sx)
      go_wp2_with fail
      refine HC.out.mono ?_
      rintro e wm4 ⟨g, ⟨rfl, ev, he⟩ | ⟨x1, lm4, hm4, rfl, s⟩⟩
      · have HB := Lib.hid (hold_throw (l := l) H2'.out.hold g (⟨ev, P0.out.trans (bindD_err (HR2.out.trans (bindD_err (by unfold jobP; rw [bindD_ok Km1.out, bindD_ok Km2.out, bindD_ok Km3.out, bindD_err he]))))⟩))
        unfold thrown
        clear he g
        go_wp2
        exact ⟨rfl, HB.out⟩
      have Km4 := Lib.hid hm4
      have Sm4 := shr_dig lm3 x1 lm4 hm4
      have H3 := Lib.hid (holdJ_sx H2'.out g s)
      have q0 := objAt_cell H3.out.job 1 rfl
      have q1 := objAt_free H3.out.job 1
      have q2 := objAt_lt H3.out.job
      have H2 : Hid (HoldJ _ #[.string x0, .int .i64 x1, .int .i64 0, .int .i64 0, .string ⟨#[]⟩] 51 b c lm4 r js [] [] y (.slice none 0 0) (.slice none 0 0) w _) := holdJ_set H3.out 1 (.int .i64 x1)
      clear hm4 g s HC H2' H3
      have HC := Lib.hid (sxMust_is [44, 34, 110, 101, 101, 100, 34, 58] _ H2.out.hold.sx)
      go_wp2_with fail
      refine HC.out.mono ?_
      rintro e wm5 ⟨g, ⟨rfl, ev, he⟩ | ⟨um5, lm5, hm5, rfl, s⟩⟩
      · have HB := Lib.hid (hold_throw (l := l) H2.out.hold g (⟨ev, P0.out.trans (bindD_err (HR2.out.trans (bindD_err (by unfold jobP; rw [bindD_ok Km1.out, bindD_ok Km2.out, bindD_ok Km3.out, bindD_ok Km4.out, bindD_err he]))))⟩))
        unfold thrown
        clear he g
        go_wp2
        exact ⟨rfl, HB.out⟩
      have Km5 := Lib.hid hm5
      have Sm5 := shr_lit _ _ lm4 um5 lm5 hm5
      have H2' := Lib.hid (holdJ_sx H2.out g s)
      clear hm5 g s HC H2
      have HC := Lib.hid (sxDig_is (by omega) _ H2'.out.hold.sx)
      go_wp2_with fail
      refine HC.out.mono ?_
      rintro e wm6 ⟨g, ⟨rfl, ev, he⟩ | ⟨x2, lm6, hm6, rfl, s⟩⟩
      · have HB := Lib.hid (hold_throw (l := l) H2'.out.hold g (⟨ev, P0.out.trans (bindD_err (HR2.out.trans (bindD_err (by unfold jobP; rw [bindD_ok Km1.out, bindD_ok Km2.out, bindD_ok Km3.out, bindD_ok Km4.out, bindD_ok Km5.out, bindD_err he]))))⟩))
        unfold thrown
        clear he g
        go_wp2
        exact ⟨rfl, HB.out⟩
      have Km6 := Lib.hid hm6
      have Sm6 := shr_dig lm5 x2 lm6 hm6
      have H3 := Lib.hid (holdJ_sx H2'.out g s)
      have q0 := objAt_cell H3.out.job 2 rfl
      have q1 := objAt_free H3.out.job 2
      have q2 := objAt_lt H3.out.job
      have H2 : Hid (HoldJ _ #[.string x0, .int .i64 x1, .int .i64 x2, .int .i64 0, .string ⟨#[]⟩] 51 b c lm6 r js [] [] y (.slice none 0 0) (.slice none 0 0) w _) := holdJ_set H3.out 2 (.int .i64 x2)
      clear hm6 g s HC H2' H3
      have HC := Lib.hid (sxMust_is [44, 34, 116, 114, 105, 101, 115, 34, 58] _ H2.out.hold.sx)
      go_wp2_with fail
      refine HC.out.mono ?_
      rintro e wm7 ⟨g, ⟨rfl, ev, he⟩ | ⟨um7, lm7, hm7, rfl, s⟩⟩
      · have HB := Lib.hid (hold_throw (l := l) H2.out.hold g (⟨ev, P0.out.trans (bindD_err (HR2.out.trans (bindD_err (by unfold jobP; rw [bindD_ok Km1.out, bindD_ok Km2.out, bindD_ok Km3.out, bindD_ok Km4.out, bindD_ok Km5.out, bindD_ok Km6.out, bindD_err he]))))⟩))
        unfold thrown
        clear he g
        go_wp2
        exact ⟨rfl, HB.out⟩
      have Km7 := Lib.hid hm7
      have Sm7 := shr_lit _ _ lm6 um7 lm7 hm7
      have H2' := Lib.hid (holdJ_sx H2.out g s)
      clear hm7 g s HC H2
      have HC := Lib.hid (sxDig_is (by omega) _ H2'.out.hold.sx)
      go_wp2_with fail
      refine HC.out.mono ?_
      rintro e wm8 ⟨g, ⟨rfl, ev, he⟩ | ⟨x3, lm8, hm8, rfl, s⟩⟩
      · have HB := Lib.hid (hold_throw (l := l) H2'.out.hold g (⟨ev, P0.out.trans (bindD_err (HR2.out.trans (bindD_err (by unfold jobP; rw [bindD_ok Km1.out, bindD_ok Km2.out, bindD_ok Km3.out, bindD_ok Km4.out, bindD_ok Km5.out, bindD_ok Km6.out, bindD_ok Km7.out, bindD_err he]))))⟩))
        unfold thrown
        clear he g
        go_wp2
        exact ⟨rfl, HB.out⟩
      have Km8 := Lib.hid hm8
      have Sm8 := shr_dig lm7 x3 lm8 hm8
      have H3 := Lib.hid (holdJ_sx H2'.out g s)
      have q0 := objAt_cell H3.out.job 3 rfl
      have q1 := objAt_free H3.out.job 3
      have q2 := objAt_lt H3.out.job
      have H2 : Hid (HoldJ _ #[.string x0, .int .i64 x1, .int .i64 x2, .int .i64 x3, .string ⟨#[]⟩] 51 b c lm8 r js [] [] y (.slice none 0 0) (.slice none 0 0) w _) := holdJ_set H3.out 3 (.int .i64 x3)
      clear hm8 g s HC H2' H3
      have HC := Lib.hid (sxMust_is [44, 34, 116, 97, 103, 34, 58] _ H2.out.hold.sx)
      go_wp2_with fail
      refine HC.out.mono ?_
      rintro e wm9 ⟨g, ⟨rfl, ev, he⟩ | ⟨um9, lm9, hm9, rfl, s⟩⟩
      · have HB := Lib.hid (hold_throw (l := l) H2.out.hold g (⟨ev, P0.out.trans (bindD_err (HR2.out.trans (bindD_err (by unfold jobP; rw [bindD_ok Km1.out, bindD_ok Km2.out, bindD_ok Km3.out, bindD_ok Km4.out, bindD_ok Km5.out, bindD_ok Km6.out, bindD_ok Km7.out, bindD_ok Km8.out, bindD_err he]))))⟩))
        unfold thrown
        clear he g
        go_wp2
        exact ⟨rfl, HB.out⟩
      have Km9 := Lib.hid hm9
      have Sm9 := shr_lit _ _ lm8 um9 lm9 hm9
      have H2' := Lib.hid (holdJ_sx H2.out g s)
      clear hm9 g s HC H2
      have HC := Lib.hid (sxQuo_is (by omega) _ H2'.out.hold.sx)
      go_wp2_with fail
      refine HC.out.mono ?_
      rintro e wm10 ⟨g, ⟨rfl, ev, he⟩ | ⟨x4, lm10, hm10, rfl, s⟩⟩
      · have HB := Lib.hid (hold_throw (l := l) H2'.out.hold g (⟨ev, P0.out.trans (bindD_err (HR2.out.trans (bindD_err (by unfold jobP; rw [bindD_ok Km1.out, bindD_ok Km2.out, bindD_ok Km3.out, bindD_ok Km4.out, bindD_ok Km5.out, bindD_ok Km6.out, bindD_ok Km7.out, bindD_ok Km8.out, bindD_ok Km9.out, bindD_err he]))))⟩))
        unfold thrown
        clear he g
        go_wp2
        exact ⟨rfl, HB.out⟩
      have Km10 := Lib.hid hm10
      have Sm10 := shr_quoB lm9 x4 lm10 hm10
      have H3 := Lib.hid (holdJ_sx H2'.out g s)
      have q0 := objAt_cell H3.out.job 4 rfl
      have q1 := objAt_free H3.out.job 4
      have q2 := objAt_lt H3.out.job
      have H2 : Hid (HoldJ _ #[.string x0, .int .i64 x1, .int .i64 x2, .int .i64 x3, .string x4] 51 b c lm10 r js [] [] y (.slice none 0 0) (.slice none 0 0) w _) := holdJ_set H3.out 4 (.string x4)
      clear hm10 g s HC H2' H3
      have HC := Lib.hid (sxMust_is [125] _ H2.out.hold.sx)
      go_wp2_with fail
      refine HC.out.mono ?_
      rintro e wy ⟨g, ⟨rfl, ev, he⟩ | ⟨uy, ly, hy, rfl, s⟩⟩
      · have HB := Lib.hid (hold_throw (l := l) H2.out.hold g (⟨ev, P0.out.trans (bindD_err (HR2.out.trans (bindD_err (by unfold jobP; rw [bindD_ok Km1.out, bindD_ok Km2.out, bindD_ok Km3.out, bindD_ok Km4.out, bindD_ok Km5.out, bindD_ok Km6.out, bindD_ok Km7.out, bindD_ok Km8.out, bindD_ok Km9.out, bindD_ok Km10.out, bindD_err he]))))⟩))
        unfold thrown
        clear he g
        go_wp2
        exact ⟨rfl, HB.out⟩
      have hrow : jobP lc = .inr (⟨x0, x1, x2, x3, x4⟩, ly) := by unfold jobP; rw [bindD_ok Km1.out, bindD_ok Km2.out, bindD_ok Km3.out, bindD_ok Km4.out, bindD_ok Km5.out, bindD_ok Km6.out, bindD_ok Km7.out, bindD_ok Km8.out, bindD_ok Km9.out, bindD_ok Km10.out, bindD_ok hy]; rfl
      have HR3 := Lib.hid (jrows_on HR2.out hrow)
      have Sy := shr_lit _ _ lm10 uy ly hy
      have H4 := Lib.hid (holdJ_sx H2.out g s)
      have e0 := objAt_cell H4.out.job 0 rfl
      have e1 := objAt_cell H4.out.job 1 rfl
      have e2 := objAt_cell H4.out.job 2 rfl
      have e3 := objAt_cell H4.out.job 3 rfl
      have e4 := objAt_cell H4.out.job 4 rfl
      have ej := objAt_lt H4.out.job
      have d1 := objAt_cell H4.out.hold.obj 1 rfl
      have own1 := H4.out.hold.o1
      have sz1 := H4.out.hold.keep.size
      clear hy g s HC H2 hrow HR2 Km1 Km2 Km3 Km4 Km5 Km6 Km7 Km8 Km9 Km10 q0 q1 q2
      go_wp2_with (at_builtin; refine wpList_append_own _ rfl _ _ 22 rfl w.heap.size 51 i0 _ 5 56 Tryz.underlying22 I00.out I01.out I02.out I03.out rfl (by decide) _ _ _ rfl (own1.alloc _) ⟨wy.heap.size, 0, none⟩ 1 1 (cJob (⟨x0, x1, x2, x3, x4⟩ : JobD)) rfl rfl ?c1 ?c2 ?c3 ?c4 ?c5 ?_)
      case c1 => exact job_new wy (⟨x0, x1, x2, x3, x4⟩ : JobD) _
      case c2 => exact job_ones (⟨x0, x1, x2, x3, x4⟩ : JobD)
      case c3 => unfold maxLen; omega
      case c4 => omega
      case c5 => simp; omega
      intro v2 w9 own2 hg2 _
      obtain ⟨ad2, cap2, rfl⟩ := ownRow_slice own2
      have H5 : Hid (Hold b c ly r (js ++ [(⟨x0, x1, x2, x3, x4⟩ : JobD)]) [] [] (.slice ad2 (js.length + 1) cap2) (.slice none 0 0) (.slice none 0 0) w (w9.setCell ⟨c, 1, none⟩ (.slice ad2 (js.length + 1) cap2))) := hold_app1 (hold_alloc H4.out.hold _) own2 hg2
      have oc := jobj_app (objAt_next H4.out.hold.obj (below_one _ _)) (own1.alloc _) H4.out.hold.lc hg2
      have d2 := objAt_cell oc 1 rfl
      have d3 := objAt_free oc 1
      have d4 := objAt_lt oc
      have HM5 := Lib.hid (sxLen_of H5.out.sx)
      clear own2 hg2 own1 oc H4
      go_wp2
      go_roundw
      case rel => exact ⟨_, ly, _, by first | (simp; done) | go_num | (rw [List.length_append]; simp), H5.out, by rw [List.length_append]; show _ + 1 + _ ≤ _; omega, HR3.out⟩
      case measure => rw [HM5.out, HM.out]; omega
    have R0 := Lib.hid (jrows_out HG.out hq)
    have HW := Lib.hid (hold_sx HH.out g s)
    have hw60 : (li.drop 1).length ≤ 60000 := by rw [List.length_drop]; omega
    have PR := Lib.hid (P0.out.trans (bindD_ok R0.out))
    obtain ⟨xs0, hx⟩ : ∃ z, z = js := ⟨_, rfl⟩
    obtain ⟨lw, hlw⟩ : ∃ z, z = li.drop 1 := ⟨_, rfl⟩
    obtain ⟨Y0, hY⟩ : ∃ z, z = y := ⟨_, rfl⟩
    have HW : Hid (Hold b c lw r xs0 [] [] Y0 (.slice none 0 0) (.slice none 0 0) w w1) := by rw [hx, hlw, hY]; exact HW
    rw [← hx, ← hlw] at PR
    rw [← hlw] at hw60
    clear hx hlw hY R0 hq g s HH HG SK HM hlen P0
    have HC := Lib.hid (sxMust_is [44, 34, 110, 111, 100, 101, 115, 34, 58, 91] _ HW.out.sx)
    go_wp2_with fail
    refine HC.out.mono ?_
    rintro e wv ⟨g, ⟨rfl, ev, he⟩ | ⟨u, lz, hz, rfl, s⟩⟩
    · have HB := Lib.hid (hold_throw (l := l) HW.out g (⟨ev, PR.out.trans (by unfold st1; exact bindD_err he)⟩))
      unfold thrown
      clear he g
      go_wp2
      exact ⟨rfl, HB.out⟩
    have P0 : Hid (stP l = (bindD (rowsJ nodeP) (st2 r xs0)) lz) := by show _ = _; rw [PR.out]; unfold st1; rw [bindD_ok hz]
    have HZ := Lib.hid (hold_sx HW.out g s)
    have lz60 : lz.length ≤ 60000 := by have := shr_lit _ _ lw u lz hz; omega
    clear hz g s HC HW PR hw60
    go_wp2
    go_loopw [5] (fun iv wr => ∃ (ns : List NodeD) (li : List UInt8) (y : Value), iv = .int .i64 (ns.length : Int) ∧ Hold b c li r xs0 ns [] Y0 y (.slice none 0 0) w wr ∧ ns.length + li.length ≤ 60000 ∧ Hid (rowsJ nodeP lz = rowsAt nodeP (decide (ns.length = 0)) ns li)) (fun _ wr => sxLen wr b)
    case atStart => exact ⟨[], lz, _, rfl, HZ.out, by simpa using lz60, rfl⟩
    case round =>
      clear HZ lz60
      obtain ⟨ns, li, y, rfl, hh, hlen, HG⟩ := hrel
      have HH := Lib.hid hh
      have HM := Lib.hid (sxLen_of hh.sx)
      have SK := Lib.hid (sxSkip_is [93] wr hh.sx)
      clear hh
      go_wp2_with fail
      refine SK.out.mono ?_
      rintro e w1 ⟨cc, rfl, g, ⟨rfl, hq, s⟩ | ⟨rfl, hq, s⟩⟩
      rotate_left
      · have HR := Lib.hid (jrows_in shr_node HG.out hq)
        have H1 := Lib.hid (hold_sx HH.out g s)
        clear hq g s SK HH HG
        have HC := Lib.hid (sxComma_is ns.length w1 H1.out.sx)
        go_wp2_with fail
        refine HC.out.mono ?_
        rintro e w2 ⟨g, ⟨rfl, ev, he⟩ | ⟨u, lc, hc, rfl, s⟩⟩
        · have HB := Lib.hid (hold_throw (l := l) H1.out g (⟨ev, P0.out.trans (bindD_err (HR.out.trans (bindD_err he)))⟩))
          unfold thrown
          clear he g
          go_wp2
          exact ⟨rfl, HB.out⟩
        have HR2 := Lib.hid (HR.out.trans (bindD_ok hc))
        have hlc := jrows_cm hc
        have H2 := Lib.hid (holdJ_new (hold_sx H1.out g s) #[.string ⟨#[]⟩, .int .i64 0, .string ⟨#[]⟩] 54)
        clear hc g s HC H1 HR
        have HC := Lib.hid (sxMust_is [123, 34, 110, 97, 109, 101, 34, 58] _ H2.out.hold.sx)
        go_wp2_with fail
        refine HC.out.mono ?_
        rintro e wm1 ⟨g, ⟨rfl, ev, he⟩ | ⟨um1, lm1, hm1, rfl, s⟩⟩
        · have HB := Lib.hid (hold_throw (l := l) H2.out.hold g (⟨ev, P0.out.trans (bindD_err (HR2.out.trans (bindD_err (by unfold nodeP; rw [bindD_err he]))))⟩))
          unfold thrown
          clear he g
          go_wp2
          exact ⟨rfl, HB.out⟩
        have Km1 := Lib.hid hm1
        have Sm1 := shr_lit _ _ lc um1 lm1 hm1
        have H2' := Lib.hid (holdJ_sx H2.out g s)
        clear hm1 g s HC H2
        have HC := Lib.hid (sxQuo_is (by omega) _ H2'.out.hold.sx)
        go_wp2_with fail
        refine HC.out.mono ?_
        rintro e wm2 ⟨g, ⟨rfl, ev, he⟩ | ⟨x0, lm2, hm2, rfl, s⟩⟩
        · have HB := Lib.hid (hold_throw (l := l) H2'.out.hold g (⟨ev, P0.out.trans (bindD_err (HR2.out.trans (bindD_err (by unfold nodeP; rw [bindD_ok Km1.out, bindD_err he]))))⟩))
          unfold thrown
          clear he g
          go_wp2
          exact ⟨rfl, HB.out⟩
        have Km2 := Lib.hid hm2
        have Sm2 := shr_quoB lm1 x0 lm2 hm2
        have H3 := Lib.hid (holdJ_sx H2'.out g s)
        have q0 := objAt_cell H3.out.job 0 rfl
        have q1 := objAt_free H3.out.job 0
        have q2 := objAt_lt H3.out.job
        have H2 : Hid (HoldJ _ #[.string x0, .int .i64 0, .string ⟨#[]⟩] 54 b c lm2 r xs0 ns [] Y0 y (.slice none 0 0) w _) := holdJ_set H3.out 0 (.string x0)
        clear hm2 g s HC H2' H3
        have HC := Lib.hid (sxMust_is [44, 34, 114, 111, 111, 109, 34, 58] _ H2.out.hold.sx)
        go_wp2_with fail
        refine HC.out.mono ?_
        rintro e wm3 ⟨g, ⟨rfl, ev, he⟩ | ⟨um3, lm3, hm3, rfl, s⟩⟩
        · have HB := Lib.hid (hold_throw (l := l) H2.out.hold g (⟨ev, P0.out.trans (bindD_err (HR2.out.trans (bindD_err (by unfold nodeP; rw [bindD_ok Km1.out, bindD_ok Km2.out, bindD_err he]))))⟩))
          unfold thrown
          clear he g
          go_wp2
          exact ⟨rfl, HB.out⟩
        have Km3 := Lib.hid hm3
        have Sm3 := shr_lit _ _ lm2 um3 lm3 hm3
        have H2' := Lib.hid (holdJ_sx H2.out g s)
        clear hm3 g s HC H2
        have HC := Lib.hid (sxDig_is (by omega) _ H2'.out.hold.sx)
        go_wp2_with fail
        refine HC.out.mono ?_
        rintro e wm4 ⟨g, ⟨rfl, ev, he⟩ | ⟨x1, lm4, hm4, rfl, s⟩⟩
        · have HB := Lib.hid (hold_throw (l := l) H2'.out.hold g (⟨ev, P0.out.trans (bindD_err (HR2.out.trans (bindD_err (by unfold nodeP; rw [bindD_ok Km1.out, bindD_ok Km2.out, bindD_ok Km3.out, bindD_err he]))))⟩))
          unfold thrown
          clear he g
          go_wp2
          exact ⟨rfl, HB.out⟩
        have Km4 := Lib.hid hm4
        have Sm4 := shr_dig lm3 x1 lm4 hm4
        have H3 := Lib.hid (holdJ_sx H2'.out g s)
        have q0 := objAt_cell H3.out.job 1 rfl
        have q1 := objAt_free H3.out.job 1
        have q2 := objAt_lt H3.out.job
        have H2 : Hid (HoldJ _ #[.string x0, .int .i64 x1, .string ⟨#[]⟩] 54 b c lm4 r xs0 ns [] Y0 y (.slice none 0 0) w _) := holdJ_set H3.out 1 (.int .i64 x1)
        clear hm4 g s HC H2' H3
        have HC := Lib.hid (sxMust_is [44, 34, 122, 111, 110, 101, 34, 58] _ H2.out.hold.sx)
        go_wp2_with fail
        refine HC.out.mono ?_
        rintro e wm5 ⟨g, ⟨rfl, ev, he⟩ | ⟨um5, lm5, hm5, rfl, s⟩⟩
        · have HB := Lib.hid (hold_throw (l := l) H2.out.hold g (⟨ev, P0.out.trans (bindD_err (HR2.out.trans (bindD_err (by unfold nodeP; rw [bindD_ok Km1.out, bindD_ok Km2.out, bindD_ok Km3.out, bindD_ok Km4.out, bindD_err he]))))⟩))
          unfold thrown
          clear he g
          go_wp2
          exact ⟨rfl, HB.out⟩
        have Km5 := Lib.hid hm5
        have Sm5 := shr_lit _ _ lm4 um5 lm5 hm5
        have H2' := Lib.hid (holdJ_sx H2.out g s)
        clear hm5 g s HC H2
        have HC := Lib.hid (sxQuo_is (by omega) _ H2'.out.hold.sx)
        go_wp2_with fail
        refine HC.out.mono ?_
        rintro e wm6 ⟨g, ⟨rfl, ev, he⟩ | ⟨x2, lm6, hm6, rfl, s⟩⟩
        · have HB := Lib.hid (hold_throw (l := l) H2'.out.hold g (⟨ev, P0.out.trans (bindD_err (HR2.out.trans (bindD_err (by unfold nodeP; rw [bindD_ok Km1.out, bindD_ok Km2.out, bindD_ok Km3.out, bindD_ok Km4.out, bindD_ok Km5.out, bindD_err he]))))⟩))
          unfold thrown
          clear he g
          go_wp2
          exact ⟨rfl, HB.out⟩
        have Km6 := Lib.hid hm6
        have Sm6 := shr_quoB lm5 x2 lm6 hm6
        have H3 := Lib.hid (holdJ_sx H2'.out g s)
        have q0 := objAt_cell H3.out.job 2 rfl
        have q1 := objAt_free H3.out.job 2
        have q2 := objAt_lt H3.out.job
        have H2 : Hid (HoldJ _ #[.string x0, .int .i64 x1, .string x2] 54 b c lm6 r xs0 ns [] Y0 y (.slice none 0 0) w _) := holdJ_set H3.out 2 (.string x2)
        clear hm6 g s HC H2' H3
        have HC := Lib.hid (sxMust_is [125] _ H2.out.hold.sx)
        go_wp2_with fail
        refine HC.out.mono ?_
        rintro e wy ⟨g, ⟨rfl, ev, he⟩ | ⟨uy, ly, hy, rfl, s⟩⟩
        · have HB := Lib.hid (hold_throw (l := l) H2.out.hold g (⟨ev, P0.out.trans (bindD_err (HR2.out.trans (bindD_err (by unfold nodeP; rw [bindD_ok Km1.out, bindD_ok Km2.out, bindD_ok Km3.out, bindD_ok Km4.out, bindD_ok Km5.out, bindD_ok Km6.out, bindD_err he]))))⟩))
          unfold thrown
          clear he g
          go_wp2
          exact ⟨rfl, HB.out⟩
        have hrow : nodeP lc = .inr (⟨x0, x1, x2⟩, ly) := by unfold nodeP; rw [bindD_ok Km1.out, bindD_ok Km2.out, bindD_ok Km3.out, bindD_ok Km4.out, bindD_ok Km5.out, bindD_ok Km6.out, bindD_ok hy]; rfl
        have HR3 := Lib.hid (jrows_on HR2.out hrow)
        have Sy := shr_lit _ _ lm6 uy ly hy
        have H4 := Lib.hid (holdJ_sx H2.out g s)
        have e0 := objAt_cell H4.out.job 0 rfl
        have e1 := objAt_cell H4.out.job 1 rfl
        have e2 := objAt_cell H4.out.job 2 rfl
        have ej := objAt_lt H4.out.job
        have d1 := objAt_cell H4.out.hold.obj 2 rfl
        have own1 := H4.out.hold.o2
        have sz1 := H4.out.hold.keep.size
        clear hy g s HC H2 hrow HR2 Km1 Km2 Km3 Km4 Km5 Km6 q0 q1 q2
        go_wp2_with (at_builtin; refine wpList_append_own _ rfl _ _ 23 rfl w.heap.size 54 i1 _ 3 40 Tryz.underlying23 I10.out I11.out I12.out I13.out rfl (by decide) _ _ _ rfl (own1.alloc _) ⟨wy.heap.size, 0, none⟩ 1 1 (cNode (⟨x0, x1, x2⟩ : NodeD)) rfl rfl ?c1 ?c2 ?c3 ?c4 ?c5 ?_)
        case c1 => exact node_new wy (⟨x0, x1, x2⟩ : NodeD) _
        case c2 => exact node_ones (⟨x0, x1, x2⟩ : NodeD)
        case c3 => unfold maxLen; omega
        case c4 => omega
        case c5 => simp; omega
        intro v2 w9 own2 hg2 _
        obtain ⟨ad2, cap2, rfl⟩ := ownRow_slice own2
        have H5 : Hid (Hold b c ly r xs0 (ns ++ [(⟨x0, x1, x2⟩ : NodeD)]) [] Y0 (.slice ad2 (ns.length + 1) cap2) (.slice none 0 0) w (w9.setCell ⟨c, 2, none⟩ (.slice ad2 (ns.length + 1) cap2))) := hold_app2 (hold_alloc H4.out.hold _) own2 hg2
        have oc := jobj_app (objAt_next H4.out.hold.obj (below_one _ _)) (own1.alloc _) H4.out.hold.lc hg2
        have d2 := objAt_cell oc 2 rfl
        have d3 := objAt_free oc 2
        have d4 := objAt_lt oc
        have HM5 := Lib.hid (sxLen_of H5.out.sx)
        clear own2 hg2 own1 oc H4
        go_wp2
        go_roundw
        case rel => exact ⟨_, ly, _, by first | (simp; done) | go_num | (rw [List.length_append]; simp), H5.out, by rw [List.length_append]; show _ + 1 + _ ≤ _; omega, HR3.out⟩
        case measure => rw [HM5.out, HM.out]; omega
      have R1 := Lib.hid (jrows_out HG.out hq)
      have HW := Lib.hid (hold_sx HH.out g s)
      have hw60 : (li.drop 1).length ≤ 60000 := by rw [List.length_drop]; omega
      have PR := Lib.hid (P0.out.trans (bindD_ok R1.out))
      obtain ⟨xs1, hx⟩ : ∃ z, z = ns := ⟨_, rfl⟩
      obtain ⟨lw, hlw⟩ : ∃ z, z = li.drop 1 := ⟨_, rfl⟩
      obtain ⟨Y1, hY⟩ : ∃ z, z = y := ⟨_, rfl⟩
      have HW : Hid (Hold b c lw r xs0 xs1 [] Y0 Y1 (.slice none 0 0) w w1) := by rw [hx, hlw, hY]; exact HW
      rw [← hx, ← hlw] at PR
      rw [← hlw] at hw60
      clear hx hlw hY R1 hq g s HH HG SK HM hlen P0
      have HC := Lib.hid (sxMust_is [44, 34, 108, 101, 97, 115, 101, 115, 34, 58, 91] _ HW.out.sx)
      go_wp2_with fail
      refine HC.out.mono ?_
      rintro e wv ⟨g, ⟨rfl, ev, he⟩ | ⟨u, lz, hz, rfl, s⟩⟩
      · have HB := Lib.hid (hold_throw (l := l) HW.out g (⟨ev, PR.out.trans (by unfold st2; exact bindD_err he)⟩))
        unfold thrown
        clear he g
        go_wp2
        exact ⟨rfl, HB.out⟩
      have P0 : Hid (stP l = (bindD (rowsJ leaseP) (st3 r xs0 xs1)) lz) := by show _ = _; rw [PR.out]; unfold st2; rw [bindD_ok hz]
      have HZ := Lib.hid (hold_sx HW.out g s)
      have lz60 : lz.length ≤ 60000 := by have := shr_lit _ _ lw u lz hz; omega
      clear hz g s HC HW PR hw60
      go_wp2
      go_loopw [7] (fun iv wr => ∃ (ls : List LeaseD) (li : List UInt8) (y : Value), iv = .int .i64 (ls.length : Int) ∧ Hold b c li r xs0 xs1 ls Y0 Y1 y w wr ∧ ls.length + li.length ≤ 60000 ∧ Hid (rowsJ leaseP lz = rowsAt leaseP (decide (ls.length = 0)) ls li)) (fun _ wr => sxLen wr b)
      case atStart => exact ⟨[], lz, _, rfl, HZ.out, by simpa using lz60, rfl⟩
      case round =>
        clear HZ lz60
        obtain ⟨ls, li, y, rfl, hh, hlen, HG⟩ := hrel
        have HH := Lib.hid hh
        have HM := Lib.hid (sxLen_of hh.sx)
        have SK := Lib.hid (sxSkip_is [93] wr hh.sx)
        clear hh
        go_wp2_with fail
        refine SK.out.mono ?_
        rintro e w1 ⟨cc, rfl, g, ⟨rfl, hq, s⟩ | ⟨rfl, hq, s⟩⟩
        rotate_left
        · have HR := Lib.hid (jrows_in shr_lease HG.out hq)
          have H1 := Lib.hid (hold_sx HH.out g s)
          clear hq g s SK HH HG
          have HC := Lib.hid (sxComma_is ls.length w1 H1.out.sx)
          go_wp2_with fail
          refine HC.out.mono ?_
          rintro e w2 ⟨g, ⟨rfl, ev, he⟩ | ⟨u, lc, hc, rfl, s⟩⟩
          · have HB := Lib.hid (hold_throw (l := l) H1.out g (⟨ev, P0.out.trans (bindD_err (HR.out.trans (bindD_err he)))⟩))
            unfold thrown
            clear he g
            go_wp2
            exact ⟨rfl, HB.out⟩
          have HR2 := Lib.hid (HR.out.trans (bindD_ok hc))
          have hlc := jrows_cm hc
          have H2 := Lib.hid (holdJ_new (hold_sx H1.out g s) #[.string ⟨#[]⟩, .string ⟨#[]⟩, .int .i64 0] 56)
          clear hc g s HC H1 HR
          have HC := Lib.hid (sxMust_is [123, 34, 106, 111, 98, 34, 58] _ H2.out.hold.sx)
          go_wp2_with fail
          refine HC.out.mono ?_
          rintro e wm1 ⟨g, ⟨rfl, ev, he⟩ | ⟨um1, lm1, hm1, rfl, s⟩⟩
          · have HB := Lib.hid (hold_throw (l := l) H2.out.hold g (⟨ev, P0.out.trans (bindD_err (HR2.out.trans (bindD_err (by unfold leaseP; rw [bindD_err he]))))⟩))
            unfold thrown
            clear he g
            go_wp2
            exact ⟨rfl, HB.out⟩
          have Km1 := Lib.hid hm1
          have Sm1 := shr_lit _ _ lc um1 lm1 hm1
          have H2' := Lib.hid (holdJ_sx H2.out g s)
          clear hm1 g s HC H2
          have HC := Lib.hid (sxQuo_is (by omega) _ H2'.out.hold.sx)
          go_wp2_with fail
          refine HC.out.mono ?_
          rintro e wm2 ⟨g, ⟨rfl, ev, he⟩ | ⟨x0, lm2, hm2, rfl, s⟩⟩
          · have HB := Lib.hid (hold_throw (l := l) H2'.out.hold g (⟨ev, P0.out.trans (bindD_err (HR2.out.trans (bindD_err (by unfold leaseP; rw [bindD_ok Km1.out, bindD_err he]))))⟩))
            unfold thrown
            clear he g
            go_wp2
            exact ⟨rfl, HB.out⟩
          have Km2 := Lib.hid hm2
          have Sm2 := shr_quoB lm1 x0 lm2 hm2
          have H3 := Lib.hid (holdJ_sx H2'.out g s)
          have q0 := objAt_cell H3.out.job 0 rfl
          have q1 := objAt_free H3.out.job 0
          have q2 := objAt_lt H3.out.job
          have H2 : Hid (HoldJ _ #[.string x0, .string ⟨#[]⟩, .int .i64 0] 56 b c lm2 r xs0 xs1 ls Y0 Y1 y w _) := holdJ_set H3.out 0 (.string x0)
          clear hm2 g s HC H2' H3
          have HC := Lib.hid (sxMust_is [44, 34, 110, 111, 100, 101, 34, 58] _ H2.out.hold.sx)
          go_wp2_with fail
          refine HC.out.mono ?_
          rintro e wm3 ⟨g, ⟨rfl, ev, he⟩ | ⟨um3, lm3, hm3, rfl, s⟩⟩
          · have HB := Lib.hid (hold_throw (l := l) H2.out.hold g (⟨ev, P0.out.trans (bindD_err (HR2.out.trans (bindD_err (by unfold leaseP; rw [bindD_ok Km1.out, bindD_ok Km2.out, bindD_err he]))))⟩))
            unfold thrown
            clear he g
            go_wp2
            exact ⟨rfl, HB.out⟩
          have Km3 := Lib.hid hm3
          have Sm3 := shr_lit _ _ lm2 um3 lm3 hm3
          have H2' := Lib.hid (holdJ_sx H2.out g s)
          clear hm3 g s HC H2
          have HC := Lib.hid (sxQuo_is (by omega) _ H2'.out.hold.sx)
          go_wp2_with fail
          refine HC.out.mono ?_
          rintro e wm4 ⟨g, ⟨rfl, ev, he⟩ | ⟨x1, lm4, hm4, rfl, s⟩⟩
          · have HB := Lib.hid (hold_throw (l := l) H2'.out.hold g (⟨ev, P0.out.trans (bindD_err (HR2.out.trans (bindD_err (by unfold leaseP; rw [bindD_ok Km1.out, bindD_ok Km2.out, bindD_ok Km3.out, bindD_err he]))))⟩))
            unfold thrown
            clear he g
            go_wp2
            exact ⟨rfl, HB.out⟩
          have Km4 := Lib.hid hm4
          have Sm4 := shr_quoB lm3 x1 lm4 hm4
          have H3 := Lib.hid (holdJ_sx H2'.out g s)
          have q0 := objAt_cell H3.out.job 1 rfl
          have q1 := objAt_free H3.out.job 1
          have q2 := objAt_lt H3.out.job
          have H2 : Hid (HoldJ _ #[.string x0, .string x1, .int .i64 0] 56 b c lm4 r xs0 xs1 ls Y0 Y1 y w _) := holdJ_set H3.out 1 (.string x1)
          clear hm4 g s HC H2' H3
          have HC := Lib.hid (sxMust_is [44, 34, 117, 110, 116, 105, 108, 34, 58] _ H2.out.hold.sx)
          go_wp2_with fail
          refine HC.out.mono ?_
          rintro e wm5 ⟨g, ⟨rfl, ev, he⟩ | ⟨um5, lm5, hm5, rfl, s⟩⟩
          · have HB := Lib.hid (hold_throw (l := l) H2.out.hold g (⟨ev, P0.out.trans (bindD_err (HR2.out.trans (bindD_err (by unfold leaseP; rw [bindD_ok Km1.out, bindD_ok Km2.out, bindD_ok Km3.out, bindD_ok Km4.out, bindD_err he]))))⟩))
            unfold thrown
            clear he g
            go_wp2
            exact ⟨rfl, HB.out⟩
          have Km5 := Lib.hid hm5
          have Sm5 := shr_lit _ _ lm4 um5 lm5 hm5
          have H2' := Lib.hid (holdJ_sx H2.out g s)
          clear hm5 g s HC H2
          have HC := Lib.hid (sxDig_is (by omega) _ H2'.out.hold.sx)
          go_wp2_with fail
          refine HC.out.mono ?_
          rintro e wm6 ⟨g, ⟨rfl, ev, he⟩ | ⟨x2, lm6, hm6, rfl, s⟩⟩
          · have HB := Lib.hid (hold_throw (l := l) H2'.out.hold g (⟨ev, P0.out.trans (bindD_err (HR2.out.trans (bindD_err (by unfold leaseP; rw [bindD_ok Km1.out, bindD_ok Km2.out, bindD_ok Km3.out, bindD_ok Km4.out, bindD_ok Km5.out, bindD_err he]))))⟩))
            unfold thrown
            clear he g
            go_wp2
            exact ⟨rfl, HB.out⟩
          have Km6 := Lib.hid hm6
          have Sm6 := shr_dig lm5 x2 lm6 hm6
          have H3 := Lib.hid (holdJ_sx H2'.out g s)
          have q0 := objAt_cell H3.out.job 2 rfl
          have q1 := objAt_free H3.out.job 2
          have q2 := objAt_lt H3.out.job
          have H2 : Hid (HoldJ _ #[.string x0, .string x1, .int .i64 x2] 56 b c lm6 r xs0 xs1 ls Y0 Y1 y w _) := holdJ_set H3.out 2 (.int .i64 x2)
          clear hm6 g s HC H2' H3
          have HC := Lib.hid (sxMust_is [125] _ H2.out.hold.sx)
          go_wp2_with fail
          refine HC.out.mono ?_
          rintro e wy ⟨g, ⟨rfl, ev, he⟩ | ⟨uy, ly, hy, rfl, s⟩⟩
          · have HB := Lib.hid (hold_throw (l := l) H2.out.hold g (⟨ev, P0.out.trans (bindD_err (HR2.out.trans (bindD_err (by unfold leaseP; rw [bindD_ok Km1.out, bindD_ok Km2.out, bindD_ok Km3.out, bindD_ok Km4.out, bindD_ok Km5.out, bindD_ok Km6.out, bindD_err he]))))⟩))
            unfold thrown
            clear he g
            go_wp2
            exact ⟨rfl, HB.out⟩
          have hrow : leaseP lc = .inr (⟨x0, x1, x2⟩, ly) := by unfold leaseP; rw [bindD_ok Km1.out, bindD_ok Km2.out, bindD_ok Km3.out, bindD_ok Km4.out, bindD_ok Km5.out, bindD_ok Km6.out, bindD_ok hy]; rfl
          have HR3 := Lib.hid (jrows_on HR2.out hrow)
          have Sy := shr_lit _ _ lm6 uy ly hy
          have H4 := Lib.hid (holdJ_sx H2.out g s)
          have e0 := objAt_cell H4.out.job 0 rfl
          have e1 := objAt_cell H4.out.job 1 rfl
          have e2 := objAt_cell H4.out.job 2 rfl
          have ej := objAt_lt H4.out.job
          have d1 := objAt_cell H4.out.hold.obj 3 rfl
          have own1 := H4.out.hold.o3
          have sz1 := H4.out.hold.keep.size
          clear hy g s HC H2 hrow HR2 Km1 Km2 Km3 Km4 Km5 Km6 q0 q1 q2
          go_wp2_with (at_builtin; refine wpList_append_own _ rfl _ _ 24 rfl w.heap.size 56 i2 _ 3 40 Tryz.underlying24 I20.out I21.out I22.out I23.out rfl (by decide) _ _ _ rfl (own1.alloc _) ⟨wy.heap.size, 0, none⟩ 1 1 (cLease (⟨x0, x1, x2⟩ : LeaseD)) rfl rfl ?c1 ?c2 ?c3 ?c4 ?c5 ?_)
          case c1 => exact lease_new wy (⟨x0, x1, x2⟩ : LeaseD) _
          case c2 => exact lease_ones (⟨x0, x1, x2⟩ : LeaseD)
          case c3 => unfold maxLen; omega
          case c4 => omega
          case c5 => simp; omega
          intro v2 w9 own2 hg2 _
          obtain ⟨ad2, cap2, rfl⟩ := ownRow_slice own2
          have H5 : Hid (Hold b c ly r xs0 xs1 (ls ++ [(⟨x0, x1, x2⟩ : LeaseD)]) Y0 Y1 (.slice ad2 (ls.length + 1) cap2) w (w9.setCell ⟨c, 3, none⟩ (.slice ad2 (ls.length + 1) cap2))) := hold_app3 (hold_alloc H4.out.hold _) own2 hg2
          have oc := jobj_app (objAt_next H4.out.hold.obj (below_one _ _)) (own1.alloc _) H4.out.hold.lc hg2
          have d2 := objAt_cell oc 3 rfl
          have d3 := objAt_free oc 3
          have d4 := objAt_lt oc
          have HM5 := Lib.hid (sxLen_of H5.out.sx)
          clear own2 hg2 own1 oc H4
          go_wp2
          go_roundw
          case rel => exact ⟨_, ly, _, by first | (simp; done) | go_num | (rw [List.length_append]; simp), H5.out, by rw [List.length_append]; show _ + 1 + _ ≤ _; omega, HR3.out⟩
          case measure => rw [HM5.out, HM.out]; omega
        have R2 := Lib.hid (jrows_out HG.out hq)
        have HW := Lib.hid (hold_sx HH.out g s)
        have hw60 : (li.drop 1).length ≤ 60000 := by rw [List.length_drop]; omega
        have PR := Lib.hid (P0.out.trans (bindD_ok R2.out))
        obtain ⟨xs2, hx⟩ : ∃ z, z = ls := ⟨_, rfl⟩
        obtain ⟨lw, hlw⟩ : ∃ z, z = li.drop 1 := ⟨_, rfl⟩
        obtain ⟨Y2, hY⟩ : ∃ z, z = y := ⟨_, rfl⟩
        have HW : Hid (Hold b c lw r xs0 xs1 xs2 Y0 Y1 Y2 w w1) := by rw [hx, hlw, hY]; exact HW
        rw [← hx, ← hlw] at PR
        rw [← hlw] at hw60
        clear hx hlw hY R2 hq g s HH HG SK HM hlen P0
        have HC := Lib.hid (sxMust_is [125] _ HW.out.sx)
        go_wp2_with fail
        refine HC.out.mono ?_
        rintro e wv ⟨g, ⟨rfl, ev, he⟩ | ⟨u, lz, hz, rfl, s⟩⟩
        · have HB := Lib.hid (hold_throw (l := l) HW.out g (⟨ev, PR.out.trans (by unfold st3; exact bindD_err he)⟩))
          unfold thrown
          clear he g
          go_wp2
          exact ⟨rfl, HB.out⟩
        have HE : Hid (stP l = .inr (⟨r, xs0, xs1, xs2⟩, lz)) := by show _ = _; rw [PR.out]; unfold st3; rw [bindD_ok hz]; rfl
        have HZ := Lib.hid (hold_sx HW.out g s)
        clear hz g s HC HW PR hw60
        go_wp2
        go_end0
        obtain ⟨aj, an, al, cj, cn, cl, hb⟩ := hold_box HZ.out
        exact ⟨HZ.out.keep, .inr ⟨_, lz, aj, an, al, cj, cn, cl, HE.out, rfl, hb, HZ.out.sx⟩⟩
end Go.Proofs.YthbgaphidojneaaGreatDoor
