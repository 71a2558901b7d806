/- For every state and all other arguments the law ServeTicks of the package brackenkeep returns true, as a tied card: time that goes by at once is as time that goes by bit by bit. -/
import Derived.Test.YtiilagmmgpnpdaaGreatDoorSvLaw2
import Derived.Test.YtiilagmmgpnpdaaGreatDoorRest
namespace Go.Proofs.YtiilagmmgpnpdaaGreatDoor.serveTicks
open Go.ChangeShapes Go.WideShapes Go.ChangeAt Go.RowKit Go.Lib
set_option linter.unusedVariables false
/-- The laws' own 'rest': all of a state but its revision. -/
theorem krest_is (r : Int) (aj an al : Option Addr) (nj nn nl cj cn cl : Nat) (w : World) : Calls Tryz.prog 35 #[.agg #[.int .i64 r, .slice aj nj cj, .slice an nn cn, .slice al nl cl]] w fun e w' => e = .returned (.agg #[.int .i64 0, .slice aj nj cj, .slice an nn cn, .slice al nl cl]) ∧ Below w.heap.size w w' := by
  have b1 := below_one w (.cells #[.int .i64 r, .slice aj nj cj, .slice an nn cn, .slice al nl cl] 26)
  have b2 := below_one (w.alloc (.cells #[.int .i64 r, .slice aj nj cj, .slice an nn cn, .slice al nl cl] 26)) (.cells #[.int .i64 0, .slice none 0 0, .slice none 0 0, .slice none 0 0] 26)
  have o1 := objAt_next (objAt_new w #[.int .i64 r, .slice aj nj cj, .slice an nn cn, .slice al nl cl] 26) b2
  have o2 := objAt_new (w.alloc (.cells #[.int .i64 r, .slice aj nj cj, .slice an nn cn, .slice al nl cl] 26)) #[.int .i64 0, .slice none 0 0, .slice none 0 0, .slice none 0 0] 26
  simp only [World.size_alloc] at o2
  have bW := below_trans b1 b2 (by simp)
  obtain ⟨W, hW⟩ : ∃ W, (w.alloc (.cells #[.int .i64 r, .slice aj nj cj, .slice an nn cn, .slice al nl cl] 26)).alloc (.cells #[.int .i64 0, .slice none 0 0, .slice none 0 0, .slice none 0 0] 26) = W := ⟨_, rfl⟩
  rw [hW] at o1 o2 bW
  have f0 := objAt_free o1 0
  have y0 : W.cell? ⟨w.heap.size, 0, none⟩ = some (.int .i64 r) := objAt_cell o1 0 rfl
  obtain ⟨W1, hW1⟩ : ∃ X, W.setCell ⟨w.heap.size, 0, none⟩ (.int .i64 0) = X := ⟨_, rfl⟩
  have p1 : ObjAt w.heap.size #[.int .i64 0, .slice aj nj cj, .slice an nn cn, .slice al nl cl] 26 W1 := by rw [← hW1]; exact objAt_set o1 0 _
  have p2 : ObjAt (w.heap.size + 1) #[.int .i64 0, .slice none 0 0, .slice none 0 0, .slice none 0 0] 26 W1 := by rw [← hW1]; exact objAt_other o2 (by omega) _ _
  have bY : Below w.heap.size w W1 := by rw [← hW1]; exact bW.setCell (p := ⟨w.heap.size, 0, none⟩) (Nat.le_refl _) _
  have k0 : W1.cell? ⟨w.heap.size, 0, none⟩ = some (.int .i64 0) := objAt_cell p1 0 rfl
  have k1 : W1.cell? ⟨w.heap.size, 1, none⟩ = some (.slice aj nj cj) := objAt_cell p1 1 rfl
  have k2 : W1.cell? ⟨w.heap.size, 2, none⟩ = some (.slice an nn cn) := objAt_cell p1 2 rfl
  have k3 : W1.cell? ⟨w.heap.size, 3, none⟩ = some (.slice al nl cl) := objAt_cell p1 3 rfl
  have z0 := objAt_cell p2 0 rfl
  have z1 := objAt_cell p2 1 rfl
  have z2 := objAt_cell p2 2 rfl
  have z3 := objAt_cell p2 3 rfl
  have g0 := objAt_free p2 0
  have g1 := objAt_free p2 1
  have g2 := objAt_free p2 2
  have g3 := objAt_free p2 3
  have kl := objAt_lt p1
  have zl := objAt_lt p2
  have oF := obj_put4 p2 (.int .i64 0) (.slice aj nj cj) (.slice an nn cn) (.slice al nl cl)
  obtain ⟨WF, hWF⟩ : ∃ X, (((W1.setCell ⟨w.heap.size + 1, 0, none⟩ (.int .i64 0)).setCell ⟨w.heap.size + 1, 1, none⟩ (.slice aj nj cj)).setCell ⟨w.heap.size + 1, 2, none⟩ (.slice an nn cn)).setCell ⟨w.heap.size + 1, 3, none⟩ (.slice al nl cl) = X := ⟨_, rfl⟩
  have BF := below_put4 bY (show w.heap.size ≤ w.heap.size + 1 by omega) (.int .i64 0) (.slice aj nj cj) (.slice an nn cn) (.slice al nl cl)
  rw [hWF] at oF BF
  have TT := Lib.hid (show WF.cell? ⟨w.heap.size + 1, 0, none⟩ = some (.int .i64 0) ∧ WF.cell? ⟨w.heap.size + 1, 1, none⟩ = some (.slice aj nj cj) ∧ WF.cell? ⟨w.heap.size + 1, 2, none⟩ = some (.slice an nn cn) ∧ WF.cell? ⟨w.heap.size + 1, 3, none⟩ = some (.slice al nl cl) from ⟨objAt_cell oF 0 rfl, objAt_cell oF 1 rfl, objAt_cell oF 2 rfl, objAt_cell oF 3 rfl⟩)
  have BF := Lib.hid BF
  clear oF p1 p2 bY o1 o2 bW b1 b2
  go_enter Tryz.func35, Tryz.ntmps35
  go_wp2
  obtain ⟨t0, t1, t2, t3⟩ := TT.out
  exact bodyPost_ret (v := .agg #[.int .i64 0, .slice aj nj cj, .slice an nn cn, .slice al nl cl]) (by simp [results, Tryz.results35, go_sem, t0, t1, t2, t3]) rfl ⟨rfl, BF.out⟩
set_option maxRecDepth 100000 in
set_option maxHeartbeats 16000000 in
theorem walk (M : StM) (s : StD) (n m : Int) (hws : wState s) (hwn : (Lit.int .i64 n).wf = true) (hwm : (Lit.int .i64 m).wf = true) (hzs : SzState s) (w : World) (hm : StateAt w M s) (hT : Tabs w) :
    Calls Tryz.prog 10 #[stV M s, .int .i64 n, .int .i64 m] w fun e w' => e = .returned (.bool true) ∧ Below w.heap.size w w' := by
  obtain ⟨aj, cj, an, cn, al, cl⟩ := M
  have hm : JobsAt w aj s.jobs ∧ NodesAt w an s.nodes ∧ LeasesAt w al s.leases := hm
  show Calls _ _ #[.agg #[.int .i64 s.rev, .slice aj s.jobs.length cj, .slice an s.nodes.length cn, .slice al s.leases.length cl], .int .i64 n, .int .i64 m] _ _
  have bb0 := below_one w (.cells #[.int .i64 s.rev, .slice aj s.jobs.length cj, .slice an s.nodes.length cn, .slice al s.leases.length cl] 26)
  have I0 := bxS_new (cj := cj) (cn := cn) (cl := cl) (w := w) hm
  obtain ⟨W0, hW0⟩ : ∃ W0, w.alloc (.cells #[.int .i64 s.rev, .slice aj s.jobs.length cj, .slice an s.nodes.length cn, .slice al s.leases.length cl] 26) = W0 := ⟨_, rfl⟩
  rw [hW0] at bb0 I0
  have C := Lib.hid (served_is W0 (hT.below bb0))
  have HS := Lib.hid hws
  have HT := Lib.hid hT
  have HM0 := Lib.hid hm
  have I0 := Lib.hid I0
  have B0 := Lib.hid bb0
  clear hzs hwn hwm
  clear hws hT hm bb0
  go_enter Tryz.func10, Tryz.ntmps10
  go_wp2_with fail
  refine C.out.mono ?_
  rintro e w1 ⟨rfl, b1⟩
  have I1 := Lib.hid (bxS_next I0.out b1)
  have B1 := Lib.hid (below_trans B0.out b1 B0.out.size)
  clear b1 C I0 B0
  have C1 := rest_is n 1000 (by decide) (by decide) w1
  obtain ⟨x, hx⟩ : ∃ x, n % 1000 = x := ⟨_, rfl⟩
  rw [hx] at C1
  have C2 := rest_is m 1000 (by decide) (by decide) w1
  obtain ⟨y, hy⟩ : ∃ x, m % 1000 = x := ⟨_, rfl⟩
  rw [hy] at C2
  have hxy : (0 ≤ x ∧ x < 1000) ∧ 0 ≤ y ∧ y < 1000 := by omega
  have HXY := Lib.hid hxy
  have C1 := Lib.hid C1
  have C2 := Lib.hid C2
  clear hx hy hxy
  go_wp2_with fail
  refine C1.out.mono ?_
  clear C1
  rintro e w9 ⟨rfl, rfl⟩
  go_wp2_with fail
  refine C2.out.mono ?_
  clear C2
  rintro e w9 ⟨rfl, rfl⟩
  by_cases hv : checkE V8 s = 0
  case neg =>
    have hv' : ((checkE V8 s : Int) != 0) = true := by simp; omega
    have C := Lib.hid (svNew_bad s aj an al cj cn cl HS.out hv w1 (HT.out.below B1.out) I1.out.2)
    obtain ⟨z0, z1, z2, z3⟩ := bxS_cells I1.out
    have HNV := Lib.hid hv
    obtain ⟨k, hk⟩ : ∃ k, checkE V8 s = k := ⟨_, rfl⟩
    rw [hk] at hv' C
    have HK := Lib.hid hk
    clear hv hk
    go_wp2_with fail
    refine C.out.mono ?_
    rintro e w2 ⟨rfl, b2⟩
    have I2 := Lib.hid (bxS_next I1.out b2)
    have B2 := Lib.hid (below_trans B1.out b2 B1.out.size)
    clear b2 C z0 z1 z2 z3
    have C := svNew_bad s aj an al cj cn cl HS.out HNV.out w2 (HT.out.below B2.out) I2.out.2
    rw [HK.out] at C
    have C := Lib.hid C
    obtain ⟨z0, z1, z2, z3⟩ := bxS_cells I2.out
    go_wp2_with fail
    refine C.out.mono ?_
    rintro e w3 ⟨rfl, b3⟩
    have B3 := Lib.hid (below_trans B2.out b3 B2.out.size)
    clear b3 C z0 z1 z2 z3
    go_wp2
    go_ret
    exact ⟨rfl, B3.out⟩
  have C := Lib.hid (svNew_ok s aj an al cj cn cl hv w1 (HT.out.below B1.out) I1.out.2)
  have HV := Lib.hid hv
  clear hv
  obtain ⟨z0, z1, z2, z3⟩ := bxS_cells I1.out
  go_wp2_with fail
  refine C.out.mono ?_
  rintro e w2 ⟨b, rfl, hb, sv, b2⟩
  have I2 := Lib.hid (bxS_next I1.out b2)
  have sv2 := svIn_new HV.out sv (below_trans B1.out b2 B1.out.size) HT.out (Nat.le_trans B1.out.size hb)
  have B2 := Lib.hid (below_trans B1.out b2 B1.out.size)
  have S2 := Lib.hid sv2
  have hbl := svAt_lt sv2.1
  clear b2 C z0 z1 z2 z3 sv hb B1 I1 sv2
  have C := Lib.hid (svNew_ok s aj an al cj cn cl HV.out w2 (HT.out.below B2.out) I2.out.2)
  obtain ⟨z0, z1, z2, z3⟩ := bxS_cells I2.out
  go_wp2_with fail
  refine C.out.mono ?_
  rintro e w3 ⟨c, rfl, hc, sv, b3⟩
  have I3 := Lib.hid (bxS_next I2.out b3)
  have hne : b < c := Nat.lt_of_lt_of_le hbl hc
  have NE := Lib.hid hne
  have sv3 := svIn_new HV.out sv (below_trans B2.out b3 B2.out.size) HT.out (Nat.le_trans B2.out.size hc)
  have sv4 := svIn_next S2.out b3
  obtain ⟨v0, hv0⟩ : ∃ v, (⟨s, 0⟩ : SvD) = v := ⟨_, rfl⟩
  rw [hv0] at sv3 sv4
  have S0 := Lib.hid sv4
  have U0 := Lib.hid sv3
  have E0 := Lib.hid hv0
  clear b3 C z0 z1 z2 z3 sv hc hbl hne B2 I2 S2 sv3 sv4 hv0
  have hwr : IntKind.i64.wrap (x + y) = x + y := IntWalk.i64_in _ (by have := HXY.out; omega)
  have SB0 := Lib.hid I3.out.1
  clear I3
  have C := Lib.hid (do_is v0 S0.out.2.1 S0.out.2.2.1 (tickQ x) (wReq_tick (n := x) (by have := HXY.out; omega)) b w3 S0.out.2.2.2.2.2.2 S0.out.1 : Calls Tryz.prog 15 #[.pointer (some ⟨b, 0, none⟩), .agg #[.int .i64 7, .string ⟨#[]⟩, .int .i64 0, .int .i64 0, .int .i64 0, .string ⟨#[]⟩, .string ⟨#[]⟩, .int .i64 0, .string ⟨#[]⟩, .string ⟨#[]⟩, .string ⟨#[]⟩, .int .i64 0, .string ⟨#[]⟩, .int .i64 x]] w3 (DoPost b v0.s (doR V8 v0.s v0.now (tickQ x)) w3))
  go_wp2_with fail
  refine C.out.mono ?_
  clear C 
  rintro e w5a ⟨MD, rfl, sv5, -, g5⟩
  have P5 := do_done S0.out sv5 g5 #[.int .i64 ((doR V8 v0.s v0.now (tickQ x)).2.1 : Nat), .int .i64 (doR V8 v0.s v0.now (tickQ x)).1.s.rev] #[.int .i64 (told v0.s (doR V8 v0.s v0.now (tickQ x))).frm, .int .i64 (told v0.s (doR V8 v0.s v0.now (tickQ x))).til, .slice MD.aj (told v0.s (doR V8 v0.s v0.now (tickQ x))).jobs.length MD.cj, .slice MD.an (told v0.s (doR V8 v0.s v0.now (tickQ x))).nodes.length MD.cn, .slice MD.al (told v0.s (doR V8 v0.s v0.now (tickQ x))).leases.length MD.cl, .slice MD.gj (told v0.s (doR V8 v0.s v0.now (tickQ x))).gj.length MD.hj, .slice MD.gn (told v0.s (doR V8 v0.s v0.now (tickQ x))).gn.length MD.hn, .slice MD.gl (told v0.s (doR V8 v0.s v0.now (tickQ x))).gl.length MD.hl]
  obtain ⟨r, hr⟩ : ∃ r, doR V8 v0.s v0.now (tickQ x) = r := ⟨_, rfl⟩
  rw [hr] at P5 ⊢
  obtain ⟨D, hD⟩ : ∃ D, told v0.s r = D := ⟨_, rfl⟩
  rw [hD] at P5 ⊢
  clear hD sv5 g5
  obtain ⟨va, ca, ba⟩ := r
  simp only at P5
  have HRa := Lib.hid hr
  clear hr
  obtain ⟨Xa, hXa⟩ : ∃ X, (w5a.alloc (.cells #[.int .i64 (ca : Nat), .int .i64 va.s.rev] 46)).alloc (.cells #[.int .i64 D.frm, .int .i64 D.til, .slice MD.aj D.jobs.length MD.cj, .slice MD.an D.nodes.length MD.cn, .slice MD.al D.leases.length MD.cl, .slice MD.gj D.gj.length MD.hj, .slice MD.gn D.gn.length MD.hn, .slice MD.gl D.gl.length MD.hl] 49) = X := ⟨_, rfl⟩
  rw [hXa] at P5
  have Sa := Lib.hid P5.1
  have Ta := Lib.hid P5.2.1
  have Ra := Lib.hid P5.2.2
  clear P5
  have SBa := Lib.hid (doTo_obj Ta.out SB0.out (by decide))
  have Ua := Lib.hid (doTo_in Ta.out U0.out (by have := NE.out; omega) S0.out.2.2.2.2.1)
  have C := Lib.hid (do_is va Sa.out.2.1 Sa.out.2.2.1 (tickQ y) (wReq_tick (n := y) (by have := HXY.out; omega)) b Xa Sa.out.2.2.2.2.2.2 Sa.out.1 : Calls Tryz.prog 15 #[.pointer (some ⟨b, 0, none⟩), .agg #[.int .i64 7, .string ⟨#[]⟩, .int .i64 0, .int .i64 0, .int .i64 0, .string ⟨#[]⟩, .string ⟨#[]⟩, .int .i64 0, .string ⟨#[]⟩, .string ⟨#[]⟩, .string ⟨#[]⟩, .int .i64 0, .string ⟨#[]⟩, .int .i64 y]] Xa (DoPost b va.s (doR V8 va.s va.now (tickQ y)) Xa))
  go_wp2_with fail
  refine C.out.mono ?_
  clear C 
  rintro e w5b ⟨MD, rfl, sv5, -, g5⟩
  have P5 := do_done Sa.out sv5 g5 #[.int .i64 ((doR V8 va.s va.now (tickQ y)).2.1 : Nat), .int .i64 (doR V8 va.s va.now (tickQ y)).1.s.rev] #[.int .i64 (told va.s (doR V8 va.s va.now (tickQ y))).frm, .int .i64 (told va.s (doR V8 va.s va.now (tickQ y))).til, .slice MD.aj (told va.s (doR V8 va.s va.now (tickQ y))).jobs.length MD.cj, .slice MD.an (told va.s (doR V8 va.s va.now (tickQ y))).nodes.length MD.cn, .slice MD.al (told va.s (doR V8 va.s va.now (tickQ y))).leases.length MD.cl, .slice MD.gj (told va.s (doR V8 va.s va.now (tickQ y))).gj.length MD.hj, .slice MD.gn (told va.s (doR V8 va.s va.now (tickQ y))).gn.length MD.hn, .slice MD.gl (told va.s (doR V8 va.s va.now (tickQ y))).gl.length MD.hl]
  obtain ⟨r, hr⟩ : ∃ r, doR V8 va.s va.now (tickQ y) = r := ⟨_, rfl⟩
  rw [hr] at P5 ⊢
  obtain ⟨D, hD⟩ : ∃ D, told va.s r = D := ⟨_, rfl⟩
  rw [hD] at P5 ⊢
  clear hD sv5 g5
  obtain ⟨vb, cb, bb⟩ := r
  simp only at P5
  have HRb := Lib.hid hr
  clear hr
  obtain ⟨Xb, hXb⟩ : ∃ X, (w5b.alloc (.cells #[.int .i64 (cb : Nat), .int .i64 vb.s.rev] 46)).alloc (.cells #[.int .i64 D.frm, .int .i64 D.til, .slice MD.aj D.jobs.length MD.cj, .slice MD.an D.nodes.length MD.cn, .slice MD.al D.leases.length MD.cl, .slice MD.gj D.gj.length MD.hj, .slice MD.gn D.gn.length MD.hn, .slice MD.gl D.gl.length MD.hl] 49) = X := ⟨_, rfl⟩
  rw [hXb] at P5
  have Sb := Lib.hid P5.1
  have Tb := Lib.hid P5.2.1
  have Rb := Lib.hid P5.2.2
  clear P5
  have SBb := Lib.hid (doTo_obj Tb.out SBa.out (by decide))
  have RAb := Lib.hid (doTo_obj Tb.out Ra.out (by decide))
  have Ub := Lib.hid (doTo_in Tb.out Ua.out (by have := NE.out; omega) S0.out.2.2.2.2.1)
  have C := Lib.hid (do_is v0 Ub.out.2.1 Ub.out.2.2.1 (tickQ (x + y)) (wReq_tick (n := x + y) (by have := HXY.out; omega)) c Xb Ub.out.2.2.2.2.2.2 Ub.out.1 : Calls Tryz.prog 15 #[.pointer (some ⟨c, 0, none⟩), .agg #[.int .i64 7, .string ⟨#[]⟩, .int .i64 0, .int .i64 0, .int .i64 0, .string ⟨#[]⟩, .string ⟨#[]⟩, .int .i64 0, .string ⟨#[]⟩, .string ⟨#[]⟩, .string ⟨#[]⟩, .int .i64 0, .string ⟨#[]⟩, .int .i64 (x + y)]] Xb (DoPost c v0.s (doR V8 v0.s v0.now (tickQ (x + y))) Xb))
  go_wp2_with fail
  refine C.out.mono ?_
  clear C 
  rintro e w5c ⟨MD, rfl, sv5, -, g5⟩
  have P5 := do_done Ub.out sv5 g5 #[.int .i64 ((doR V8 v0.s v0.now (tickQ (x + y))).2.1 : Nat), .int .i64 (doR V8 v0.s v0.now (tickQ (x + y))).1.s.rev] #[.int .i64 (told v0.s (doR V8 v0.s v0.now (tickQ (x + y)))).frm, .int .i64 (told v0.s (doR V8 v0.s v0.now (tickQ (x + y)))).til, .slice MD.aj (told v0.s (doR V8 v0.s v0.now (tickQ (x + y)))).jobs.length MD.cj, .slice MD.an (told v0.s (doR V8 v0.s v0.now (tickQ (x + y)))).nodes.length MD.cn, .slice MD.al (told v0.s (doR V8 v0.s v0.now (tickQ (x + y)))).leases.length MD.cl, .slice MD.gj (told v0.s (doR V8 v0.s v0.now (tickQ (x + y)))).gj.length MD.hj, .slice MD.gn (told v0.s (doR V8 v0.s v0.now (tickQ (x + y)))).gn.length MD.hn, .slice MD.gl (told v0.s (doR V8 v0.s v0.now (tickQ (x + y)))).gl.length MD.hl]
  obtain ⟨r, hr⟩ : ∃ r, doR V8 v0.s v0.now (tickQ (x + y)) = r := ⟨_, rfl⟩
  rw [hr] at P5 ⊢
  obtain ⟨D, hD⟩ : ∃ D, told v0.s r = D := ⟨_, rfl⟩
  rw [hD] at P5 ⊢
  clear hD sv5 g5
  obtain ⟨vc, cc, bc⟩ := r
  simp only at P5
  have HRc := Lib.hid hr
  clear hr
  obtain ⟨Xc, hXc⟩ : ∃ X, (w5c.alloc (.cells #[.int .i64 (cc : Nat), .int .i64 vc.s.rev] 46)).alloc (.cells #[.int .i64 D.frm, .int .i64 D.til, .slice MD.aj D.jobs.length MD.cj, .slice MD.an D.nodes.length MD.cn, .slice MD.al D.leases.length MD.cl, .slice MD.gj D.gj.length MD.hj, .slice MD.gn D.gn.length MD.hn, .slice MD.gl D.gl.length MD.hl] 49) = X := ⟨_, rfl⟩
  rw [hXc] at P5
  have Sc := Lib.hid P5.1
  have Tc := Lib.hid P5.2.1
  have Rc := Lib.hid P5.2.2
  clear P5
  have SBc := Lib.hid (doTo_obj Tc.out SBb.out (by decide))
  have RAc := Lib.hid (doTo_obj Tc.out RAb.out (by decide))
  have RBc := Lib.hid (doTo_obj Tc.out Rb.out (by decide))
  have Vc := Lib.hid (doTo_in Tc.out Sb.out (by have := NE.out; omega) U0.out.2.2.2.2.1)
  have e1 : v0.s = s := by rw [← E0.out]
  have e2 : v0.now = 0 := by rw [← E0.out]
  have ta := sv_tick (U := V8) (s := v0.s) (now := v0.now) (n := x) (by have := HXY.out; omega) (by have := HXY.out; omega)
  have tb := sv_tick (U := V8) (s := va.s) (now := va.now) (n := y) (by have := HXY.out; omega) (by
    rcases ta with ⟨ta, _⟩ | ta
    · rw [HRa.out] at ta
      have h : va = ⟨v0.s, v0.now⟩ := (Prod.mk.inj ta).1
      have := HXY.out
      rw [h]; show v0.now + y ≤ _; omega
    · rw [HRa.out] at ta
      have h : va.now = v0.now + x := ta.2.1
      have := HXY.out
      omega)
  have tc := sv_tick (U := V8) (s := v0.s) (now := v0.now) (n := x + y) (by have := HXY.out; omega) (by have := HXY.out; omega)
  rw [HRa.out] at ta
  rw [HRb.out] at tb
  rw [HRc.out] at tc
  simp only [e1, e2] at ta tc
  have hrev : 0 ≤ s.rev ∧ s.rev ≤ 1099511627776 := ((check_zero V8 s).1 HV.out).1
  have x0 := objAt_cell RAc.out 0 rfl
  have y0 := objAt_cell RBc.out 0 rfl
  have z0 := objAt_cell Rc.out 0 rfl
  have s0 := objAt_cell SBc.out 0 rfl
  by_cases ha : ca = 0
  case neg =>
    have c1 : ((ca : Int) != 0) = true := by simp; omega
    have hr : s.rev = 1099511627776 := by
      rcases ta with ta | ta
      · exact ta.2
      · exact absurd ta.1 ha
    have d1 : (1099511627773 : Int) < s.rev := by omega
    have B9 := Lib.hid Vc.out.2.2.2.1
    clear ta tb tc ha hr hrev e1 e2
    go_wp2
    go_ret
    exact ⟨rfl, B9.out⟩
  have c1 : ((ca : Int) != 0) = false := by simp; omega
  replace ta := ta.resolve_left (fun h => by have := (Prod.mk.inj (Prod.mk.inj h.1).2).1; omega)
  by_cases hb : cb = 0
  case neg =>
    have c2 : ((cb : Int) != 0) = true := by simp; omega
    have hr : va.s.rev = 1099511627776 := by
      rcases tb with tb | tb
      · exact tb.2
      · exact absurd tb.1 hb
    have d1 : (1099511627773 : Int) < s.rev := by
      rcases ta.2.2.1 with h | h
      · have h : va.s.rev = s.rev := h
        omega
      · have h : va.s.rev = s.rev + 1 := h
        omega
    have B9 := Lib.hid Vc.out.2.2.2.1
    clear ta tb tc ha hb hr hrev e1 e2
    go_wp2
    go_ret
    exact ⟨rfl, B9.out⟩
  have c2 : ((cb : Int) != 0) = false := by simp; omega
  replace tb := tb.resolve_left (fun h => by have := (Prod.mk.inj (Prod.mk.inj h.1).2).1; omega)
  by_cases hc : cc = 0
  case neg =>
    have c3 : ((cc : Int) != 0) = true := by simp; omega
    have hr : s.rev = 1099511627776 := by
      rcases tc with tc | tc
      · exact tc.2
      · exact absurd tc.1 hc
    have d1 : (1099511627773 : Int) < s.rev := by omega
    have B9 := Lib.hid Vc.out.2.2.2.1
    clear ta tb tc ha hb hc hr hrev e1 e2
    go_wp2
    go_ret
    exact ⟨rfl, B9.out⟩
  have c3 : ((cc : Int) != 0) = false := by simp; omega
  replace tc := tc.resolve_left (fun h => by have := (Prod.mk.inj (Prod.mk.inj h.1).2).1; omega)
  obtain ⟨a0, a1, ar, a2, a3, a4⟩ := ta
  obtain ⟨b0, b1, br, b2, b3, b4⟩ := tb
  obtain ⟨d0, d1, dr, d2, d3, d4⟩ := tc
  clear a0 ar b0 br d0 dr
  have n1 : vb.now = x + y := by
    have b1 : vb.now = va.now + y := b1
    have a1 : va.now = 0 + x := a1
    omega
  have n2 : vc.now = x + y := by
    have d1 : vc.now = 0 + (x + y) := d1
    omega
  have r1 : (⟨0, vb.s.jobs, vb.s.nodes, vb.s.leases⟩ : StD) = ⟨0, vc.s.jobs, vc.s.nodes, vc.s.leases⟩ := by
    have b4 : vb.s.leases = leasesT (va.now + y) va.s.leases := b4
    have a1 : va.now = 0 + x := a1
    have hl : vb.s.leases = vc.s.leases := by
      rw [b4, a1, show va.s.leases = leasesT (0 + x) s.leases from a4, show vc.s.leases = leasesT (0 + (x + y)) s.leases from d4]
      have h := leasesT_twice (a := 0 + x) (b := 0 + x + y) (by have := HXY.out; omega) s.leases
      rw [h, show 0 + x + y = 0 + (x + y) by omega]
    rw [show vb.s.jobs = va.s.jobs from b2, show va.s.jobs = s.jobs from a2, show vc.s.jobs = s.jobs from d2, show vb.s.nodes = va.s.nodes from b3, show va.s.nodes = s.nodes from a3, show vc.s.nodes = s.nodes from d3, hl]
  have R1 := Lib.hid r1
  have N1 := Lib.hid n1
  have N2 := Lib.hid n2
  clear a1 a2 a3 a4 b1 b2 b3 b4 d1 d2 d3 d4 n1 n2 r1 e1 e2 hrev ha hb hc s0
  have C1 := svNow_is b vb Xc Vc.out.1
  rw [N1.out] at C1
  have C1 := Lib.hid C1
  have C2 := svNow_is c vc Xc Sc.out.1
  rw [N2.out] at C2
  have C2 := Lib.hid C2
  go_wp2_with fail
  refine C1.out.mono ?_
  rintro e w7 ⟨rfl, h7⟩
  obtain rfl : Xc = w7 := h7.symm
  clear h7
  go_wp2_with fail
  refine C2.out.mono ?_
  rintro e w7 ⟨rfl, h7⟩
  obtain rfl : Xc = w7 := h7.symm
  clear h7
  go_wp2_with fail
  refine C1.out.mono ?_
  rintro e w7 ⟨rfl, h7⟩
  obtain rfl : Xc = w7 := h7.symm
  clear h7 C1 C2 x0 y0 z0 c1 c2 c3
  have C := Lib.hid (svState_in Vc.out)
  go_wp2_with fail
  refine C.out.mono ?_
  clear C
  rintro e w7 ⟨ej, en, el, fj, fn, fl, rfl, o7, b7⟩
  have U7 := Lib.hid (svIn_next Sc.out b7)
  have C := Lib.hid (krest_is vb.s.rev ej en el vb.s.jobs.length vb.s.nodes.length vb.s.leases.length fj fn fl w7)
  have O7 := Lib.hid o7
  clear o7 b7
  go_wp2_with fail
  refine C.out.mono ?_
  clear C
  rintro e w8 ⟨rfl, b8⟩
  have U8 := Lib.hid (svIn_next U7.out b8)
  have O8 := Lib.hid (ownS_next O7.out b8)
  have C := Lib.hid (svState_in U8.out)
  clear b8 U7 O7
  go_wp2_with fail
  refine C.out.mono ?_
  clear C
  rintro e w9 ⟨gj, gn, gl, qj, qn, ql, rfl, o9, b9⟩
  have U9 := Lib.hid (svIn_next U8.out b9)
  have O9 := Lib.hid (ownS_next O8.out b9)
  have P9 := Lib.hid o9
  have C := Lib.hid (krest_is vc.s.rev gj gn gl vc.s.jobs.length vc.s.nodes.length vc.s.leases.length qj qn ql w9)
  clear o9 b9 U8 O8
  go_wp2_with fail
  refine C.out.mono ?_
  clear C
  rintro e wA ⟨rfl, bA⟩
  have UA := Lib.hid (svIn_next U9.out bA)
  have hA := ownS_at (ownS_next O9.out bA)
  have hB := ownS_at (ownS_next P9.out bA)
  have C := same_is ⟨0, vb.s.jobs, vb.s.nodes, vb.s.leases⟩ ⟨0, vc.s.jobs, vc.s.nodes, vc.s.leases⟩ ej en el gj gn gl fj fn fl qj qn ql (small4 (s := vb.s) Vc.out.2.1) wA hA.1 hA.2.1 hA.2.2 hB.1 hB.2.1 hB.2.2
  have C := Lib.hid C
  clear bA U9 O9 P9 hA hB
  go_wp2_with fail
  refine C.out.mono ?_
  clear C
  rintro e wB ⟨cz, rfl, hcz, bB⟩
  obtain rfl : cz = true := hcz.2 R1.out
  have B9 := Lib.hid (svIn_next UA.out bB).2.2.2.1
  clear hcz bB
  go_wp2
  go_ret
  exact ⟨rfl, B9.out⟩

theorem own : ownKnob Tryz.prog.godebug = none := by kernel_rfl
theorem laidOut : laidOutB Tryz.prog = true := by kernel_rfl
theorem laid_met (os : Os) : laidMet Tryz.prog Rows.serveTicksRow.laid ((laidWorld os).forCall (fun _ _ => 0) ⟨#[], #[.agg #[.int .i64 0, .slice none 0 0, .slice none 0 0, .slice none 0 0], .int .i64 0, .int .i64 0], []⟩).memory :=
  laidMet_of_run' 8 (by kernel_rfl) (by kernel_rfl)
theorem reads (os : Os) {H : Type} (enc : TypeId × Value → H) : ∃ places, DataW.whole enc Tryz.prog ((laidWorld os).forCall (fun _ _ => 0) ⟨#[], #[.agg #[.int .i64 0, .slice none 0 0, .slice none 0 0, .slice none 0 0], .int .i64 0, .int .i64 0], []⟩).memory Tryz.f10.params.toList Rows.serveTicksSpec.vars false #[Value.agg #[.int .i64 0, .slice none 0 0, .slice none 0 0, .slice none 0 0], Value.int .i64 0, Value.int .i64 0].toList 8 = some ([.agg [.lit (.int .i64 0), .nil, .nil, .nil], .lit (.int .i64 0), .lit (.int .i64 0)], [], places) :=
  ⟨[], by kernel_rfl⟩
set_option maxRecDepth 100000 in
set_option maxHeartbeats 2000000 in
theorem lifted (os : Os) (started : os.Started) (H : Type) (enc : TypeId × Value → H) (F : Stop.Interp) :
    ReturnsInHanded {} Tryz.checked os 10 .any ((OpenSpec.ofChange Rows.serveTicksSpec).preRow enc Tryz.prog Tryz.f10 Rows.serveTicksRow.domain false Rows.serveTicksRow.laid) (((OpenSpec.ofChange Rows.serveTicksSpec).at F).post enc Tryz.prog Tryz.f10 false true false false) := by
  obtain ⟨places, hx⟩ := reads os enc
  refine returnsInHanded_of_row (C := Tryz.checked) (s := (OpenSpec.ofChange Rows.serveTicksSpec)) own started (by kernel_rfl) Tryz.func10
    (witness_row_atRef (enc := enc) (C := Tryz.checked) false (laidWorld os) #[.agg #[.int .i64 0, .slice none 0 0, .slice none 0 0, .slice none 0 0], .int .i64 0, .int .i64 0] rfl (by kernel_rfl) (by kernel_rfl) (by kernel_rfl)
      (OpenSpec.preRow_of_cond 8 hx (by kernel_rfl) (fun k hk => by cases hk) (by kernel_rfl) (laid_met os))) ?_
  intro W base args ds gs before hval0 hW _ _ hsz0 hL _ _
  have hval : ∀ (j : Nat) t v, Tryz.f10.params[j]? = some t → args[j]? = some v → Value.okWide Tryz.prog W .any base t v := hval0
  have hW' := hW
  obtain ⟨p, q, hA0, hV, rfl, hfz, hnd⟩ := hW
  have hA : DataW.TrodAll enc Tryz.prog W 0 (fun _ => true) true Tryz.f10.params.toList args.toList ds p := hA0
  have hsz : (DataW.weightsEach Tryz.prog (Tryz.f10.params.toList ++ Rows.serveTicksSpec.plain.varTypes Tryz.prog) (ds ++ gs)).all (· ≤ reachBytes) = true := hsz0
  rw [Tryz.params10] at hA hval hsz
  obtain ⟨v0, vs0, d0, ds0, p0, q0, hargs, rfl, rfl, h0, r0⟩ := trodAll_cons hA
  obtain ⟨v1, vs1, d1, ds1, p1, q1, rfl, rfl, rfl, h1, r1⟩ := trodAll_cons r0
  obtain ⟨v2, vs2, d2, ds2, p2, q2, rfl, rfl, rfl, h2, r2⟩ := trodAll_cons r1
  obtain ⟨rfl, rfl, rfl⟩ := trodAll_nil r2
  obtain rfl : args = #[v0, v1, v2] := by cases args; simp_all
  obtain ⟨rfl, rfl⟩ := trodVars_none hV
  obtain ⟨M0, st0, rfl, m0, x0, w0⟩ := open_state (hval 0 26 v0 rfl rfl) h0
  obtain ⟨a1, rfl, rfl, rfl, w1⟩ := open_int Tryz.underlying3 (hval 1 3 v1 rfl rfl) h1
  obtain ⟨a2, rfl, rfl, rfl, w2⟩ := open_int Tryz.underlying3 (hval 2 3 v2 rfl rfl) h2
  have s0 := sized_state hsz rfl (j := 0) rfl x0
  clear hA0 hval0
  refine (walk M0 st0 a1 a2 w0 w1 w2 s0 W m0 (tabs_of hL)).mono fun e W' ⟨he, bel⟩ => ?_
  subst he
  exact ⟨_, rfl, _, _, _, [], _, [], hW', trodAll_mk1 (shut_bool Tryz.underlying4 _), (trodAll_cons_mk (Below.trod laidOut (by kernel_rfl) (of_decide_eq_true (by kernel_rfl)) h0 bel (fun x hx => by simpa using hW'.lt x (by simp [hx]))) (trodAll_cons_mk (shut_int Tryz.underlying3 w1) (trodAll_cons_mk (shut_int Tryz.underlying3 w2) trodAll_mk0))), rfl, bel.frame _, fun h => by cases h⟩
theorem said : Rows.ServeTicksSaid :=
  OpenClaim.holds_of_cond 10 Tryz.f10 rfl rfl rfl rfl rfl rfl rfl ⟨rfl, rfl, rfl, rfl, rfl⟩ rfl rfl rfl rfl rfl (by kernel_rfl) Tryz.func10 (by kernel_rfl)
    (of_decide_eq_true (by kernel_rfl)) (by unfold Func.isWrapper; first | (rw [if_pos (by decide +kernel)]; kernel_rfl) | (rw [if_neg (by decide +kernel)]; exact ⟨rfl, rfl⟩))
    (fun os started H enc _ F => by rw [OpenClaim.pre_eq_preRow]; exact lifted os started H enc F)
theorem plain (f : FuncId) (fn : Func) (hf : Tryz.pinned.checked.prog.funcNamed Rows.serveTicksRow.func = some f) (hfn : Tryz.pinned.checked.prog.funcs[f]? = some fn) :
    false = Tryz.pinned.checked.prog.looks [] ∧ ∀ (j : Nat) t, fn.params[j]? = some t → Tryz.pinned.checked.prog.wantsStandIn t = false := by
  obtain rfl : f = 10 := Option.some.inj ((show Tryz.prog.funcNamed Rows.serveTicksRow.func = some 10 by kernel_rfl).symm.trans hf) |>.symm
  obtain rfl : fn = Tryz.f10 := (Option.some.inj (Tryz.func10.symm.trans hfn)).symm
  refine ⟨by kernel_rfl, fun j t ht => ?_⟩
  rw [Tryz.params10] at ht
  have hm : t = 26 ∨ t = 3 ∨ t = 3 := by simpa using Array.mem_of_getElem? ht
  rcases hm with rfl | rfl | rfl
  · exact (show Tryz.prog.wantsStandIn 26 = false by kernel_rfl)
  · exact (show Tryz.prog.wantsStandIn 3 = false by kernel_rfl)
  · exact (show Tryz.prog.wantsStandIn 3 = false by kernel_rfl)
theorem proved : Rows.ServeTicksCardSaid :=
  Claim7.holds_tied_plain_at .later [] _ _ _ _ said (fun _ h => by cases h) (by kernel_rfl) (fun _ h => by cases h) serveTicks_row_tie rfl ⟨rfl, rfl⟩ (by kernel_rfl) rfl plain (by kernel_rfl)
#print axioms proved
end Go.Proofs.YtiilagmmgpnpdaaGreatDoor.serveTicks
