/- For every state and all other arguments the law ServeOrder of the package brackenkeep returns true, as a tied card: two that are put, of two names, may be put in either order, if there is room for both. -/
import Derived.Test.YtiilagmmgpnpdaaGreatDoorSvLaw2
import Derived.Test.YtiilagmmgpnpdaaGreatDoorSvArg3
namespace Go.Proofs.YtiilagmmgpnpdaaGreatDoor.serveOrder
open Go.ChangeShapes Go.WideShapes Go.ChangeAt Go.RowKit Go.Lib
set_option linter.unusedVariables false
theorem order_plain {s : StD} (hv : Valid V8 s) {j k : JobD} (hn : j.name ≠ k.name) {v0 va vb vc vd : SvD} {ba bb bc bd : Bool} (E0 : (⟨s, 0⟩ : SvD) = v0) (ha : doR V8 v0.s v0.now (putQ j) = (va, 0, ba)) (hb : doR V8 va.s va.now (putQ k) = (vb, 0, bb)) (hc : doR V8 v0.s v0.now (putQ k) = (vc, 0, bc)) (hd : doR V8 vc.s vc.now (putQ j) = (vd, 0, bd)) : vb.s = vd.s := by
  subst E0
  have ha' : doR V8 s 0 (putQ j) = (va, 0, ba) := ha
  have hc' : doR V8 s 0 (putQ k) = (vc, 0, bc) := hc
  have h := sv_order (U := V8) hv hn (by rw [ha']) (by rw [ha']; show (doR V8 va.s va.now (putQ k)).2.1 = 0; rw [hb]) (by rw [hc']) (by rw [hc']; show (doR V8 vc.s vc.now (putQ j)).2.1 = 0; rw [hd])
  rw [ha', hc'] at h
  have h : (doR V8 va.s va.now (putQ k)).1.s = (doR V8 vc.s vc.now (putQ j)).1.s := h
  rw [hb, hd] at h
  exact h
set_option maxRecDepth 100000 in
set_option maxHeartbeats 16000000 in
theorem walk (M : StM) (s : StD) (j k : JobD) (hws : wState s) (hwj : wJob j) (hwk : wJob k) (hzs : SzState s) (w : World) (hm : StateAt w M s) (hT : Tabs w) :
    Calls Tryz.prog 11 #[stV M s, .agg #[.string j.name, .int .i64 j.prio, .int .i64 j.need, .int .i64 j.tries, .string j.tag], .agg #[.string k.name, .int .i64 k.prio, .int .i64 k.need, .int .i64 k.tries, .string k.tag]] w fun e w' => e = .returned (.bool true) ∧ Below w.heap.size w w' := by
  obtain ⟨aj, cj, an, cn, al, cl⟩ := M
  have hm : JobsAt w aj s.jobs ∧ NodesAt w an s.nodes ∧ LeasesAt w al s.leases := hm
  show Calls _ _ #[.agg #[.int .i64 s.rev, .slice aj s.jobs.length cj, .slice an s.nodes.length cn, .slice al s.leases.length cl], .agg #[.string j.name, .int .i64 j.prio, .int .i64 j.need, .int .i64 j.tries, .string j.tag], .agg #[.string k.name, .int .i64 k.prio, .int .i64 k.need, .int .i64 k.tries, .string k.tag]] _ _
  have bb0 := below_one w (.cells #[.int .i64 s.rev, .slice aj s.jobs.length cj, .slice an s.nodes.length cn, .slice al s.leases.length cl] 26)
  have I0 := bxS_new (cj := cj) (cn := cn) (cl := cl) (w := w) hm
  have bb1 := below_one (w.alloc (.cells #[.int .i64 s.rev, .slice aj s.jobs.length cj, .slice an s.nodes.length cn, .slice al s.leases.length cl] 26)) (.cells #[.string j.name, .int .i64 j.prio, .int .i64 j.need, .int .i64 j.tries, .string j.tag] 38)
  have J0 := objAt_new (w.alloc (.cells #[.int .i64 s.rev, .slice aj s.jobs.length cj, .slice an s.nodes.length cn, .slice al s.leases.length cl] 26)) #[.string j.name, .int .i64 j.prio, .int .i64 j.need, .int .i64 j.tries, .string j.tag] 38
  simp only [World.size_alloc] at J0
  have I0 := bxS_next I0 bb1
  have bb0 := below_trans bb0 bb1 (by simp only [World.size_alloc]; omega)
  clear bb1
  have bb2 := below_one ((w.alloc (.cells #[.int .i64 s.rev, .slice aj s.jobs.length cj, .slice an s.nodes.length cn, .slice al s.leases.length cl] 26)).alloc (.cells #[.string j.name, .int .i64 j.prio, .int .i64 j.need, .int .i64 j.tries, .string j.tag] 38)) (.cells #[.string k.name, .int .i64 k.prio, .int .i64 k.need, .int .i64 k.tries, .string k.tag] 38)
  have K0 := objAt_new ((w.alloc (.cells #[.int .i64 s.rev, .slice aj s.jobs.length cj, .slice an s.nodes.length cn, .slice al s.leases.length cl] 26)).alloc (.cells #[.string j.name, .int .i64 j.prio, .int .i64 j.need, .int .i64 j.tries, .string j.tag] 38)) #[.string k.name, .int .i64 k.prio, .int .i64 k.need, .int .i64 k.tries, .string k.tag] 38
  simp only [World.size_alloc] at K0
  have I0 := bxS_next I0 bb2
  have J0 := objAt_next J0 bb2
  have bb0 := below_trans bb0 bb2 (by simp only [World.size_alloc]; omega)
  clear bb2
  obtain ⟨W0, hW0⟩ : ∃ W0, ((w.alloc (.cells #[.int .i64 s.rev, .slice aj s.jobs.length cj, .slice an s.nodes.length cn, .slice al s.leases.length cl] 26)).alloc (.cells #[.string j.name, .int .i64 j.prio, .int .i64 j.need, .int .i64 j.tries, .string j.tag] 38)).alloc (.cells #[.string k.name, .int .i64 k.prio, .int .i64 k.need, .int .i64 k.tries, .string k.tag] 38) = W0 := ⟨_, rfl⟩
  rw [hW0] at bb0 I0 J0 K0
  have C := Lib.hid (served_is W0 (hT.below bb0))
  have HS := Lib.hid hws
  have HT := Lib.hid hT
  have HM0 := Lib.hid hm
  have I0 := Lib.hid I0
  have B0 := Lib.hid bb0
  have J0 := Lib.hid J0
  have K0 := Lib.hid K0
  have HWJ := Lib.hid hwj
  have HWK := Lib.hid hwk
  clear hwj hwk hzs
  clear hws hT hm bb0
  go_enter Tryz.func11, Tryz.ntmps11
  go_wp2_with fail
  refine C.out.mono ?_
  rintro e w1 ⟨rfl, b1⟩
  have I1 := Lib.hid (bxS_next I0.out b1)
  have B1 := Lib.hid (below_trans B0.out b1 B0.out.size)
  have J1 := Lib.hid (objAt_next J0.out b1)
  have K1 := Lib.hid (objAt_next K0.out b1)
  clear b1 C I0 B0 J0 K0
  by_cases hv : checkE V8 s = 0
  case neg =>
    have hv' : ((checkE V8 s : Int) != 0) = true := by simp; omega
    have C := Lib.hid (svNew_bad s aj an al cj cn cl HS.out hv w1 (HT.out.below B1.out) I1.out.2)
    obtain ⟨z0, z1, z2, z3⟩ := bxS_cells I1.out
    have HNV := Lib.hid hv
    obtain ⟨k, hk⟩ : ∃ k, checkE V8 s = k := ⟨_, rfl⟩
    rw [hk] at hv' C
    have HK := Lib.hid hk
    clear hv hk
    go_wp2_with fail
    refine C.out.mono ?_
    rintro e w2 ⟨rfl, b2⟩
    have I2 := Lib.hid (bxS_next I1.out b2)
    have B2 := Lib.hid (below_trans B1.out b2 B1.out.size)
    clear b2 C z0 z1 z2 z3
    have C := svNew_bad s aj an al cj cn cl HS.out HNV.out w2 (HT.out.below B2.out) I2.out.2
    rw [HK.out] at C
    have C := Lib.hid C
    obtain ⟨z0, z1, z2, z3⟩ := bxS_cells I2.out
    go_wp2_with fail
    refine C.out.mono ?_
    rintro e w3 ⟨rfl, b3⟩
    have B3 := Lib.hid (below_trans B2.out b3 B2.out.size)
    clear b3 C z0 z1 z2 z3
    go_wp2
    go_ret
    exact ⟨rfl, B3.out⟩
  have C := Lib.hid (svNew_ok s aj an al cj cn cl hv w1 (HT.out.below B1.out) I1.out.2)
  have HV := Lib.hid hv
  clear hv
  obtain ⟨z0, z1, z2, z3⟩ := bxS_cells I1.out
  go_wp2_with fail
  refine C.out.mono ?_
  rintro e w2 ⟨b, rfl, hb, sv, b2⟩
  have I2 := Lib.hid (bxS_next I1.out b2)
  have J2 := Lib.hid (objAt_next J1.out b2)
  have K2 := Lib.hid (objAt_next K1.out b2)
  have sv2 := svIn_new HV.out sv (below_trans B1.out b2 B1.out.size) HT.out (Nat.le_trans B1.out.size hb)
  have B2 := Lib.hid (below_trans B1.out b2 B1.out.size)
  have S2 := Lib.hid sv2
  have hbl := svAt_lt sv2.1
  clear b2 C z0 z1 z2 z3 sv hb B1 I1 sv2
  have C := Lib.hid (svNew_ok s aj an al cj cn cl HV.out w2 (HT.out.below B2.out) I2.out.2)
  obtain ⟨z0, z1, z2, z3⟩ := bxS_cells I2.out
  go_wp2_with fail
  refine C.out.mono ?_
  rintro e w3 ⟨c, rfl, hc, sv, b3⟩
  have I3 := Lib.hid (bxS_next I2.out b3)
  have J3 := Lib.hid (objAt_next J2.out b3)
  have K3 := Lib.hid (objAt_next K2.out b3)
  have hne : b < c := Nat.lt_of_lt_of_le hbl hc
  have NE := Lib.hid hne
  have sv3 := svIn_new HV.out sv (below_trans B2.out b3 B2.out.size) HT.out (Nat.le_trans B2.out.size hc)
  have sv4 := svIn_next S2.out b3
  obtain ⟨v0, hv0⟩ : ∃ v, (⟨s, 0⟩ : SvD) = v := ⟨_, rfl⟩
  rw [hv0] at sv3 sv4
  have S0 := Lib.hid sv4
  have U0 := Lib.hid sv3
  have E0 := Lib.hid hv0
  clear b3 C z0 z1 z2 z3 sv hc hbl hne B2 I2 S2 sv3 sv4 hv0 J1 J2 K1 K2
  clear I3
  have p0 := objAt_cell J3.out 0 rfl
  have p1 := objAt_cell J3.out 1 rfl
  have p2 := objAt_cell J3.out 2 rfl
  have p3 := objAt_cell J3.out 3 rfl
  have p4 := objAt_cell J3.out 4 rfl
  have C := Lib.hid (do_is v0 S0.out.2.1 S0.out.2.2.1 (putQ j) (wReq_put HWJ.out) b w3 S0.out.2.2.2.2.2.2 S0.out.1 : Calls Tryz.prog 15 #[.pointer (some ⟨b, 0, none⟩), .agg #[.int .i64 1, .string j.name, .int .i64 j.prio, .int .i64 j.need, .int .i64 j.tries, .string j.tag, .string ⟨#[]⟩, .int .i64 0, .string ⟨#[]⟩, .string ⟨#[]⟩, .string ⟨#[]⟩, .int .i64 0, .string ⟨#[]⟩, .int .i64 0]] w3 (DoPost b v0.s (doR V8 v0.s v0.now (putQ j)) w3))
  go_wp2_with fail
  refine C.out.mono ?_
  clear C p0 p1 p2 p3 p4
  rintro e w5a ⟨MD, rfl, sv5, -, g5⟩
  have P5 := do_done S0.out sv5 g5 #[.int .i64 ((doR V8 v0.s v0.now (putQ j)).2.1 : Nat), .int .i64 (doR V8 v0.s v0.now (putQ j)).1.s.rev] #[.int .i64 (told v0.s (doR V8 v0.s v0.now (putQ j))).frm, .int .i64 (told v0.s (doR V8 v0.s v0.now (putQ j))).til, .slice MD.aj (told v0.s (doR V8 v0.s v0.now (putQ j))).jobs.length MD.cj, .slice MD.an (told v0.s (doR V8 v0.s v0.now (putQ j))).nodes.length MD.cn, .slice MD.al (told v0.s (doR V8 v0.s v0.now (putQ j))).leases.length MD.cl, .slice MD.gj (told v0.s (doR V8 v0.s v0.now (putQ j))).gj.length MD.hj, .slice MD.gn (told v0.s (doR V8 v0.s v0.now (putQ j))).gn.length MD.hn, .slice MD.gl (told v0.s (doR V8 v0.s v0.now (putQ j))).gl.length MD.hl]
  obtain ⟨r, hr⟩ : ∃ r, doR V8 v0.s v0.now (putQ j) = r := ⟨_, rfl⟩
  rw [hr] at P5 ⊢
  obtain ⟨D, hD⟩ : ∃ D, told v0.s r = D := ⟨_, rfl⟩
  rw [hD] at P5 ⊢
  clear hD sv5 g5
  obtain ⟨va, ca, ba⟩ := r
  simp only at P5
  have HRa := Lib.hid hr
  clear hr
  obtain ⟨Xa, hXa⟩ : ∃ X, (w5a.alloc (.cells #[.int .i64 (ca : Nat), .int .i64 va.s.rev] 46)).alloc (.cells #[.int .i64 D.frm, .int .i64 D.til, .slice MD.aj D.jobs.length MD.cj, .slice MD.an D.nodes.length MD.cn, .slice MD.al D.leases.length MD.cl, .slice MD.gj D.gj.length MD.hj, .slice MD.gn D.gn.length MD.hn, .slice MD.gl D.gl.length MD.hl] 49) = X := ⟨_, rfl⟩
  rw [hXa] at P5
  have Sa := Lib.hid P5.1
  have Ta := Lib.hid P5.2.1
  have Ra := Lib.hid P5.2.2
  clear P5
  have Ja := Lib.hid (doTo_obj Ta.out J3.out (by decide))
  have Ka := Lib.hid (doTo_obj Ta.out K3.out (by decide))
  have Ua := Lib.hid (doTo_in Ta.out U0.out (by have := NE.out; omega) S0.out.2.2.2.2.1)
  clear Ta J3 K3
  have p0 := objAt_cell Ka.out 0 rfl
  have p1 := objAt_cell Ka.out 1 rfl
  have p2 := objAt_cell Ka.out 2 rfl
  have p3 := objAt_cell Ka.out 3 rfl
  have p4 := objAt_cell Ka.out 4 rfl
  have C := Lib.hid (do_is va Sa.out.2.1 Sa.out.2.2.1 (putQ k) (wReq_put HWK.out) b Xa Sa.out.2.2.2.2.2.2 Sa.out.1 : Calls Tryz.prog 15 #[.pointer (some ⟨b, 0, none⟩), .agg #[.int .i64 1, .string k.name, .int .i64 k.prio, .int .i64 k.need, .int .i64 k.tries, .string k.tag, .string ⟨#[]⟩, .int .i64 0, .string ⟨#[]⟩, .string ⟨#[]⟩, .string ⟨#[]⟩, .int .i64 0, .string ⟨#[]⟩, .int .i64 0]] Xa (DoPost b va.s (doR V8 va.s va.now (putQ k)) Xa))
  go_wp2_with fail
  refine C.out.mono ?_
  clear C p0 p1 p2 p3 p4
  rintro e w5b ⟨MD, rfl, sv5, -, g5⟩
  have P5 := do_done Sa.out sv5 g5 #[.int .i64 ((doR V8 va.s va.now (putQ k)).2.1 : Nat), .int .i64 (doR V8 va.s va.now (putQ k)).1.s.rev] #[.int .i64 (told va.s (doR V8 va.s va.now (putQ k))).frm, .int .i64 (told va.s (doR V8 va.s va.now (putQ k))).til, .slice MD.aj (told va.s (doR V8 va.s va.now (putQ k))).jobs.length MD.cj, .slice MD.an (told va.s (doR V8 va.s va.now (putQ k))).nodes.length MD.cn, .slice MD.al (told va.s (doR V8 va.s va.now (putQ k))).leases.length MD.cl, .slice MD.gj (told va.s (doR V8 va.s va.now (putQ k))).gj.length MD.hj, .slice MD.gn (told va.s (doR V8 va.s va.now (putQ k))).gn.length MD.hn, .slice MD.gl (told va.s (doR V8 va.s va.now (putQ k))).gl.length MD.hl]
  obtain ⟨r, hr⟩ : ∃ r, doR V8 va.s va.now (putQ k) = r := ⟨_, rfl⟩
  rw [hr] at P5 ⊢
  obtain ⟨D, hD⟩ : ∃ D, told va.s r = D := ⟨_, rfl⟩
  rw [hD] at P5 ⊢
  clear hD sv5 g5
  obtain ⟨vb, cb, bb⟩ := r
  simp only at P5
  have HRb := Lib.hid hr
  clear hr
  obtain ⟨Xb, hXb⟩ : ∃ X, (w5b.alloc (.cells #[.int .i64 (cb : Nat), .int .i64 vb.s.rev] 46)).alloc (.cells #[.int .i64 D.frm, .int .i64 D.til, .slice MD.aj D.jobs.length MD.cj, .slice MD.an D.nodes.length MD.cn, .slice MD.al D.leases.length MD.cl, .slice MD.gj D.gj.length MD.hj, .slice MD.gn D.gn.length MD.hn, .slice MD.gl D.gl.length MD.hl] 49) = X := ⟨_, rfl⟩
  rw [hXb] at P5
  have Sb := Lib.hid P5.1
  have Tb := Lib.hid P5.2.1
  have Rb := Lib.hid P5.2.2
  clear P5
  have Jb := Lib.hid (doTo_obj Tb.out Ja.out (by decide))
  have Kb := Lib.hid (doTo_obj Tb.out Ka.out (by decide))
  have RAb := Lib.hid (doTo_obj Tb.out Ra.out (by decide))
  have Ub := Lib.hid (doTo_in Tb.out Ua.out (by have := NE.out; omega) S0.out.2.2.2.2.1)
  clear Tb Ja Ka
  have p0 := objAt_cell Kb.out 0 rfl
  have p1 := objAt_cell Kb.out 1 rfl
  have p2 := objAt_cell Kb.out 2 rfl
  have p3 := objAt_cell Kb.out 3 rfl
  have p4 := objAt_cell Kb.out 4 rfl
  have C := Lib.hid (do_is v0 Ub.out.2.1 Ub.out.2.2.1 (putQ k) (wReq_put HWK.out) c Xb Ub.out.2.2.2.2.2.2 Ub.out.1 : Calls Tryz.prog 15 #[.pointer (some ⟨c, 0, none⟩), .agg #[.int .i64 1, .string k.name, .int .i64 k.prio, .int .i64 k.need, .int .i64 k.tries, .string k.tag, .string ⟨#[]⟩, .int .i64 0, .string ⟨#[]⟩, .string ⟨#[]⟩, .string ⟨#[]⟩, .int .i64 0, .string ⟨#[]⟩, .int .i64 0]] Xb (DoPost c v0.s (doR V8 v0.s v0.now (putQ k)) Xb))
  go_wp2_with fail
  refine C.out.mono ?_
  clear C p0 p1 p2 p3 p4
  rintro e w5c ⟨MD, rfl, sv5, -, g5⟩
  have P5 := do_done Ub.out sv5 g5 #[.int .i64 ((doR V8 v0.s v0.now (putQ k)).2.1 : Nat), .int .i64 (doR V8 v0.s v0.now (putQ k)).1.s.rev] #[.int .i64 (told v0.s (doR V8 v0.s v0.now (putQ k))).frm, .int .i64 (told v0.s (doR V8 v0.s v0.now (putQ k))).til, .slice MD.aj (told v0.s (doR V8 v0.s v0.now (putQ k))).jobs.length MD.cj, .slice MD.an (told v0.s (doR V8 v0.s v0.now (putQ k))).nodes.length MD.cn, .slice MD.al (told v0.s (doR V8 v0.s v0.now (putQ k))).leases.length MD.cl, .slice MD.gj (told v0.s (doR V8 v0.s v0.now (putQ k))).gj.length MD.hj, .slice MD.gn (told v0.s (doR V8 v0.s v0.now (putQ k))).gn.length MD.hn, .slice MD.gl (told v0.s (doR V8 v0.s v0.now (putQ k))).gl.length MD.hl]
  obtain ⟨r, hr⟩ : ∃ r, doR V8 v0.s v0.now (putQ k) = r := ⟨_, rfl⟩
  rw [hr] at P5 ⊢
  obtain ⟨D, hD⟩ : ∃ D, told v0.s r = D := ⟨_, rfl⟩
  rw [hD] at P5 ⊢
  clear hD sv5 g5
  obtain ⟨vc, cc, bc⟩ := r
  simp only at P5
  have HRc := Lib.hid hr
  clear hr
  obtain ⟨Xc, hXc⟩ : ∃ X, (w5c.alloc (.cells #[.int .i64 (cc : Nat), .int .i64 vc.s.rev] 46)).alloc (.cells #[.int .i64 D.frm, .int .i64 D.til, .slice MD.aj D.jobs.length MD.cj, .slice MD.an D.nodes.length MD.cn, .slice MD.al D.leases.length MD.cl, .slice MD.gj D.gj.length MD.hj, .slice MD.gn D.gn.length MD.hn, .slice MD.gl D.gl.length MD.hl] 49) = X := ⟨_, rfl⟩
  rw [hXc] at P5
  have Sc := Lib.hid P5.1
  have Tc := Lib.hid P5.2.1
  have Rc := Lib.hid P5.2.2
  clear P5
  have Jc := Lib.hid (doTo_obj Tc.out Jb.out (by decide))
  have Kc := Lib.hid (doTo_obj Tc.out Kb.out (by decide))
  have RAc := Lib.hid (doTo_obj Tc.out RAb.out (by decide))
  have RBc := Lib.hid (doTo_obj Tc.out Rb.out (by decide))
  have Vc := Lib.hid (doTo_in Tc.out Sb.out (by have := NE.out; omega) U0.out.2.2.2.2.1)
  clear Tc Jb Kb
  have p0 := objAt_cell Jc.out 0 rfl
  have p1 := objAt_cell Jc.out 1 rfl
  have p2 := objAt_cell Jc.out 2 rfl
  have p3 := objAt_cell Jc.out 3 rfl
  have p4 := objAt_cell Jc.out 4 rfl
  have C := Lib.hid (do_is vc Sc.out.2.1 Sc.out.2.2.1 (putQ j) (wReq_put HWJ.out) c Xc Sc.out.2.2.2.2.2.2 Sc.out.1 : Calls Tryz.prog 15 #[.pointer (some ⟨c, 0, none⟩), .agg #[.int .i64 1, .string j.name, .int .i64 j.prio, .int .i64 j.need, .int .i64 j.tries, .string j.tag, .string ⟨#[]⟩, .int .i64 0, .string ⟨#[]⟩, .string ⟨#[]⟩, .string ⟨#[]⟩, .int .i64 0, .string ⟨#[]⟩, .int .i64 0]] Xc (DoPost c vc.s (doR V8 vc.s vc.now (putQ j)) Xc))
  go_wp2_with fail
  refine C.out.mono ?_
  clear C p0 p1 p2 p3 p4
  rintro e w5d ⟨MD, rfl, sv5, -, g5⟩
  have P5 := do_done Sc.out sv5 g5 #[.int .i64 ((doR V8 vc.s vc.now (putQ j)).2.1 : Nat), .int .i64 (doR V8 vc.s vc.now (putQ j)).1.s.rev] #[.int .i64 (told vc.s (doR V8 vc.s vc.now (putQ j))).frm, .int .i64 (told vc.s (doR V8 vc.s vc.now (putQ j))).til, .slice MD.aj (told vc.s (doR V8 vc.s vc.now (putQ j))).jobs.length MD.cj, .slice MD.an (told vc.s (doR V8 vc.s vc.now (putQ j))).nodes.length MD.cn, .slice MD.al (told vc.s (doR V8 vc.s vc.now (putQ j))).leases.length MD.cl, .slice MD.gj (told vc.s (doR V8 vc.s vc.now (putQ j))).gj.length MD.hj, .slice MD.gn (told vc.s (doR V8 vc.s vc.now (putQ j))).gn.length MD.hn, .slice MD.gl (told vc.s (doR V8 vc.s vc.now (putQ j))).gl.length MD.hl]
  obtain ⟨r, hr⟩ : ∃ r, doR V8 vc.s vc.now (putQ j) = r := ⟨_, rfl⟩
  rw [hr] at P5 ⊢
  obtain ⟨D, hD⟩ : ∃ D, told vc.s r = D := ⟨_, rfl⟩
  rw [hD] at P5 ⊢
  clear hD sv5 g5
  obtain ⟨vd, cd, bd⟩ := r
  simp only at P5
  have HRd := Lib.hid hr
  clear hr
  obtain ⟨Xd, hXd⟩ : ∃ X, (w5d.alloc (.cells #[.int .i64 (cd : Nat), .int .i64 vd.s.rev] 46)).alloc (.cells #[.int .i64 D.frm, .int .i64 D.til, .slice MD.aj D.jobs.length MD.cj, .slice MD.an D.nodes.length MD.cn, .slice MD.al D.leases.length MD.cl, .slice MD.gj D.gj.length MD.hj, .slice MD.gn D.gn.length MD.hn, .slice MD.gl D.gl.length MD.hl] 49) = X := ⟨_, rfl⟩
  rw [hXd] at P5
  have Sd := Lib.hid P5.1
  have Td := Lib.hid P5.2.1
  have Rd := Lib.hid P5.2.2
  clear P5
  have Jd := Lib.hid (doTo_obj Td.out Jc.out (by decide))
  have Kd := Lib.hid (doTo_obj Td.out Kc.out (by decide))
  have RAd := Lib.hid (doTo_obj Td.out RAc.out (by decide))
  have RBd := Lib.hid (doTo_obj Td.out RBc.out (by decide))
  have RCd := Lib.hid (doTo_obj Td.out Rc.out (by decide))
  have Vd := Lib.hid (doTo_in Td.out Vc.out (by have := NE.out; omega) U0.out.2.2.2.2.1)
  clear Td Jc Kc
  have x0 := objAt_cell RAd.out 0 rfl
  have y0 := objAt_cell RBd.out 0 rfl
  have z0 := objAt_cell RCd.out 0 rfl
  have u0 := objAt_cell Rd.out 0 rfl
  have j0 := objAt_cell Jd.out 0 rfl
  have k0 := objAt_cell Kd.out 0 rfl
  have B9 := Lib.hid Vd.out.2.2.2.1
  by_cases ha : ca = 0
  case neg =>
    have d1 : ((ca : Int) != 0) = true := by simp; omega
    clear ha
    go_wp2
    go_ret
    exact ⟨rfl, B9.out⟩
  have d1 : ((ca : Int) != 0) = false := by simp; omega
  have Hha := Lib.hid ha
  clear ha
  by_cases hb : cb = 0
  case neg =>
    have d2 : ((cb : Int) != 0) = true := by simp; omega
    clear hb
    go_wp2
    go_ret
    exact ⟨rfl, B9.out⟩
  have d2 : ((cb : Int) != 0) = false := by simp; omega
  have Hhb := Lib.hid hb
  clear hb
  by_cases hc : cc = 0
  case neg =>
    have d3 : ((cc : Int) != 0) = true := by simp; omega
    clear hc
    go_wp2
    go_ret
    exact ⟨rfl, B9.out⟩
  have d3 : ((cc : Int) != 0) = false := by simp; omega
  have Hhc := Lib.hid hc
  clear hc
  by_cases hd : cd = 0
  case neg =>
    have d4 : ((cd : Int) != 0) = true := by simp; omega
    clear hd
    go_wp2
    go_ret
    exact ⟨rfl, B9.out⟩
  have d4 : ((cd : Int) != 0) = false := by simp; omega
  have Hhd := Lib.hid hd
  clear hd
  by_cases hn : j.name = k.name
  case pos =>
    have d5 : (j.name.toList == k.name.toList) = true := by rw [hn]; simp
    clear hn
    go_wp2
    go_ret
    exact ⟨rfl, B9.out⟩
  have d5 : (j.name.toList == k.name.toList) = false := lists_ne hn
  have hs : vb.s = vd.s := order_plain ((check_zero V8 s).1 HV.out) hn E0.out (by have h := HRa.out; rw [Hha.out] at h; exact h) (by have h := HRb.out; rw [Hhb.out] at h; exact h) (by have h := HRc.out; rw [Hhc.out] at h; exact h) (by have h := HRd.out; rw [Hhd.out] at h; exact h)
  have H1 := Lib.hid hs
  clear hs hn
  have C := Lib.hid (svState_in Vd.out)
  go_wp2_with fail
  refine C.out.mono ?_
  clear C x0 y0 z0 u0 j0 k0 d1 d2 d3 d4 d5 B9
  rintro e w7 ⟨ej, en, el, fj, fn, fl, rfl, o7, b7⟩
  have U7 := Lib.hid (svIn_next Sd.out b7)
  have C := Lib.hid (svState_in U7.out)
  have O7 := Lib.hid o7
  clear o7 b7
  go_wp2_with fail
  refine C.out.mono ?_
  clear C
  rintro e w9 ⟨gj, gn, gl, qj, qn, ql, rfl, o9, b9⟩
  have U9 := Lib.hid (svIn_next U7.out b9)
  have hA := ownS_at (ownS_next O7.out b9)
  have hB := ownS_at o9
  have C := Lib.hid (same_is vb.s vd.s ej en el gj gn gl fj fn fl qj qn ql (small4 Vd.out.2.1) w9 hA.1 hA.2.1 hA.2.2 hB.1 hB.2.1 hB.2.2)
  clear o9 b9 hA hB U7 O7
  go_wp2_with fail
  refine C.out.mono ?_
  clear C
  rintro e wB ⟨cz, rfl, hcz, bB⟩
  obtain rfl : cz = true := hcz.2 H1.out
  have B9 := Lib.hid (svIn_next U9.out bB).2.2.2.1
  clear hcz bB
  go_wp2
  go_ret
  exact ⟨rfl, B9.out⟩

theorem own : ownKnob Tryz.prog.godebug = none := by kernel_rfl
theorem laidOut : laidOutB Tryz.prog = true := by kernel_rfl
theorem laid_met (os : Os) : laidMet Tryz.prog Rows.serveOrderRow.laid ((laidWorld os).forCall (fun _ _ => 0) ⟨#[], #[.agg #[.int .i64 0, .slice none 0 0, .slice none 0 0, .slice none 0 0], .agg #[.string ⟨#[]⟩, .int .i64 0, .int .i64 0, .int .i64 0, .string ⟨#[]⟩], .agg #[.string ⟨#[]⟩, .int .i64 0, .int .i64 0, .int .i64 0, .string ⟨#[]⟩]], []⟩).memory :=
  laidMet_of_run' 8 (by kernel_rfl) (by kernel_rfl)
theorem reads (os : Os) {H : Type} (enc : TypeId × Value → H) : ∃ places, DataW.whole enc Tryz.prog ((laidWorld os).forCall (fun _ _ => 0) ⟨#[], #[.agg #[.int .i64 0, .slice none 0 0, .slice none 0 0, .slice none 0 0], .agg #[.string ⟨#[]⟩, .int .i64 0, .int .i64 0, .int .i64 0, .string ⟨#[]⟩], .agg #[.string ⟨#[]⟩, .int .i64 0, .int .i64 0, .int .i64 0, .string ⟨#[]⟩]], []⟩).memory Tryz.f11.params.toList Rows.serveOrderSpec.vars false #[Value.agg #[.int .i64 0, .slice none 0 0, .slice none 0 0, .slice none 0 0], Value.agg #[.string ⟨#[]⟩, .int .i64 0, .int .i64 0, .int .i64 0, .string ⟨#[]⟩], Value.agg #[.string ⟨#[]⟩, .int .i64 0, .int .i64 0, .int .i64 0, .string ⟨#[]⟩]].toList 8 = some ([.agg [.lit (.int .i64 0), .nil, .nil, .nil], .agg [.lit (.string []), .lit (.int .i64 0), .lit (.int .i64 0), .lit (.int .i64 0), .lit (.string [])], .agg [.lit (.string []), .lit (.int .i64 0), .lit (.int .i64 0), .lit (.int .i64 0), .lit (.string [])]], [], places) :=
  ⟨[], by kernel_rfl⟩
set_option maxRecDepth 100000 in
set_option maxHeartbeats 2000000 in
theorem lifted (os : Os) (started : os.Started) (H : Type) (enc : TypeId × Value → H) (F : Stop.Interp) :
    ReturnsInHanded {} Tryz.checked os 11 .any ((OpenSpec.ofChange Rows.serveOrderSpec).preRow enc Tryz.prog Tryz.f11 Rows.serveOrderRow.domain false Rows.serveOrderRow.laid) (((OpenSpec.ofChange Rows.serveOrderSpec).at F).post enc Tryz.prog Tryz.f11 false true false false) := by
  obtain ⟨places, hx⟩ := reads os enc
  refine returnsInHanded_of_row (C := Tryz.checked) (s := (OpenSpec.ofChange Rows.serveOrderSpec)) own started (by kernel_rfl) Tryz.func11
    (witness_row_atRef (enc := enc) (C := Tryz.checked) false (laidWorld os) #[.agg #[.int .i64 0, .slice none 0 0, .slice none 0 0, .slice none 0 0], .agg #[.string ⟨#[]⟩, .int .i64 0, .int .i64 0, .int .i64 0, .string ⟨#[]⟩], .agg #[.string ⟨#[]⟩, .int .i64 0, .int .i64 0, .int .i64 0, .string ⟨#[]⟩]] rfl (by kernel_rfl) (by kernel_rfl) (by kernel_rfl)
      (OpenSpec.preRow_of_cond 8 hx (by kernel_rfl) (fun k hk => by cases hk) (by kernel_rfl) (laid_met os))) ?_
  intro W base args ds gs before hval0 hW _ _ hsz0 hL _ _
  have hval : ∀ (j : Nat) t v, Tryz.f11.params[j]? = some t → args[j]? = some v → Value.okWide Tryz.prog W .any base t v := hval0
  have hW' := hW
  obtain ⟨p, q, hA0, hV, rfl, hfz, hnd⟩ := hW
  have hA : DataW.TrodAll enc Tryz.prog W 0 (fun _ => true) true Tryz.f11.params.toList args.toList ds p := hA0
  have hsz : (DataW.weightsEach Tryz.prog (Tryz.f11.params.toList ++ Rows.serveOrderSpec.plain.varTypes Tryz.prog) (ds ++ gs)).all (· ≤ reachBytes) = true := hsz0
  rw [Tryz.params11] at hA hval hsz
  obtain ⟨v0, vs0, d0, ds0, p0, q0, hargs, rfl, rfl, h0, r0⟩ := trodAll_cons hA
  obtain ⟨v1, vs1, d1, ds1, p1, q1, rfl, rfl, rfl, h1, r1⟩ := trodAll_cons r0
  obtain ⟨v2, vs2, d2, ds2, p2, q2, rfl, rfl, rfl, h2, r2⟩ := trodAll_cons r1
  obtain ⟨rfl, rfl, rfl⟩ := trodAll_nil r2
  obtain rfl : args = #[v0, v1, v2] := by cases args; simp_all
  obtain ⟨rfl, rfl⟩ := trodVars_none hV
  obtain ⟨M0, st0, rfl, m0, x0, w0⟩ := open_state (hval 0 26 v0 rfl rfl) h0
  obtain ⟨x1, rfl, rfl, w1⟩ := open_Job (hval 1 38 v1 rfl rfl) h1
  obtain ⟨x2, rfl, rfl, w2⟩ := open_Job (hval 2 38 v2 rfl rfl) h2
  have s0 := sized_state hsz rfl (j := 0) rfl x0
  clear hA0 hval0
  refine (walk M0 st0 x1 x2 w0 w1 w2 s0 W m0 (tabs_of hL)).mono fun e W' ⟨he, bel⟩ => ?_
  subst he
  exact ⟨_, rfl, _, _, _, [], _, [], hW', trodAll_mk1 (shut_bool Tryz.underlying4 _), (trodAll_cons_mk (Below.trod laidOut (by kernel_rfl) (of_decide_eq_true (by kernel_rfl)) h0 bel (fun x hx => by simpa using hW'.lt x (by simp [hx]))) (trodAll_cons_mk (Below.trod laidOut (by kernel_rfl) (of_decide_eq_true (by kernel_rfl)) h1 bel (fun x hx => by cases hx)) (trodAll_cons_mk (Below.trod laidOut (by kernel_rfl) (of_decide_eq_true (by kernel_rfl)) h2 bel (fun x hx => by cases hx)) trodAll_mk0))), rfl, bel.frame _, fun h => by cases h⟩
theorem said : Rows.ServeOrderSaid :=
  OpenClaim.holds_of_cond 11 Tryz.f11 rfl rfl rfl rfl rfl rfl rfl ⟨rfl, rfl, rfl, rfl, rfl⟩ rfl rfl rfl rfl rfl (by kernel_rfl) Tryz.func11 (by kernel_rfl)
    (of_decide_eq_true (by kernel_rfl)) (by unfold Func.isWrapper; first | (rw [if_pos (by decide +kernel)]; kernel_rfl) | (rw [if_neg (by decide +kernel)]; exact ⟨rfl, rfl⟩))
    (fun os started H enc _ F => by rw [OpenClaim.pre_eq_preRow]; exact lifted os started H enc F)
theorem plain (f : FuncId) (fn : Func) (hf : Tryz.pinned.checked.prog.funcNamed Rows.serveOrderRow.func = some f) (hfn : Tryz.pinned.checked.prog.funcs[f]? = some fn) :
    false = Tryz.pinned.checked.prog.looks [] ∧ ∀ (j : Nat) t, fn.params[j]? = some t → Tryz.pinned.checked.prog.wantsStandIn t = false := by
  obtain rfl : f = 11 := Option.some.inj ((show Tryz.prog.funcNamed Rows.serveOrderRow.func = some 11 by kernel_rfl).symm.trans hf) |>.symm
  obtain rfl : fn = Tryz.f11 := (Option.some.inj (Tryz.func11.symm.trans hfn)).symm
  refine ⟨by kernel_rfl, fun j t ht => ?_⟩
  rw [Tryz.params11] at ht
  have hm : t = 26 ∨ t = 38 ∨ t = 38 := by simpa using Array.mem_of_getElem? ht
  rcases hm with rfl | rfl | rfl
  · exact (show Tryz.prog.wantsStandIn 26 = false by kernel_rfl)
  · exact (show Tryz.prog.wantsStandIn 38 = false by kernel_rfl)
  · exact (show Tryz.prog.wantsStandIn 38 = false by kernel_rfl)
theorem proved : Rows.ServeOrderCardSaid :=
  Claim7.holds_tied_plain_at .later [] _ _ _ _ said (fun _ h => by cases h) (by kernel_rfl) (fun _ h => by cases h) serveOrder_row_tie rfl ⟨rfl, rfl⟩ (by kernel_rfl) rfl plain (by kernel_rfl)
#print axioms proved
end Go.Proofs.YtiilagmmgpnpdaaGreatDoor.serveOrder
