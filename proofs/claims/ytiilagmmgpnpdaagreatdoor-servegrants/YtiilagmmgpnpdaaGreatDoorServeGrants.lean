/- For every state and all other arguments the law ServeGrants of the package brackenkeep returns true, as a tied card: who has a lease gets no other one; freed, it may again; its tries are counted. -/
import Derived.Test.YtiilagmmgpnpdaaGreatDoorSvLaw2
import Derived.Test.YtiilagmmgpnpdaaGreatDoorSvArg3
import Derived.Test.YtiilagmmgpnpdaaGreatDoorSvHasL
import Derived.Test.YtiilagmmgpnpdaaGreatDoorSvAtC
namespace Go.Proofs.YtiilagmmgpnpdaaGreatDoor.serveGrants
open Go.ChangeShapes Go.WideShapes Go.ChangeAt Go.RowKit Go.Lib
set_option linter.unusedVariables false
theorem heldG {X w w' : World} {p0 p1 p2 p3 p4 p5 p6 p7 p8 p9 p10 p11 : Addr} {x0 x1 x2 x3 x4 x5 x6 x7 x8 x9 x10 x11 : Value} (l0 : p0.block < X.heap.size) (l1 : p1.block < X.heap.size) (l2 : p2.block < X.heap.size) (l3 : p3.block < X.heap.size) (l4 : p4.block < X.heap.size) (l5 : p5.block < X.heap.size) (l6 : p6.block < X.heap.size) (l7 : p7.block < X.heap.size) (l8 : p8.block < X.heap.size) (l9 : p9.block < X.heap.size) (l10 : p10.block < X.heap.size) (l11 : p11.block < X.heap.size) (h : (w.cell? p0 = some x0 ∧ w.cell? p1 = some x1 ∧ w.cell? p2 = some x2 ∧ w.cell? p3 = some x3 ∧ w.cell? p4 = some x4 ∧ w.cell? p5 = some x5 ∧ w.cell? p6 = some x6 ∧ w.cell? p7 = some x7 ∧ w.cell? p8 = some x8 ∧ w.cell? p9 = some x9 ∧ w.cell? p10 = some x10 ∧ w.cell? p11 = some x11) ∧ Below X.heap.size X w) (k : Below w.heap.size w w') : (w'.cell? p0 = some x0 ∧ w'.cell? p1 = some x1 ∧ w'.cell? p2 = some x2 ∧ w'.cell? p3 = some x3 ∧ w'.cell? p4 = some x4 ∧ w'.cell? p5 = some x5 ∧ w'.cell? p6 = some x6 ∧ w'.cell? p7 = some x7 ∧ w'.cell? p8 = some x8 ∧ w'.cell? p9 = some x9 ∧ w'.cell? p10 = some x10 ∧ w'.cell? p11 = some x11) ∧ Below X.heap.size X w' := by
  have hs := h.2.size
  obtain ⟨⟨h0, h1, h2, h3, h4, h5, h6, h7, h8, h9, h10, h11⟩, hB⟩ := h
  exact ⟨⟨by rw [k.cell (p := p0) (by omega)]; exact h0, by rw [k.cell (p := p1) (by omega)]; exact h1, by rw [k.cell (p := p2) (by omega)]; exact h2, by rw [k.cell (p := p3) (by omega)]; exact h3, by rw [k.cell (p := p4) (by omega)]; exact h4, by rw [k.cell (p := p5) (by omega)]; exact h5, by rw [k.cell (p := p6) (by omega)]; exact h6, by rw [k.cell (p := p7) (by omega)]; exact h7, by rw [k.cell (p := p8) (by omega)]; exact h8, by rw [k.cell (p := p9) (by omega)]; exact h9, by rw [k.cell (p := p10) (by omega)]; exact h10, by rw [k.cell (p := p11) (by omega)]; exact h11⟩, below_trans hB k hs⟩
set_option maxRecDepth 100000 in
set_option maxHeartbeats 16000000 in
theorem walk (M : StM) (s : StD) (l : LeaseD) (hws : wState s) (hwl : wLease l) (hzs : SzState s) (w : World) (hm : StateAt w M s) (hT : Tabs w) :
    Calls Tryz.prog 8 #[stV M s, .agg #[.string l.job, .string l.node, .int .i64 l.til]] w fun e w' => e = .returned (.bool true) ∧ Below w.heap.size w w' := by
  obtain ⟨aj, cj, an, cn, al, cl⟩ := M
  have hm : JobsAt w aj s.jobs ∧ NodesAt w an s.nodes ∧ LeasesAt w al s.leases := hm
  show Calls _ _ #[.agg #[.int .i64 s.rev, .slice aj s.jobs.length cj, .slice an s.nodes.length cn, .slice al s.leases.length cl], .agg #[.string l.job, .string l.node, .int .i64 l.til]] _ _
  have bb0 := below_one w (.cells #[.int .i64 s.rev, .slice aj s.jobs.length cj, .slice an s.nodes.length cn, .slice al s.leases.length cl] 26)
  have I0 := bxS_new (cj := cj) (cn := cn) (cl := cl) (w := w) hm
  have bb1 := below_one (w.alloc (.cells #[.int .i64 s.rev, .slice aj s.jobs.length cj, .slice an s.nodes.length cn, .slice al s.leases.length cl] 26)) (.cells #[.string l.job, .string l.node, .int .i64 l.til] 42)
  have L0 := objAt_new (w.alloc (.cells #[.int .i64 s.rev, .slice aj s.jobs.length cj, .slice an s.nodes.length cn, .slice al s.leases.length cl] 26)) #[.string l.job, .string l.node, .int .i64 l.til] 42
  simp only [World.size_alloc] at L0
  have I0 := bxS_next I0 bb1
  have bb0 := below_trans bb0 bb1 (by simp only [World.size_alloc]; omega)
  clear bb1
  obtain ⟨W0, hW0⟩ : ∃ W0, (w.alloc (.cells #[.int .i64 s.rev, .slice aj s.jobs.length cj, .slice an s.nodes.length cn, .slice al s.leases.length cl] 26)).alloc (.cells #[.string l.job, .string l.node, .int .i64 l.til] 42) = W0 := ⟨_, rfl⟩
  rw [hW0] at bb0 I0 L0
  have C := Lib.hid (served_is W0 (hT.below bb0))
  have HS := Lib.hid hws
  have HT := Lib.hid hT
  have HM0 := Lib.hid hm
  have I0 := Lib.hid I0
  have B0 := Lib.hid bb0
  have L0 := Lib.hid L0
  have HWL := Lib.hid hwl
  clear hwl hzs
  clear hws hT hm bb0
  go_enter Tryz.func8, Tryz.ntmps8
  go_wp2_with fail
  refine C.out.mono ?_
  rintro e w1 ⟨rfl, b1⟩
  have I1 := Lib.hid (bxS_next I0.out b1)
  have B1 := Lib.hid (below_trans B0.out b1 B0.out.size)
  have L1 := Lib.hid (objAt_next L0.out b1)
  clear b1 C I0 B0 L0
  by_cases hv : checkE V8 s = 0
  case neg =>
    have hv' : ((checkE V8 s : Int) != 0) = true := by simp; omega
    have C := Lib.hid (svNew_bad s aj an al cj cn cl HS.out hv w1 (HT.out.below B1.out) I1.out.2)
    obtain ⟨k, hk⟩ : ∃ k, checkE V8 s = k := ⟨_, rfl⟩
    rw [hk] at hv' C
    clear hv hk
    obtain ⟨z0, z1, z2, z3⟩ := bxS_cells I1.out
    go_wp2_with fail
    refine C.out.mono ?_
    rintro e w2 ⟨rfl, b2⟩
    have B2 := Lib.hid (below_trans B1.out b2 B1.out.size)
    clear b2 C z0 z1 z2 z3
    go_wp2
    go_ret
    exact ⟨rfl, B2.out⟩
  have C := Lib.hid (svNew_ok s aj an al cj cn cl hv w1 (HT.out.below B1.out) I1.out.2)
  have HV := Lib.hid hv
  clear hv
  obtain ⟨z0, z1, z2, z3⟩ := bxS_cells I1.out
  go_wp2_with fail
  refine C.out.mono ?_
  rintro e w2 ⟨b, rfl, hb, sv, b2⟩
  have I2 := Lib.hid (bxS_next I1.out b2)
  have L2 := Lib.hid (objAt_next L1.out b2)
  have sv2 := svIn_new HV.out sv (below_trans B1.out b2 B1.out.size) HT.out (Nat.le_trans B1.out.size hb)
  obtain ⟨v0, hv0⟩ : ∃ v, (⟨s, 0⟩ : SvD) = v := ⟨_, rfl⟩
  rw [hv0] at sv2
  have S0 := Lib.hid sv2
  have E0 := Lib.hid hv0
  clear b2 C z0 z1 z2 z3 sv hb B1 I1 sv2 hv0 L1
  have SB0 := Lib.hid I2.out.1
  have hs40 := (small_sv (s := s) HV.out).1
  have C := Lib.hid (jobAt_is s.jobs aj cj (by omega) l.job w2 (jobsAt_next HM0.out.1 S0.out.2.2.2.1))
  have s1 := objAt_cell SB0.out 1 rfl
  have l0 := objAt_cell L2.out 0 rfl
  clear I2 hs40
  go_wp2_with fail
  refine C.out.mono ?_
  clear C s1 l0
  rintro e w3 ⟨k, rfl, hk, b3⟩
  have HK := Lib.hid hk
  have S1 := Lib.hid (svIn_next S0.out b3)
  have SB1 := Lib.hid (objAt_next SB0.out b3)
  have L3 := Lib.hid (objAt_next L2.out b3)
  clear hk b3 S0 SB0 L2
  have p0 := objAt_cell L3.out 0 rfl
  have p1 := objAt_cell L3.out 1 rfl
  have p2 := objAt_cell L3.out 2 rfl
  have C := Lib.hid (do_is v0 S1.out.2.1 S1.out.2.2.1 (grantQ l) (wReq_grant HWL.out) b w3 S1.out.2.2.2.2.2.2 S1.out.1 : Calls Tryz.prog 15 #[.pointer (some ⟨b, 0, none⟩), .agg #[.int .i64 5, .string ⟨#[]⟩, .int .i64 0, .int .i64 0, .int .i64 0, .string ⟨#[]⟩, .string ⟨#[]⟩, .int .i64 0, .string ⟨#[]⟩, .string l.job, .string l.node, .int .i64 l.til, .string ⟨#[]⟩, .int .i64 0]] w3 (DoPost b v0.s (doR V8 v0.s v0.now (grantQ l)) w3))
  go_wp2_with fail
  refine C.out.mono ?_
  clear C p0 p1 p2
  rintro e w5a ⟨MD, rfl, sv5, -, g5⟩
  have P5 := do_done S1.out sv5 g5 #[.int .i64 ((doR V8 v0.s v0.now (grantQ l)).2.1 : Nat), .int .i64 (doR V8 v0.s v0.now (grantQ l)).1.s.rev] #[.int .i64 (told v0.s (doR V8 v0.s v0.now (grantQ l))).frm, .int .i64 (told v0.s (doR V8 v0.s v0.now (grantQ l))).til, .slice MD.aj (told v0.s (doR V8 v0.s v0.now (grantQ l))).jobs.length MD.cj, .slice MD.an (told v0.s (doR V8 v0.s v0.now (grantQ l))).nodes.length MD.cn, .slice MD.al (told v0.s (doR V8 v0.s v0.now (grantQ l))).leases.length MD.cl, .slice MD.gj (told v0.s (doR V8 v0.s v0.now (grantQ l))).gj.length MD.hj, .slice MD.gn (told v0.s (doR V8 v0.s v0.now (grantQ l))).gn.length MD.hn, .slice MD.gl (told v0.s (doR V8 v0.s v0.now (grantQ l))).gl.length MD.hl]
  obtain ⟨r, hr⟩ : ∃ r, doR V8 v0.s v0.now (grantQ l) = r := ⟨_, rfl⟩
  rw [hr] at P5 ⊢
  obtain ⟨D, hD⟩ : ∃ D, told v0.s r = D := ⟨_, rfl⟩
  rw [hD] at P5 ⊢
  clear hD sv5 g5
  obtain ⟨va, ca, ba⟩ := r
  simp only at P5
  have HRa := Lib.hid hr
  clear hr
  obtain ⟨Xa, hXa⟩ : ∃ X, (w5a.alloc (.cells #[.int .i64 (ca : Nat), .int .i64 va.s.rev] 46)).alloc (.cells #[.int .i64 D.frm, .int .i64 D.til, .slice MD.aj D.jobs.length MD.cj, .slice MD.an D.nodes.length MD.cn, .slice MD.al D.leases.length MD.cl, .slice MD.gj D.gj.length MD.hj, .slice MD.gn D.gn.length MD.hn, .slice MD.gl D.gl.length MD.hl] 49) = X := ⟨_, rfl⟩
  rw [hXa] at P5
  have Sa := Lib.hid P5.1
  have Ta := Lib.hid P5.2.1
  have Ra := Lib.hid P5.2.2
  clear P5
  have SBa := Lib.hid (doTo_obj Ta.out SB1.out (by decide))
  have La := Lib.hid (doTo_obj Ta.out L3.out (by decide))
  have x0 := objAt_cell Ra.out 0 rfl
  clear Ta SB1 L3
  by_cases hc : ca = 0
  case neg =>
    have c1 : ((ca : Int) != 0) = true := by simp; omega
    have e1 : va.s = s := by
      have h := (sv_refused (U := V8) (s := v0.s) v0.now (grantQ l) (Or.inl (by rw [HRa.out]; exact hc))).1
      rw [HRa.out] at h
      have h : va = ⟨v0.s, v0.now⟩ := h
      rw [h, ← E0.out]
    have E1 := Lib.hid e1
    clear e1 hc
    have HR := Lib.hid (fun W' (h : (W'.cell? ⟨w.heap.size, 0, none⟩ = some (.int .i64 s.rev) ∧ W'.cell? ⟨w.heap.size, 1, none⟩ = some (.slice aj s.jobs.length cj) ∧ W'.cell? ⟨w.heap.size, 2, none⟩ = some (.slice an s.nodes.length cn) ∧ W'.cell? ⟨w.heap.size, 3, none⟩ = some (.slice al s.leases.length cl)) ∧ Below Xa.heap.size Xa W') => svState_in (svIn_next Sa.out h.2))
    have HM := Lib.hid (fun W' (h : (W'.cell? ⟨w.heap.size, 0, none⟩ = some (.int .i64 s.rev) ∧ W'.cell? ⟨w.heap.size, 1, none⟩ = some (.slice aj s.jobs.length cj) ∧ W'.cell? ⟨w.heap.size, 2, none⟩ = some (.slice an s.nodes.length cn) ∧ W'.cell? ⟨w.heap.size, 3, none⟩ = some (.slice al s.leases.length cl)) ∧ Below Xa.heap.size Xa W') (B : Nat) (ej en el : Option Addr) (fj fn fl : Nat) (o : OwnS B ej en el fj fn fl va.s W') => same_is va.s s ej en el aj an al fj fn fl cj cn cl (small4 Sa.out.2.1) W' (ownS_at o).1 (ownS_at o).2.1 (ownS_at o).2.2 (jobsAt_next HM0.out.1 (svIn_next Sa.out h.2).2.2.2.1) (nodesAt_next HM0.out.2.1 (svIn_next Sa.out h.2).2.2.2.1) (leasesAt_next HM0.out.2.2 (svIn_next Sa.out h.2).2.2.2.1))
    have l1 := objAt_lt SBa.out
    obtain ⟨y0, y1, y2, y3⟩ : (Xa.cell? ⟨w.heap.size, 0, none⟩ = some (.int .i64 s.rev) ∧ Xa.cell? ⟨w.heap.size, 1, none⟩ = some (.slice aj s.jobs.length cj) ∧ Xa.cell? ⟨w.heap.size, 2, none⟩ = some (.slice an s.nodes.length cn) ∧ Xa.cell? ⟨w.heap.size, 3, none⟩ = some (.slice al s.leases.length cl)) := ⟨objAt_cell SBa.out 0 rfl, objAt_cell SBa.out 1 rfl, objAt_cell SBa.out 2 rfl, objAt_cell SBa.out 3 rfl⟩
    have s0 : (Xa.drew.cell? ⟨w.heap.size, 0, none⟩ = some (.int .i64 s.rev) ∧ Xa.drew.cell? ⟨w.heap.size, 1, none⟩ = some (.slice aj s.jobs.length cj) ∧ Xa.drew.cell? ⟨w.heap.size, 2, none⟩ = some (.slice an s.nodes.length cn) ∧ Xa.drew.cell? ⟨w.heap.size, 3, none⟩ = some (.slice al s.leases.length cl)) ∧ Below Xa.heap.size Xa Xa.drew := ⟨⟨y0, y1, y2, y3⟩, (Below.refl _ _).drew⟩
    go_wp2_with fail
    first
    | go_region_with (first
        | (go_at_call 19; (with_reducible refine (HR.out _ s0).mono ?_); rintro e w6 ⟨ej, en, el, fj, fn, fl, rfl, ow7, b6⟩; have o6 := held4n l1 s0 b6; obtain ⟨m0, m1, m2, m3⟩ := o6.1)
        | (go_at_call 18; (with_reducible refine (HM.out _ o6 _ _ _ _ _ _ _ ow7).mono ?_); rintro e w7 ⟨c7, rfl, hc7, b7⟩; obtain rfl : c7 = true := (hc7.2 E1.out); have o7 := held4n l1 o6 b7))
    | fail "with"
    all_goals
      have B9 := Lib.hid (svIn_next Sa.out o7.2).2.2.2.1
      clear s0
      go_wp2
      go_ret
      exact ⟨rfl, B9.out⟩
  have c1 : ((ca : Int) != 0) = false := by simp; omega
  have hp := sv_grant (U := V8) ((check_zero V8 _).1 S1.out.2.1) v0.now l (by rw [HRa.out]; exact hc)
  rw [HRa.out] at hp
  have e1 : v0.s = s := by rw [← E0.out]
  rw [e1] at hp
  replace hp : va.now = v0.now ∧ va.s.jobs = putL (·.name) (triedJ (jobOf s.jobs l.job)) s.jobs ∧ va.s.nodes = s.nodes ∧ va.s.leases = putL (·.job) l s.leases ∧ hasJob s.jobs l.job = true ∧ hasNode s.nodes l.node = true ∧ hasLease s.leases l.job = false ∧ leaseCE V8 l = 0 := hp
  obtain ⟨_, g1, g2, g3, g4, g5, g6, g7⟩ := hp
  have hv := (check_zero V8 s).1 HV.out
  have hlin : l ∈ va.s.leases := by rw [g3]; exact put_in hv.2.2.2.2.1.2 l
  have hjin : hasJob va.s.jobs l.job = true := (hasJob_iff _ _).2 ⟨triedJ (jobOf s.jobs l.job), by rw [g1]; exact put_in hv.2.2.1.2 _, (jobOf_mem g4).2⟩
  have hnin : hasNode va.s.nodes l.node = true := by rw [g2]; exact g5
  obtain ⟨i, hi, rfl, hik⟩ := at_yes HK.out ((hasJob_iff _ _).1 g4)
  have hset : va.s.jobs = s.jobs.set i (triedJ s.jobs[i]) := by rw [g1]; exact tries_at hv g4 hi hik
  have hle : ((leaseCE_zero (U := V8) l).1 g7).1.1 = ((leaseCE_zero (U := V8) l).1 g7).1.1 := rfl
  have HL := Lib.hid (And.intro hlin (And.intro hjin (And.intro hnin (And.intro ((hasLease_iff _ _).2 ⟨l, hlin, rfl⟩) (And.intro g6 (And.intro g7 ((leaseCE_zero (U := V8) l).1 g7).1.1))))))
  have HSET := Lib.hid hset
  have HI := Lib.hid hi
  have htr := ((jobE_zero V8 s.jobs[i]).1 (hv.2.2.1.1 _ (List.getElem_mem hi))).2.2.2
  have HTR := Lib.hid htr
  clear g1 g2 g3 g4 g5 g6 g7 hlin hjin hnin hset hik hle hv e1 htr hc HK
  have C := Lib.hid (svState_in Sa.out)
  go_wp2_with fail
  refine C.out.mono ?_
  clear C
  rintro e w6b ⟨ej, en, el, fj, fn, fl, rfl, ow, b6⟩
  have bB := below_one w6b (.cells #[.int .i64 va.s.rev, .slice ej va.s.jobs.length fj, .slice en va.s.nodes.length fn, .slice el va.s.leases.length fl] 26)
  have oB := objAt_new w6b #[.int .i64 va.s.rev, .slice ej va.s.jobs.length fj, .slice en va.s.nodes.length fn, .slice el va.s.leases.length fl] 26
  obtain ⟨Xb, hXb⟩ : ∃ X, w6b.alloc (.cells #[.int .i64 va.s.rev, .slice ej va.s.jobs.length fj, .slice en va.s.nodes.length fn, .slice el va.s.leases.length fl] 26) = X := ⟨_, rfl⟩
  rw [hXb] at bB oB
  have bb := below_trans b6 bB b6.size
  have Sb := Lib.hid (svIn_next Sa.out bb)
  have OTb := Lib.hid (And.intro oB (ownS_next ow bB))
  have BTb := Lib.hid bb
  clear b6 bB oB ow bb
  have SBb := Lib.hid (objAt_next SBa.out BTb.out)
  have Lb := Lib.hid (objAt_next La.out BTb.out)
  have TB := Lib.hid OTb.out.1
  have OW := Lib.hid OTb.out.2
  clear SBa La Ra x0 c1 OTb BTb
  have p0 := objAt_cell Lb.out 0 rfl
  have p1 := objAt_cell Lb.out 1 rfl
  have p2 := objAt_cell Lb.out 2 rfl
  have C := Lib.hid (do_is va Sb.out.2.1 Sb.out.2.2.1 (grantQ l) (wReq_grant HWL.out) b Xb Sb.out.2.2.2.2.2.2 Sb.out.1 : Calls Tryz.prog 15 #[.pointer (some ⟨b, 0, none⟩), .agg #[.int .i64 5, .string ⟨#[]⟩, .int .i64 0, .int .i64 0, .int .i64 0, .string ⟨#[]⟩, .string ⟨#[]⟩, .int .i64 0, .string ⟨#[]⟩, .string l.job, .string l.node, .int .i64 l.til, .string ⟨#[]⟩, .int .i64 0]] Xb (DoPost b va.s (doR V8 va.s va.now (grantQ l)) Xb))
  go_wp2_with fail
  refine C.out.mono ?_
  clear C p0 p1 p2
  rintro e w5c ⟨MD, rfl, sv5, -, g5⟩
  have P5 := do_done Sb.out sv5 g5 #[.int .i64 ((doR V8 va.s va.now (grantQ l)).2.1 : Nat), .int .i64 (doR V8 va.s va.now (grantQ l)).1.s.rev] #[.int .i64 (told va.s (doR V8 va.s va.now (grantQ l))).frm, .int .i64 (told va.s (doR V8 va.s va.now (grantQ l))).til, .slice MD.aj (told va.s (doR V8 va.s va.now (grantQ l))).jobs.length MD.cj, .slice MD.an (told va.s (doR V8 va.s va.now (grantQ l))).nodes.length MD.cn, .slice MD.al (told va.s (doR V8 va.s va.now (grantQ l))).leases.length MD.cl, .slice MD.gj (told va.s (doR V8 va.s va.now (grantQ l))).gj.length MD.hj, .slice MD.gn (told va.s (doR V8 va.s va.now (grantQ l))).gn.length MD.hn, .slice MD.gl (told va.s (doR V8 va.s va.now (grantQ l))).gl.length MD.hl]
  obtain ⟨r, hr⟩ : ∃ r, doR V8 va.s va.now (grantQ l) = r := ⟨_, rfl⟩
  rw [hr] at P5 ⊢
  obtain ⟨D, hD⟩ : ∃ D, told va.s r = D := ⟨_, rfl⟩
  rw [hD] at P5 ⊢
  clear hD sv5 g5
  obtain ⟨vc, cc, bc⟩ := r
  simp only at P5
  have HRc := Lib.hid hr
  clear hr
  obtain ⟨Xc, hXc⟩ : ∃ X, (w5c.alloc (.cells #[.int .i64 (cc : Nat), .int .i64 vc.s.rev] 46)).alloc (.cells #[.int .i64 D.frm, .int .i64 D.til, .slice MD.aj D.jobs.length MD.cj, .slice MD.an D.nodes.length MD.cn, .slice MD.al D.leases.length MD.cl, .slice MD.gj D.gj.length MD.hj, .slice MD.gn D.gn.length MD.hn, .slice MD.gl D.gl.length MD.hl] 49) = X := ⟨_, rfl⟩
  rw [hXc] at P5
  have Sc := Lib.hid P5.1
  have Tc := Lib.hid P5.2.1
  have Rc := Lib.hid P5.2.2
  clear P5
  have SBc := Lib.hid (doTo_obj Tc.out SBb.out (by decide))
  have Lc := Lib.hid (doTo_obj Tc.out Lb.out (by decide))
  have TBc := Lib.hid (doTo_obj Tc.out TB.out (by decide))
  have OWc := Lib.hid (doTo_own Tc.out OW.out)
  have hb2 := HRc.out.symm.trans (sv_grant_again (U := V8) (s := va.s) va.now HL.out.2.2.2.2.2.1 HL.out.2.1 HL.out.2.2.1 HL.out.2.2.2.1)
  obtain ⟨h1, h2⟩ := Prod.mk.inj hb2
  obtain ⟨h3, h4⟩ := Prod.mk.inj h2
  have H7 : Hid (cc = 7) := h3
  replace h1 : vc = va := h1
  have H1 := Lib.hid h1
  clear hb2 h2 h4 h1 h3 SBb Lb TB OW Tc
  have p0 := objAt_cell Lc.out 0 rfl
  have p1 := objAt_cell Lc.out 1 rfl
  have p2 := objAt_cell Lc.out 2 rfl
  have C := Lib.hid (do_is vc Sc.out.2.1 Sc.out.2.2.1 (freeQ l.job) (wReq_free HWL.out.1) b Xc Sc.out.2.2.2.2.2.2 Sc.out.1 : Calls Tryz.prog 15 #[.pointer (some ⟨b, 0, none⟩), .agg #[.int .i64 6, .string ⟨#[]⟩, .int .i64 0, .int .i64 0, .int .i64 0, .string ⟨#[]⟩, .string ⟨#[]⟩, .int .i64 0, .string ⟨#[]⟩, .string ⟨#[]⟩, .string ⟨#[]⟩, .int .i64 0, .string l.job, .int .i64 0]] Xc (DoPost b vc.s (doR V8 vc.s vc.now (freeQ l.job)) Xc))
  go_wp2_with fail
  refine C.out.mono ?_
  clear C p0 p1 p2
  rintro e w5d ⟨MD, rfl, sv5, -, g5⟩
  have P5 := do_done Sc.out sv5 g5 #[.int .i64 ((doR V8 vc.s vc.now (freeQ l.job)).2.1 : Nat), .int .i64 (doR V8 vc.s vc.now (freeQ l.job)).1.s.rev] #[.int .i64 (told vc.s (doR V8 vc.s vc.now (freeQ l.job))).frm, .int .i64 (told vc.s (doR V8 vc.s vc.now (freeQ l.job))).til, .slice MD.aj (told vc.s (doR V8 vc.s vc.now (freeQ l.job))).jobs.length MD.cj, .slice MD.an (told vc.s (doR V8 vc.s vc.now (freeQ l.job))).nodes.length MD.cn, .slice MD.al (told vc.s (doR V8 vc.s vc.now (freeQ l.job))).leases.length MD.cl, .slice MD.gj (told vc.s (doR V8 vc.s vc.now (freeQ l.job))).gj.length MD.hj, .slice MD.gn (told vc.s (doR V8 vc.s vc.now (freeQ l.job))).gn.length MD.hn, .slice MD.gl (told vc.s (doR V8 vc.s vc.now (freeQ l.job))).gl.length MD.hl]
  obtain ⟨r, hr⟩ : ∃ r, doR V8 vc.s vc.now (freeQ l.job) = r := ⟨_, rfl⟩
  rw [hr] at P5 ⊢
  obtain ⟨D, hD⟩ : ∃ D, told vc.s r = D := ⟨_, rfl⟩
  rw [hD] at P5 ⊢
  clear hD sv5 g5
  obtain ⟨vd, cd, bd⟩ := r
  simp only at P5
  have HRd := Lib.hid hr
  clear hr
  obtain ⟨Xd, hXd⟩ : ∃ X, (w5d.alloc (.cells #[.int .i64 (cd : Nat), .int .i64 vd.s.rev] 46)).alloc (.cells #[.int .i64 D.frm, .int .i64 D.til, .slice MD.aj D.jobs.length MD.cj, .slice MD.an D.nodes.length MD.cn, .slice MD.al D.leases.length MD.cl, .slice MD.gj D.gj.length MD.hj, .slice MD.gn D.gn.length MD.hn, .slice MD.gl D.gl.length MD.hl] 49) = X := ⟨_, rfl⟩
  rw [hXd] at P5
  have Sd := Lib.hid P5.1
  have Td := Lib.hid P5.2.1
  have Rd := Lib.hid P5.2.2
  clear P5
  have SBd := Lib.hid (doTo_obj Td.out SBc.out (by decide))
  have Ld := Lib.hid (doTo_obj Td.out Lc.out (by decide))
  have TBd := Lib.hid (doTo_obj Td.out TBc.out (by decide))
  have RCd := Lib.hid (doTo_obj Td.out Rc.out (by decide))
  have OWd := Lib.hid (doTo_own Td.out OWc.out)
  clear SBc Lc TBc OWc Td Rc
  have p0 := objAt_cell Ld.out 0 rfl
  have p1 := objAt_cell Ld.out 1 rfl
  have p2 := objAt_cell Ld.out 2 rfl
  have C := Lib.hid (do_is vd Sd.out.2.1 Sd.out.2.2.1 (freeQ l.job) (wReq_free HWL.out.1) b Xd Sd.out.2.2.2.2.2.2 Sd.out.1 : Calls Tryz.prog 15 #[.pointer (some ⟨b, 0, none⟩), .agg #[.int .i64 6, .string ⟨#[]⟩, .int .i64 0, .int .i64 0, .int .i64 0, .string ⟨#[]⟩, .string ⟨#[]⟩, .int .i64 0, .string ⟨#[]⟩, .string ⟨#[]⟩, .string ⟨#[]⟩, .int .i64 0, .string l.job, .int .i64 0]] Xd (DoPost b vd.s (doR V8 vd.s vd.now (freeQ l.job)) Xd))
  go_wp2_with fail
  refine C.out.mono ?_
  clear C p0 p1 p2
  rintro e w5e ⟨MD, rfl, sv5, -, g5⟩
  have P5 := do_done Sd.out sv5 g5 #[.int .i64 ((doR V8 vd.s vd.now (freeQ l.job)).2.1 : Nat), .int .i64 (doR V8 vd.s vd.now (freeQ l.job)).1.s.rev] #[.int .i64 (told vd.s (doR V8 vd.s vd.now (freeQ l.job))).frm, .int .i64 (told vd.s (doR V8 vd.s vd.now (freeQ l.job))).til, .slice MD.aj (told vd.s (doR V8 vd.s vd.now (freeQ l.job))).jobs.length MD.cj, .slice MD.an (told vd.s (doR V8 vd.s vd.now (freeQ l.job))).nodes.length MD.cn, .slice MD.al (told vd.s (doR V8 vd.s vd.now (freeQ l.job))).leases.length MD.cl, .slice MD.gj (told vd.s (doR V8 vd.s vd.now (freeQ l.job))).gj.length MD.hj, .slice MD.gn (told vd.s (doR V8 vd.s vd.now (freeQ l.job))).gn.length MD.hn, .slice MD.gl (told vd.s (doR V8 vd.s vd.now (freeQ l.job))).gl.length MD.hl]
  obtain ⟨r, hr⟩ : ∃ r, doR V8 vd.s vd.now (freeQ l.job) = r := ⟨_, rfl⟩
  rw [hr] at P5 ⊢
  obtain ⟨D, hD⟩ : ∃ D, told vd.s r = D := ⟨_, rfl⟩
  rw [hD] at P5 ⊢
  clear hD sv5 g5
  obtain ⟨ve, ce, be⟩ := r
  simp only at P5
  have HRe := Lib.hid hr
  clear hr
  obtain ⟨Xe, hXe⟩ : ∃ X, (w5e.alloc (.cells #[.int .i64 (ce : Nat), .int .i64 ve.s.rev] 46)).alloc (.cells #[.int .i64 D.frm, .int .i64 D.til, .slice MD.aj D.jobs.length MD.cj, .slice MD.an D.nodes.length MD.cn, .slice MD.al D.leases.length MD.cl, .slice MD.gj D.gj.length MD.hj, .slice MD.gn D.gn.length MD.hn, .slice MD.gl D.gl.length MD.hl] 49) = X := ⟨_, rfl⟩
  rw [hXe] at P5
  have Se := Lib.hid P5.1
  have Te := Lib.hid P5.2.1
  have Re := Lib.hid P5.2.2
  clear P5
  have SBe := Lib.hid (doTo_obj Te.out SBd.out (by decide))
  have Le := Lib.hid (doTo_obj Te.out Ld.out (by decide))
  have TBe := Lib.hid (doTo_obj Te.out TBd.out (by decide))
  have RCe := Lib.hid (doTo_obj Te.out RCd.out (by decide))
  have RDe := Lib.hid (doTo_obj Te.out Rd.out (by decide))
  have OWe := Lib.hid (doTo_own Te.out OWd.out)
  clear SBd Ld TBd OWd Te RCd Rd
  obtain ⟨a1, ha1, lt3, _, _, _, k13, _⟩ := (jobsAt_next HM0.out.1 Se.out.2.2.2.1) i HI.out
  have hlen : va.s.jobs.length = s.jobs.length := by rw [HSET.out, List.length_set]
  obtain ⟨a2, ha2, lt4, _, _, _, k23, _⟩ := (ownS_at OWe.out).1 i (by rw [hlen]; exact HI.out)
  obtain rfl : aj = some a1 := ha1
  obtain rfl : ej = some a2 := ha2
  have e3 : va.s.jobs[i]'(by rw [hlen]; exact HI.out) = triedJ (s.jobs[i]'HI.out) := by
    rw [List.getElem_of_eq HSET.out]; simp
  rw [e3] at k23
  have htr : 0 ≤ (s.jobs[i]'HI.out).tries ∧ (s.jobs[i]'HI.out).tries ≤ 100 := HTR.out
  have k13 : Xe.cell? _ = some (.int .i64 (s.jobs[i]'HI.out).tries) := k13
  have k23 : Xe.cell? _ = some (.int .i64 ((s.jobs[i]'HI.out).tries + 1)) := k23
  obtain ⟨tr, hte⟩ : ∃ t, (s.jobs[i]'HI.out).tries = t := ⟨_, rfl⟩
  rw [hte] at k13 k23 htr
  have hwr : IntKind.i64.wrap (tr + 1) = tr + 1 := IntWalk.i64_in _ (by omega)
  have hm0 : (0 : Int) ≤ (i : Int) := by omega
  have hm1 : (i : Int) < (s.jobs.length : Int) := by have := HI.out; omega
  have hm2 : (i : Int) < (va.s.jobs.length : Int) := by have := HI.out; omega
  have lt0 := objAt_lt SBe.out
  have lt1 := objAt_lt Le.out
  have lt2 := objAt_lt TBe.out
  have lt3 : (a1.add (i * 5)).block < Xe.heap.size := by rw [show (a1.add (i * 5)).block = a1.block from by unfold Addr.add; split <;> rfl]; exact lt3
  have lt4 : (a2.add (i * 5)).block < Xe.heap.size := by rw [show (a2.add (i * 5)).block = a2.block from by unfold Addr.add; split <;> rfl]; exact lt4
  have lt5 := objAt_lt RCe.out
  have lt6 := objAt_lt RDe.out
  have lt7 := objAt_lt Re.out
  have q0 := objAt_cell SBe.out 1 rfl
  have q1 := objAt_cell SBe.out 3 rfl
  have q2 := objAt_cell Le.out 0 rfl
  have q3 := objAt_cell Le.out 1 rfl
  have q4 := objAt_cell Le.out 2 rfl
  have q5 := objAt_cell TBe.out 1 rfl
  have q6 := objAt_cell TBe.out 3 rfl
  have q7 := k13
  have q8 := k23
  have q9 : Xe.cell? ⟨w5c.heap.size, 0, none⟩ = some (.int .i64 7) := by have h := objAt_cell RCe.out 0 rfl; rw [H7.out] at h; exact h
  clear k13 k23 hte htr
  have hf := sv_free (U := V8) (s := vc.s) vc.now HL.out.2.2.2.2.2.2 (by rw [H1.out]; exact HL.out.2.2.2.1)
  rw [HRd.out] at hf
  rcases hf with hd | hd
  · obtain ⟨h1, h2⟩ := Prod.mk.inj hd
    obtain ⟨h3, h4⟩ := Prod.mk.inj h2
    have hb2 := HRe.out.symm.trans (sv_free_none (U := V8) (s := vd.s) vd.now HL.out.2.2.2.2.2.2 (by rw [h1]; exact leasesJ_has _ _))
    obtain ⟨p1, p2⟩ := Prod.mk.inj hb2
    obtain ⟨p3, p4⟩ := Prod.mk.inj p2
    have q10 : Xe.cell? ⟨w5d.heap.size, 0, none⟩ = some (.int .i64 0) := by have h := objAt_cell RDe.out 0 rfl; rw [show cd = 0 from h3] at h; exact h
    have q11 : Xe.cell? ⟨w5e.heap.size, 0, none⟩ = some (.int .i64 6) := by have h := objAt_cell Re.out 0 rfl; rw [show ce = 6 from p3] at h; exact h
    clear hd h1 h2 h3 h4 hb2 p1 p2 p3 p4
    have HR1 := Lib.hid (fun W' (h : (W'.cell? ⟨w.heap.size, 1, none⟩ = some (.slice (some a1) s.jobs.length cj) ∧ W'.cell? ⟨w.heap.size, 3, none⟩ = some (.slice al s.leases.length cl) ∧ W'.cell? ⟨w.heap.size + 1, 0, none⟩ = some (.string l.job) ∧ W'.cell? ⟨w.heap.size + 1, 1, none⟩ = some (.string l.node) ∧ W'.cell? ⟨w.heap.size + 1, 2, none⟩ = some (.int .i64 l.til) ∧ W'.cell? ⟨w6b.heap.size, 1, none⟩ = some (.slice (some a2) va.s.jobs.length fj) ∧ W'.cell? ⟨w6b.heap.size, 3, none⟩ = some (.slice el va.s.leases.length fl) ∧ W'.cell? ⟨(a1.add (i * 5)).block, (a1.add (i * 5)).off + 3, none⟩ = some (.int .i64 tr) ∧ W'.cell? ⟨(a2.add (i * 5)).block, (a2.add (i * 5)).off + 3, none⟩ = some (.int .i64 (tr + 1)) ∧ W'.cell? ⟨w5c.heap.size, 0, none⟩ = some (.int .i64 7) ∧ W'.cell? ⟨w5d.heap.size, 0, none⟩ = some (.int .i64 0) ∧ W'.cell? ⟨w5e.heap.size, 0, none⟩ = some (.int .i64 6)) ∧ Below Xe.heap.size Xe W') => leaseAt_is s.leases al cl (small4 HV.out).2.2 l.job W' (leasesAt_next HM0.out.2.2 (svIn_next Se.out h.2).2.2.2.1))
    have HR2 := Lib.hid (fun W' (h : (W'.cell? ⟨w.heap.size, 1, none⟩ = some (.slice (some a1) s.jobs.length cj) ∧ W'.cell? ⟨w.heap.size, 3, none⟩ = some (.slice al s.leases.length cl) ∧ W'.cell? ⟨w.heap.size + 1, 0, none⟩ = some (.string l.job) ∧ W'.cell? ⟨w.heap.size + 1, 1, none⟩ = some (.string l.node) ∧ W'.cell? ⟨w.heap.size + 1, 2, none⟩ = some (.int .i64 l.til) ∧ W'.cell? ⟨w6b.heap.size, 1, none⟩ = some (.slice (some a2) va.s.jobs.length fj) ∧ W'.cell? ⟨w6b.heap.size, 3, none⟩ = some (.slice el va.s.leases.length fl) ∧ W'.cell? ⟨(a1.add (i * 5)).block, (a1.add (i * 5)).off + 3, none⟩ = some (.int .i64 tr) ∧ W'.cell? ⟨(a2.add (i * 5)).block, (a2.add (i * 5)).off + 3, none⟩ = some (.int .i64 (tr + 1)) ∧ W'.cell? ⟨w5c.heap.size, 0, none⟩ = some (.int .i64 7) ∧ W'.cell? ⟨w5d.heap.size, 0, none⟩ = some (.int .i64 0) ∧ W'.cell? ⟨w5e.heap.size, 0, none⟩ = some (.int .i64 6)) ∧ Below Xe.heap.size Xe W') => hasLease_is va.s.leases l true ⟨fun _ => HL.out.1, fun _ => rfl⟩ el fl (small4 Sa.out.2.1).2.2 W' (leasesAt_next (ownS_at OWe.out).2.2 h.2))
    have s0 : (Xe.drew.cell? ⟨w.heap.size, 1, none⟩ = some (.slice (some a1) s.jobs.length cj) ∧ Xe.drew.cell? ⟨w.heap.size, 3, none⟩ = some (.slice al s.leases.length cl) ∧ Xe.drew.cell? ⟨w.heap.size + 1, 0, none⟩ = some (.string l.job) ∧ Xe.drew.cell? ⟨w.heap.size + 1, 1, none⟩ = some (.string l.node) ∧ Xe.drew.cell? ⟨w.heap.size + 1, 2, none⟩ = some (.int .i64 l.til) ∧ Xe.drew.cell? ⟨w6b.heap.size, 1, none⟩ = some (.slice (some a2) va.s.jobs.length fj) ∧ Xe.drew.cell? ⟨w6b.heap.size, 3, none⟩ = some (.slice el va.s.leases.length fl) ∧ Xe.drew.cell? ⟨(a1.add (i * 5)).block, (a1.add (i * 5)).off + 3, none⟩ = some (.int .i64 tr) ∧ Xe.drew.cell? ⟨(a2.add (i * 5)).block, (a2.add (i * 5)).off + 3, none⟩ = some (.int .i64 (tr + 1)) ∧ Xe.drew.cell? ⟨w5c.heap.size, 0, none⟩ = some (.int .i64 7) ∧ Xe.drew.cell? ⟨w5d.heap.size, 0, none⟩ = some (.int .i64 0) ∧ Xe.drew.cell? ⟨w5e.heap.size, 0, none⟩ = some (.int .i64 6)) ∧ Below Xe.heap.size Xe Xe.drew := ⟨⟨q0, q1, q2, q3, q4, q5, q6, q7, q8, q9, q10, q11⟩, (Below.refl _ _).drew⟩
    clear q0 q1 q2 q3 q4 q5 q6 q7 q8 q9 q10 q11
    go_wp2_with fail
    refine wp_region_held_drew (S := fun x => (x.cell? ⟨w.heap.size, 1, none⟩ = some (.slice (some a1) s.jobs.length cj) ∧ x.cell? ⟨w.heap.size, 3, none⟩ = some (.slice al s.leases.length cl) ∧ x.cell? ⟨w.heap.size + 1, 0, none⟩ = some (.string l.job) ∧ x.cell? ⟨w.heap.size + 1, 1, none⟩ = some (.string l.node) ∧ x.cell? ⟨w.heap.size + 1, 2, none⟩ = some (.int .i64 l.til) ∧ x.cell? ⟨w6b.heap.size, 1, none⟩ = some (.slice (some a2) va.s.jobs.length fj) ∧ x.cell? ⟨w6b.heap.size, 3, none⟩ = some (.slice el va.s.leases.length fl) ∧ x.cell? ⟨(a1.add (i * 5)).block, (a1.add (i * 5)).off + 3, none⟩ = some (.int .i64 tr) ∧ x.cell? ⟨(a2.add (i * 5)).block, (a2.add (i * 5)).off + 3, none⟩ = some (.int .i64 (tr + 1)) ∧ x.cell? ⟨w5c.heap.size, 0, none⟩ = some (.int .i64 7) ∧ x.cell? ⟨w5d.heap.size, 0, none⟩ = some (.int .i64 0) ∧ x.cell? ⟨w5e.heap.size, 0, none⟩ = some (.int .i64 6)) ∧ Below Xe.heap.size Xe x) (by kernel_rfl) s0 (fun hHeld => ?_)
    clear s0
    generalize Xe.drew = V at hHeld ⊢
    refine wpAnyH_take (i := 0) (oi := ⟨_, _, _, _, _, _⟩) (v := .int .i64 (i : Int)) rfl (by kernel_rfl) (by kernel_rfl) (by kernel_rfl) (fun _ _ _ h => h) (Or.inl ⟨by rfl, ?_⟩) hHeld ?_
    · intro x hx; go_simp
    simp only [Act.put, List.setIfInBounds_toArray, List.set_cons_zero, List.set_cons_succ]
    refine wpAnyH_take (i := 1) (oi := ⟨_, _, _, _, _, _⟩) (v := .bool true) rfl (by kernel_rfl) (by kernel_rfl) (by kernel_rfl) (fun _ _ _ h => h) (Or.inl ⟨by rfl, ?_⟩) hHeld ?_
    · intro x hx; go_simp
    simp only [Act.put, List.setIfInBounds_toArray, List.set_cons_zero, List.set_cons_succ]
    refine wpAnyH_take (i := 2) (oi := ⟨_, _, _, _, _, _⟩) (v := .bool true) rfl (by kernel_rfl) (by kernel_rfl) (by kernel_rfl) (fun _ _ _ h => h) (Or.inl ⟨by rfl, ?_⟩) hHeld ?_
    · intro x hx; go_simp
    simp only [Act.put, List.setIfInBounds_toArray, List.set_cons_zero, List.set_cons_succ]
    refine wpAnyH_take (i := 3) (oi := ⟨_, _, _, _, _, _⟩) (v := .pointer (some ⟨w.heap.size, 3, none⟩)) rfl (by kernel_rfl) (by kernel_rfl) (by kernel_rfl) (fun _ _ _ h => h) (Or.inl ⟨by rfl, ?_⟩) hHeld ?_
    · intro x hx; go_simp
    simp only [Act.put, List.setIfInBounds_toArray, List.set_cons_zero, List.set_cons_succ]
    refine wpAnyH_take (i := 4) (oi := ⟨_, _, _, _, _, _⟩) (v := .slice al s.leases.length cl) rfl (by kernel_rfl) (by kernel_rfl) (by kernel_rfl) (fun _ _ _ h => h) (Or.inl ⟨by rfl, ?_⟩) hHeld ?_
    · intro x hx; obtain ⟨⟨q0, q1, q2, q3, q4, q5, q6, q7, q8, q9, q10, q11⟩, _⟩ := hx; go_simp
    simp only [Act.put, List.setIfInBounds_toArray, List.set_cons_zero, List.set_cons_succ]
    refine wpAnyH_take (i := 5) (oi := ⟨_, _, _, _, _, _⟩) (v := .pointer (some ⟨w.heap.size + 1, 0, none⟩)) rfl (by kernel_rfl) (by kernel_rfl) (by kernel_rfl) (fun _ _ _ h => h) (Or.inl ⟨by rfl, ?_⟩) hHeld ?_
    · intro x hx; go_simp
    simp only [Act.put, List.setIfInBounds_toArray, List.set_cons_zero, List.set_cons_succ]
    refine wpAnyH_take (i := 6) (oi := ⟨_, _, _, _, _, _⟩) (v := .string l.job) rfl (by kernel_rfl) (by kernel_rfl) (by kernel_rfl) (fun _ _ _ h => h) (Or.inl ⟨by rfl, ?_⟩) hHeld ?_
    · intro x hx; obtain ⟨⟨q0, q1, q2, q3, q4, q5, q6, q7, q8, q9, q10, q11⟩, _⟩ := hx; go_simp
    simp only [Act.put, List.setIfInBounds_toArray, List.set_cons_zero, List.set_cons_succ]
    refine wpAnyH_ready (rs := [7]) (by kernel_rfl) (by simp) ?_
    refine AllReadyH.cons (o := ⟨_, _, _, _, _, _⟩) rfl (fun K hK => ?_) ?_
    · go_simp
      refine (HR1.out _ hHeld).mono ?_
      rintro e x7 ⟨k6, rfl, hk6, b⟩
      have hk7 : k6 < 0 := at_no hk6 (noLease HL.out.2.2.2.2.1)
      have hN := heldG (p0 := ⟨w.heap.size, 1, none⟩) (p1 := ⟨w.heap.size, 3, none⟩) (p2 := ⟨w.heap.size + 1, 0, none⟩) (p3 := ⟨w.heap.size + 1, 1, none⟩) (p4 := ⟨w.heap.size + 1, 2, none⟩) (p5 := ⟨w6b.heap.size, 1, none⟩) (p6 := ⟨w6b.heap.size, 3, none⟩) (p7 := ⟨(a1.add (i * 5)).block, (a1.add (i * 5)).off + 3, none⟩) (p8 := ⟨(a2.add (i * 5)).block, (a2.add (i * 5)).off + 3, none⟩) (p9 := ⟨w5c.heap.size, 0, none⟩) (p10 := ⟨w5d.heap.size, 0, none⟩) (p11 := ⟨w5e.heap.size, 0, none⟩) lt0 lt0 lt1 lt1 lt1 lt2 lt2 lt3 lt4 lt5 lt6 lt7 hHeld b
      clear b
      go_wp2_with fail
      refine hK.out _ _ hN (fun hHeld => ?_)
      clear hK K hN
      try simp only [Act.put, List.setIfInBounds_toArray, List.set_cons_zero, List.set_cons_succ]
      refine wpAnyH_take (i := 8) (oi := ⟨_, _, _, _, _, _⟩) (v := .bool true) rfl (by kernel_rfl) (by kernel_rfl) (by kernel_rfl) (fun _ _ _ h => h) (Or.inl ⟨by rfl, ?_⟩) hHeld ?_
      · intro x hx; go_simp
      simp only [Act.put, List.setIfInBounds_toArray, List.set_cons_zero, List.set_cons_succ]
      refine wpAnyH_take (i := 9) (oi := ⟨_, _, _, _, _, _⟩) (v := .bool true) rfl (by kernel_rfl) (by kernel_rfl) (by kernel_rfl) (fun _ _ _ h => h) (Or.inl ⟨by rfl, ?_⟩) hHeld ?_
      · intro x hx; go_simp
      simp only [Act.put, List.setIfInBounds_toArray, List.set_cons_zero, List.set_cons_succ]
      refine wpAnyH_take (i := 10) (oi := ⟨_, _, _, _, _, _⟩) (v := .bool true) rfl (by kernel_rfl) (by kernel_rfl) (by kernel_rfl) (fun _ _ _ h => h) (Or.inl ⟨by rfl, ?_⟩) hHeld ?_
      · intro x hx; go_simp
      simp only [Act.put, List.setIfInBounds_toArray, List.set_cons_zero, List.set_cons_succ]
      refine wpAnyH_take (i := 11) (oi := ⟨_, _, _, _, _, _⟩) (v := .pointer (some ⟨w6b.heap.size, 3, none⟩)) rfl (by kernel_rfl) (by kernel_rfl) (by kernel_rfl) (fun _ _ _ h => h) (Or.inl ⟨by rfl, ?_⟩) hHeld ?_
      · intro x hx; go_simp
      simp only [Act.put, List.setIfInBounds_toArray, List.set_cons_zero, List.set_cons_succ]
      refine wpAnyH_take (i := 12) (oi := ⟨_, _, _, _, _, _⟩) (v := .slice el va.s.leases.length fl) rfl (by kernel_rfl) (by kernel_rfl) (by kernel_rfl) (fun _ _ _ h => h) (Or.inl ⟨by rfl, ?_⟩) hHeld ?_
      · intro x hx; obtain ⟨⟨q0, q1, q2, q3, q4, q5, q6, q7, q8, q9, q10, q11⟩, _⟩ := hx; go_simp
      simp only [Act.put, List.setIfInBounds_toArray, List.set_cons_zero, List.set_cons_succ]
      refine wpAnyH_take (i := 13) (oi := ⟨_, _, _, _, _, _⟩) (v := .agg #[.string l.job, .string l.node, .int .i64 l.til]) rfl (by kernel_rfl) (by kernel_rfl) (by kernel_rfl) (fun _ _ _ h => h) (Or.inl ⟨by rfl, ?_⟩) hHeld ?_
      · intro x hx; obtain ⟨⟨q0, q1, q2, q3, q4, q5, q6, q7, q8, q9, q10, q11⟩, _⟩ := hx; go_simp
      simp only [Act.put, List.setIfInBounds_toArray, List.set_cons_zero, List.set_cons_succ]
      refine wpAnyH_ready (rs := [14]) (by kernel_rfl) (by simp) ?_
      refine AllReadyH.cons (o := ⟨_, _, _, _, _, _⟩) rfl (fun K hK => ?_) ?_
      · go_simp
        refine (HR2.out _ hHeld).mono ?_
        rintro e x14 ⟨rfl, b⟩
        have hN := heldG (p0 := ⟨w.heap.size, 1, none⟩) (p1 := ⟨w.heap.size, 3, none⟩) (p2 := ⟨w.heap.size + 1, 0, none⟩) (p3 := ⟨w.heap.size + 1, 1, none⟩) (p4 := ⟨w.heap.size + 1, 2, none⟩) (p5 := ⟨w6b.heap.size, 1, none⟩) (p6 := ⟨w6b.heap.size, 3, none⟩) (p7 := ⟨(a1.add (i * 5)).block, (a1.add (i * 5)).off + 3, none⟩) (p8 := ⟨(a2.add (i * 5)).block, (a2.add (i * 5)).off + 3, none⟩) (p9 := ⟨w5c.heap.size, 0, none⟩) (p10 := ⟨w5d.heap.size, 0, none⟩) (p11 := ⟨w5e.heap.size, 0, none⟩) lt0 lt0 lt1 lt1 lt1 lt2 lt2 lt3 lt4 lt5 lt6 lt7 hHeld b
        clear b
        go_wp2_with fail
        refine hK.out _ _ hN (fun hHeld => ?_)
        clear hK K hN
        try simp only [Act.put, List.setIfInBounds_toArray, List.set_cons_zero, List.set_cons_succ]
        refine wpAnyH_take (i := 15) (oi := ⟨_, _, _, _, _, _⟩) (v := .bool true) rfl (by kernel_rfl) (by kernel_rfl) (by kernel_rfl) (fun _ _ _ h => h) (Or.inl ⟨by rfl, ?_⟩) hHeld ?_
        · intro x hx; go_simp
        simp only [Act.put, List.setIfInBounds_toArray, List.set_cons_zero, List.set_cons_succ]
        refine wpAnyH_take (i := 16) (oi := ⟨_, _, _, _, _, _⟩) (v := .bool true) rfl (by kernel_rfl) (by kernel_rfl) (by kernel_rfl) (fun _ _ _ h => h) (Or.inl ⟨by rfl, ?_⟩) hHeld ?_
        · intro x hx; go_simp
        simp only [Act.put, List.setIfInBounds_toArray, List.set_cons_zero, List.set_cons_succ]
        refine wpAnyH_take (i := 17) (oi := ⟨_, _, _, _, _, _⟩) (v := .pointer (some ⟨w6b.heap.size, 1, none⟩)) rfl (by kernel_rfl) (by kernel_rfl) (by kernel_rfl) (fun _ _ _ h => h) (Or.inl ⟨by rfl, ?_⟩) hHeld ?_
        · intro x hx; go_simp
        simp only [Act.put, List.setIfInBounds_toArray, List.set_cons_zero, List.set_cons_succ]
        refine wpAnyH_take (i := 18) (oi := ⟨_, _, _, _, _, _⟩) (v := .slice (some a2) va.s.jobs.length fj) rfl (by kernel_rfl) (by kernel_rfl) (by kernel_rfl) (fun _ _ _ h => h) (Or.inl ⟨by rfl, ?_⟩) hHeld ?_
        · intro x hx; obtain ⟨⟨q0, q1, q2, q3, q4, q5, q6, q7, q8, q9, q10, q11⟩, _⟩ := hx; go_simp
        simp only [Act.put, List.setIfInBounds_toArray, List.set_cons_zero, List.set_cons_succ]
        refine wpAnyH_take (i := 19) (oi := ⟨_, _, _, _, _, _⟩) (v := .int .i64 (i : Int)) rfl (by kernel_rfl) (by kernel_rfl) (by kernel_rfl) (fun _ _ _ h => h) (Or.inl ⟨by rfl, ?_⟩) hHeld ?_
        · intro x hx; go_simp
        simp only [Act.put, List.setIfInBounds_toArray, List.set_cons_zero, List.set_cons_succ]
        refine wpAnyH_take (i := 20) (oi := ⟨_, _, _, _, _, _⟩) (v := .pointer (some (a2.add (i * 5)))) rfl (by kernel_rfl) (by kernel_rfl) (by kernel_rfl) (fun _ _ _ h => h) (Or.inl ⟨by rfl, ?_⟩) hHeld ?_
        · intro x hx; go_simp
        simp only [Act.put, List.setIfInBounds_toArray, List.set_cons_zero, List.set_cons_succ]
        refine wpAnyH_take (i := 21) (oi := ⟨_, _, _, _, _, _⟩) (v := .pointer (some ⟨(a2.add (i * 5)).block, (a2.add (i * 5)).off + 3, none⟩)) rfl (by kernel_rfl) (by kernel_rfl) (by kernel_rfl) (fun _ _ _ h => h) (Or.inl ⟨by rfl, ?_⟩) hHeld ?_
        · intro x hx; go_simp
        simp only [Act.put, List.setIfInBounds_toArray, List.set_cons_zero, List.set_cons_succ]
        refine wpAnyH_take (i := 22) (oi := ⟨_, _, _, _, _, _⟩) (v := .int .i64 (tr + 1)) rfl (by kernel_rfl) (by kernel_rfl) (by kernel_rfl) (fun _ _ _ h => h) (Or.inl ⟨by rfl, ?_⟩) hHeld ?_
        · intro x hx; obtain ⟨⟨q0, q1, q2, q3, q4, q5, q6, q7, q8, q9, q10, q11⟩, _⟩ := hx; go_simp
        simp only [Act.put, List.setIfInBounds_toArray, List.set_cons_zero, List.set_cons_succ]
        refine wpAnyH_take (i := 23) (oi := ⟨_, _, _, _, _, _⟩) (v := .pointer (some ⟨w.heap.size, 1, none⟩)) rfl (by kernel_rfl) (by kernel_rfl) (by kernel_rfl) (fun _ _ _ h => h) (Or.inl ⟨by rfl, ?_⟩) hHeld ?_
        · intro x hx; go_simp
        simp only [Act.put, List.setIfInBounds_toArray, List.set_cons_zero, List.set_cons_succ]
        refine wpAnyH_take (i := 24) (oi := ⟨_, _, _, _, _, _⟩) (v := .slice (some a1) s.jobs.length cj) rfl (by kernel_rfl) (by kernel_rfl) (by kernel_rfl) (fun _ _ _ h => h) (Or.inl ⟨by rfl, ?_⟩) hHeld ?_
        · intro x hx; obtain ⟨⟨q0, q1, q2, q3, q4, q5, q6, q7, q8, q9, q10, q11⟩, _⟩ := hx; go_simp
        simp only [Act.put, List.setIfInBounds_toArray, List.set_cons_zero, List.set_cons_succ]
        refine wpAnyH_take (i := 25) (oi := ⟨_, _, _, _, _, _⟩) (v := .int .i64 (i : Int)) rfl (by kernel_rfl) (by kernel_rfl) (by kernel_rfl) (fun _ _ _ h => h) (Or.inl ⟨by rfl, ?_⟩) hHeld ?_
        · intro x hx; go_simp
        simp only [Act.put, List.setIfInBounds_toArray, List.set_cons_zero, List.set_cons_succ]
        refine wpAnyH_take (i := 26) (oi := ⟨_, _, _, _, _, _⟩) (v := .pointer (some (a1.add (i * 5)))) rfl (by kernel_rfl) (by kernel_rfl) (by kernel_rfl) (fun _ _ _ h => h) (Or.inl ⟨by rfl, ?_⟩) hHeld ?_
        · intro x hx; go_simp
        simp only [Act.put, List.setIfInBounds_toArray, List.set_cons_zero, List.set_cons_succ]
        refine wpAnyH_take (i := 27) (oi := ⟨_, _, _, _, _, _⟩) (v := .pointer (some ⟨(a1.add (i * 5)).block, (a1.add (i * 5)).off + 3, none⟩)) rfl (by kernel_rfl) (by kernel_rfl) (by kernel_rfl) (fun _ _ _ h => h) (Or.inl ⟨by rfl, ?_⟩) hHeld ?_
        · intro x hx; go_simp
        simp only [Act.put, List.setIfInBounds_toArray, List.set_cons_zero, List.set_cons_succ]
        refine wpAnyH_take (i := 28) (oi := ⟨_, _, _, _, _, _⟩) (v := .int .i64 tr) rfl (by kernel_rfl) (by kernel_rfl) (by kernel_rfl) (fun _ _ _ h => h) (Or.inl ⟨by rfl, ?_⟩) hHeld ?_
        · intro x hx; obtain ⟨⟨q0, q1, q2, q3, q4, q5, q6, q7, q8, q9, q10, q11⟩, _⟩ := hx; go_simp
        simp only [Act.put, List.setIfInBounds_toArray, List.set_cons_zero, List.set_cons_succ]
        refine wpAnyH_take (i := 29) (oi := ⟨_, _, _, _, _, _⟩) (v := .int .i64 (tr + 1)) rfl (by kernel_rfl) (by kernel_rfl) (by kernel_rfl) (fun _ _ _ h => h) (Or.inl ⟨by rfl, ?_⟩) hHeld ?_
        · intro x hx; go_simp
        simp only [Act.put, List.setIfInBounds_toArray, List.set_cons_zero, List.set_cons_succ]
        refine wpAnyH_take (i := 30) (oi := ⟨_, _, _, _, _, _⟩) (v := .bool true) rfl (by kernel_rfl) (by kernel_rfl) (by kernel_rfl) (fun _ _ _ h => h) (Or.inl ⟨by rfl, ?_⟩) hHeld ?_
        · intro x hx; go_simp
        simp only [Act.put, List.setIfInBounds_toArray, List.set_cons_zero, List.set_cons_succ]
        refine wpAnyH_take (i := 31) (oi := ⟨_, _, _, _, _, _⟩) (v := .bool true) rfl (by kernel_rfl) (by kernel_rfl) (by kernel_rfl) (fun _ _ _ h => h) (Or.inl ⟨by rfl, ?_⟩) hHeld ?_
        · intro x hx; go_simp
        simp only [Act.put, List.setIfInBounds_toArray, List.set_cons_zero, List.set_cons_succ]
        refine wpAnyH_take (i := 32) (oi := ⟨_, _, _, _, _, _⟩) (v := .bool true) rfl (by kernel_rfl) (by kernel_rfl) (by kernel_rfl) (fun _ _ _ h => h) (Or.inl ⟨by rfl, ?_⟩) hHeld ?_
        · intro x hx; go_simp
        simp only [Act.put, List.setIfInBounds_toArray, List.set_cons_zero, List.set_cons_succ]
        refine wpAnyH_take (i := 33) (oi := ⟨_, _, _, _, _, _⟩) (v := .pointer (some ⟨w5c.heap.size, 0, none⟩)) rfl (by kernel_rfl) (by kernel_rfl) (by kernel_rfl) (fun _ _ _ h => h) (Or.inl ⟨by rfl, ?_⟩) hHeld ?_
        · intro x hx; go_simp
        simp only [Act.put, List.setIfInBounds_toArray, List.set_cons_zero, List.set_cons_succ]
        refine wpAnyH_take (i := 34) (oi := ⟨_, _, _, _, _, _⟩) (v := .int .i64 7) rfl (by kernel_rfl) (by kernel_rfl) (by kernel_rfl) (fun _ _ _ h => h) (Or.inl ⟨by rfl, ?_⟩) hHeld ?_
        · intro x hx; obtain ⟨⟨q0, q1, q2, q3, q4, q5, q6, q7, q8, q9, q10, q11⟩, _⟩ := hx; go_simp
        simp only [Act.put, List.setIfInBounds_toArray, List.set_cons_zero, List.set_cons_succ]
        refine wpAnyH_take (i := 35) (oi := ⟨_, _, _, _, _, _⟩) (v := .bool true) rfl (by kernel_rfl) (by kernel_rfl) (by kernel_rfl) (fun _ _ _ h => h) (Or.inl ⟨by rfl, ?_⟩) hHeld ?_
        · intro x hx; go_simp
        simp only [Act.put, List.setIfInBounds_toArray, List.set_cons_zero, List.set_cons_succ]
        refine wpAnyH_take (i := 36) (oi := ⟨_, _, _, _, _, _⟩) (v := .bool true) rfl (by kernel_rfl) (by kernel_rfl) (by kernel_rfl) (fun _ _ _ h => h) (Or.inl ⟨by rfl, ?_⟩) hHeld ?_
        · intro x hx; go_simp
        simp only [Act.put, List.setIfInBounds_toArray, List.set_cons_zero, List.set_cons_succ]
        refine wpAnyH_take (i := 37) (oi := ⟨_, _, _, _, _, _⟩) (v := .bool true) rfl (by kernel_rfl) (by kernel_rfl) (by kernel_rfl) (fun _ _ _ h => h) (Or.inl ⟨by rfl, ?_⟩) hHeld ?_
        · intro x hx; go_simp
        simp only [Act.put, List.setIfInBounds_toArray, List.set_cons_zero, List.set_cons_succ]
        refine wpAnyH_take (i := 38) (oi := ⟨_, _, _, _, _, _⟩) (v := .pointer (some ⟨w5d.heap.size, 0, none⟩)) rfl (by kernel_rfl) (by kernel_rfl) (by kernel_rfl) (fun _ _ _ h => h) (Or.inl ⟨by rfl, ?_⟩) hHeld ?_
        · intro x hx; go_simp
        simp only [Act.put, List.setIfInBounds_toArray, List.set_cons_zero, List.set_cons_succ]
        refine wpAnyH_take (i := 39) (oi := ⟨_, _, _, _, _, _⟩) (v := .int .i64 0) rfl (by kernel_rfl) (by kernel_rfl) (by kernel_rfl) (fun _ _ _ h => h) (Or.inl ⟨by rfl, ?_⟩) hHeld ?_
        · intro x hx; obtain ⟨⟨q0, q1, q2, q3, q4, q5, q6, q7, q8, q9, q10, q11⟩, _⟩ := hx; go_simp
        simp only [Act.put, List.setIfInBounds_toArray, List.set_cons_zero, List.set_cons_succ]
        refine wpAnyH_take (i := 40) (oi := ⟨_, _, _, _, _, _⟩) (v := .bool true) rfl (by kernel_rfl) (by kernel_rfl) (by kernel_rfl) (fun _ _ _ h => h) (Or.inl ⟨by rfl, ?_⟩) hHeld ?_
        · intro x hx; go_simp
        simp only [Act.put, List.setIfInBounds_toArray, List.set_cons_zero, List.set_cons_succ]
        refine wpAnyH_take (i := 41) (oi := ⟨_, _, _, _, _, _⟩) (v := .bool true) rfl (by kernel_rfl) (by kernel_rfl) (by kernel_rfl) (fun _ _ _ h => h) (Or.inl ⟨by rfl, ?_⟩) hHeld ?_
        · intro x hx; go_simp
        simp only [Act.put, List.setIfInBounds_toArray, List.set_cons_zero, List.set_cons_succ]
        refine wpAnyH_take (i := 42) (oi := ⟨_, _, _, _, _, _⟩) (v := .pointer (some ⟨w5e.heap.size, 0, none⟩)) rfl (by kernel_rfl) (by kernel_rfl) (by kernel_rfl) (fun _ _ _ h => h) (Or.inl ⟨by rfl, ?_⟩) hHeld ?_
        · intro x hx; go_simp
        simp only [Act.put, List.setIfInBounds_toArray, List.set_cons_zero, List.set_cons_succ]
        refine wpAnyH_take (i := 43) (oi := ⟨_, _, _, _, _, _⟩) (v := .int .i64 6) rfl (by kernel_rfl) (by kernel_rfl) (by kernel_rfl) (fun _ _ _ h => h) (Or.inl ⟨by rfl, ?_⟩) hHeld ?_
        · intro x hx; obtain ⟨⟨q0, q1, q2, q3, q4, q5, q6, q7, q8, q9, q10, q11⟩, _⟩ := hx; go_simp
        simp only [Act.put, List.setIfInBounds_toArray, List.set_cons_zero, List.set_cons_succ]
        refine wpAnyH_take (i := 44) (oi := ⟨_, _, _, _, _, _⟩) (v := .bool true) rfl (by kernel_rfl) (by kernel_rfl) (by kernel_rfl) (fun _ _ _ h => h) (Or.inl ⟨by rfl, ?_⟩) hHeld ?_
        · intro x hx; go_simp
        simp only [Act.put, List.setIfInBounds_toArray, List.set_cons_zero, List.set_cons_succ]
        refine wpAnyH_take (i := 45) (oi := ⟨_, _, _, _, _, _⟩) (v := .bool true) rfl (by kernel_rfl) (by kernel_rfl) (by kernel_rfl) (fun _ _ _ h => h) (Or.inl ⟨by rfl, ?_⟩) hHeld ?_
        · intro x hx; go_simp
        simp only [Act.put, List.setIfInBounds_toArray, List.set_cons_zero, List.set_cons_succ]
        refine wpAnyH_take (i := 46) (oi := ⟨_, _, _, _, _, _⟩) (v := .bool true) rfl (by kernel_rfl) (by kernel_rfl) (by kernel_rfl) (fun _ _ _ h => h) (Or.inl ⟨by rfl, ?_⟩) hHeld ?_
        · intro x hx; go_simp
        simp only [Act.put, List.setIfInBounds_toArray, List.set_cons_zero, List.set_cons_succ]
        refine wpAnyH_take (i := 47) (oi := ⟨_, _, _, _, _, _⟩) (v := undef) rfl (by kernel_rfl) (by kernel_rfl) (by kernel_rfl) (fun _ _ _ h => h) (Or.inr ⟨by rfl, rfl⟩) hHeld ?_
        simp only [Act.put, List.setIfInBounds_toArray, List.set_cons_zero, List.set_cons_succ]
        refine wpAnyH_take (i := 48) (oi := ⟨_, _, _, _, _, _⟩) (v := undef) rfl (by kernel_rfl) (by kernel_rfl) (by kernel_rfl) (fun _ _ _ h => h) (Or.inr ⟨by rfl, rfl⟩) hHeld ?_
        simp only [Act.put, List.setIfInBounds_toArray, List.set_cons_zero, List.set_cons_succ]
        refine wpAnyH_take (i := 49) (oi := ⟨_, _, _, _, _, _⟩) (v := undef) rfl (by kernel_rfl) (by kernel_rfl) (by kernel_rfl) (fun _ _ _ h => h) (Or.inr ⟨by rfl, rfl⟩) hHeld ?_
        simp only [Act.put, List.setIfInBounds_toArray, List.set_cons_zero, List.set_cons_succ]
        refine wpAnyH_take (i := 50) (oi := ⟨_, _, _, _, _, _⟩) (v := .bool true) rfl (by kernel_rfl) (by kernel_rfl) (by kernel_rfl) (fun _ _ _ h => h) (Or.inl ⟨by rfl, ?_⟩) hHeld ?_
        · intro x hx; go_simp
        simp only [Act.put, List.setIfInBounds_toArray, List.set_cons_zero, List.set_cons_succ]
        refine wpAnyH_take (i := 51) (oi := ⟨_, _, _, _, _, _⟩) (v := .bool true) rfl (by kernel_rfl) (by kernel_rfl) (by kernel_rfl) (fun _ _ _ h => h) (Or.inl ⟨by rfl, ?_⟩) hHeld ?_
        · intro x hx; go_simp
        simp only [Act.put, List.setIfInBounds_toArray, List.set_cons_zero, List.set_cons_succ]
        refine wpAnyH_take (i := 52) (oi := ⟨_, _, _, _, _, _⟩) (v := .bool true) rfl (by kernel_rfl) (by kernel_rfl) (by kernel_rfl) (fun _ _ _ h => h) (Or.inl ⟨by rfl, ?_⟩) hHeld ?_
        · intro x hx; go_simp
        simp only [Act.put, List.setIfInBounds_toArray, List.set_cons_zero, List.set_cons_succ]
        refine wpAnyH_done (by kernel_rfl) ?_ _
        have B9 := Lib.hid (svIn_next Se.out hHeld.2).2.2.2.1
        clear hHeld
        go_wp2_with fail
        go_ret
        exact ⟨rfl, B9.out⟩
      exact AllReadyH.nil
    exact AllReadyH.nil
  · obtain ⟨h1, h2⟩ := Prod.mk.inj hd
    obtain ⟨h3, h4⟩ := Prod.mk.inj h2
    have q10 : Xe.cell? ⟨w5d.heap.size, 0, none⟩ = some (.int .i64 2) := by have h := objAt_cell RDe.out 0 rfl; rw [show cd = 2 from h3] at h; exact h
    have q11 : Xe.cell? ⟨w5e.heap.size, 0, none⟩ = some (.int .i64 (ce : Nat)) := objAt_cell Re.out 0 rfl
    clear hd h1 h2 h3 h4
    have HR1 := Lib.hid (fun W' (h : (W'.cell? ⟨w.heap.size, 1, none⟩ = some (.slice (some a1) s.jobs.length cj) ∧ W'.cell? ⟨w.heap.size, 3, none⟩ = some (.slice al s.leases.length cl) ∧ W'.cell? ⟨w.heap.size + 1, 0, none⟩ = some (.string l.job) ∧ W'.cell? ⟨w.heap.size + 1, 1, none⟩ = some (.string l.node) ∧ W'.cell? ⟨w.heap.size + 1, 2, none⟩ = some (.int .i64 l.til) ∧ W'.cell? ⟨w6b.heap.size, 1, none⟩ = some (.slice (some a2) va.s.jobs.length fj) ∧ W'.cell? ⟨w6b.heap.size, 3, none⟩ = some (.slice el va.s.leases.length fl) ∧ W'.cell? ⟨(a1.add (i * 5)).block, (a1.add (i * 5)).off + 3, none⟩ = some (.int .i64 tr) ∧ W'.cell? ⟨(a2.add (i * 5)).block, (a2.add (i * 5)).off + 3, none⟩ = some (.int .i64 (tr + 1)) ∧ W'.cell? ⟨w5c.heap.size, 0, none⟩ = some (.int .i64 7) ∧ W'.cell? ⟨w5d.heap.size, 0, none⟩ = some (.int .i64 2) ∧ W'.cell? ⟨w5e.heap.size, 0, none⟩ = some (.int .i64 (ce : Nat))) ∧ Below Xe.heap.size Xe W') => leaseAt_is s.leases al cl (small4 HV.out).2.2 l.job W' (leasesAt_next HM0.out.2.2 (svIn_next Se.out h.2).2.2.2.1))
    have HR2 := Lib.hid (fun W' (h : (W'.cell? ⟨w.heap.size, 1, none⟩ = some (.slice (some a1) s.jobs.length cj) ∧ W'.cell? ⟨w.heap.size, 3, none⟩ = some (.slice al s.leases.length cl) ∧ W'.cell? ⟨w.heap.size + 1, 0, none⟩ = some (.string l.job) ∧ W'.cell? ⟨w.heap.size + 1, 1, none⟩ = some (.string l.node) ∧ W'.cell? ⟨w.heap.size + 1, 2, none⟩ = some (.int .i64 l.til) ∧ W'.cell? ⟨w6b.heap.size, 1, none⟩ = some (.slice (some a2) va.s.jobs.length fj) ∧ W'.cell? ⟨w6b.heap.size, 3, none⟩ = some (.slice el va.s.leases.length fl) ∧ W'.cell? ⟨(a1.add (i * 5)).block, (a1.add (i * 5)).off + 3, none⟩ = some (.int .i64 tr) ∧ W'.cell? ⟨(a2.add (i * 5)).block, (a2.add (i * 5)).off + 3, none⟩ = some (.int .i64 (tr + 1)) ∧ W'.cell? ⟨w5c.heap.size, 0, none⟩ = some (.int .i64 7) ∧ W'.cell? ⟨w5d.heap.size, 0, none⟩ = some (.int .i64 2) ∧ W'.cell? ⟨w5e.heap.size, 0, none⟩ = some (.int .i64 (ce : Nat))) ∧ Below Xe.heap.size Xe W') => hasLease_is va.s.leases l true ⟨fun _ => HL.out.1, fun _ => rfl⟩ el fl (small4 Sa.out.2.1).2.2 W' (leasesAt_next (ownS_at OWe.out).2.2 h.2))
    have s0 : (Xe.drew.cell? ⟨w.heap.size, 1, none⟩ = some (.slice (some a1) s.jobs.length cj) ∧ Xe.drew.cell? ⟨w.heap.size, 3, none⟩ = some (.slice al s.leases.length cl) ∧ Xe.drew.cell? ⟨w.heap.size + 1, 0, none⟩ = some (.string l.job) ∧ Xe.drew.cell? ⟨w.heap.size + 1, 1, none⟩ = some (.string l.node) ∧ Xe.drew.cell? ⟨w.heap.size + 1, 2, none⟩ = some (.int .i64 l.til) ∧ Xe.drew.cell? ⟨w6b.heap.size, 1, none⟩ = some (.slice (some a2) va.s.jobs.length fj) ∧ Xe.drew.cell? ⟨w6b.heap.size, 3, none⟩ = some (.slice el va.s.leases.length fl) ∧ Xe.drew.cell? ⟨(a1.add (i * 5)).block, (a1.add (i * 5)).off + 3, none⟩ = some (.int .i64 tr) ∧ Xe.drew.cell? ⟨(a2.add (i * 5)).block, (a2.add (i * 5)).off + 3, none⟩ = some (.int .i64 (tr + 1)) ∧ Xe.drew.cell? ⟨w5c.heap.size, 0, none⟩ = some (.int .i64 7) ∧ Xe.drew.cell? ⟨w5d.heap.size, 0, none⟩ = some (.int .i64 2) ∧ Xe.drew.cell? ⟨w5e.heap.size, 0, none⟩ = some (.int .i64 (ce : Nat))) ∧ Below Xe.heap.size Xe Xe.drew := ⟨⟨q0, q1, q2, q3, q4, q5, q6, q7, q8, q9, q10, q11⟩, (Below.refl _ _).drew⟩
    clear q0 q1 q2 q3 q4 q5 q6 q7 q8 q9 q10 q11
    go_wp2_with fail
    refine wp_region_held_drew (S := fun x => (x.cell? ⟨w.heap.size, 1, none⟩ = some (.slice (some a1) s.jobs.length cj) ∧ x.cell? ⟨w.heap.size, 3, none⟩ = some (.slice al s.leases.length cl) ∧ x.cell? ⟨w.heap.size + 1, 0, none⟩ = some (.string l.job) ∧ x.cell? ⟨w.heap.size + 1, 1, none⟩ = some (.string l.node) ∧ x.cell? ⟨w.heap.size + 1, 2, none⟩ = some (.int .i64 l.til) ∧ x.cell? ⟨w6b.heap.size, 1, none⟩ = some (.slice (some a2) va.s.jobs.length fj) ∧ x.cell? ⟨w6b.heap.size, 3, none⟩ = some (.slice el va.s.leases.length fl) ∧ x.cell? ⟨(a1.add (i * 5)).block, (a1.add (i * 5)).off + 3, none⟩ = some (.int .i64 tr) ∧ x.cell? ⟨(a2.add (i * 5)).block, (a2.add (i * 5)).off + 3, none⟩ = some (.int .i64 (tr + 1)) ∧ x.cell? ⟨w5c.heap.size, 0, none⟩ = some (.int .i64 7) ∧ x.cell? ⟨w5d.heap.size, 0, none⟩ = some (.int .i64 2) ∧ x.cell? ⟨w5e.heap.size, 0, none⟩ = some (.int .i64 (ce : Nat))) ∧ Below Xe.heap.size Xe x) (by kernel_rfl) s0 (fun hHeld => ?_)
    clear s0
    generalize Xe.drew = V at hHeld ⊢
    refine wpAnyH_take (i := 0) (oi := ⟨_, _, _, _, _, _⟩) (v := .int .i64 (i : Int)) rfl (by kernel_rfl) (by kernel_rfl) (by kernel_rfl) (fun _ _ _ h => h) (Or.inl ⟨by rfl, ?_⟩) hHeld ?_
    · intro x hx; go_simp
    simp only [Act.put, List.setIfInBounds_toArray, List.set_cons_zero, List.set_cons_succ]
    refine wpAnyH_take (i := 1) (oi := ⟨_, _, _, _, _, _⟩) (v := .bool true) rfl (by kernel_rfl) (by kernel_rfl) (by kernel_rfl) (fun _ _ _ h => h) (Or.inl ⟨by rfl, ?_⟩) hHeld ?_
    · intro x hx; go_simp
    simp only [Act.put, List.setIfInBounds_toArray, List.set_cons_zero, List.set_cons_succ]
    refine wpAnyH_take (i := 2) (oi := ⟨_, _, _, _, _, _⟩) (v := .bool true) rfl (by kernel_rfl) (by kernel_rfl) (by kernel_rfl) (fun _ _ _ h => h) (Or.inl ⟨by rfl, ?_⟩) hHeld ?_
    · intro x hx; go_simp
    simp only [Act.put, List.setIfInBounds_toArray, List.set_cons_zero, List.set_cons_succ]
    refine wpAnyH_take (i := 3) (oi := ⟨_, _, _, _, _, _⟩) (v := .pointer (some ⟨w.heap.size, 3, none⟩)) rfl (by kernel_rfl) (by kernel_rfl) (by kernel_rfl) (fun _ _ _ h => h) (Or.inl ⟨by rfl, ?_⟩) hHeld ?_
    · intro x hx; go_simp
    simp only [Act.put, List.setIfInBounds_toArray, List.set_cons_zero, List.set_cons_succ]
    refine wpAnyH_take (i := 4) (oi := ⟨_, _, _, _, _, _⟩) (v := .slice al s.leases.length cl) rfl (by kernel_rfl) (by kernel_rfl) (by kernel_rfl) (fun _ _ _ h => h) (Or.inl ⟨by rfl, ?_⟩) hHeld ?_
    · intro x hx; obtain ⟨⟨q0, q1, q2, q3, q4, q5, q6, q7, q8, q9, q10, q11⟩, _⟩ := hx; go_simp
    simp only [Act.put, List.setIfInBounds_toArray, List.set_cons_zero, List.set_cons_succ]
    refine wpAnyH_take (i := 5) (oi := ⟨_, _, _, _, _, _⟩) (v := .pointer (some ⟨w.heap.size + 1, 0, none⟩)) rfl (by kernel_rfl) (by kernel_rfl) (by kernel_rfl) (fun _ _ _ h => h) (Or.inl ⟨by rfl, ?_⟩) hHeld ?_
    · intro x hx; go_simp
    simp only [Act.put, List.setIfInBounds_toArray, List.set_cons_zero, List.set_cons_succ]
    refine wpAnyH_take (i := 6) (oi := ⟨_, _, _, _, _, _⟩) (v := .string l.job) rfl (by kernel_rfl) (by kernel_rfl) (by kernel_rfl) (fun _ _ _ h => h) (Or.inl ⟨by rfl, ?_⟩) hHeld ?_
    · intro x hx; obtain ⟨⟨q0, q1, q2, q3, q4, q5, q6, q7, q8, q9, q10, q11⟩, _⟩ := hx; go_simp
    simp only [Act.put, List.setIfInBounds_toArray, List.set_cons_zero, List.set_cons_succ]
    refine wpAnyH_ready (rs := [7]) (by kernel_rfl) (by simp) ?_
    refine AllReadyH.cons (o := ⟨_, _, _, _, _, _⟩) rfl (fun K hK => ?_) ?_
    · go_simp
      refine (HR1.out _ hHeld).mono ?_
      rintro e x7 ⟨k6, rfl, hk6, b⟩
      have hk7 : k6 < 0 := at_no hk6 (noLease HL.out.2.2.2.2.1)
      have hN := heldG (p0 := ⟨w.heap.size, 1, none⟩) (p1 := ⟨w.heap.size, 3, none⟩) (p2 := ⟨w.heap.size + 1, 0, none⟩) (p3 := ⟨w.heap.size + 1, 1, none⟩) (p4 := ⟨w.heap.size + 1, 2, none⟩) (p5 := ⟨w6b.heap.size, 1, none⟩) (p6 := ⟨w6b.heap.size, 3, none⟩) (p7 := ⟨(a1.add (i * 5)).block, (a1.add (i * 5)).off + 3, none⟩) (p8 := ⟨(a2.add (i * 5)).block, (a2.add (i * 5)).off + 3, none⟩) (p9 := ⟨w5c.heap.size, 0, none⟩) (p10 := ⟨w5d.heap.size, 0, none⟩) (p11 := ⟨w5e.heap.size, 0, none⟩) lt0 lt0 lt1 lt1 lt1 lt2 lt2 lt3 lt4 lt5 lt6 lt7 hHeld b
      clear b
      go_wp2_with fail
      refine hK.out _ _ hN (fun hHeld => ?_)
      clear hK K hN
      try simp only [Act.put, List.setIfInBounds_toArray, List.set_cons_zero, List.set_cons_succ]
      refine wpAnyH_take (i := 8) (oi := ⟨_, _, _, _, _, _⟩) (v := .bool true) rfl (by kernel_rfl) (by kernel_rfl) (by kernel_rfl) (fun _ _ _ h => h) (Or.inl ⟨by rfl, ?_⟩) hHeld ?_
      · intro x hx; go_simp
      simp only [Act.put, List.setIfInBounds_toArray, List.set_cons_zero, List.set_cons_succ]
      refine wpAnyH_take (i := 9) (oi := ⟨_, _, _, _, _, _⟩) (v := .bool true) rfl (by kernel_rfl) (by kernel_rfl) (by kernel_rfl) (fun _ _ _ h => h) (Or.inl ⟨by rfl, ?_⟩) hHeld ?_
      · intro x hx; go_simp
      simp only [Act.put, List.setIfInBounds_toArray, List.set_cons_zero, List.set_cons_succ]
      refine wpAnyH_take (i := 10) (oi := ⟨_, _, _, _, _, _⟩) (v := .bool true) rfl (by kernel_rfl) (by kernel_rfl) (by kernel_rfl) (fun _ _ _ h => h) (Or.inl ⟨by rfl, ?_⟩) hHeld ?_
      · intro x hx; go_simp
      simp only [Act.put, List.setIfInBounds_toArray, List.set_cons_zero, List.set_cons_succ]
      refine wpAnyH_take (i := 11) (oi := ⟨_, _, _, _, _, _⟩) (v := .pointer (some ⟨w6b.heap.size, 3, none⟩)) rfl (by kernel_rfl) (by kernel_rfl) (by kernel_rfl) (fun _ _ _ h => h) (Or.inl ⟨by rfl, ?_⟩) hHeld ?_
      · intro x hx; go_simp
      simp only [Act.put, List.setIfInBounds_toArray, List.set_cons_zero, List.set_cons_succ]
      refine wpAnyH_take (i := 12) (oi := ⟨_, _, _, _, _, _⟩) (v := .slice el va.s.leases.length fl) rfl (by kernel_rfl) (by kernel_rfl) (by kernel_rfl) (fun _ _ _ h => h) (Or.inl ⟨by rfl, ?_⟩) hHeld ?_
      · intro x hx; obtain ⟨⟨q0, q1, q2, q3, q4, q5, q6, q7, q8, q9, q10, q11⟩, _⟩ := hx; go_simp
      simp only [Act.put, List.setIfInBounds_toArray, List.set_cons_zero, List.set_cons_succ]
      refine wpAnyH_take (i := 13) (oi := ⟨_, _, _, _, _, _⟩) (v := .agg #[.string l.job, .string l.node, .int .i64 l.til]) rfl (by kernel_rfl) (by kernel_rfl) (by kernel_rfl) (fun _ _ _ h => h) (Or.inl ⟨by rfl, ?_⟩) hHeld ?_
      · intro x hx; obtain ⟨⟨q0, q1, q2, q3, q4, q5, q6, q7, q8, q9, q10, q11⟩, _⟩ := hx; go_simp
      simp only [Act.put, List.setIfInBounds_toArray, List.set_cons_zero, List.set_cons_succ]
      refine wpAnyH_ready (rs := [14]) (by kernel_rfl) (by simp) ?_
      refine AllReadyH.cons (o := ⟨_, _, _, _, _, _⟩) rfl (fun K hK => ?_) ?_
      · go_simp
        refine (HR2.out _ hHeld).mono ?_
        rintro e x14 ⟨rfl, b⟩
        have hN := heldG (p0 := ⟨w.heap.size, 1, none⟩) (p1 := ⟨w.heap.size, 3, none⟩) (p2 := ⟨w.heap.size + 1, 0, none⟩) (p3 := ⟨w.heap.size + 1, 1, none⟩) (p4 := ⟨w.heap.size + 1, 2, none⟩) (p5 := ⟨w6b.heap.size, 1, none⟩) (p6 := ⟨w6b.heap.size, 3, none⟩) (p7 := ⟨(a1.add (i * 5)).block, (a1.add (i * 5)).off + 3, none⟩) (p8 := ⟨(a2.add (i * 5)).block, (a2.add (i * 5)).off + 3, none⟩) (p9 := ⟨w5c.heap.size, 0, none⟩) (p10 := ⟨w5d.heap.size, 0, none⟩) (p11 := ⟨w5e.heap.size, 0, none⟩) lt0 lt0 lt1 lt1 lt1 lt2 lt2 lt3 lt4 lt5 lt6 lt7 hHeld b
        clear b
        go_wp2_with fail
        refine hK.out _ _ hN (fun hHeld => ?_)
        clear hK K hN
        try simp only [Act.put, List.setIfInBounds_toArray, List.set_cons_zero, List.set_cons_succ]
        refine wpAnyH_take (i := 15) (oi := ⟨_, _, _, _, _, _⟩) (v := .bool true) rfl (by kernel_rfl) (by kernel_rfl) (by kernel_rfl) (fun _ _ _ h => h) (Or.inl ⟨by rfl, ?_⟩) hHeld ?_
        · intro x hx; go_simp
        simp only [Act.put, List.setIfInBounds_toArray, List.set_cons_zero, List.set_cons_succ]
        refine wpAnyH_take (i := 16) (oi := ⟨_, _, _, _, _, _⟩) (v := .bool true) rfl (by kernel_rfl) (by kernel_rfl) (by kernel_rfl) (fun _ _ _ h => h) (Or.inl ⟨by rfl, ?_⟩) hHeld ?_
        · intro x hx; go_simp
        simp only [Act.put, List.setIfInBounds_toArray, List.set_cons_zero, List.set_cons_succ]
        refine wpAnyH_take (i := 17) (oi := ⟨_, _, _, _, _, _⟩) (v := .pointer (some ⟨w6b.heap.size, 1, none⟩)) rfl (by kernel_rfl) (by kernel_rfl) (by kernel_rfl) (fun _ _ _ h => h) (Or.inl ⟨by rfl, ?_⟩) hHeld ?_
        · intro x hx; go_simp
        simp only [Act.put, List.setIfInBounds_toArray, List.set_cons_zero, List.set_cons_succ]
        refine wpAnyH_take (i := 18) (oi := ⟨_, _, _, _, _, _⟩) (v := .slice (some a2) va.s.jobs.length fj) rfl (by kernel_rfl) (by kernel_rfl) (by kernel_rfl) (fun _ _ _ h => h) (Or.inl ⟨by rfl, ?_⟩) hHeld ?_
        · intro x hx; obtain ⟨⟨q0, q1, q2, q3, q4, q5, q6, q7, q8, q9, q10, q11⟩, _⟩ := hx; go_simp
        simp only [Act.put, List.setIfInBounds_toArray, List.set_cons_zero, List.set_cons_succ]
        refine wpAnyH_take (i := 19) (oi := ⟨_, _, _, _, _, _⟩) (v := .int .i64 (i : Int)) rfl (by kernel_rfl) (by kernel_rfl) (by kernel_rfl) (fun _ _ _ h => h) (Or.inl ⟨by rfl, ?_⟩) hHeld ?_
        · intro x hx; go_simp
        simp only [Act.put, List.setIfInBounds_toArray, List.set_cons_zero, List.set_cons_succ]
        refine wpAnyH_take (i := 20) (oi := ⟨_, _, _, _, _, _⟩) (v := .pointer (some (a2.add (i * 5)))) rfl (by kernel_rfl) (by kernel_rfl) (by kernel_rfl) (fun _ _ _ h => h) (Or.inl ⟨by rfl, ?_⟩) hHeld ?_
        · intro x hx; go_simp
        simp only [Act.put, List.setIfInBounds_toArray, List.set_cons_zero, List.set_cons_succ]
        refine wpAnyH_take (i := 21) (oi := ⟨_, _, _, _, _, _⟩) (v := .pointer (some ⟨(a2.add (i * 5)).block, (a2.add (i * 5)).off + 3, none⟩)) rfl (by kernel_rfl) (by kernel_rfl) (by kernel_rfl) (fun _ _ _ h => h) (Or.inl ⟨by rfl, ?_⟩) hHeld ?_
        · intro x hx; go_simp
        simp only [Act.put, List.setIfInBounds_toArray, List.set_cons_zero, List.set_cons_succ]
        refine wpAnyH_take (i := 22) (oi := ⟨_, _, _, _, _, _⟩) (v := .int .i64 (tr + 1)) rfl (by kernel_rfl) (by kernel_rfl) (by kernel_rfl) (fun _ _ _ h => h) (Or.inl ⟨by rfl, ?_⟩) hHeld ?_
        · intro x hx; obtain ⟨⟨q0, q1, q2, q3, q4, q5, q6, q7, q8, q9, q10, q11⟩, _⟩ := hx; go_simp
        simp only [Act.put, List.setIfInBounds_toArray, List.set_cons_zero, List.set_cons_succ]
        refine wpAnyH_take (i := 23) (oi := ⟨_, _, _, _, _, _⟩) (v := .pointer (some ⟨w.heap.size, 1, none⟩)) rfl (by kernel_rfl) (by kernel_rfl) (by kernel_rfl) (fun _ _ _ h => h) (Or.inl ⟨by rfl, ?_⟩) hHeld ?_
        · intro x hx; go_simp
        simp only [Act.put, List.setIfInBounds_toArray, List.set_cons_zero, List.set_cons_succ]
        refine wpAnyH_take (i := 24) (oi := ⟨_, _, _, _, _, _⟩) (v := .slice (some a1) s.jobs.length cj) rfl (by kernel_rfl) (by kernel_rfl) (by kernel_rfl) (fun _ _ _ h => h) (Or.inl ⟨by rfl, ?_⟩) hHeld ?_
        · intro x hx; obtain ⟨⟨q0, q1, q2, q3, q4, q5, q6, q7, q8, q9, q10, q11⟩, _⟩ := hx; go_simp
        simp only [Act.put, List.setIfInBounds_toArray, List.set_cons_zero, List.set_cons_succ]
        refine wpAnyH_take (i := 25) (oi := ⟨_, _, _, _, _, _⟩) (v := .int .i64 (i : Int)) rfl (by kernel_rfl) (by kernel_rfl) (by kernel_rfl) (fun _ _ _ h => h) (Or.inl ⟨by rfl, ?_⟩) hHeld ?_
        · intro x hx; go_simp
        simp only [Act.put, List.setIfInBounds_toArray, List.set_cons_zero, List.set_cons_succ]
        refine wpAnyH_take (i := 26) (oi := ⟨_, _, _, _, _, _⟩) (v := .pointer (some (a1.add (i * 5)))) rfl (by kernel_rfl) (by kernel_rfl) (by kernel_rfl) (fun _ _ _ h => h) (Or.inl ⟨by rfl, ?_⟩) hHeld ?_
        · intro x hx; go_simp
        simp only [Act.put, List.setIfInBounds_toArray, List.set_cons_zero, List.set_cons_succ]
        refine wpAnyH_take (i := 27) (oi := ⟨_, _, _, _, _, _⟩) (v := .pointer (some ⟨(a1.add (i * 5)).block, (a1.add (i * 5)).off + 3, none⟩)) rfl (by kernel_rfl) (by kernel_rfl) (by kernel_rfl) (fun _ _ _ h => h) (Or.inl ⟨by rfl, ?_⟩) hHeld ?_
        · intro x hx; go_simp
        simp only [Act.put, List.setIfInBounds_toArray, List.set_cons_zero, List.set_cons_succ]
        refine wpAnyH_take (i := 28) (oi := ⟨_, _, _, _, _, _⟩) (v := .int .i64 tr) rfl (by kernel_rfl) (by kernel_rfl) (by kernel_rfl) (fun _ _ _ h => h) (Or.inl ⟨by rfl, ?_⟩) hHeld ?_
        · intro x hx; obtain ⟨⟨q0, q1, q2, q3, q4, q5, q6, q7, q8, q9, q10, q11⟩, _⟩ := hx; go_simp
        simp only [Act.put, List.setIfInBounds_toArray, List.set_cons_zero, List.set_cons_succ]
        refine wpAnyH_take (i := 29) (oi := ⟨_, _, _, _, _, _⟩) (v := .int .i64 (tr + 1)) rfl (by kernel_rfl) (by kernel_rfl) (by kernel_rfl) (fun _ _ _ h => h) (Or.inl ⟨by rfl, ?_⟩) hHeld ?_
        · intro x hx; go_simp
        simp only [Act.put, List.setIfInBounds_toArray, List.set_cons_zero, List.set_cons_succ]
        refine wpAnyH_take (i := 30) (oi := ⟨_, _, _, _, _, _⟩) (v := .bool true) rfl (by kernel_rfl) (by kernel_rfl) (by kernel_rfl) (fun _ _ _ h => h) (Or.inl ⟨by rfl, ?_⟩) hHeld ?_
        · intro x hx; go_simp
        simp only [Act.put, List.setIfInBounds_toArray, List.set_cons_zero, List.set_cons_succ]
        refine wpAnyH_take (i := 31) (oi := ⟨_, _, _, _, _, _⟩) (v := .bool true) rfl (by kernel_rfl) (by kernel_rfl) (by kernel_rfl) (fun _ _ _ h => h) (Or.inl ⟨by rfl, ?_⟩) hHeld ?_
        · intro x hx; go_simp
        simp only [Act.put, List.setIfInBounds_toArray, List.set_cons_zero, List.set_cons_succ]
        refine wpAnyH_take (i := 32) (oi := ⟨_, _, _, _, _, _⟩) (v := .bool true) rfl (by kernel_rfl) (by kernel_rfl) (by kernel_rfl) (fun _ _ _ h => h) (Or.inl ⟨by rfl, ?_⟩) hHeld ?_
        · intro x hx; go_simp
        simp only [Act.put, List.setIfInBounds_toArray, List.set_cons_zero, List.set_cons_succ]
        refine wpAnyH_take (i := 33) (oi := ⟨_, _, _, _, _, _⟩) (v := .pointer (some ⟨w5c.heap.size, 0, none⟩)) rfl (by kernel_rfl) (by kernel_rfl) (by kernel_rfl) (fun _ _ _ h => h) (Or.inl ⟨by rfl, ?_⟩) hHeld ?_
        · intro x hx; go_simp
        simp only [Act.put, List.setIfInBounds_toArray, List.set_cons_zero, List.set_cons_succ]
        refine wpAnyH_take (i := 34) (oi := ⟨_, _, _, _, _, _⟩) (v := .int .i64 7) rfl (by kernel_rfl) (by kernel_rfl) (by kernel_rfl) (fun _ _ _ h => h) (Or.inl ⟨by rfl, ?_⟩) hHeld ?_
        · intro x hx; obtain ⟨⟨q0, q1, q2, q3, q4, q5, q6, q7, q8, q9, q10, q11⟩, _⟩ := hx; go_simp
        simp only [Act.put, List.setIfInBounds_toArray, List.set_cons_zero, List.set_cons_succ]
        refine wpAnyH_take (i := 35) (oi := ⟨_, _, _, _, _, _⟩) (v := .bool true) rfl (by kernel_rfl) (by kernel_rfl) (by kernel_rfl) (fun _ _ _ h => h) (Or.inl ⟨by rfl, ?_⟩) hHeld ?_
        · intro x hx; go_simp
        simp only [Act.put, List.setIfInBounds_toArray, List.set_cons_zero, List.set_cons_succ]
        refine wpAnyH_take (i := 36) (oi := ⟨_, _, _, _, _, _⟩) (v := .bool true) rfl (by kernel_rfl) (by kernel_rfl) (by kernel_rfl) (fun _ _ _ h => h) (Or.inl ⟨by rfl, ?_⟩) hHeld ?_
        · intro x hx; go_simp
        simp only [Act.put, List.setIfInBounds_toArray, List.set_cons_zero, List.set_cons_succ]
        refine wpAnyH_take (i := 37) (oi := ⟨_, _, _, _, _, _⟩) (v := .bool true) rfl (by kernel_rfl) (by kernel_rfl) (by kernel_rfl) (fun _ _ _ h => h) (Or.inl ⟨by rfl, ?_⟩) hHeld ?_
        · intro x hx; go_simp
        simp only [Act.put, List.setIfInBounds_toArray, List.set_cons_zero, List.set_cons_succ]
        refine wpAnyH_take (i := 38) (oi := ⟨_, _, _, _, _, _⟩) (v := .pointer (some ⟨w5d.heap.size, 0, none⟩)) rfl (by kernel_rfl) (by kernel_rfl) (by kernel_rfl) (fun _ _ _ h => h) (Or.inl ⟨by rfl, ?_⟩) hHeld ?_
        · intro x hx; go_simp
        simp only [Act.put, List.setIfInBounds_toArray, List.set_cons_zero, List.set_cons_succ]
        refine wpAnyH_take (i := 39) (oi := ⟨_, _, _, _, _, _⟩) (v := .int .i64 2) rfl (by kernel_rfl) (by kernel_rfl) (by kernel_rfl) (fun _ _ _ h => h) (Or.inl ⟨by rfl, ?_⟩) hHeld ?_
        · intro x hx; obtain ⟨⟨q0, q1, q2, q3, q4, q5, q6, q7, q8, q9, q10, q11⟩, _⟩ := hx; go_simp
        simp only [Act.put, List.setIfInBounds_toArray, List.set_cons_zero, List.set_cons_succ]
        refine wpAnyH_take (i := 40) (oi := ⟨_, _, _, _, _, _⟩) (v := .bool false) rfl (by kernel_rfl) (by kernel_rfl) (by kernel_rfl) (fun _ _ _ h => h) (Or.inl ⟨by rfl, ?_⟩) hHeld ?_
        · intro x hx; go_simp
        simp only [Act.put, List.setIfInBounds_toArray, List.set_cons_zero, List.set_cons_succ]
        refine wpAnyH_take (i := 41) (oi := ⟨_, _, _, _, _, _⟩) (v := .bool false) rfl (by kernel_rfl) (by kernel_rfl) (by kernel_rfl) (fun _ _ _ h => h) (Or.inl ⟨by rfl, ?_⟩) hHeld ?_
        · intro x hx; go_simp
        simp only [Act.put, List.setIfInBounds_toArray, List.set_cons_zero, List.set_cons_succ]
        refine wpAnyH_take (i := 42) (oi := ⟨_, _, _, _, _, _⟩) (v := undef) rfl (by kernel_rfl) (by kernel_rfl) (by kernel_rfl) (fun _ _ _ h => h) (Or.inr ⟨by rfl, rfl⟩) hHeld ?_
        simp only [Act.put, List.setIfInBounds_toArray, List.set_cons_zero, List.set_cons_succ]
        refine wpAnyH_take (i := 43) (oi := ⟨_, _, _, _, _, _⟩) (v := undef) rfl (by kernel_rfl) (by kernel_rfl) (by kernel_rfl) (fun _ _ _ h => h) (Or.inr ⟨by rfl, rfl⟩) hHeld ?_
        simp only [Act.put, List.setIfInBounds_toArray, List.set_cons_zero, List.set_cons_succ]
        refine wpAnyH_take (i := 44) (oi := ⟨_, _, _, _, _, _⟩) (v := undef) rfl (by kernel_rfl) (by kernel_rfl) (by kernel_rfl) (fun _ _ _ h => h) (Or.inr ⟨by rfl, rfl⟩) hHeld ?_
        simp only [Act.put, List.setIfInBounds_toArray, List.set_cons_zero, List.set_cons_succ]
        refine wpAnyH_take (i := 45) (oi := ⟨_, _, _, _, _, _⟩) (v := .bool false) rfl (by kernel_rfl) (by kernel_rfl) (by kernel_rfl) (fun _ _ _ h => h) (Or.inl ⟨by rfl, ?_⟩) hHeld ?_
        · intro x hx; go_simp
        simp only [Act.put, List.setIfInBounds_toArray, List.set_cons_zero, List.set_cons_succ]
        refine wpAnyH_take (i := 46) (oi := ⟨_, _, _, _, _, _⟩) (v := .bool false) rfl (by kernel_rfl) (by kernel_rfl) (by kernel_rfl) (fun _ _ _ h => h) (Or.inl ⟨by rfl, ?_⟩) hHeld ?_
        · intro x hx; go_simp
        simp only [Act.put, List.setIfInBounds_toArray, List.set_cons_zero, List.set_cons_succ]
        refine wpAnyH_take (i := 47) (oi := ⟨_, _, _, _, _, _⟩) (v := .pointer (some ⟨w5d.heap.size, 0, none⟩)) rfl (by kernel_rfl) (by kernel_rfl) (by kernel_rfl) (fun _ _ _ h => h) (Or.inl ⟨by rfl, ?_⟩) hHeld ?_
        · intro x hx; go_simp
        simp only [Act.put, List.setIfInBounds_toArray, List.set_cons_zero, List.set_cons_succ]
        refine wpAnyH_take (i := 48) (oi := ⟨_, _, _, _, _, _⟩) (v := .int .i64 2) rfl (by kernel_rfl) (by kernel_rfl) (by kernel_rfl) (fun _ _ _ h => h) (Or.inl ⟨by rfl, ?_⟩) hHeld ?_
        · intro x hx; obtain ⟨⟨q0, q1, q2, q3, q4, q5, q6, q7, q8, q9, q10, q11⟩, _⟩ := hx; go_simp
        simp only [Act.put, List.setIfInBounds_toArray, List.set_cons_zero, List.set_cons_succ]
        refine wpAnyH_take (i := 49) (oi := ⟨_, _, _, _, _, _⟩) (v := .bool true) rfl (by kernel_rfl) (by kernel_rfl) (by kernel_rfl) (fun _ _ _ h => h) (Or.inl ⟨by rfl, ?_⟩) hHeld ?_
        · intro x hx; go_simp
        simp only [Act.put, List.setIfInBounds_toArray, List.set_cons_zero, List.set_cons_succ]
        refine wpAnyH_take (i := 50) (oi := ⟨_, _, _, _, _, _⟩) (v := .bool true) rfl (by kernel_rfl) (by kernel_rfl) (by kernel_rfl) (fun _ _ _ h => h) (Or.inl ⟨by rfl, ?_⟩) hHeld ?_
        · intro x hx; go_simp
        simp only [Act.put, List.setIfInBounds_toArray, List.set_cons_zero, List.set_cons_succ]
        refine wpAnyH_take (i := 51) (oi := ⟨_, _, _, _, _, _⟩) (v := .bool true) rfl (by kernel_rfl) (by kernel_rfl) (by kernel_rfl) (fun _ _ _ h => h) (Or.inl ⟨by rfl, ?_⟩) hHeld ?_
        · intro x hx; go_simp
        simp only [Act.put, List.setIfInBounds_toArray, List.set_cons_zero, List.set_cons_succ]
        refine wpAnyH_take (i := 52) (oi := ⟨_, _, _, _, _, _⟩) (v := .bool true) rfl (by kernel_rfl) (by kernel_rfl) (by kernel_rfl) (fun _ _ _ h => h) (Or.inl ⟨by rfl, ?_⟩) hHeld ?_
        · intro x hx; go_simp
        simp only [Act.put, List.setIfInBounds_toArray, List.set_cons_zero, List.set_cons_succ]
        refine wpAnyH_done (by kernel_rfl) ?_ _
        have B9 := Lib.hid (svIn_next Se.out hHeld.2).2.2.2.1
        clear hHeld
        go_wp2_with fail
        go_ret
        exact ⟨rfl, B9.out⟩
      exact AllReadyH.nil
    exact AllReadyH.nil

theorem own : ownKnob Tryz.prog.godebug = none := by kernel_rfl
theorem laidOut : laidOutB Tryz.prog = true := by kernel_rfl
theorem laid_met (os : Os) : laidMet Tryz.prog Rows.serveGrantsRow.laid ((laidWorld os).forCall (fun _ _ => 0) ⟨#[], #[.agg #[.int .i64 0, .slice none 0 0, .slice none 0 0, .slice none 0 0], .agg #[.string ⟨#[]⟩, .string ⟨#[]⟩, .int .i64 0]], []⟩).memory :=
  laidMet_of_run' 8 (by kernel_rfl) (by kernel_rfl)
theorem reads (os : Os) {H : Type} (enc : TypeId × Value → H) : ∃ places, DataW.whole enc Tryz.prog ((laidWorld os).forCall (fun _ _ => 0) ⟨#[], #[.agg #[.int .i64 0, .slice none 0 0, .slice none 0 0, .slice none 0 0], .agg #[.string ⟨#[]⟩, .string ⟨#[]⟩, .int .i64 0]], []⟩).memory Tryz.f8.params.toList Rows.serveGrantsSpec.vars false #[Value.agg #[.int .i64 0, .slice none 0 0, .slice none 0 0, .slice none 0 0], Value.agg #[.string ⟨#[]⟩, .string ⟨#[]⟩, .int .i64 0]].toList 8 = some ([.agg [.lit (.int .i64 0), .nil, .nil, .nil], .agg [.lit (.string []), .lit (.string []), .lit (.int .i64 0)]], [], places) :=
  ⟨[], by kernel_rfl⟩
set_option maxRecDepth 100000 in
set_option maxHeartbeats 2000000 in
theorem lifted (os : Os) (started : os.Started) (H : Type) (enc : TypeId × Value → H) (F : Stop.Interp) :
    ReturnsInHanded {} Tryz.checked os 8 .any ((OpenSpec.ofChange Rows.serveGrantsSpec).preRow enc Tryz.prog Tryz.f8 Rows.serveGrantsRow.domain false Rows.serveGrantsRow.laid) (((OpenSpec.ofChange Rows.serveGrantsSpec).at F).post enc Tryz.prog Tryz.f8 false true false false) := by
  obtain ⟨places, hx⟩ := reads os enc
  refine returnsInHanded_of_row (C := Tryz.checked) (s := (OpenSpec.ofChange Rows.serveGrantsSpec)) own started (by kernel_rfl) Tryz.func8
    (witness_row_atRef (enc := enc) (C := Tryz.checked) false (laidWorld os) #[.agg #[.int .i64 0, .slice none 0 0, .slice none 0 0, .slice none 0 0], .agg #[.string ⟨#[]⟩, .string ⟨#[]⟩, .int .i64 0]] rfl (by kernel_rfl) (by kernel_rfl) (by kernel_rfl)
      (OpenSpec.preRow_of_cond 8 hx (by kernel_rfl) (fun k hk => by cases hk) (by kernel_rfl) (laid_met os))) ?_
  intro W base args ds gs before hval0 hW _ _ hsz0 hL _ _
  have hval : ∀ (j : Nat) t v, Tryz.f8.params[j]? = some t → args[j]? = some v → Value.okWide Tryz.prog W .any base t v := hval0
  have hW' := hW
  obtain ⟨p, q, hA0, hV, rfl, hfz, hnd⟩ := hW
  have hA : DataW.TrodAll enc Tryz.prog W 0 (fun _ => true) true Tryz.f8.params.toList args.toList ds p := hA0
  have hsz : (DataW.weightsEach Tryz.prog (Tryz.f8.params.toList ++ Rows.serveGrantsSpec.plain.varTypes Tryz.prog) (ds ++ gs)).all (· ≤ reachBytes) = true := hsz0
  rw [Tryz.params8] at hA hval hsz
  obtain ⟨v0, vs0, d0, ds0, p0, q0, hargs, rfl, rfl, h0, r0⟩ := trodAll_cons hA
  obtain ⟨v1, vs1, d1, ds1, p1, q1, rfl, rfl, rfl, h1, r1⟩ := trodAll_cons r0
  obtain ⟨rfl, rfl, rfl⟩ := trodAll_nil r1
  obtain rfl : args = #[v0, v1] := by cases args; simp_all
  obtain ⟨rfl, rfl⟩ := trodVars_none hV
  obtain ⟨M0, st0, rfl, m0, x0, w0⟩ := open_state (hval 0 26 v0 rfl rfl) h0
  obtain ⟨x1, rfl, rfl, w1⟩ := open_Lease (hval 1 42 v1 rfl rfl) h1
  have s0 := sized_state hsz rfl (j := 0) rfl x0
  clear hA0 hval0
  refine (walk M0 st0 x1 w0 w1 s0 W m0 (tabs_of hL)).mono fun e W' ⟨he, bel⟩ => ?_
  subst he
  exact ⟨_, rfl, _, _, _, [], _, [], hW', trodAll_mk1 (shut_bool Tryz.underlying4 _), (trodAll_cons_mk (Below.trod laidOut (by kernel_rfl) (of_decide_eq_true (by kernel_rfl)) h0 bel (fun x hx => by simpa using hW'.lt x (by simp [hx]))) (trodAll_cons_mk (Below.trod laidOut (by kernel_rfl) (of_decide_eq_true (by kernel_rfl)) h1 bel (fun x hx => by cases hx)) trodAll_mk0)), rfl, bel.frame _, fun h => by cases h⟩
theorem said : Rows.ServeGrantsSaid :=
  OpenClaim.holds_of_cond 8 Tryz.f8 rfl rfl rfl rfl rfl rfl rfl ⟨rfl, rfl, rfl, rfl, rfl⟩ rfl rfl rfl rfl rfl (by kernel_rfl) Tryz.func8 (by kernel_rfl)
    (of_decide_eq_true (by kernel_rfl)) (by unfold Func.isWrapper; first | (rw [if_pos (by decide +kernel)]; kernel_rfl) | (rw [if_neg (by decide +kernel)]; exact ⟨rfl, rfl⟩))
    (fun os started H enc _ F => by rw [OpenClaim.pre_eq_preRow]; exact lifted os started H enc F)
theorem plain (f : FuncId) (fn : Func) (hf : Tryz.pinned.checked.prog.funcNamed Rows.serveGrantsRow.func = some f) (hfn : Tryz.pinned.checked.prog.funcs[f]? = some fn) :
    false = Tryz.pinned.checked.prog.looks [] ∧ ∀ (j : Nat) t, fn.params[j]? = some t → Tryz.pinned.checked.prog.wantsStandIn t = false := by
  obtain rfl : f = 8 := Option.some.inj ((show Tryz.prog.funcNamed Rows.serveGrantsRow.func = some 8 by kernel_rfl).symm.trans hf) |>.symm
  obtain rfl : fn = Tryz.f8 := (Option.some.inj (Tryz.func8.symm.trans hfn)).symm
  refine ⟨by kernel_rfl, fun j t ht => ?_⟩
  rw [Tryz.params8] at ht
  have hm : t = 26 ∨ t = 42 := by simpa using Array.mem_of_getElem? ht
  rcases hm with rfl | rfl
  · exact (show Tryz.prog.wantsStandIn 26 = false by kernel_rfl)
  · exact (show Tryz.prog.wantsStandIn 42 = false by kernel_rfl)
theorem proved : Rows.ServeGrantsCardSaid :=
  Claim7.holds_tied_plain_at .later [] _ _ _ _ said (fun _ h => by cases h) (by kernel_rfl) (fun _ h => by cases h) serveGrants_row_tie rfl ⟨rfl, rfl⟩ (by kernel_rfl) rfl plain (by kernel_rfl)
#print axioms proved
end Go.Proofs.YtiilagmmgpnpdaaGreatDoor.serveGrants
