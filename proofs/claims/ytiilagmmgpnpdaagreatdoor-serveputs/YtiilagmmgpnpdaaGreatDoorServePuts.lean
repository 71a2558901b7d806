/- For every state and all other arguments the law ServePuts of the package brackenkeep returns true, as a tied card: what is put is there; once more it changes nothing; once it is deleted it is gone. -/
import Derived.Test.YtiilagmmgpnpdaaGreatDoorSvLaw2
import Derived.Test.YtiilagmmgpnpdaaGreatDoorSvArg3
import Derived.Test.YtiilagmmgpnpdaaGreatDoorDlHas
import Derived.Test.YtiilagmmgpnpdaaGreatDoorSvAtB
namespace Go.Proofs.YtiilagmmgpnpdaaGreatDoor.servePuts
open Go.ChangeShapes Go.WideShapes Go.ChangeAt Go.RowKit Go.Lib
set_option linter.unusedVariables false
set_option maxRecDepth 100000 in
set_option maxHeartbeats 16000000 in
theorem walk (M : StM) (s : StD) (j : JobD) (hws : wState s) (hwj : wJob j) (hzs : SzState s) (w : World) (hm : StateAt w M s) (hT : Tabs w) :
    Calls Tryz.prog 7 #[stV M s, .agg #[.string j.name, .int .i64 j.prio, .int .i64 j.need, .int .i64 j.tries, .string j.tag]] w fun e w' => e = .returned (.bool true) ∧ Below w.heap.size w w' := by
  obtain ⟨aj, cj, an, cn, al, cl⟩ := M
  have hm : JobsAt w aj s.jobs ∧ NodesAt w an s.nodes ∧ LeasesAt w al s.leases := hm
  show Calls _ _ #[.agg #[.int .i64 s.rev, .slice aj s.jobs.length cj, .slice an s.nodes.length cn, .slice al s.leases.length cl], .agg #[.string j.name, .int .i64 j.prio, .int .i64 j.need, .int .i64 j.tries, .string j.tag]] _ _
  have bb0 := below_one w (.cells #[.int .i64 s.rev, .slice aj s.jobs.length cj, .slice an s.nodes.length cn, .slice al s.leases.length cl] 26)
  have I0 := bxS_new (cj := cj) (cn := cn) (cl := cl) (w := w) hm
  have bb1 := below_one (w.alloc (.cells #[.int .i64 s.rev, .slice aj s.jobs.length cj, .slice an s.nodes.length cn, .slice al s.leases.length cl] 26)) (.cells #[.string j.name, .int .i64 j.prio, .int .i64 j.need, .int .i64 j.tries, .string j.tag] 38)
  have J0 := objAt_new (w.alloc (.cells #[.int .i64 s.rev, .slice aj s.jobs.length cj, .slice an s.nodes.length cn, .slice al s.leases.length cl] 26)) #[.string j.name, .int .i64 j.prio, .int .i64 j.need, .int .i64 j.tries, .string j.tag] 38
  simp only [World.size_alloc] at J0
  have I0 := bxS_next I0 bb1
  have bb0 := below_trans bb0 bb1 (by simp only [World.size_alloc]; omega)
  clear bb1
  obtain ⟨W0, hW0⟩ : ∃ W0, (w.alloc (.cells #[.int .i64 s.rev, .slice aj s.jobs.length cj, .slice an s.nodes.length cn, .slice al s.leases.length cl] 26)).alloc (.cells #[.string j.name, .int .i64 j.prio, .int .i64 j.need, .int .i64 j.tries, .string j.tag] 38) = W0 := ⟨_, rfl⟩
  rw [hW0] at bb0 I0 J0
  have C := Lib.hid (served_is W0 (hT.below bb0))
  have HS := Lib.hid hws
  have HT := Lib.hid hT
  have HM0 := Lib.hid hm
  have I0 := Lib.hid I0
  have B0 := Lib.hid bb0
  have J0 := Lib.hid J0
  have HWJ := Lib.hid hwj
  clear hwj hzs
  clear hws hT hm bb0
  go_enter Tryz.func7, Tryz.ntmps7
  go_wp2_with fail
  refine C.out.mono ?_
  rintro e w1 ⟨rfl, b1⟩
  have I1 := Lib.hid (bxS_next I0.out b1)
  have B1 := Lib.hid (below_trans B0.out b1 B0.out.size)
  have J1 := Lib.hid (objAt_next J0.out b1)
  clear b1 C I0 B0 J0
  by_cases hv : checkE V8 s = 0
  case neg =>
    have hv' : ((checkE V8 s : Int) != 0) = true := by simp; omega
    have C := Lib.hid (svNew_bad s aj an al cj cn cl HS.out hv w1 (HT.out.below B1.out) I1.out.2)
    obtain ⟨k, hk⟩ : ∃ k, checkE V8 s = k := ⟨_, rfl⟩
    rw [hk] at hv' C
    clear hv hk
    obtain ⟨z0, z1, z2, z3⟩ := bxS_cells I1.out
    go_wp2_with fail
    refine C.out.mono ?_
    rintro e w2 ⟨rfl, b2⟩
    have B2 := Lib.hid (below_trans B1.out b2 B1.out.size)
    clear b2 C z0 z1 z2 z3
    go_wp2
    go_ret
    exact ⟨rfl, B2.out⟩
  have C := Lib.hid (svNew_ok s aj an al cj cn cl hv w1 (HT.out.below B1.out) I1.out.2)
  have HV := Lib.hid hv
  clear hv
  obtain ⟨z0, z1, z2, z3⟩ := bxS_cells I1.out
  go_wp2_with fail
  refine C.out.mono ?_
  rintro e w2 ⟨b, rfl, hb, sv, b2⟩
  have I2 := Lib.hid (bxS_next I1.out b2)
  have J2 := Lib.hid (objAt_next J1.out b2)
  have sv2 := svIn_new HV.out sv (below_trans B1.out b2 B1.out.size) HT.out (Nat.le_trans B1.out.size hb)
  obtain ⟨v0, hv0⟩ : ∃ v, (⟨s, 0⟩ : SvD) = v := ⟨_, rfl⟩
  rw [hv0] at sv2
  have S0 := Lib.hid sv2
  have E0 := Lib.hid hv0
  clear b2 C z0 z1 z2 z3 sv hb B1 I1 sv2 hv0 J1
  have SB0 := Lib.hid I2.out.1
  clear I2
  have p0 := objAt_cell J2.out 0 rfl
  have p1 := objAt_cell J2.out 1 rfl
  have p2 := objAt_cell J2.out 2 rfl
  have p3 := objAt_cell J2.out 3 rfl
  have p4 := objAt_cell J2.out 4 rfl
  have C := Lib.hid (do_is v0 S0.out.2.1 S0.out.2.2.1 (putQ j) (wReq_put HWJ.out) b w2 S0.out.2.2.2.2.2.2 S0.out.1 : Calls Tryz.prog 15 #[.pointer (some ⟨b, 0, none⟩), .agg #[.int .i64 1, .string j.name, .int .i64 j.prio, .int .i64 j.need, .int .i64 j.tries, .string j.tag, .string ⟨#[]⟩, .int .i64 0, .string ⟨#[]⟩, .string ⟨#[]⟩, .string ⟨#[]⟩, .int .i64 0, .string ⟨#[]⟩, .int .i64 0]] w2 (DoPost b v0.s (doR V8 v0.s v0.now (putQ j)) w2))
  go_wp2_with fail
  refine C.out.mono ?_
  clear C p0 p1 p2 p3 p4
  rintro e w5a ⟨MD, rfl, sv5, -, g5⟩
  have P5 := do_done S0.out sv5 g5 #[.int .i64 ((doR V8 v0.s v0.now (putQ j)).2.1 : Nat), .int .i64 (doR V8 v0.s v0.now (putQ j)).1.s.rev] #[.int .i64 (told v0.s (doR V8 v0.s v0.now (putQ j))).frm, .int .i64 (told v0.s (doR V8 v0.s v0.now (putQ j))).til, .slice MD.aj (told v0.s (doR V8 v0.s v0.now (putQ j))).jobs.length MD.cj, .slice MD.an (told v0.s (doR V8 v0.s v0.now (putQ j))).nodes.length MD.cn, .slice MD.al (told v0.s (doR V8 v0.s v0.now (putQ j))).leases.length MD.cl, .slice MD.gj (told v0.s (doR V8 v0.s v0.now (putQ j))).gj.length MD.hj, .slice MD.gn (told v0.s (doR V8 v0.s v0.now (putQ j))).gn.length MD.hn, .slice MD.gl (told v0.s (doR V8 v0.s v0.now (putQ j))).gl.length MD.hl]
  obtain ⟨r, hr⟩ : ∃ r, doR V8 v0.s v0.now (putQ j) = r := ⟨_, rfl⟩
  rw [hr] at P5 ⊢
  obtain ⟨D, hD⟩ : ∃ D, told v0.s r = D := ⟨_, rfl⟩
  rw [hD] at P5 ⊢
  clear hD sv5 g5
  obtain ⟨va, ca, ba⟩ := r
  simp only at P5
  have HRa := Lib.hid hr
  clear hr
  obtain ⟨Xa, hXa⟩ : ∃ X, (w5a.alloc (.cells #[.int .i64 (ca : Nat), .int .i64 va.s.rev] 46)).alloc (.cells #[.int .i64 D.frm, .int .i64 D.til, .slice MD.aj D.jobs.length MD.cj, .slice MD.an D.nodes.length MD.cn, .slice MD.al D.leases.length MD.cl, .slice MD.gj D.gj.length MD.hj, .slice MD.gn D.gn.length MD.hn, .slice MD.gl D.gl.length MD.hl] 49) = X := ⟨_, rfl⟩
  rw [hXa] at P5
  have Sa := Lib.hid P5.1
  have Ta := Lib.hid P5.2.1
  have Ra := Lib.hid P5.2.2
  clear P5
  have SBa := Lib.hid (doTo_obj Ta.out SB0.out (by decide))
  have Ja := Lib.hid (doTo_obj Ta.out J2.out (by decide))
  have x0 := objAt_cell Ra.out 0 rfl
  clear Ta SB0 J2
  by_cases hc : ca = 0
  case neg =>
    have c1 : ((ca : Int) != 0) = true := by simp; omega
    have e1 : va.s = s := by
      have h := (sv_refused (U := V8) (s := v0.s) v0.now (putQ j) (Or.inl (by rw [HRa.out]; exact hc))).1
      rw [HRa.out] at h
      have h : va = ⟨v0.s, v0.now⟩ := h
      rw [h, ← E0.out]
    have E1 := Lib.hid e1
    clear e1 hc
    have HR := Lib.hid (fun W' (h : (W'.cell? ⟨w.heap.size, 0, none⟩ = some (.int .i64 s.rev) ∧ W'.cell? ⟨w.heap.size, 1, none⟩ = some (.slice aj s.jobs.length cj) ∧ W'.cell? ⟨w.heap.size, 2, none⟩ = some (.slice an s.nodes.length cn) ∧ W'.cell? ⟨w.heap.size, 3, none⟩ = some (.slice al s.leases.length cl)) ∧ Below Xa.heap.size Xa W') => svState_in (svIn_next Sa.out h.2))
    have HM := Lib.hid (fun W' (h : (W'.cell? ⟨w.heap.size, 0, none⟩ = some (.int .i64 s.rev) ∧ W'.cell? ⟨w.heap.size, 1, none⟩ = some (.slice aj s.jobs.length cj) ∧ W'.cell? ⟨w.heap.size, 2, none⟩ = some (.slice an s.nodes.length cn) ∧ W'.cell? ⟨w.heap.size, 3, none⟩ = some (.slice al s.leases.length cl)) ∧ Below Xa.heap.size Xa W') (B : Nat) (ej en el : Option Addr) (fj fn fl : Nat) (o : OwnS B ej en el fj fn fl va.s W') => same_is va.s s ej en el aj an al fj fn fl cj cn cl (small4 Sa.out.2.1) W' (ownS_at o).1 (ownS_at o).2.1 (ownS_at o).2.2 (jobsAt_next HM0.out.1 (svIn_next Sa.out h.2).2.2.2.1) (nodesAt_next HM0.out.2.1 (svIn_next Sa.out h.2).2.2.2.1) (leasesAt_next HM0.out.2.2 (svIn_next Sa.out h.2).2.2.2.1))
    have l1 := objAt_lt SBa.out
    obtain ⟨y0, y1, y2, y3⟩ : (Xa.cell? ⟨w.heap.size, 0, none⟩ = some (.int .i64 s.rev) ∧ Xa.cell? ⟨w.heap.size, 1, none⟩ = some (.slice aj s.jobs.length cj) ∧ Xa.cell? ⟨w.heap.size, 2, none⟩ = some (.slice an s.nodes.length cn) ∧ Xa.cell? ⟨w.heap.size, 3, none⟩ = some (.slice al s.leases.length cl)) := ⟨objAt_cell SBa.out 0 rfl, objAt_cell SBa.out 1 rfl, objAt_cell SBa.out 2 rfl, objAt_cell SBa.out 3 rfl⟩
    have s0 : (Xa.drew.cell? ⟨w.heap.size, 0, none⟩ = some (.int .i64 s.rev) ∧ Xa.drew.cell? ⟨w.heap.size, 1, none⟩ = some (.slice aj s.jobs.length cj) ∧ Xa.drew.cell? ⟨w.heap.size, 2, none⟩ = some (.slice an s.nodes.length cn) ∧ Xa.drew.cell? ⟨w.heap.size, 3, none⟩ = some (.slice al s.leases.length cl)) ∧ Below Xa.heap.size Xa Xa.drew := ⟨⟨y0, y1, y2, y3⟩, (Below.refl _ _).drew⟩
    go_wp2_with fail
    first
    | go_region_with (first
        | (go_at_call 19; (with_reducible refine (HR.out _ s0).mono ?_); rintro e w6 ⟨ej, en, el, fj, fn, fl, rfl, ow7, b6⟩; have o6 := held4n l1 s0 b6; obtain ⟨m0, m1, m2, m3⟩ := o6.1)
        | (go_at_call 18; (with_reducible refine (HM.out _ o6 _ _ _ _ _ _ _ ow7).mono ?_); rintro e w7 ⟨c7, rfl, hc7, b7⟩; obtain rfl : c7 = true := (hc7.2 E1.out); have o7 := held4n l1 o6 b7))
    | fail "with"
    all_goals
      have B9 := Lib.hid (svIn_next Sa.out o7.2).2.2.2.1
      clear s0
      go_wp2
      go_ret
      exact ⟨rfl, B9.out⟩
  have c1 : ((ca : Int) != 0) = false := by simp; omega
  have va_ok := (check_zero V8 _).1 Sa.out.2.1
  have hp := sv_put (U := V8) ((check_zero V8 _).1 S0.out.2.1) v0.now j (by rw [HRa.out]; exact hc)
  rw [HRa.out] at hp
  have hjin : j ∈ va.s.jobs := by
    have h : va.s.jobs = putL (·.name) j v0.s.jobs := hp.2.1
    rw [h]; exact put_in ((check_zero V8 _).1 S0.out.2.1).2.2.1.2 j
  have HIN := Lib.hid hjin
  have hnm : isName V8 j.name = true := ((jobE_zero V8 j).1 hp.2.2.2.2).1.1
  have HNM := Lib.hid hnm
  clear hp hjin hnm va_ok hc
  have HR := Lib.hid (fun W' (h : (W'.cell? ⟨(w.heap.size + 1), 0, none⟩ = some (.string j.name) ∧ W'.cell? ⟨(w.heap.size + 1), 1, none⟩ = some (.int .i64 j.prio) ∧ W'.cell? ⟨(w.heap.size + 1), 2, none⟩ = some (.int .i64 j.need) ∧ W'.cell? ⟨(w.heap.size + 1), 3, none⟩ = some (.int .i64 j.tries) ∧ W'.cell? ⟨(w.heap.size + 1), 4, none⟩ = some (.string j.tag)) ∧ Below Xa.heap.size Xa W') => svState_in (svIn_next Sa.out h.2))
  have HM := Lib.hid (fun W' (h : (W'.cell? ⟨(w.heap.size + 1), 0, none⟩ = some (.string j.name) ∧ W'.cell? ⟨(w.heap.size + 1), 1, none⟩ = some (.int .i64 j.prio) ∧ W'.cell? ⟨(w.heap.size + 1), 2, none⟩ = some (.int .i64 j.need) ∧ W'.cell? ⟨(w.heap.size + 1), 3, none⟩ = some (.int .i64 j.tries) ∧ W'.cell? ⟨(w.heap.size + 1), 4, none⟩ = some (.string j.tag)) ∧ Below Xa.heap.size Xa W') (B : Nat) (ej en el : Option Addr) (fj fn fl : Nat) (o : OwnS B ej en el fj fn fl va.s W') => hasJob_is va.s.jobs j true ⟨fun _ => HIN.out, fun _ => rfl⟩ ej fj (small4 Sa.out.2.1).1 W' (ownS_at o).1)
  have hfd : ∀ (a b c d : Value) (W : World), (Instr.field 26 (.agg #[a, b, c, d]) 1).run Tryz.prog W = .ok b W := fun _ _ _ _ _ => rfl
  have l1 := objAt_lt Ja.out
  obtain ⟨y0, y1, y2, y3, y4⟩ : (Xa.cell? ⟨(w.heap.size + 1), 0, none⟩ = some (.string j.name) ∧ Xa.cell? ⟨(w.heap.size + 1), 1, none⟩ = some (.int .i64 j.prio) ∧ Xa.cell? ⟨(w.heap.size + 1), 2, none⟩ = some (.int .i64 j.need) ∧ Xa.cell? ⟨(w.heap.size + 1), 3, none⟩ = some (.int .i64 j.tries) ∧ Xa.cell? ⟨(w.heap.size + 1), 4, none⟩ = some (.string j.tag)) := ⟨objAt_cell Ja.out 0 rfl, objAt_cell Ja.out 1 rfl, objAt_cell Ja.out 2 rfl, objAt_cell Ja.out 3 rfl, objAt_cell Ja.out 4 rfl⟩
  have s0 : (Xa.drew.cell? ⟨(w.heap.size + 1), 0, none⟩ = some (.string j.name) ∧ Xa.drew.cell? ⟨(w.heap.size + 1), 1, none⟩ = some (.int .i64 j.prio) ∧ Xa.drew.cell? ⟨(w.heap.size + 1), 2, none⟩ = some (.int .i64 j.need) ∧ Xa.drew.cell? ⟨(w.heap.size + 1), 3, none⟩ = some (.int .i64 j.tries) ∧ Xa.drew.cell? ⟨(w.heap.size + 1), 4, none⟩ = some (.string j.tag)) ∧ Below Xa.heap.size Xa Xa.drew := ⟨⟨y0, y1, y2, y3, y4⟩, (Below.refl _ _).drew⟩
  have hgd : ∀ (x y : Value) (l : List Value), (x :: l)[0]?.getD y = x := fun _ _ _ => rfl
  go_wp2_with fail
  go_region_held3 (fun w' => (w'.cell? ⟨(w.heap.size + 1), 0, none⟩ = some (.string j.name) ∧ w'.cell? ⟨(w.heap.size + 1), 1, none⟩ = some (.int .i64 j.prio) ∧ w'.cell? ⟨(w.heap.size + 1), 2, none⟩ = some (.int .i64 j.need) ∧ w'.cell? ⟨(w.heap.size + 1), 3, none⟩ = some (.int .i64 j.tries) ∧ w'.cell? ⟨(w.heap.size + 1), 4, none⟩ = some (.string j.tag)) ∧ Below Xa.heap.size Xa w')
    (first | assumption | exact s0)
    (first
      | (go_at_call 19; (with_reducible refine (HR.out _ (by assumption)).mono ?_); rintro e w6 ⟨ej, en, el, fj, fn, fl, rfl, ow7, b6⟩; have o6 := held5n l1 (by assumption) b6)
      | (go_at_call 24; (with_reducible refine (HM.out _ (by assumption) _ _ _ _ _ _ _ (by assumption)).mono ?_); rintro e w7 ⟨rfl, b7⟩; have o7 := held5n l1 (by assumption) b7))
  rename_i oL
  have S1 := Lib.hid (svIn_next Sa.out oL.2)
  have J1 := Lib.hid (objAt_next Ja.out oL.2)
  clear oL s0 y0 y1 y2 y3 y4 x0 c1
  have p0 := objAt_cell J1.out 0 rfl
  have p1 := objAt_cell J1.out 1 rfl
  have p2 := objAt_cell J1.out 2 rfl
  have p3 := objAt_cell J1.out 3 rfl
  have p4 := objAt_cell J1.out 4 rfl
  have C := Lib.hid (do_is va S1.out.2.1 S1.out.2.2.1 (putQ j) (wReq_put HWJ.out) b w7 S1.out.2.2.2.2.2.2 S1.out.1 : Calls Tryz.prog 15 #[.pointer (some ⟨b, 0, none⟩), .agg #[.int .i64 1, .string j.name, .int .i64 j.prio, .int .i64 j.need, .int .i64 j.tries, .string j.tag, .string ⟨#[]⟩, .int .i64 0, .string ⟨#[]⟩, .string ⟨#[]⟩, .string ⟨#[]⟩, .int .i64 0, .string ⟨#[]⟩, .int .i64 0]] w7 (DoPost b va.s (doR V8 va.s va.now (putQ j)) w7))
  go_wp2_with fail
  refine C.out.mono ?_
  clear C p0 p1 p2 p3 p4
  rintro e w5b ⟨MD, rfl, sv5, -, g5⟩
  have P5 := do_done S1.out sv5 g5 #[.int .i64 ((doR V8 va.s va.now (putQ j)).2.1 : Nat), .int .i64 (doR V8 va.s va.now (putQ j)).1.s.rev] #[.int .i64 (told va.s (doR V8 va.s va.now (putQ j))).frm, .int .i64 (told va.s (doR V8 va.s va.now (putQ j))).til, .slice MD.aj (told va.s (doR V8 va.s va.now (putQ j))).jobs.length MD.cj, .slice MD.an (told va.s (doR V8 va.s va.now (putQ j))).nodes.length MD.cn, .slice MD.al (told va.s (doR V8 va.s va.now (putQ j))).leases.length MD.cl, .slice MD.gj (told va.s (doR V8 va.s va.now (putQ j))).gj.length MD.hj, .slice MD.gn (told va.s (doR V8 va.s va.now (putQ j))).gn.length MD.hn, .slice MD.gl (told va.s (doR V8 va.s va.now (putQ j))).gl.length MD.hl]
  obtain ⟨r, hr⟩ : ∃ r, doR V8 va.s va.now (putQ j) = r := ⟨_, rfl⟩
  rw [hr] at P5 ⊢
  obtain ⟨D, hD⟩ : ∃ D, told va.s r = D := ⟨_, rfl⟩
  rw [hD] at P5 ⊢
  clear hD sv5 g5
  obtain ⟨vb, cb, bb⟩ := r
  simp only at P5
  have HRb := Lib.hid hr
  clear hr
  obtain ⟨Xb, hXb⟩ : ∃ X, (w5b.alloc (.cells #[.int .i64 (cb : Nat), .int .i64 vb.s.rev] 46)).alloc (.cells #[.int .i64 D.frm, .int .i64 D.til, .slice MD.aj D.jobs.length MD.cj, .slice MD.an D.nodes.length MD.cn, .slice MD.al D.leases.length MD.cl, .slice MD.gj D.gj.length MD.hj, .slice MD.gn D.gn.length MD.hn, .slice MD.gl D.gl.length MD.hl] 49) = X := ⟨_, rfl⟩
  rw [hXb] at P5
  have Sb := Lib.hid P5.1
  have Tb := Lib.hid P5.2.1
  have Rb := Lib.hid P5.2.2
  clear P5
  have Jb := Lib.hid (doTo_obj Tb.out J1.out (by decide))
  have hb2 := HRb.out.symm.trans (sv_put_again (U := V8) ((check_zero V8 _).1 Sa.out.2.1) va.now HIN.out)
  obtain ⟨h1, h2⟩ := Prod.mk.inj hb2
  obtain ⟨h3, h4⟩ := Prod.mk.inj h2
  obtain rfl : vb = va := h1
  obtain rfl : bb = false := h4
  clear hb2 h2 h3 J1 Tb
  have p0 := objAt_cell Jb.out 0 rfl
  have p1 := objAt_cell Jb.out 1 rfl
  have p2 := objAt_cell Jb.out 2 rfl
  have p3 := objAt_cell Jb.out 3 rfl
  have p4 := objAt_cell Jb.out 4 rfl
  have C := Lib.hid (do_is vb Sb.out.2.1 Sb.out.2.2.1 (delQ j.name) (wReq_del HWJ.out.1) b Xb Sb.out.2.2.2.2.2.2 Sb.out.1 : Calls Tryz.prog 15 #[.pointer (some ⟨b, 0, none⟩), .agg #[.int .i64 3, .string ⟨#[]⟩, .int .i64 0, .int .i64 0, .int .i64 0, .string ⟨#[]⟩, .string ⟨#[]⟩, .int .i64 0, .string ⟨#[]⟩, .string ⟨#[]⟩, .string ⟨#[]⟩, .int .i64 0, .string j.name, .int .i64 0]] Xb (DoPost b vb.s (doR V8 vb.s vb.now (delQ j.name)) Xb))
  go_wp2_with fail
  refine C.out.mono ?_
  clear C p0 p1 p2 p3 p4
  rintro e w5c ⟨MD, rfl, sv5, -, g5⟩
  have P5 := do_done Sb.out sv5 g5 #[.int .i64 ((doR V8 vb.s vb.now (delQ j.name)).2.1 : Nat), .int .i64 (doR V8 vb.s vb.now (delQ j.name)).1.s.rev] #[.int .i64 (told vb.s (doR V8 vb.s vb.now (delQ j.name))).frm, .int .i64 (told vb.s (doR V8 vb.s vb.now (delQ j.name))).til, .slice MD.aj (told vb.s (doR V8 vb.s vb.now (delQ j.name))).jobs.length MD.cj, .slice MD.an (told vb.s (doR V8 vb.s vb.now (delQ j.name))).nodes.length MD.cn, .slice MD.al (told vb.s (doR V8 vb.s vb.now (delQ j.name))).leases.length MD.cl, .slice MD.gj (told vb.s (doR V8 vb.s vb.now (delQ j.name))).gj.length MD.hj, .slice MD.gn (told vb.s (doR V8 vb.s vb.now (delQ j.name))).gn.length MD.hn, .slice MD.gl (told vb.s (doR V8 vb.s vb.now (delQ j.name))).gl.length MD.hl]
  obtain ⟨r, hr⟩ : ∃ r, doR V8 vb.s vb.now (delQ j.name) = r := ⟨_, rfl⟩
  rw [hr] at P5 ⊢
  obtain ⟨D, hD⟩ : ∃ D, told vb.s r = D := ⟨_, rfl⟩
  rw [hD] at P5 ⊢
  clear hD sv5 g5
  obtain ⟨vc, cc, bc⟩ := r
  simp only at P5
  have HRc := Lib.hid hr
  clear hr
  obtain ⟨Xc, hXc⟩ : ∃ X, (w5c.alloc (.cells #[.int .i64 (cc : Nat), .int .i64 vc.s.rev] 46)).alloc (.cells #[.int .i64 D.frm, .int .i64 D.til, .slice MD.aj D.jobs.length MD.cj, .slice MD.an D.nodes.length MD.cn, .slice MD.al D.leases.length MD.cl, .slice MD.gj D.gj.length MD.hj, .slice MD.gn D.gn.length MD.hn, .slice MD.gl D.gl.length MD.hl] 49) = X := ⟨_, rfl⟩
  rw [hXc] at P5
  have Sc := Lib.hid P5.1
  have Tc := Lib.hid P5.2.1
  have Rc := Lib.hid P5.2.2
  clear P5
  have Jc := Lib.hid (doTo_obj Tc.out Jb.out (by decide))
  have hd := sv_del (U := V8) (s := vb.s) vb.now HNM.out ((hasJob_iff _ _).2 ⟨j, HIN.out, rfl⟩)
  rw [HRc.out] at hd
  have HD := Lib.hid hd
  clear hd
  have RC := Lib.hid Rc.out
  have p0 := objAt_cell Jc.out 0 rfl
  have p1 := objAt_cell Jc.out 1 rfl
  have p2 := objAt_cell Jc.out 2 rfl
  have p3 := objAt_cell Jc.out 3 rfl
  have p4 := objAt_cell Jc.out 4 rfl
  have C := Lib.hid (do_is vc Sc.out.2.1 Sc.out.2.2.1 (delQ j.name) (wReq_del HWJ.out.1) b Xc Sc.out.2.2.2.2.2.2 Sc.out.1 : Calls Tryz.prog 15 #[.pointer (some ⟨b, 0, none⟩), .agg #[.int .i64 3, .string ⟨#[]⟩, .int .i64 0, .int .i64 0, .int .i64 0, .string ⟨#[]⟩, .string ⟨#[]⟩, .int .i64 0, .string ⟨#[]⟩, .string ⟨#[]⟩, .string ⟨#[]⟩, .int .i64 0, .string j.name, .int .i64 0]] Xc (DoPost b vc.s (doR V8 vc.s vc.now (delQ j.name)) Xc))
  go_wp2_with fail
  refine C.out.mono ?_
  clear C p0 p1 p2 p3 p4
  rintro e w5d ⟨MD, rfl, sv5, -, g5⟩
  have P5 := do_done Sc.out sv5 g5 #[.int .i64 ((doR V8 vc.s vc.now (delQ j.name)).2.1 : Nat), .int .i64 (doR V8 vc.s vc.now (delQ j.name)).1.s.rev] #[.int .i64 (told vc.s (doR V8 vc.s vc.now (delQ j.name))).frm, .int .i64 (told vc.s (doR V8 vc.s vc.now (delQ j.name))).til, .slice MD.aj (told vc.s (doR V8 vc.s vc.now (delQ j.name))).jobs.length MD.cj, .slice MD.an (told vc.s (doR V8 vc.s vc.now (delQ j.name))).nodes.length MD.cn, .slice MD.al (told vc.s (doR V8 vc.s vc.now (delQ j.name))).leases.length MD.cl, .slice MD.gj (told vc.s (doR V8 vc.s vc.now (delQ j.name))).gj.length MD.hj, .slice MD.gn (told vc.s (doR V8 vc.s vc.now (delQ j.name))).gn.length MD.hn, .slice MD.gl (told vc.s (doR V8 vc.s vc.now (delQ j.name))).gl.length MD.hl]
  obtain ⟨r, hr⟩ : ∃ r, doR V8 vc.s vc.now (delQ j.name) = r := ⟨_, rfl⟩
  rw [hr] at P5 ⊢
  obtain ⟨D, hD⟩ : ∃ D, told vc.s r = D := ⟨_, rfl⟩
  rw [hD] at P5 ⊢
  clear hD sv5 g5
  obtain ⟨vd, cd, bd⟩ := r
  simp only at P5
  have HRd := Lib.hid hr
  clear hr
  obtain ⟨Xd, hXd⟩ : ∃ X, (w5d.alloc (.cells #[.int .i64 (cd : Nat), .int .i64 vd.s.rev] 46)).alloc (.cells #[.int .i64 D.frm, .int .i64 D.til, .slice MD.aj D.jobs.length MD.cj, .slice MD.an D.nodes.length MD.cn, .slice MD.al D.leases.length MD.cl, .slice MD.gj D.gj.length MD.hj, .slice MD.gn D.gn.length MD.hn, .slice MD.gl D.gl.length MD.hl] 49) = X := ⟨_, rfl⟩
  rw [hXd] at P5
  have Sd := Lib.hid P5.1
  have Td := Lib.hid P5.2.1
  have Rd := Lib.hid P5.2.2
  clear P5
  have Jd := Lib.hid (doTo_obj Td.out Jc.out (by decide))
  have RCd := Lib.hid (doTo_obj Td.out RC.out (by decide))
  have C := Lib.hid (svState_in Sd.out)
  go_wp2_with fail
  refine C.out.mono ?_
  clear C
  rintro e w6e ⟨ej, en, el, fj, fn, fl, rfl, ow, b6⟩
  have bB := below_one w6e (.cells #[.int .i64 vd.s.rev, .slice ej vd.s.jobs.length fj, .slice en vd.s.nodes.length fn, .slice el vd.s.leases.length fl] 26)
  have oB := objAt_new w6e #[.int .i64 vd.s.rev, .slice ej vd.s.jobs.length fj, .slice en vd.s.nodes.length fn, .slice el vd.s.leases.length fl] 26
  obtain ⟨Xe, hXe⟩ : ∃ X, w6e.alloc (.cells #[.int .i64 vd.s.rev, .slice ej vd.s.jobs.length fj, .slice en vd.s.nodes.length fn, .slice el vd.s.leases.length fl] 26) = X := ⟨_, rfl⟩
  rw [hXe] at bB oB
  have bb := below_trans b6 bB b6.size
  have Se := Lib.hid (svIn_next Sd.out bb)
  have OTe := Lib.hid (And.intro oB (ownS_next ow bB))
  have BTe := Lib.hid bb
  clear b6 bB oB ow bb
  have x0 := objAt_cell (objAt_next RCd.out BTe.out) 0 rfl
  have Je := Lib.hid (objAt_next Jd.out BTe.out)
  have j0 := objAt_cell Je.out 0 rfl
  rcases HD.out with hd | hd
  · obtain ⟨h1, h2⟩ := Prod.mk.inj hd
    obtain ⟨h3, h4⟩ := Prod.mk.inj h2
    obtain rfl : cc = 0 := h3
    obtain rfl : bc = true := h4
    have hb2 := HRd.out.symm.trans (sv_del_none (U := V8) (s := vc.s) vc.now HNM.out (by rw [h1]; exact jobsBut_has _ _))
    obtain ⟨p1, p2⟩ := Prod.mk.inj hb2
    obtain ⟨p3, p4⟩ := Prod.mk.inj p2
    obtain rfl : vd = vc := p1
    obtain rfl : cd = 6 := p3
    have H1 := Lib.hid h1
    have y0 := objAt_cell (objAt_next Rd.out BTe.out) 0 rfl
    have t1 := objAt_cell OTe.out.1 1 rfl
    have C := Lib.hid (jobAt_is vd.s.jobs ej fj (small4 Sd.out.2.1).1 j.name Xe (ownS_at OTe.out.2).1)
    clear hb2 p2 h2 hd h1
    go_wp2_with fail
    refine C.out.mono ?_
    clear C x0 y0 t1 j0
    rintro e w9 ⟨k, rfl, hk, b9⟩
    have hk0 : k < 0 := at_no hk (noJob (by rw [H1.out]; exact jobsBut_has _ _))
    have t3 := objAt_cell (objAt_next OTe.out.1 b9) 3 rfl
    have j0 := objAt_cell (objAt_next Je.out b9) 0 rfl
    have C := Lib.hid (leaseAt_is vd.s.leases el fl (small4 Sd.out.2.1).2.2 j.name w9 (leasesAt_next (ownS_at OTe.out.2).2.2 b9))
    have S9 := Lib.hid (svIn_next Se.out b9)
    clear hk b9
    go_wp2_with fail
    refine C.out.mono ?_
    clear C t3 j0
    rintro e wA ⟨k', rfl, hk, bA⟩
    have hk1 : k' < 0 := at_no hk (noLease (by rw [H1.out]; exact leasesJ_has _ _))
    have B9 := Lib.hid (svIn_next S9.out bA).2.2.2.1
    clear hk bA
    go_wp2
    go_ret
    exact ⟨rfl, B9.out⟩
  · obtain ⟨h1, h2⟩ := Prod.mk.inj hd
    obtain ⟨h3, h4⟩ := Prod.mk.inj h2
    obtain rfl : cc = 2 := h3
    have B9 := Lib.hid Se.out.2.2.2.1
    clear h1 h2 h4 hd
    go_wp2
    go_ret
    exact ⟨rfl, B9.out⟩

theorem own : ownKnob Tryz.prog.godebug = none := by kernel_rfl
theorem laidOut : laidOutB Tryz.prog = true := by kernel_rfl
theorem laid_met (os : Os) : laidMet Tryz.prog Rows.servePutsRow.laid ((laidWorld os).forCall (fun _ _ => 0) ⟨#[], #[.agg #[.int .i64 0, .slice none 0 0, .slice none 0 0, .slice none 0 0], .agg #[.string ⟨#[]⟩, .int .i64 0, .int .i64 0, .int .i64 0, .string ⟨#[]⟩]], []⟩).memory :=
  laidMet_of_run' 8 (by kernel_rfl) (by kernel_rfl)
theorem reads (os : Os) {H : Type} (enc : TypeId × Value → H) : ∃ places, DataW.whole enc Tryz.prog ((laidWorld os).forCall (fun _ _ => 0) ⟨#[], #[.agg #[.int .i64 0, .slice none 0 0, .slice none 0 0, .slice none 0 0], .agg #[.string ⟨#[]⟩, .int .i64 0, .int .i64 0, .int .i64 0, .string ⟨#[]⟩]], []⟩).memory Tryz.f7.params.toList Rows.servePutsSpec.vars false #[Value.agg #[.int .i64 0, .slice none 0 0, .slice none 0 0, .slice none 0 0], Value.agg #[.string ⟨#[]⟩, .int .i64 0, .int .i64 0, .int .i64 0, .string ⟨#[]⟩]].toList 8 = some ([.agg [.lit (.int .i64 0), .nil, .nil, .nil], .agg [.lit (.string []), .lit (.int .i64 0), .lit (.int .i64 0), .lit (.int .i64 0), .lit (.string [])]], [], places) :=
  ⟨[], by kernel_rfl⟩
set_option maxRecDepth 100000 in
set_option maxHeartbeats 2000000 in
theorem lifted (os : Os) (started : os.Started) (H : Type) (enc : TypeId × Value → H) (F : Stop.Interp) :
    ReturnsInHanded {} Tryz.checked os 7 .any ((OpenSpec.ofChange Rows.servePutsSpec).preRow enc Tryz.prog Tryz.f7 Rows.servePutsRow.domain false Rows.servePutsRow.laid) (((OpenSpec.ofChange Rows.servePutsSpec).at F).post enc Tryz.prog Tryz.f7 false true false false) := by
  obtain ⟨places, hx⟩ := reads os enc
  refine returnsInHanded_of_row (C := Tryz.checked) (s := (OpenSpec.ofChange Rows.servePutsSpec)) own started (by kernel_rfl) Tryz.func7
    (witness_row_atRef (enc := enc) (C := Tryz.checked) false (laidWorld os) #[.agg #[.int .i64 0, .slice none 0 0, .slice none 0 0, .slice none 0 0], .agg #[.string ⟨#[]⟩, .int .i64 0, .int .i64 0, .int .i64 0, .string ⟨#[]⟩]] rfl (by kernel_rfl) (by kernel_rfl) (by kernel_rfl)
      (OpenSpec.preRow_of_cond 8 hx (by kernel_rfl) (fun k hk => by cases hk) (by kernel_rfl) (laid_met os))) ?_
  intro W base args ds gs before hval0 hW _ _ hsz0 hL _ _
  have hval : ∀ (j : Nat) t v, Tryz.f7.params[j]? = some t → args[j]? = some v → Value.okWide Tryz.prog W .any base t v := hval0
  have hW' := hW
  obtain ⟨p, q, hA0, hV, rfl, hfz, hnd⟩ := hW
  have hA : DataW.TrodAll enc Tryz.prog W 0 (fun _ => true) true Tryz.f7.params.toList args.toList ds p := hA0
  have hsz : (DataW.weightsEach Tryz.prog (Tryz.f7.params.toList ++ Rows.servePutsSpec.plain.varTypes Tryz.prog) (ds ++ gs)).all (· ≤ reachBytes) = true := hsz0
  rw [Tryz.params7] at hA hval hsz
  obtain ⟨v0, vs0, d0, ds0, p0, q0, hargs, rfl, rfl, h0, r0⟩ := trodAll_cons hA
  obtain ⟨v1, vs1, d1, ds1, p1, q1, rfl, rfl, rfl, h1, r1⟩ := trodAll_cons r0
  obtain ⟨rfl, rfl, rfl⟩ := trodAll_nil r1
  obtain rfl : args = #[v0, v1] := by cases args; simp_all
  obtain ⟨rfl, rfl⟩ := trodVars_none hV
  obtain ⟨M0, st0, rfl, m0, x0, w0⟩ := open_state (hval 0 26 v0 rfl rfl) h0
  obtain ⟨x1, rfl, rfl, w1⟩ := open_Job (hval 1 38 v1 rfl rfl) h1
  have s0 := sized_state hsz rfl (j := 0) rfl x0
  clear hA0 hval0
  refine (walk M0 st0 x1 w0 w1 s0 W m0 (tabs_of hL)).mono fun e W' ⟨he, bel⟩ => ?_
  subst he
  exact ⟨_, rfl, _, _, _, [], _, [], hW', trodAll_mk1 (shut_bool Tryz.underlying4 _), (trodAll_cons_mk (Below.trod laidOut (by kernel_rfl) (of_decide_eq_true (by kernel_rfl)) h0 bel (fun x hx => by simpa using hW'.lt x (by simp [hx]))) (trodAll_cons_mk (Below.trod laidOut (by kernel_rfl) (of_decide_eq_true (by kernel_rfl)) h1 bel (fun x hx => by cases hx)) trodAll_mk0)), rfl, bel.frame _, fun h => by cases h⟩
theorem said : Rows.ServePutsSaid :=
  OpenClaim.holds_of_cond 7 Tryz.f7 rfl rfl rfl rfl rfl rfl rfl ⟨rfl, rfl, rfl, rfl, rfl⟩ rfl rfl rfl rfl rfl (by kernel_rfl) Tryz.func7 (by kernel_rfl)
    (of_decide_eq_true (by kernel_rfl)) (by unfold Func.isWrapper; first | (rw [if_pos (by decide +kernel)]; kernel_rfl) | (rw [if_neg (by decide +kernel)]; exact ⟨rfl, rfl⟩))
    (fun os started H enc _ F => by rw [OpenClaim.pre_eq_preRow]; exact lifted os started H enc F)
theorem plain (f : FuncId) (fn : Func) (hf : Tryz.pinned.checked.prog.funcNamed Rows.servePutsRow.func = some f) (hfn : Tryz.pinned.checked.prog.funcs[f]? = some fn) :
    false = Tryz.pinned.checked.prog.looks [] ∧ ∀ (j : Nat) t, fn.params[j]? = some t → Tryz.pinned.checked.prog.wantsStandIn t = false := by
  obtain rfl : f = 7 := Option.some.inj ((show Tryz.prog.funcNamed Rows.servePutsRow.func = some 7 by kernel_rfl).symm.trans hf) |>.symm
  obtain rfl : fn = Tryz.f7 := (Option.some.inj (Tryz.func7.symm.trans hfn)).symm
  refine ⟨by kernel_rfl, fun j t ht => ?_⟩
  rw [Tryz.params7] at ht
  have hm : t = 26 ∨ t = 38 := by simpa using Array.mem_of_getElem? ht
  rcases hm with rfl | rfl
  · exact (show Tryz.prog.wantsStandIn 26 = false by kernel_rfl)
  · exact (show Tryz.prog.wantsStandIn 38 = false by kernel_rfl)
theorem proved : Rows.ServePutsCardSaid :=
  Claim7.holds_tied_plain_at .later [] _ _ _ _ said (fun _ h => by cases h) (by kernel_rfl) (fun _ h => by cases h) servePuts_row_tie rfl ⟨rfl, rfl⟩ (by kernel_rfl) rfl plain (by kernel_rfl)
#print axioms proved
end Go.Proofs.YtiilagmmgpnpdaaGreatDoor.servePuts
