/- A server's execute and Do, at every request. -/
import Derived.Test.YthpgkfonbmffdaaGreatDoorSvCommit
import Derived.Test.YthpgkfonbmffdaaGreatDoorSvRun
namespace Go.Proofs.YthpgkfonbmffdaaGreatDoor
open Go.RowKit Go.Lib


def zM : DlM := ⟨none, 0, none, 0, none, 0, none, 0, none, 0, none, 0⟩
theorem svAt_put8 {b N : Nat} {v : SvD} {w : World} {a0 a1 a2 a3 a4 a5 a6 a7 : Value} (h : SvAt b v w) (ho : ObjAt N #[a0, a1, a2, a3, a4, a5, a6, a7] 49 w) (hn : b ≠ N) (x0 x1 x2 x3 x4 x5 x6 x7 : Value) : SvAt b v (put8 w N x0 x1 x2 x3 x4 x5 x6 x7) := by
  obtain ⟨aj, an, al, cj, cn, cl, o, r⟩ := h
  exact ⟨aj, an, al, cj, cn, cl, other_put8 o hn _ _ _ _ _ _ _ _, ownS_put8 r ho rowT_dl _ _ _ _ _ _ _ _⟩
/-- What a request leaves: the delta, whether there is one, the Code; the server. -/
def ExPost (b : Nat) (s : StD) (r : SvD × Nat × Bool) (w : World) (e : Ending) (w' : World) : Prop := ∃ M : DlM, e = .returned (.tuple #[.agg #[.int .i64 (told s r).frm, .int .i64 (told s r).til, .slice M.aj (told s r).jobs.length M.cj, .slice M.an (told s r).nodes.length M.cn, .slice M.al (told s r).leases.length M.cl, .slice M.gj (told s r).gj.length M.hj, .slice M.gn (told s r).gn.length M.hn, .slice M.gl (told s r).gl.length M.hl], .bool r.2.2, .int .i64 (r.2.1 : Nat)]) ∧ SvAt b r.1 w' ∧ OwnD w.heap.size M (told s r) w' ∧ w.grownBy w' (some b)
theorem commit_is (v : SvD) (q : ReqD) (hv : checkE V8 v.s = 0) (hz : (runR V8 v.s v.now q).2 = 0) (b : Nat) (bj bn bl : Option Addr) (dj dn dl : Nat) (w : World) (hT : Tabs w) (hS : SvAt b v w) (hX : OwnS 0 bj bn bl dj dn dl (runR V8 v.s v.now q).1.s w) :
    Calls Tryz.prog 73 #[.pointer (some ⟨b, 0, none⟩), .agg #[.int .i64 (runR V8 v.s v.now q).1.s.rev, .slice bj (runR V8 v.s v.now q).1.s.jobs.length dj, .slice bn (runR V8 v.s v.now q).1.s.nodes.length dn, .slice bl (runR V8 v.s v.now q).1.s.leases.length dl, .int .i64 (runR V8 v.s v.now q).1.now]] w (ExPost b v.s (doR V8 v.s v.now q) w) := by
  have hr := runR_valid ((check_zero V8 _).1 hv) v.now q hz
  have ht := (check_zero V8 _).2 hr.1
  by_cases hh : SameRows v.s (runR V8 v.s v.now q).1.s
  · have e0 := doR_same hz hh
    refine (commit_same v (runR V8 v.s v.now q).1 hv ht hr.2 hh b bj bn bl dj dn dl w hT hS hX).mono fun e w' z => ?_
    rw [e0]
    exact ⟨zM, z.1, z.2.1, ownD_zero _ _, z.2.2⟩
  · by_cases hm : v.s.rev = 1099511627776
    · have e0 := doR_full hz hh hm
      refine (commit_full v (runR V8 v.s v.now q).1 hv ht hr.2 hh hm b bj bn bl dj dn dl w hT hS hX).mono fun e w' z => ?_
      rw [e0]
      exact ⟨zM, z.1, svAt_next hS z.2, ownD_zero _ _, gN_of_below z.2⟩
    · have e0 := doR_new hz hh hm
      refine (commit_new v (runR V8 v.s v.now q).1 hv ht hr.2 hh hm b bj bn bl dj dn dl w hT hS hX).mono fun e w' z => ?_
      rw [e0]
      exact z
def ExAt (H : Nat) (qa : Array Value) (w V : World) : Prop := ObjAt H qa 44 V ∧ ObjAt (H + 1) #[.int .i64 0, .int .i64 0, .slice none 0 0, .slice none 0 0, .slice none 0 0, .slice none 0 0, .slice none 0 0, .slice none 0 0] 49 V ∧ Below H w V
theorem ex_next {H : Nat} {qa : Array Value} {w V V' : World} (h : ExAt H qa w V) (b : Below V.heap.size V V') : ExAt H qa w V' := ⟨objAt_next h.1 b, objAt_next h.2.1 b, below_trans h.2.2 b (by have := objAt_lt h.1; omega)⟩
theorem ex_drew {H : Nat} {qa : Array Value} {w V : World} (h : ExAt H qa w V) : ExAt H qa w V.drew := ⟨objAt_drew h.1, objAt_drew h.2.1, h.2.2.drew⟩
def ExRel (H : Nat) (qa ta : Array Value) (w : World) (p : Value) (wc : World) : Prop := ∃ c, p = .pointer (some ⟨c, 0, none⟩) ∧ H + 2 ≤ c ∧ ObjAt c ta 117 wc ∧ ExAt H qa w wc
theorem ex_rel {H : Nat} {qa ta : Array Value} {w V : World} (h : ExAt H qa w V) : ExRel H qa ta w (.pointer (some ⟨V.heap.size, 0, none⟩)) (V.drew.alloc (.cells ta 117)) := ⟨V.heap.size, rfl, by have := objAt_lt h.2.1; omega, objAt_new V.drew ta 117, ex_next (ex_drew h) (below_one V.drew _)⟩
theorem ex_rel' {H : Nat} {qa ta : Array Value} {w V : World} (h : ExAt H qa w V) : ExRel H qa ta w (.pointer (some ⟨V.heap.size, 0, none⟩)) ((V.alloc (.cells ta 117)).drew) := ex_rel h
set_option maxRecDepth 100000 in
set_option maxHeartbeats 8000000 in
theorem execute_is (v : SvD) (hv : checkE V8 v.s = 0) (hnow : 0 ≤ v.now ∧ v.now ≤ 1099511627776) (q : ReqD) (hwq : wReq q) (b : Nat) (w : World) (hT : Tabs w) (hS : SvAt b v w) :
    Calls Tryz.prog 43 #[.pointer (some ⟨b, 0, none⟩), .agg #[.int .i64 q.kind, .string q.job.name, .int .i64 q.job.prio, .int .i64 q.job.need, .int .i64 q.job.tries, .string q.job.tag, .string q.node.name, .int .i64 q.node.room, .string q.node.zone, .string q.lease.job, .string q.lease.node, .int .i64 q.lease.til, .string q.name, .int .i64 q.n]] w (ExPost b v.s (doR V8 v.s v.now q) w) := by
  have HS0 := Lib.hid hS
  obtain ⟨aj, an, al, cj, cn, cl, oS, xS⟩ := hS
  unfold svC at oS
  have hbw := objAt_lt oS
  obtain ⟨W, hW⟩ : ∃ W, (w.alloc (.cells #[.int .i64 q.kind, .string q.job.name, .int .i64 q.job.prio, .int .i64 q.job.need, .int .i64 q.job.tries, .string q.job.tag, .string q.node.name, .int .i64 q.node.room, .string q.node.zone, .string q.lease.job, .string q.lease.node, .int .i64 q.lease.til, .string q.name, .int .i64 q.n] 44)).alloc (.cells #[.int .i64 0, .int .i64 0, .slice none 0 0, .slice none 0 0, .slice none 0 0, .slice none 0 0, .slice none 0 0, .slice none 0 0] 49) = W := ⟨_, rfl⟩
  have bW : Below w.heap.size w W := by rw [← hW]; exact below_trans (below_one _ _) (below_one _ _) (by simp)
  have oQ : ObjAt w.heap.size #[.int .i64 q.kind, .string q.job.name, .int .i64 q.job.prio, .int .i64 q.job.need, .int .i64 q.job.tries, .string q.job.tag, .string q.node.name, .int .i64 q.node.room, .string q.node.zone, .string q.lease.job, .string q.lease.node, .int .i64 q.lease.til, .string q.name, .int .i64 q.n] 44 W := by rw [← hW]; exact objAt_next (objAt_new w _ _) (below_one _ _)
  have oD : ObjAt (w.heap.size + 1) #[.int .i64 0, .int .i64 0, .slice none 0 0, .slice none 0 0, .slice none 0 0, .slice none 0 0, .slice none 0 0, .slice none 0 0] 49 W := by
    rw [← hW]
    have := objAt_new (w.alloc (.cells #[.int .i64 q.kind, .string q.job.name, .int .i64 q.job.prio, .int .i64 q.job.need, .int .i64 q.job.tries, .string q.job.tag, .string q.node.name, .int .i64 q.node.room, .string q.node.zone, .string q.lease.job, .string q.lease.node, .int .i64 q.lease.til, .string q.name, .int .i64 q.n] 44)) #[.int .i64 0, .int .i64 0, .slice none 0 0, .slice none 0 0, .slice none 0 0, .slice none 0 0, .slice none 0 0, .slice none 0 0] 49
    rwa [World.size_alloc] at this
  have EA : Hid (ExAt w.heap.size #[.int .i64 q.kind, .string q.job.name, .int .i64 q.job.prio, .int .i64 q.job.need, .int .i64 q.job.tries, .string q.job.tag, .string q.node.name, .int .i64 q.node.room, .string q.node.zone, .string q.lease.job, .string q.lease.node, .int .i64 q.lease.til, .string q.name, .int .i64 q.n] w W) := ⟨oQ, oD, bW⟩
  have oB := objAt_next oS bW
  have lB := objAt_lt oB
  have kb0 := objAt_cell oB 0 rfl
  have kb1 := objAt_cell oB 1 rfl
  have kb2 := objAt_cell oB 2 rfl
  have kb3 := objAt_cell oB 3 rfl
  have kb4 := objAt_cell oB 4 rfl
  have HV := Lib.hid hv
  have HN := Lib.hid hnow
  have HQ := Lib.hid hwq
  have HT := Lib.hid hT
  have HXS := Lib.hid xS
  have HOS := Lib.hid oS
  clear hnow hwq hT xS oS oQ oD bW oB hv
  go_enter Tryz.func43, Tryz.ntmps43
  go_wp2_with fail
  go_cut [7] from 18 (fun p wc => ExRel w.heap.size #[.int .i64 q.kind, .string q.job.name, .int .i64 q.job.prio, .int .i64 q.job.need, .int .i64 q.job.tries, .string q.job.tag, .string q.node.name, .int .i64 q.node.room, .string q.node.zone, .string q.lease.job, .string q.lease.node, .int .i64 q.lease.til, .string q.name, .int .i64 q.n] #[.int .i64 v.s.rev, .slice aj v.s.jobs.length cj, .slice an v.s.nodes.length cn, .slice al v.s.leases.length cl, .int .i64 v.now] w p wc)
  case first =>
    go_region_law (fail)
    all_goals
      go_wp2_with fail
      go_meet
      case rel => first | exact ex_rel EA.out | exact ex_rel' EA.out | (trace_state; sorry)
  case rest =>
    obtain ⟨c, rfl, hc, oT, E⟩ := hcut
    have lT := objAt_lt oT
    have lQ := objAt_lt E.1
    have bL := E.2.2
    have y0 := objAt_cell E.1 0 rfl
    have y1 := objAt_cell E.1 1 rfl
    have y2 := objAt_cell E.1 2 rfl
    have y3 := objAt_cell E.1 3 rfl
    have y4 := objAt_cell E.1 4 rfl
    have y5 := objAt_cell E.1 5 rfl
    have y6 := objAt_cell E.1 6 rfl
    have y7 := objAt_cell E.1 7 rfl
    have y8 := objAt_cell E.1 8 rfl
    have y9 := objAt_cell E.1 9 rfl
    have y10 := objAt_cell E.1 10 rfl
    have y11 := objAt_cell E.1 11 rfl
    have y12 := objAt_cell E.1 12 rfl
    have y13 := objAt_cell E.1 13 rfl
    have hTx : TxAt c v wc := ⟨aj, an, al, cj, cn, cl, oT, ownS_next HXS.out bL⟩
    have C1 := run_any v HV.out HN.out q HQ.out c wc (HT.out.below bL) hTx
    obtain ⟨⟨t, z⟩, hR⟩ : ∃ R, runR V8 v.s v.now q = R := ⟨_, rfl⟩
    rw [hR] at C1
    have C1 := Lib.hid C1
    have EE := Lib.hid E
    have OT := Lib.hid oT
    have HR := Lib.hid hR
    clear E oT bL hTx hR
    go_wp2_with fail
    refine C1.out.mono ?_
    rintro e w4 ⟨rfl, t4, g4⟩
    have E4 : ExAt w.heap.size #[.int .i64 q.kind, .string q.job.name, .int .i64 q.job.prio, .int .i64 q.job.need, .int .i64 q.job.tries, .string q.job.tag, .string q.node.name, .int .i64 q.node.room, .string q.node.zone, .string q.lease.job, .string q.lease.node, .int .i64 q.lease.til, .string q.name, .int .i64 q.n] w w4 := ⟨objAt_gN EE.out.1 (by omega) g4, objAt_gN EE.out.2.1 (by omega) g4, gN_below EE.out.2.2 (by have := objAt_lt EE.out.1; omega) (by omega) g4⟩
    clear C1 g4 y0 y1 y2 y3 y4 y5 y6 y7 y8 y9 y10 y11 y12 y13
    by_cases hz : z = 0
    · subst hz
      obtain ⟨bj, bn, bl, dj, dn, dl, oX, xX⟩ := t4 rfl
      unfold svC at oX
      have HZ : (runR V8 v.s v.now q).2 = 0 := by rw [HR.out]
      have C2 := commit_is v q HV.out HZ b bj bn bl dj dn dl w4 (HT.out.below E4.2.2) (svAt_next HS0.out E4.2.2) (by rw [HR.out]; exact xX)
      rw [HR.out] at C2
      obtain ⟨⟨r1, code, ch⟩, hD⟩ : ∃ r, doR V8 v.s v.now q = r := ⟨_, rfl⟩
      rw [hD] at C2
      unfold ExPost at C2
      obtain ⟨D, hDD⟩ : ∃ D, told v.s (r1, code, ch) = D := ⟨_, rfl⟩
      simp only [hDD] at C2
      have C2 := Lib.hid C2
      have HD := Lib.hid hD
      have HDD := Lib.hid hDD
      have x0 := objAt_cell oX 0 rfl
      have x1 := objAt_cell oX 1 rfl
      have x2 := objAt_cell oX 2 rfl
      have x3 := objAt_cell oX 3 rfl
      have x4 := objAt_cell oX 4 rfl
      have lX := objAt_lt oX
      have EE4 := Lib.hid E4
      clear oX xX t4 E4 hD hDD HZ
      go_wp2_with fail
      refine C2.out.mono ?_
      rintro e w5 ⟨M, rfl, s5, d5, g5⟩
      have o5 := objAt_gN EE4.out.2.1 (by omega) g5
      have z0 := objAt_cell o5 0 rfl
      have f0 := objAt_free o5 0
      have z1 := objAt_cell o5 1 rfl
      have f1 := objAt_free o5 1
      have z2 := objAt_cell o5 2 rfl
      have f2 := objAt_free o5 2
      have z3 := objAt_cell o5 3 rfl
      have f3 := objAt_free o5 3
      have z4 := objAt_cell o5 4 rfl
      have f4 := objAt_free o5 4
      have z5 := objAt_cell o5 5 rfl
      have f5 := objAt_free o5 5
      have z6 := objAt_cell o5 6 rfl
      have f6 := objAt_free o5 6
      have z7 := objAt_cell o5 7 rfl
      have f7 := objAt_free o5 7
      have lD := objAt_lt o5
      have oF := obj_put8 o5 (.int .i64 D.frm) (.int .i64 D.til) (.slice M.aj D.jobs.length M.cj) (.slice M.an D.nodes.length M.cn) (.slice M.al D.leases.length M.cl) (.slice M.gj D.gj.length M.hj) (.slice M.gn D.gn.length M.hn) (.slice M.gl D.gl.length M.hl)
      have TT := Lib.hid (And.intro (objAt_cell oF 0 rfl) (And.intro (objAt_cell oF 1 rfl) (And.intro (objAt_cell oF 2 rfl) (And.intro (objAt_cell oF 3 rfl) (And.intro (objAt_cell oF 4 rfl) (And.intro (objAt_cell oF 5 rfl) (And.intro (objAt_cell oF 6 rfl) (objAt_cell oF 7 rfl))))))))
      have hsz : w.heap.size ≤ w4.heap.size := EE4.out.2.2.size
      have RS := Lib.hid (svAt_put8 s5 o5 (by omega) (.int .i64 D.frm) (.int .i64 D.til) (.slice M.aj D.jobs.length M.cj) (.slice M.an D.nodes.length M.cn) (.slice M.al D.leases.length M.cl) (.slice M.gj D.gj.length M.hj) (.slice M.gn D.gn.length M.hn) (.slice M.gl D.gl.length M.hl))
      have RD := Lib.hid (ownD_put8 (ownD_low d5 hsz) o5 (.int .i64 D.frm) (.int .i64 D.til) (.slice M.aj D.jobs.length M.cj) (.slice M.an D.nodes.length M.cn) (.slice M.al D.leases.length M.cl) (.slice M.gj D.gj.length M.hj) (.slice M.gn D.gn.length M.hn) (.slice M.gl D.gl.length M.hl))
      have RG := Lib.hid (gN_put8 (g2_trans (gN_of_below EE4.out.2.2) g5) (show w.heap.size ≤ w.heap.size + 1 by omega) (.int .i64 D.frm) (.int .i64 D.til) (.slice M.aj D.jobs.length M.cj) (.slice M.an D.nodes.length M.cn) (.slice M.al D.leases.length M.cl) (.slice M.gj D.gj.length M.hj) (.slice M.gn D.gn.length M.hn) (.slice M.gl D.gl.length M.hl))
      clear s5 d5 g5 o5 oF C2 x0 x1 x2 x3 x4
      go_wp2
      obtain ⟨t0, t1, t2, t3, t4, t5, t6, t7⟩ := TT.out
      exact bodyPost_ret (v := .tuple #[.agg #[.int .i64 D.frm, .int .i64 D.til, .slice M.aj D.jobs.length M.cj, .slice M.an D.nodes.length M.cn, .slice M.al D.leases.length M.cl, .slice M.gj D.gj.length M.hj, .slice M.gn D.gn.length M.hn, .slice M.gl D.gl.length M.hl], .bool ch, .int .i64 (code : Nat)]) (by simp [results, Tryz.results43, go_sem, t0, t1, t2, t3, t4, t5, t6, t7]) rfl (by show ExPost _ _ _ _ _ _; rw [HD.out]; exact ⟨M, by rw [HDD.out], RS.out, by rw [HDD.out]; exact RD.out, RG.out⟩)
    · have hzz : ((z : Int) == 0) = false := by simpa using hz
      have HD : Hid (doR V8 v.s v.now q = (⟨v.s, v.now⟩, z, false)) := by
        have h0 : (runR V8 v.s v.now q).2 ≠ 0 := by rw [HR.out]; exact hz
        have h1 := doR_err h0
        rw [HR.out] at h1
        exact h1
      have z0 := objAt_cell E4.2.1 0 rfl
      have f0 := objAt_free E4.2.1 0
      have z1 := objAt_cell E4.2.1 1 rfl
      have f1 := objAt_free E4.2.1 1
      have z2 := objAt_cell E4.2.1 2 rfl
      have f2 := objAt_free E4.2.1 2
      have z3 := objAt_cell E4.2.1 3 rfl
      have f3 := objAt_free E4.2.1 3
      have z4 := objAt_cell E4.2.1 4 rfl
      have f4 := objAt_free E4.2.1 4
      have z5 := objAt_cell E4.2.1 5 rfl
      have f5 := objAt_free E4.2.1 5
      have z6 := objAt_cell E4.2.1 6 rfl
      have f6 := objAt_free E4.2.1 6
      have z7 := objAt_cell E4.2.1 7 rfl
      have f7 := objAt_free E4.2.1 7
      have lD := objAt_lt E4.2.1
      have oF := obj_put8 E4.2.1 (.int .i64 0) (.int .i64 0) (.slice none 0 0) (.slice none 0 0) (.slice none 0 0) (.slice none 0 0) (.slice none 0 0) (.slice none 0 0)
      have TT := Lib.hid (And.intro (objAt_cell oF 0 rfl) (And.intro (objAt_cell oF 1 rfl) (And.intro (objAt_cell oF 2 rfl) (And.intro (objAt_cell oF 3 rfl) (And.intro (objAt_cell oF 4 rfl) (And.intro (objAt_cell oF 5 rfl) (And.intro (objAt_cell oF 6 rfl) (objAt_cell oF 7 rfl))))))))
      have RS := Lib.hid (svAt_put8 (svAt_next HS0.out E4.2.2) E4.2.1 (by omega) (.int .i64 0) (.int .i64 0) (.slice none 0 0) (.slice none 0 0) (.slice none 0 0) (.slice none 0 0) (.slice none 0 0) (.slice none 0 0))
      have RG := Lib.hid (gN_put8 (gN_of_below (N := b) E4.2.2) (show w.heap.size ≤ w.heap.size + 1 by omega) (.int .i64 0) (.int .i64 0) (.slice none 0 0) (.slice none 0 0) (.slice none 0 0) (.slice none 0 0) (.slice none 0 0) (.slice none 0 0))
      clear E4 t4 oF hz
      go_wp2
      obtain ⟨t0, t1, t2, t3, t4, t5, t6, t7⟩ := TT.out
      exact bodyPost_ret (v := .tuple #[.agg #[.int .i64 0, .int .i64 0, .slice none 0 0, .slice none 0 0, .slice none 0 0, .slice none 0 0, .slice none 0 0, .slice none 0 0], .bool false, .int .i64 (z : Nat)]) (by simp [results, Tryz.results43, go_sem, t0, t1, t2, t3, t4, t5, t6, t7]) rfl (by show ExPost _ _ _ _ _ _; rw [HD.out]; exact ⟨zM, rfl, RS.out, ownD_zero _ _, RG.out⟩)
end Go.Proofs.YthpgkfonbmffdaaGreatDoor
