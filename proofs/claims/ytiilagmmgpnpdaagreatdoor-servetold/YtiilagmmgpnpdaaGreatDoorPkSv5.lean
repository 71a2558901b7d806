import Derived.Test.YtiilagmmgpnpdaaGreatDoorSvCommit
import Derived.Test.YtiilagmmgpnpdaaGreatDoorSvRun
import Derived.Deep.RegionLaw
import Derived.Test.YtiilagmmgpnpdaaGreatDoorPkSt2
import Derived.Test.YtiilagmmgpnpdaaGreatDoorPkDl6
import Derived.Test.YtiilagmmgpnpdaaGreatDoorPkSv1
import Derived.Test.YtiilagmmgpnpdaaGreatDoorSvArg
/- A server's execute and Do, at every request. -/
namespace Go.Proofs.YtiilagmmgpnpdaaGreatDoor
open Go.RowKit Go.Lib


def zM : DlM := ⟨none, 0, none, 0, none, 0, none, 0, none, 0, none, 0⟩
theorem svAt_put8 {b N : Nat} {v : SvD} {w : World} {a0 a1 a2 a3 a4 a5 a6 a7 : Value} (h : SvAt b v w) (ho : ObjAt N #[a0, a1, a2, a3, a4, a5, a6, a7] 49 w) (hn : b ≠ N) (x0 x1 x2 x3 x4 x5 x6 x7 : Value) : SvAt b v (put8 w N x0 x1 x2 x3 x4 x5 x6 x7) := by
  obtain ⟨aj, an, al, cj, cn, cl, o, r⟩ := h
  exact ⟨aj, an, al, cj, cn, cl, other_put8 o hn _ _ _ _ _ _ _ _, ownS_put8 r ho rowT_dl _ _ _ _ _ _ _ _⟩
/-- What a request leaves: the delta, whether there is one, the Code; the server. -/
def ExPost (b : Nat) (s : StD) (r : SvD × Nat × Bool) (w : World) (e : Ending) (w' : World) : Prop := ∃ M : DlM, e = .returned (.tuple #[.agg #[.int .i64 (told s r).frm, .int .i64 (told s r).til, .slice M.aj (told s r).jobs.length M.cj, .slice M.an (told s r).nodes.length M.cn, .slice M.al (told s r).leases.length M.cl, .slice M.gj (told s r).gj.length M.hj, .slice M.gn (told s r).gn.length M.hn, .slice M.gl (told s r).gl.length M.hl], .bool r.2.2, .int .i64 (r.2.1 : Nat)]) ∧ SvAt b r.1 w' ∧ OwnD w.heap.size M (told s r) w' ∧ w.grownBy w' (some b)
theorem commit_is (v : SvD) (q : ReqD) (hv : checkE V8 v.s = 0) (hz : (runR V8 v.s v.now q).2 = 0) (b : Nat) (bj bn bl : Option Addr) (dj dn dl : Nat) (w : World) (hT : Tabs w) (hS : SvAt b v w) (hX : OwnS 0 bj bn bl dj dn dl (runR V8 v.s v.now q).1.s w) :
    Calls Tryz.prog 72 #[.pointer (some ⟨b, 0, none⟩), .agg #[.int .i64 (runR V8 v.s v.now q).1.s.rev, .slice bj (runR V8 v.s v.now q).1.s.jobs.length dj, .slice bn (runR V8 v.s v.now q).1.s.nodes.length dn, .slice bl (runR V8 v.s v.now q).1.s.leases.length dl, .int .i64 (runR V8 v.s v.now q).1.now]] w (ExPost b v.s (doR V8 v.s v.now q) w) := by
  have hr := runR_valid ((check_zero V8 _).1 hv) v.now q hz
  have ht := (check_zero V8 _).2 hr.1
  by_cases hh : SameRows v.s (runR V8 v.s v.now q).1.s
  · have e0 := doR_same hz hh
    refine (commit_same v (runR V8 v.s v.now q).1 hv ht hr.2 hh b bj bn bl dj dn dl w hT hS hX).mono fun e w' z => ?_
    rw [e0]
    exact ⟨zM, z.1, z.2.1, ownD_zero _ _, z.2.2⟩
  · by_cases hm : v.s.rev = 1099511627776
    · have e0 := doR_full hz hh hm
      refine (commit_full v (runR V8 v.s v.now q).1 hv ht hr.2 hh hm b bj bn bl dj dn dl w hT hS hX).mono fun e w' z => ?_
      rw [e0]
      exact ⟨zM, z.1, svAt_next hS z.2, ownD_zero _ _, gN_of_below z.2⟩
    · have e0 := doR_new hz hh hm
      refine (commit_new v (runR V8 v.s v.now q).1 hv ht hr.2 hh hm b bj bn bl dj dn dl w hT hS hX).mono fun e w' z => ?_
      rw [e0]
      exact z
def ExAt (H : Nat) (qa : Array Value) (w V : World) : Prop := ObjAt H qa 44 V ∧ ObjAt (H + 1) #[.int .i64 0, .int .i64 0, .slice none 0 0, .slice none 0 0, .slice none 0 0, .slice none 0 0, .slice none 0 0, .slice none 0 0] 49 V ∧ Below H w V
theorem ex_next {H : Nat} {qa : Array Value} {w V V' : World} (h : ExAt H qa w V) (b : Below V.heap.size V V') : ExAt H qa w V' := ⟨objAt_next h.1 b, objAt_next h.2.1 b, below_trans h.2.2 b (by have := objAt_lt h.1; omega)⟩
theorem ex_drew {H : Nat} {qa : Array Value} {w V : World} (h : ExAt H qa w V) : ExAt H qa w V.drew := ⟨objAt_drew h.1, objAt_drew h.2.1, h.2.2.drew⟩
def ExRel (H : Nat) (qa ta : Array Value) (w : World) (p : Value) (wc : World) : Prop := ∃ c, p = .pointer (some ⟨c, 0, none⟩) ∧ H + 2 ≤ c ∧ ObjAt c ta 117 wc ∧ ExAt H qa w wc
theorem ex_rel {H : Nat} {qa ta : Array Value} {w V : World} (h : ExAt H qa w V) : ExRel H qa ta w (.pointer (some ⟨V.heap.size, 0, none⟩)) (V.drew.alloc (.cells ta 117)) := ⟨V.heap.size, rfl, by have := objAt_lt h.2.1; omega, objAt_new V.drew ta 117, ex_next (ex_drew h) (below_one V.drew _)⟩
theorem ex_rel' {H : Nat} {qa ta : Array Value} {w V : World} (h : ExAt H qa w V) : ExRel H qa ta w (.pointer (some ⟨V.heap.size, 0, none⟩)) ((V.alloc (.cells ta 117)).drew) := ex_rel h
set_option maxRecDepth 100000 in
set_option maxHeartbeats 8000000 in
theorem execute_is (v : SvD) (hv : checkE V8 v.s = 0) (hnow : 0 ≤ v.now ∧ v.now ≤ 1099511627776) (q : ReqD) (hwq : wReq q) (b : Nat) (w : World) (hT : Tabs w) (hS : SvAt b v w) :
    Calls Tryz.prog 42 #[.pointer (some ⟨b, 0, none⟩), .agg #[.int .i64 q.kind, .string q.job.name, .int .i64 q.job.prio, .int .i64 q.job.need, .int .i64 q.job.tries, .string q.job.tag, .string q.node.name, .int .i64 q.node.room, .string q.node.zone, .string q.lease.job, .string q.lease.node, .int .i64 q.lease.til, .string q.name, .int .i64 q.n]] w (ExPost b v.s (doR V8 v.s v.now q) w) := by
  have HS0 := Lib.hid hS
  obtain ⟨aj, an, al, cj, cn, cl, oS, xS⟩ := hS
  unfold svC at oS
  have hbw := objAt_lt oS
  obtain ⟨W, hW⟩ : ∃ W, (w.alloc (.cells #[.int .i64 q.kind, .string q.job.name, .int .i64 q.job.prio, .int .i64 q.job.need, .int .i64 q.job.tries, .string q.job.tag, .string q.node.name, .int .i64 q.node.room, .string q.node.zone, .string q.lease.job, .string q.lease.node, .int .i64 q.lease.til, .string q.name, .int .i64 q.n] 44)).alloc (.cells #[.int .i64 0, .int .i64 0, .slice none 0 0, .slice none 0 0, .slice none 0 0, .slice none 0 0, .slice none 0 0, .slice none 0 0] 49) = W := ⟨_, rfl⟩
  have bW : Below w.heap.size w W := by rw [← hW]; exact below_trans (below_one _ _) (below_one _ _) (by simp)
  have oQ : ObjAt w.heap.size #[.int .i64 q.kind, .string q.job.name, .int .i64 q.job.prio, .int .i64 q.job.need, .int .i64 q.job.tries, .string q.job.tag, .string q.node.name, .int .i64 q.node.room, .string q.node.zone, .string q.lease.job, .string q.lease.node, .int .i64 q.lease.til, .string q.name, .int .i64 q.n] 44 W := by rw [← hW]; exact objAt_next (objAt_new w _ _) (below_one _ _)
  have oD : ObjAt (w.heap.size + 1) #[.int .i64 0, .int .i64 0, .slice none 0 0, .slice none 0 0, .slice none 0 0, .slice none 0 0, .slice none 0 0, .slice none 0 0] 49 W := by
    rw [← hW]
    have := objAt_new (w.alloc (.cells #[.int .i64 q.kind, .string q.job.name, .int .i64 q.job.prio, .int .i64 q.job.need, .int .i64 q.job.tries, .string q.job.tag, .string q.node.name, .int .i64 q.node.room, .string q.node.zone, .string q.lease.job, .string q.lease.node, .int .i64 q.lease.til, .string q.name, .int .i64 q.n] 44)) #[.int .i64 0, .int .i64 0, .slice none 0 0, .slice none 0 0, .slice none 0 0, .slice none 0 0, .slice none 0 0, .slice none 0 0] 49
    rwa [World.size_alloc] at this
  have EA : Hid (ExAt w.heap.size #[.int .i64 q.kind, .string q.job.name, .int .i64 q.job.prio, .int .i64 q.job.need, .int .i64 q.job.tries, .string q.job.tag, .string q.node.name, .int .i64 q.node.room, .string q.node.zone, .string q.lease.job, .string q.lease.node, .int .i64 q.lease.til, .string q.name, .int .i64 q.n] w W) := ⟨oQ, oD, bW⟩
  have oB := objAt_next oS bW
  have lB := objAt_lt oB
  have kb0 := objAt_cell oB 0 rfl
  have kb1 := objAt_cell oB 1 rfl
  have kb2 := objAt_cell oB 2 rfl
  have kb3 := objAt_cell oB 3 rfl
  have kb4 := objAt_cell oB 4 rfl
  have HV := Lib.hid hv
  have HN := Lib.hid hnow
  have HQ := Lib.hid hwq
  have HT := Lib.hid hT
  have HXS := Lib.hid xS
  have HOS := Lib.hid oS
  clear hnow hwq hT xS oS oQ oD bW oB hv
  go_enter Tryz.func42, Tryz.ntmps42
  go_wp2_with fail
  go_cut [7] from 18 (fun p wc => ExRel w.heap.size #[.int .i64 q.kind, .string q.job.name, .int .i64 q.job.prio, .int .i64 q.job.need, .int .i64 q.job.tries, .string q.job.tag, .string q.node.name, .int .i64 q.node.room, .string q.node.zone, .string q.lease.job, .string q.lease.node, .int .i64 q.lease.til, .string q.name, .int .i64 q.n] #[.int .i64 v.s.rev, .slice aj v.s.jobs.length cj, .slice an v.s.nodes.length cn, .slice al v.s.leases.length cl, .int .i64 v.now] w p wc)
  case first =>
    go_region_law (fail)
    all_goals
      go_wp2_with fail
      go_meet
      case rel => first | exact ex_rel EA.out | exact ex_rel' EA.out
  case rest =>
    obtain ⟨c, rfl, hc, oT, E⟩ := hcut
    have lT := objAt_lt oT
    have lQ := objAt_lt E.1
    have bL := E.2.2
    have y0 := objAt_cell E.1 0 rfl
    have y1 := objAt_cell E.1 1 rfl
    have y2 := objAt_cell E.1 2 rfl
    have y3 := objAt_cell E.1 3 rfl
    have y4 := objAt_cell E.1 4 rfl
    have y5 := objAt_cell E.1 5 rfl
    have y6 := objAt_cell E.1 6 rfl
    have y7 := objAt_cell E.1 7 rfl
    have y8 := objAt_cell E.1 8 rfl
    have y9 := objAt_cell E.1 9 rfl
    have y10 := objAt_cell E.1 10 rfl
    have y11 := objAt_cell E.1 11 rfl
    have y12 := objAt_cell E.1 12 rfl
    have y13 := objAt_cell E.1 13 rfl
    have hTx : TxAt c v wc := ⟨aj, an, al, cj, cn, cl, oT, ownS_next HXS.out bL⟩
    have C1 := run_any v HV.out HN.out q HQ.out c wc (HT.out.below bL) hTx
    obtain ⟨⟨t, z⟩, hR⟩ : ∃ R, runR V8 v.s v.now q = R := ⟨_, rfl⟩
    rw [hR] at C1
    have C1 := Lib.hid C1
    have EE := Lib.hid E
    have OT := Lib.hid oT
    have HR := Lib.hid hR
    clear E oT bL hTx hR
    go_wp2_with fail
    refine C1.out.mono ?_
    rintro e w4 ⟨rfl, t4, g4⟩
    have E4 : ExAt w.heap.size #[.int .i64 q.kind, .string q.job.name, .int .i64 q.job.prio, .int .i64 q.job.need, .int .i64 q.job.tries, .string q.job.tag, .string q.node.name, .int .i64 q.node.room, .string q.node.zone, .string q.lease.job, .string q.lease.node, .int .i64 q.lease.til, .string q.name, .int .i64 q.n] w w4 := ⟨objAt_gN EE.out.1 (by omega) g4, objAt_gN EE.out.2.1 (by omega) g4, gN_below EE.out.2.2 (by have := objAt_lt EE.out.1; omega) (by omega) g4⟩
    clear C1 g4 y0 y1 y2 y3 y4 y5 y6 y7 y8 y9 y10 y11 y12 y13
    by_cases hz : z = 0
    · subst hz
      obtain ⟨bj, bn, bl, dj, dn, dl, oX, xX⟩ := t4 rfl
      unfold svC at oX
      have HZ : (runR V8 v.s v.now q).2 = 0 := by rw [HR.out]
      have C2 := commit_is v q HV.out HZ b bj bn bl dj dn dl w4 (HT.out.below E4.2.2) (svAt_next HS0.out E4.2.2) (by rw [HR.out]; exact xX)
      rw [HR.out] at C2
      obtain ⟨⟨r1, code, ch⟩, hD⟩ : ∃ r, doR V8 v.s v.now q = r := ⟨_, rfl⟩
      rw [hD] at C2
      unfold ExPost at C2
      obtain ⟨D, hDD⟩ : ∃ D, told v.s (r1, code, ch) = D := ⟨_, rfl⟩
      simp only [hDD] at C2
      have C2 := Lib.hid C2
      have HD := Lib.hid hD
      have HDD := Lib.hid hDD
      have x0 := objAt_cell oX 0 rfl
      have x1 := objAt_cell oX 1 rfl
      have x2 := objAt_cell oX 2 rfl
      have x3 := objAt_cell oX 3 rfl
      have x4 := objAt_cell oX 4 rfl
      have lX := objAt_lt oX
      have EE4 := Lib.hid E4
      clear oX xX t4 E4 hD hDD HZ
      go_wp2_with fail
      refine C2.out.mono ?_
      rintro e w5 ⟨M, rfl, s5, d5, g5⟩
      have o5 := objAt_gN EE4.out.2.1 (by omega) g5
      have z0 := objAt_cell o5 0 rfl
      have f0 := objAt_free o5 0
      have z1 := objAt_cell o5 1 rfl
      have f1 := objAt_free o5 1
      have z2 := objAt_cell o5 2 rfl
      have f2 := objAt_free o5 2
      have z3 := objAt_cell o5 3 rfl
      have f3 := objAt_free o5 3
      have z4 := objAt_cell o5 4 rfl
      have f4 := objAt_free o5 4
      have z5 := objAt_cell o5 5 rfl
      have f5 := objAt_free o5 5
      have z6 := objAt_cell o5 6 rfl
      have f6 := objAt_free o5 6
      have z7 := objAt_cell o5 7 rfl
      have f7 := objAt_free o5 7
      have lD := objAt_lt o5
      have oF := obj_put8 o5 (.int .i64 D.frm) (.int .i64 D.til) (.slice M.aj D.jobs.length M.cj) (.slice M.an D.nodes.length M.cn) (.slice M.al D.leases.length M.cl) (.slice M.gj D.gj.length M.hj) (.slice M.gn D.gn.length M.hn) (.slice M.gl D.gl.length M.hl)
      have TT := Lib.hid (And.intro (objAt_cell oF 0 rfl) (And.intro (objAt_cell oF 1 rfl) (And.intro (objAt_cell oF 2 rfl) (And.intro (objAt_cell oF 3 rfl) (And.intro (objAt_cell oF 4 rfl) (And.intro (objAt_cell oF 5 rfl) (And.intro (objAt_cell oF 6 rfl) (objAt_cell oF 7 rfl))))))))
      have hsz : w.heap.size ≤ w4.heap.size := EE4.out.2.2.size
      have RS := Lib.hid (svAt_put8 s5 o5 (by omega) (.int .i64 D.frm) (.int .i64 D.til) (.slice M.aj D.jobs.length M.cj) (.slice M.an D.nodes.length M.cn) (.slice M.al D.leases.length M.cl) (.slice M.gj D.gj.length M.hj) (.slice M.gn D.gn.length M.hn) (.slice M.gl D.gl.length M.hl))
      have RD := Lib.hid (ownD_put8 (ownD_low d5 hsz) o5 (.int .i64 D.frm) (.int .i64 D.til) (.slice M.aj D.jobs.length M.cj) (.slice M.an D.nodes.length M.cn) (.slice M.al D.leases.length M.cl) (.slice M.gj D.gj.length M.hj) (.slice M.gn D.gn.length M.hn) (.slice M.gl D.gl.length M.hl))
      have RG := Lib.hid (gN_put8 (g2_trans (gN_of_below EE4.out.2.2) g5) (show w.heap.size ≤ w.heap.size + 1 by omega) (.int .i64 D.frm) (.int .i64 D.til) (.slice M.aj D.jobs.length M.cj) (.slice M.an D.nodes.length M.cn) (.slice M.al D.leases.length M.cl) (.slice M.gj D.gj.length M.hj) (.slice M.gn D.gn.length M.hn) (.slice M.gl D.gl.length M.hl))
      clear s5 d5 g5 o5 oF C2 x0 x1 x2 x3 x4
      go_wp2
      obtain ⟨t0, t1, t2, t3, t4, t5, t6, t7⟩ := TT.out
      exact bodyPost_ret (v := .tuple #[.agg #[.int .i64 D.frm, .int .i64 D.til, .slice M.aj D.jobs.length M.cj, .slice M.an D.nodes.length M.cn, .slice M.al D.leases.length M.cl, .slice M.gj D.gj.length M.hj, .slice M.gn D.gn.length M.hn, .slice M.gl D.gl.length M.hl], .bool ch, .int .i64 (code : Nat)]) (by simp [results, Tryz.results42, go_sem, t0, t1, t2, t3, t4, t5, t6, t7]) rfl (by show ExPost _ _ _ _ _ _; rw [HD.out]; exact ⟨M, by rw [HDD.out], RS.out, by rw [HDD.out]; exact RD.out, RG.out⟩)
    · have hzz : ((z : Int) == 0) = false := by simpa using hz
      have HD : Hid (doR V8 v.s v.now q = (⟨v.s, v.now⟩, z, false)) := by
        have h0 : (runR V8 v.s v.now q).2 ≠ 0 := by rw [HR.out]; exact hz
        have h1 := doR_err h0
        rw [HR.out] at h1
        exact h1
      have z0 := objAt_cell E4.2.1 0 rfl
      have f0 := objAt_free E4.2.1 0
      have z1 := objAt_cell E4.2.1 1 rfl
      have f1 := objAt_free E4.2.1 1
      have z2 := objAt_cell E4.2.1 2 rfl
      have f2 := objAt_free E4.2.1 2
      have z3 := objAt_cell E4.2.1 3 rfl
      have f3 := objAt_free E4.2.1 3
      have z4 := objAt_cell E4.2.1 4 rfl
      have f4 := objAt_free E4.2.1 4
      have z5 := objAt_cell E4.2.1 5 rfl
      have f5 := objAt_free E4.2.1 5
      have z6 := objAt_cell E4.2.1 6 rfl
      have f6 := objAt_free E4.2.1 6
      have z7 := objAt_cell E4.2.1 7 rfl
      have f7 := objAt_free E4.2.1 7
      have lD := objAt_lt E4.2.1
      have oF := obj_put8 E4.2.1 (.int .i64 0) (.int .i64 0) (.slice none 0 0) (.slice none 0 0) (.slice none 0 0) (.slice none 0 0) (.slice none 0 0) (.slice none 0 0)
      have TT := Lib.hid (And.intro (objAt_cell oF 0 rfl) (And.intro (objAt_cell oF 1 rfl) (And.intro (objAt_cell oF 2 rfl) (And.intro (objAt_cell oF 3 rfl) (And.intro (objAt_cell oF 4 rfl) (And.intro (objAt_cell oF 5 rfl) (And.intro (objAt_cell oF 6 rfl) (objAt_cell oF 7 rfl))))))))
      have RS := Lib.hid (svAt_put8 (svAt_next HS0.out E4.2.2) E4.2.1 (by omega) (.int .i64 0) (.int .i64 0) (.slice none 0 0) (.slice none 0 0) (.slice none 0 0) (.slice none 0 0) (.slice none 0 0) (.slice none 0 0))
      have RG := Lib.hid (gN_put8 (gN_of_below (N := b) E4.2.2) (show w.heap.size ≤ w.heap.size + 1 by omega) (.int .i64 0) (.int .i64 0) (.slice none 0 0) (.slice none 0 0) (.slice none 0 0) (.slice none 0 0) (.slice none 0 0) (.slice none 0 0))
      clear E4 t4 oF hz
      go_wp2
      obtain ⟨t0, t1, t2, t3, t4, t5, t6, t7⟩ := TT.out
      exact bodyPost_ret (v := .tuple #[.agg #[.int .i64 0, .int .i64 0, .slice none 0 0, .slice none 0 0, .slice none 0 0, .slice none 0 0, .slice none 0 0, .slice none 0 0], .bool false, .int .i64 (z : Nat)]) (by simp [results, Tryz.results42, go_sem, t0, t1, t2, t3, t4, t5, t6, t7]) rfl (by show ExPost _ _ _ _ _ _; rw [HD.out]; exact ⟨zM, rfl, RS.out, ownD_zero _ _, RG.out⟩)
end Go.Proofs.YtiilagmmgpnpdaaGreatDoor

/- A server's Do, at every request. -/
namespace Go.Proofs.YtiilagmmgpnpdaaGreatDoor
open Go.RowKit Go.Lib


def DoPost (b : Nat) (s : StD) (r : SvD × Nat × Bool) (w : World) (e : Ending) (w' : World) : Prop := ∃ M : DlM, e = .returned (.tuple #[.agg #[.int .i64 (r.2.1 : Nat), .int .i64 r.1.s.rev], .agg #[.int .i64 (told s r).frm, .int .i64 (told s r).til, .slice M.aj (told s r).jobs.length M.cj, .slice M.an (told s r).nodes.length M.cn, .slice M.al (told s r).leases.length M.cl, .slice M.gj (told s r).gj.length M.hj, .slice M.gn (told s r).gn.length M.hn, .slice M.gl (told s r).gl.length M.hl], .bool r.2.2]) ∧ SvAt b r.1 w' ∧ OwnD w.heap.size M (told s r) w' ∧ w.grownBy w' (some b)
theorem rowT_rp : RowT 46 := by unfold RowT; decide
theorem svAt_set1 {b N : Nat} {v : SvD} {w : World} {vs : Array Value} {t : TypeId} (h : SvAt b v w) (ho : ObjAt N vs t w) (ht : RowT t) (hn : b ≠ N) (j : Nat) (u : Value) : SvAt b v (w.setCell ⟨N, j, none⟩ u) := by
  obtain ⟨aj, an, al, cj, cn, cl, o, r⟩ := h
  exact ⟨aj, an, al, cj, cn, cl, objAt_other o hn _ _, ownS_set1 r ho ht _ _⟩
theorem ownD_set1 {B N : Nat} {M : DlM} {d : DelD} {w : World} {vs : Array Value} (h : OwnD B M d w) (ho : ObjAt N vs 46 w) (j : Nat) (u : Value) : OwnD B M d (w.setCell ⟨N, j, none⟩ u) := ⟨own_box h.1 ho (by decide) j u, own_box h.2.1 ho (by decide) j u, own_box h.2.2.1 ho (by decide) j u, own_box h.2.2.2.1 ho (by decide) j u, own_box h.2.2.2.2.1 ho (by decide) j u, own_box h.2.2.2.2.2 ho (by decide) j u⟩
set_option maxRecDepth 100000 in
set_option maxHeartbeats 8000000 in
theorem do_is (v : SvD) (hv : checkE V8 v.s = 0) (hnow : 0 ≤ v.now ∧ v.now ≤ 1099511627776) (q : ReqD) (hwq : wReq q) (b : Nat) (w : World) (hT : Tabs w) (hS : SvAt b v w) :
    Calls Tryz.prog 15 #[.pointer (some ⟨b, 0, none⟩), .agg #[.int .i64 q.kind, .string q.job.name, .int .i64 q.job.prio, .int .i64 q.job.need, .int .i64 q.job.tries, .string q.job.tag, .string q.node.name, .int .i64 q.node.room, .string q.node.zone, .string q.lease.job, .string q.lease.node, .int .i64 q.lease.til, .string q.name, .int .i64 q.n]] w (DoPost b v.s (doR V8 v.s v.now q) w) := by
  have hbw := svAt_lt hS
  obtain ⟨W, hW⟩ : ∃ W, ((w.alloc (.cells #[.int .i64 q.kind, .string q.job.name, .int .i64 q.job.prio, .int .i64 q.job.need, .int .i64 q.job.tries, .string q.job.tag, .string q.node.name, .int .i64 q.node.room, .string q.node.zone, .string q.lease.job, .string q.lease.node, .int .i64 q.lease.til, .string q.name, .int .i64 q.n] 44)).alloc (.cells #[.int .i64 0, .int .i64 0] 46)).alloc (.cells #[.int .i64 0, .int .i64 0, .slice none 0 0, .slice none 0 0, .slice none 0 0, .slice none 0 0, .slice none 0 0, .slice none 0 0] 49) = W := ⟨_, rfl⟩
  obtain ⟨W1, hW1⟩ : ∃ W, w.alloc (.cells #[.int .i64 q.kind, .string q.job.name, .int .i64 q.job.prio, .int .i64 q.job.need, .int .i64 q.job.tries, .string q.job.tag, .string q.node.name, .int .i64 q.node.room, .string q.node.zone, .string q.lease.job, .string q.lease.node, .int .i64 q.lease.til, .string q.name, .int .i64 q.n] 44) = W := ⟨_, rfl⟩
  have q1 := objAt_new w #[.int .i64 q.kind, .string q.job.name, .int .i64 q.job.prio, .int .i64 q.job.need, .int .i64 q.job.tries, .string q.job.tag, .string q.node.name, .int .i64 q.node.room, .string q.node.zone, .string q.lease.job, .string q.lease.node, .int .i64 q.lease.til, .string q.name, .int .i64 q.n] 44
  have c1 := below_one w (.cells #[.int .i64 q.kind, .string q.job.name, .int .i64 q.job.prio, .int .i64 q.job.need, .int .i64 q.job.tries, .string q.job.tag, .string q.node.name, .int .i64 q.node.room, .string q.node.zone, .string q.lease.job, .string q.lease.node, .int .i64 q.lease.til, .string q.name, .int .i64 q.n] 44)
  rw [hW1] at q1 c1
  have n1 : W1.heap.size = w.heap.size + 1 := by rw [← hW1, World.size_alloc]
  obtain ⟨W2, hW2⟩ : ∃ W, W1.alloc (.cells #[.int .i64 0, .int .i64 0] 46) = W := ⟨_, rfl⟩
  have q2 := objAt_new W1 #[.int .i64 0, .int .i64 0] 46
  have c2 := below_one W1 (.cells #[.int .i64 0, .int .i64 0] 46)
  rw [hW2] at q2 c2
  rw [n1] at q2
  have n2 : W2.heap.size = w.heap.size + 1 + 1 := by rw [← hW2, World.size_alloc, n1]
  have q3 := objAt_new W2 #[.int .i64 0, .int .i64 0, .slice none 0 0, .slice none 0 0, .slice none 0 0, .slice none 0 0, .slice none 0 0, .slice none 0 0] 49
  have c3 := below_one W2 (.cells #[.int .i64 0, .int .i64 0, .slice none 0 0, .slice none 0 0, .slice none 0 0, .slice none 0 0, .slice none 0 0, .slice none 0 0] 49)
  have hW' : W2.alloc (.cells #[.int .i64 0, .int .i64 0, .slice none 0 0, .slice none 0 0, .slice none 0 0, .slice none 0 0, .slice none 0 0, .slice none 0 0] 49) = W := by rw [← hW, ← hW2, ← hW1]
  rw [hW'] at q3 c3
  rw [n2] at q3
  have oQ : ObjAt w.heap.size #[.int .i64 q.kind, .string q.job.name, .int .i64 q.job.prio, .int .i64 q.job.need, .int .i64 q.job.tries, .string q.job.tag, .string q.node.name, .int .i64 q.node.room, .string q.node.zone, .string q.lease.job, .string q.lease.node, .int .i64 q.lease.til, .string q.name, .int .i64 q.n] 44 W := objAt_next (objAt_next q1 c2) c3
  have oP : ObjAt (w.heap.size + 1) #[.int .i64 0, .int .i64 0] 46 W := objAt_next q2 c3
  have oD : ObjAt (w.heap.size + 1 + 1) #[.int .i64 0, .int .i64 0, .slice none 0 0, .slice none 0 0, .slice none 0 0, .slice none 0 0, .slice none 0 0, .slice none 0 0] 49 W := q3
  have bW : Below w.heap.size w W := below_trans (below_trans c1 c2 c1.size) c3 (by omega)
  clear q1 q2 q3 c1 c2 c3 hW1 hW2 hW' n1 n2
  have C1 := execute_is v hv hnow q hwq b W (hT.below bW) (svAt_next hS bW)
  obtain ⟨⟨r1, code, ch⟩, hD⟩ : ∃ r, doR V8 v.s v.now q = r := ⟨_, rfl⟩
  rw [hD] at C1
  unfold ExPost at C1
  obtain ⟨D, hDD⟩ : ∃ D, told v.s (r1, code, ch) = D := ⟨_, rfl⟩
  simp only [hDD] at C1
  have C1 := Lib.hid C1
  have HD := Lib.hid hD
  have HDD := Lib.hid hDD
  have y0 := objAt_cell oQ 0 rfl
  have y1 := objAt_cell oQ 1 rfl
  have y2 := objAt_cell oQ 2 rfl
  have y3 := objAt_cell oQ 3 rfl
  have y4 := objAt_cell oQ 4 rfl
  have y5 := objAt_cell oQ 5 rfl
  have y6 := objAt_cell oQ 6 rfl
  have y7 := objAt_cell oQ 7 rfl
  have y8 := objAt_cell oQ 8 rfl
  have y9 := objAt_cell oQ 9 rfl
  have y10 := objAt_cell oQ 10 rfl
  have y11 := objAt_cell oQ 11 rfl
  have y12 := objAt_cell oQ 12 rfl
  have y13 := objAt_cell oQ 13 rfl
  have OP := Lib.hid oP
  have OD := Lib.hid oD
  have BW := Lib.hid bW
  have hPW := objAt_lt oP
  have hDW := objAt_lt oD
  clear oQ oP oD bW hS hT hwq hv hnow hD hDD
  go_enter Tryz.func15, Tryz.ntmps15
  go_wp2_with fail
  refine C1.out.mono ?_
  rintro e w1 ⟨M, rfl, s1, d1, g1⟩
  obtain ⟨aj, an, al, cj, cn, cl, oB, xB⟩ := s1
  unfold svC at oB
  obtain ⟨X, hX⟩ : ∃ X, w1.alloc (.cells #[.int .i64 D.frm, .int .i64 D.til, .slice M.aj D.jobs.length M.cj, .slice M.an D.nodes.length M.cn, .slice M.al D.leases.length M.cl, .slice M.gj D.gj.length M.hj, .slice M.gn D.gn.length M.hn, .slice M.gl D.gl.length M.hl] 49) = X := ⟨_, rfl⟩
  have bX := below_one w1 (.cells #[.int .i64 D.frm, .int .i64 D.til, .slice M.aj D.jobs.length M.cj, .slice M.an D.nodes.length M.cn, .slice M.al D.leases.length M.cl, .slice M.gj D.gj.length M.hj, .slice M.gn D.gn.length M.hn, .slice M.gl D.gl.length M.hl] 49)
  have oL := objAt_new w1 #[.int .i64 D.frm, .int .i64 D.til, .slice M.aj D.jobs.length M.cj, .slice M.an D.nodes.length M.cn, .slice M.al D.leases.length M.cl, .slice M.gj D.gj.length M.hj, .slice M.gn D.gn.length M.hn, .slice M.gl D.gl.length M.hl] 49
  rw [hX] at bX oL
  have oP1 := objAt_next (objAt_gN OP.out (by omega) g1) bX
  have oD1 := objAt_next (objAt_gN OD.out (by omega) g1) bX
  have oB1 := objAt_next oB bX
  have xB1 := ownS_next xB bX
  have d2 := ownD_low (B' := w.heap.size) (ownD_next d1 bX) BW.out.size
  have gX := gN_next (g2_trans (gN_of_below BW.out) g1) bX
  have sX : SvAt b r1 X := ⟨aj, an, al, cj, cn, cl, oB1, xB1⟩
  have kb0 := objAt_cell oB1 0 rfl
  have lB := objAt_lt oB1
  have p0 := objAt_cell oP1 0 rfl
  have p1 := objAt_cell oP1 1 rfl
  have h0 := objAt_free oP1 0
  have h1 := objAt_free oP1 1
  have lP := objAt_lt oP1
  have lD := objAt_lt oD1
  have lL := objAt_lt oL
  have z0 := objAt_cell oD1 0 rfl
  have f0 := objAt_free oD1 0
  have l0 := objAt_cell oL 0 rfl
  have z1 := objAt_cell oD1 1 rfl
  have f1 := objAt_free oD1 1
  have l1 := objAt_cell oL 1 rfl
  have z2 := objAt_cell oD1 2 rfl
  have f2 := objAt_free oD1 2
  have l2 := objAt_cell oL 2 rfl
  have z3 := objAt_cell oD1 3 rfl
  have f3 := objAt_free oD1 3
  have l3 := objAt_cell oL 3 rfl
  have z4 := objAt_cell oD1 4 rfl
  have f4 := objAt_free oD1 4
  have l4 := objAt_cell oL 4 rfl
  have z5 := objAt_cell oD1 5 rfl
  have f5 := objAt_free oD1 5
  have l5 := objAt_cell oL 5 rfl
  have z6 := objAt_cell oD1 6 rfl
  have f6 := objAt_free oD1 6
  have l6 := objAt_cell oL 6 rfl
  have z7 := objAt_cell oD1 7 rfl
  have f7 := objAt_free oD1 7
  have l7 := objAt_cell oL 7 rfl
  obtain ⟨Y, hY⟩ : ∃ Y, (X.setCell ⟨w.heap.size + 1, 0, none⟩ (.int .i64 (code : Int))).setCell ⟨w.heap.size + 1, 1, none⟩ (.int .i64 r1.s.rev) = Y := ⟨_, rfl⟩
  have e0 := oP1
  have e1 : ObjAt (w.heap.size + 1) #[.int .i64 (code : Int), .int .i64 0] 46 _ := objAt_set e0 0 (.int .i64 (code : Int))
  have oPY : ObjAt (w.heap.size + 1) #[.int .i64 (code : Int), .int .i64 r1.s.rev] 46 Y := by rw [← hY]; exact objAt_set e1 1 _
  have oDY : ObjAt (w.heap.size + 1 + 1) #[.int .i64 0, .int .i64 0, .slice none 0 0, .slice none 0 0, .slice none 0 0, .slice none 0 0, .slice none 0 0, .slice none 0 0] 49 Y := by rw [← hY]; exact objAt_other (objAt_other oD1 (by omega) _ _) (by omega) _ _
  have oLY : ObjAt w1.heap.size #[.int .i64 D.frm, .int .i64 D.til, .slice M.aj D.jobs.length M.cj, .slice M.an D.nodes.length M.cn, .slice M.al D.leases.length M.cl, .slice M.gj D.gj.length M.hj, .slice M.gn D.gn.length M.hn, .slice M.gl D.gl.length M.hl] 49 Y := by rw [← hY]; exact objAt_other (objAt_other oL (by have := g1.size; omega) _ _) (by have := g1.size; omega) _ _
  have sY : SvAt b r1 Y := by rw [← hY]; exact svAt_set1 (svAt_set1 sX e0 rowT_rp (by omega) _ _) e1 rowT_rp (by omega) _ _
  have dY : OwnD w.heap.size M D Y := by rw [← hY]; exact ownD_set1 (ownD_set1 d2 e0 _ _) e1 _ _
  have gY : w.grownBy Y (some b) := by rw [← hY]; exact gN_app (gN_app gX (grown_set _ _ _ _) (by intro k hk; cases hk; omega)) (grown_set _ _ _ _) (by intro k hk; cases hk; omega)
  have oF := objAt_drew (obj_put8 oDY (.int .i64 D.frm) (.int .i64 D.til) (.slice M.aj D.jobs.length M.cj) (.slice M.an D.nodes.length M.cn) (.slice M.al D.leases.length M.cl) (.slice M.gj D.gj.length M.hj) (.slice M.gn D.gn.length M.hn) (.slice M.gl D.gl.length M.hl))
  have oPF := objAt_drew (other_put8 oPY (by omega : w.heap.size + 1 ≠ w.heap.size + 1 + 1) (.int .i64 D.frm) (.int .i64 D.til) (.slice M.aj D.jobs.length M.cj) (.slice M.an D.nodes.length M.cn) (.slice M.al D.leases.length M.cl) (.slice M.gj D.gj.length M.hj) (.slice M.gn D.gn.length M.hn) (.slice M.gl D.gl.length M.hl))
  have TT := Lib.hid (And.intro (objAt_cell oF 0 rfl) (And.intro (objAt_cell oF 1 rfl) (And.intro (objAt_cell oF 2 rfl) (And.intro (objAt_cell oF 3 rfl) (And.intro (objAt_cell oF 4 rfl) (And.intro (objAt_cell oF 5 rfl) (And.intro (objAt_cell oF 6 rfl) (And.intro (objAt_cell oF 7 rfl) (And.intro (objAt_cell oPF 0 rfl) (objAt_cell oPF 1 rfl))))))))))
  have RS := Lib.hid (svAt_next (svAt_put8 sY oDY (by omega) (.int .i64 D.frm) (.int .i64 D.til) (.slice M.aj D.jobs.length M.cj) (.slice M.an D.nodes.length M.cn) (.slice M.al D.leases.length M.cl) (.slice M.gj D.gj.length M.hj) (.slice M.gn D.gn.length M.hn) (.slice M.gl D.gl.length M.hl)) (Below.refl _ _).drew)
  have RD := Lib.hid (ownD_next (ownD_put8 dY oDY (.int .i64 D.frm) (.int .i64 D.til) (.slice M.aj D.jobs.length M.cj) (.slice M.an D.nodes.length M.cn) (.slice M.al D.leases.length M.cl) (.slice M.gj D.gj.length M.hj) (.slice M.gn D.gn.length M.hn) (.slice M.gl D.gl.length M.hl)) (Below.refl _ _).drew)
  have RG := Lib.hid (gN_next (gN_put8 gY (show w.heap.size ≤ w.heap.size + 1 + 1 by omega) (.int .i64 D.frm) (.int .i64 D.til) (.slice M.aj D.jobs.length M.cj) (.slice M.an D.nodes.length M.cn) (.slice M.al D.leases.length M.cl) (.slice M.gj D.gj.length M.hj) (.slice M.gn D.gn.length M.hn) (.slice M.gl D.gl.length M.hl)) (Below.refl _ _).drew)
  have zz0 := objAt_cell oDY 0 rfl
  have ff0 := objAt_free oDY 0
  have ll0 := objAt_cell oLY 0 rfl
  have zz1 := objAt_cell oDY 1 rfl
  have ff1 := objAt_free oDY 1
  have ll1 := objAt_cell oLY 1 rfl
  have zz2 := objAt_cell oDY 2 rfl
  have ff2 := objAt_free oDY 2
  have ll2 := objAt_cell oLY 2 rfl
  have zz3 := objAt_cell oDY 3 rfl
  have ff3 := objAt_free oDY 3
  have ll3 := objAt_cell oLY 3 rfl
  have zz4 := objAt_cell oDY 4 rfl
  have ff4 := objAt_free oDY 4
  have ll4 := objAt_cell oLY 4 rfl
  have zz5 := objAt_cell oDY 5 rfl
  have ff5 := objAt_free oDY 5
  have ll5 := objAt_cell oLY 5 rfl
  have zz6 := objAt_cell oDY 6 rfl
  have ff6 := objAt_free oDY 6
  have ll6 := objAt_cell oLY 6 rfl
  have zz7 := objAt_cell oDY 7 rfl
  have ff7 := objAt_free oDY 7
  have ll7 := objAt_cell oLY 7 rfl
  have lLY := objAt_lt oLY
  have lDY := objAt_lt oDY
  clear oB xB oL oP1 oD1 oB1 xB1 d1 d2 gX sX g1 bX e0 e1 oPY oDY oLY sY dY gY oF oPF C1 y0 y1 y2 y3 y4 y5 y6 y7 y8 y9 y10 y11 y12 y13
  go_wp2_with fail
  go_region_law (fail)
  all_goals
    go_wp2
    obtain ⟨t0, t1, t2, t3, t4, t5, t6, t7, r0, r1'⟩ := TT.out
    exact bodyPost_ret (v := .tuple #[.agg #[.int .i64 (code : Int), .int .i64 r1.s.rev], .agg #[.int .i64 D.frm, .int .i64 D.til, .slice M.aj D.jobs.length M.cj, .slice M.an D.nodes.length M.cn, .slice M.al D.leases.length M.cl, .slice M.gj D.gj.length M.hj, .slice M.gn D.gn.length M.hn, .slice M.gl D.gl.length M.hl], .bool ch]) (by simp [results, Tryz.results15, go_sem, t0, t1, t2, t3, t4, t5, t6, t7, r0, r1']) rfl (by show DoPost _ _ _ _ _ _; rw [HD.out]; exact ⟨M, by rw [HDD.out], RS.out, by rw [HDD.out]; exact RD.out, RG.out⟩)
end Go.Proofs.YtiilagmmgpnpdaaGreatDoor

/- The laws' own closed fact on a server. -/
namespace Go.Proofs.YtiilagmmgpnpdaaGreatDoor
open Go.RowKit Go.Lib

def svS : StD := ⟨4, sampleJ, sampleN, sampleL⟩
theorem svS_ok : checkE V8 svS = 0 := sample_check
theorem served_plain : doR V8 svS 0 (tickQ 9) = (⟨⟨5, sampleJ, sampleN, []⟩, 9⟩, 0, true) := by
  have e := run_tick (U := V8) (s := svS) (now := 0) (n := 9) (by decide)
  rw [if_neg (by decide)] at e
  have e2 : tickS (0 + 9) svS = ⟨4, sampleJ, sampleN, []⟩ := by unfold tickS svS leasesT sampleL; simp
  rw [e2] at e
  have k : ¬ SameRows svS (runR V8 svS 0 (tickQ 9)).1.s := by
    rw [e]; intro h
    have h3 : sampleL = [] := h.2.2
    simp [sampleL] at h3
  rw [doR_new (by rw [e]) k (by decide), e]
  rfl
theorem served_gone : (told svS (⟨⟨5, sampleJ, sampleN, []⟩, 9⟩, 0, true)).gl = [⟨#[97]⟩] := by
  unfold told
  rw [if_pos rfl]
  simp [diffS, goneL, svS, sampleL]
theorem wJ0 : wJob zJob := ⟨by decide, by decide, by decide, by decide, by decide⟩
theorem wN0 : wNode zNode := ⟨by decide, by decide, by decide⟩
theorem wL0 : wLease zLease := ⟨by decide, by decide, by decide⟩
theorem wE0 : (⟨#[]⟩ : ByteArray).size ≤ maxLen := by decide
theorem wI {n : Int} (h : 0 ≤ n ∧ n ≤ 9) : (Lit.int .i64 n).wf = true := wf_sv (by omega)
theorem wReq_tick {n : Int} (h : 0 ≤ n ∧ n ≤ 1099511627776) : wReq (tickQ n) := ⟨wI (n := 7) (by decide), wJ0, wN0, wL0, wE0, wf_sv (by show _ ≤ n ∧ n ≤ _; omega)⟩
theorem sv_sample (w : World) : Calls Tryz.prog 46 #[] w fun e w' => ∃ aj an al cj cn cl, e = .returned (.agg #[.int .i64 4, .slice aj sampleJ.length cj, .slice an sampleN.length cn, .slice al sampleL.length cl]) ∧ OwnS w.heap.size aj an al cj cn cl svS w' ∧ Below w.heap.size w w' :=
  (sample_is w).mono (by rintro e w' ⟨rfl, o1, o2, o3, b⟩; exact ⟨_, _, _, _, _, _, rfl, ⟨o1, o2, o3⟩, b⟩)
set_option maxRecDepth 100000 in
set_option maxHeartbeats 4000000 in
theorem served_is (w : World) (hT : Tabs w) : Calls Tryz.prog 21 #[] w fun e w' => e = .returned (.bool true) ∧ Below w.heap.size w w' := by
  have HT := Lib.hid hT
  clear hT
  go_enter Tryz.func21, Tryz.ntmps21
  go_wp2_with fail
  refine (sv_sample w).mono ?_
  rintro e w1 ⟨aj, an, al, cj, cn, cl, rfl, o1, b1⟩
  have C1 := svNew_ok svS aj an al cj cn cl svS_ok w1 (HT.out.below b1) (ownS_at o1)
  have C1 : Calls Tryz.prog 12 #[.agg #[.int .i64 4, .slice aj sampleJ.length cj, .slice an sampleN.length cn, .slice al sampleL.length cl]] w1 _ := C1
  have C1 := Lib.hid C1
  have B1 := Lib.hid b1
  clear b1 o1
  go_wp2_with fail
  refine C1.out.mono ?_
  rintro e w2 ⟨b, rfl, hb, sv, b2⟩
  have B2 := below_trans B1.out b2 B1.out.size
  have C2 := do_is ⟨svS, 0⟩ svS_ok (by decide) (tickQ 9) (wReq_tick (by decide)) b w2 (HT.out.below B2) sv
  have C2 : Calls Tryz.prog 15 #[.pointer (some ⟨b, 0, none⟩), .agg #[.int .i64 7, .string ⟨#[]⟩, .int .i64 0, .int .i64 0, .int .i64 0, .string ⟨#[]⟩, .string ⟨#[]⟩, .int .i64 0, .string ⟨#[]⟩, .string ⟨#[]⟩, .string ⟨#[]⟩, .int .i64 0, .string ⟨#[]⟩, .int .i64 9]] w2 (DoPost b svS (doR V8 svS 0 (tickQ 9)) w2) := C2
  rw [served_plain] at C2
  unfold DoPost at C2
  have hgl := served_gone
  obtain ⟨D, hD⟩ : ∃ D, told svS (⟨⟨5, sampleJ, sampleN, []⟩, 9⟩, 0, true) = D := ⟨_, rfl⟩
  rw [hD] at hgl
  simp only [hD] at C2
  have C2 := Lib.hid C2
  have HG := Lib.hid hgl
  have BB2 := Lib.hid (And.intro B2 (And.intro (svAt_lt sv) (show w.heap.size ≤ b from Nat.le_trans B1.out.size hb)))
  clear sv b2 B2 hD hgl C1 hb
  go_wp2_with fail
  refine C2.out.mono ?_
  rintro e w3 ⟨M, rfl, s3, d3, g3⟩
  have bx1 := below_one w3 (.cells #[.int .i64 0, .int .i64 5] 46)
  obtain ⟨X1, hX1⟩ : ∃ X, w3.alloc (.cells #[.int .i64 0, .int .i64 5] 46) = X := ⟨_, rfl⟩
  have oR := objAt_new w3 #[.int .i64 0, .int .i64 5] 46
  rw [hX1] at bx1 oR
  have oE := objAt_new X1 #[.int .i64 D.frm, .int .i64 D.til, .slice M.aj D.jobs.length M.cj, .slice M.an D.nodes.length M.cn, .slice M.al D.leases.length M.cl, .slice M.gj D.gj.length M.hj, .slice M.gn D.gn.length M.hn, .slice M.gl D.gl.length M.hl] 49
  have bx2 := below_one X1 (.cells #[.int .i64 D.frm, .int .i64 D.til, .slice M.aj D.jobs.length M.cj, .slice M.an D.nodes.length M.cn, .slice M.al D.leases.length M.cl, .slice M.gj D.gj.length M.hj, .slice M.gn D.gn.length M.hn, .slice M.gl D.gl.length M.hl] 49)
  obtain ⟨X2, hX2⟩ : ∃ X, X1.alloc (.cells #[.int .i64 D.frm, .int .i64 D.til, .slice M.aj D.jobs.length M.cj, .slice M.an D.nodes.length M.cn, .slice M.al D.leases.length M.cl, .slice M.gj D.gj.length M.hj, .slice M.gn D.gn.length M.hn, .slice M.gl D.gl.length M.hl] 49) = X := ⟨_, rfl⟩
  rw [hX2] at bx2 oE
  have n2 : X2.heap.size = w3.heap.size + 1 + 1 := by rw [← hX2, World.size_alloc, ← hX1, World.size_alloc]
  have n1 : X1.heap.size = w3.heap.size + 1 := by rw [← hX1, World.size_alloc]
  have bx3 := below_one X2 (.cells #[.string ⟨#[97]⟩] 9)
  have oS := objAt_new X2 #[.string ⟨#[97]⟩] 9
  have b3 : Below w3.heap.size w3 (X2.alloc (.cells #[.string ⟨#[97]⟩] 9)) := below_trans (below_trans bx1 bx2 bx1.size) bx3 (by omega)
  obtain ⟨X3, hX3⟩ : ∃ X, X2.alloc (.cells #[.string ⟨#[97]⟩] 9) = X := ⟨_, rfl⟩
  rw [hX3] at bx3 oS b3
  rw [n2] at oS
  have C3 := eqNms_is [⟨#[97]⟩] [⟨#[97]⟩] M.gl (some ⟨w3.heap.size + 1 + 1, 0, none⟩) M.hl 1 (by simp) X3 (by have := nmsAt_next (ownD_at d3).2.2.2 b3; rw [HG.out] at this; exact this) (fun i hi => ⟨_, rfl, objAt_lt oS, by
    have : i = 0 := by simp at hi; exact hi
    subst this
    exact objAt_cell oS 0 rfl⟩)
  have hlen : D.gl.length = 1 := by rw [HG.out]; rfl
  have C3 : Calls Tryz.prog 45 #[.slice M.gl D.gl.length M.hl, .slice (some ⟨w3.heap.size + 1 + 1, 0, none⟩) 1 1] X3 (fun e w' => ∃ c : Bool, e = .returned (.bool c) ∧ (c = true ↔ [(⟨#[97]⟩ : ByteArray)] = [⟨#[97]⟩]) ∧ Below X3.heap.size X3 w') := by rw [hlen]; exact C3
  have C3 := Lib.hid C3
  have s4 := svAt_next s3 b3
  have BF := Lib.hid (below_trans (gN_below BB2.out.1 BB2.out.1.size BB2.out.2.2 g3) b3 (by have := BB2.out.1.size; have := g3.size; omega))
  have S4 := Lib.hid s4
  have hwb : w.heap.size ≤ X3.heap.size := by have := BB2.out.1.size; have := g3.size; have := b3.size; omega
  clear s3 d3 g3 bx1 bx2 bx3 oR oE oS b3 s4 n1 n2 hlen
  rw [← hX2, ← hX1] at hX3
  clear hX1 hX2
  go_wp2_with fail
  refine C3.out.mono ?_
  rintro e w4 ⟨c, rfl, hc, b4⟩
  obtain rfl : c = true := by simpa using hc
  have C4 := Lib.hid (svNow_is b ⟨⟨5, sampleJ, sampleN, []⟩, 9⟩ w4 (svAt_next S4.out b4))
  have BF4 := Lib.hid (below_trans BF.out b4 hwb)
  clear b4 hc C3
  go_wp2_with fail
  refine C4.out.mono ?_
  rintro e w5 ⟨rfl, rfl⟩
  go_wp2
  go_ret
  exact ⟨rfl, BF4.out⟩
end Go.Proofs.YtiilagmmgpnpdaaGreatDoor

/- What a law on a server knows of it between two requests. -/
namespace Go.Proofs.YtiilagmmgpnpdaaGreatDoor
open Go.RowKit Go.Lib

def SvIn (w0 : World) (b : Nat) (v : SvD) (w : World) : Prop := SvAt b v w ∧ checkE V8 v.s = 0 ∧ (0 ≤ v.now ∧ v.now ≤ 1099511627776) ∧ Below w0.heap.size w0 w ∧ w0.heap.size ≤ b ∧ w0.heap.size ≤ w.heap.size ∧ Tabs w
theorem svIn_next {w0 w w' : World} {b : Nat} {v : SvD} (h : SvIn w0 b v w) (hb : Below w.heap.size w w') : SvIn w0 b v w' :=
  ⟨svAt_next h.1 hb, h.2.1, h.2.2.1, below_trans h.2.2.2.1 hb h.2.2.2.2.2.1, h.2.2.2.2.1, Nat.le_trans h.2.2.2.2.2.1 hb.size, h.2.2.2.2.2.2.below hb⟩
theorem svIn_new {w0 w' : World} {b : Nat} {s : StD} (hv : checkE V8 s = 0) (h : SvAt b ⟨s, 0⟩ w') (B : Below w0.heap.size w0 w') (hT : Tabs w0) (hb : w0.heap.size ≤ b) : SvIn w0 b ⟨s, 0⟩ w' :=
  ⟨h, hv, by show (0 : Int) ≤ 0 ∧ (0 : Int) ≤ _; decide, B, hb, B.size, hT.below B⟩
theorem svIn_tabs {w w' : World} {b : Nat} {v : SvD} (h : SvAt b v w) (hT : Tabs w) (g : w.grownBy w' (some b)) : Tabs w' := by
  obtain ⟨aj, an, al, cj, cn, cl, ho, -⟩ := h
  exact tabs_gN hT ho rfl g
theorem svIn_do {w0 w w' : World} {b : Nat} {v : SvD} {q : ReqD} (h : SvIn w0 b v w) (k : SvAt b (doR V8 v.s v.now q).1 w') (g : w.grownBy w' (some b)) : SvIn w0 b (doR V8 v.s v.now q).1 w' :=
  ⟨k, (check_zero V8 _).2 (doR_valid ((check_zero V8 _).1 h.2.1) v.now q), ⟨by have := (doR_now (s := v.s) (U := V8) v.now q h.2.2.1).1; have := h.2.2.1.1; omega, (doR_now (s := v.s) (U := V8) v.now q h.2.2.1).2⟩, gN_below h.2.2.2.1 h.2.2.2.2.2.1 h.2.2.2.2.1 g, h.2.2.2.2.1, Nat.le_trans h.2.2.2.2.2.1 g.size, svIn_tabs h.1 h.2.2.2.2.2.2 g⟩
/-- Rows of one's own stay when the server at b turns. -/
theorem svOwn_do {w w' : World} {b B : Nat} {v : SvD} {aj an al : Option Addr} {cj cn cl : Nat} {s : StD} (h : OwnS B aj an al cj cn cl s w) (k : SvAt b v w) (g : w.grownBy w' (some b)) : OwnS B aj an al cj cn cl s w' := by
  obtain ⟨_, _, _, _, _, _, ho, -⟩ := k
  exact ownS_gN h ho rowT_sv g
theorem svNe {w : World} {b N : Nat} {v : SvD} {vs : Array Value} {t : TypeId} (k : SvAt b v w) (o : ObjAt N vs t w) (ht : t ≠ 77) : N ≠ b := by
  obtain ⟨aj, an, al, cj, cn, cl, ho, -⟩ := k
  rintro rfl
  have := o.symm.trans ho
  simp at this
  exact ht this.2
end Go.Proofs.YtiilagmmgpnpdaaGreatDoor
