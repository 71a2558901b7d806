/- A server's Do, at every request. -/
import Derived.Test.YthpgkfonbmffdaaGreatDoorSvDo
import Derived.Deep.RegionLaw
namespace Go.Proofs.YthpgkfonbmffdaaGreatDoor
open Go.RowKit Go.Lib


def DoPost (b : Nat) (s : StD) (r : SvD × Nat × Bool) (w : World) (e : Ending) (w' : World) : Prop := ∃ M : DlM, e = .returned (.tuple #[.agg #[.int .i64 (r.2.1 : Nat), .int .i64 r.1.s.rev], .agg #[.int .i64 (told s r).frm, .int .i64 (told s r).til, .slice M.aj (told s r).jobs.length M.cj, .slice M.an (told s r).nodes.length M.cn, .slice M.al (told s r).leases.length M.cl, .slice M.gj (told s r).gj.length M.hj, .slice M.gn (told s r).gn.length M.hn, .slice M.gl (told s r).gl.length M.hl], .bool r.2.2]) ∧ SvAt b r.1 w' ∧ OwnD w.heap.size M (told s r) w' ∧ w.grownBy w' (some b)
theorem rowT_rp : RowT 46 := by unfold RowT; decide
theorem svAt_set1 {b N : Nat} {v : SvD} {w : World} {vs : Array Value} {t : TypeId} (h : SvAt b v w) (ho : ObjAt N vs t w) (ht : RowT t) (hn : b ≠ N) (j : Nat) (u : Value) : SvAt b v (w.setCell ⟨N, j, none⟩ u) := by
  obtain ⟨aj, an, al, cj, cn, cl, o, r⟩ := h
  exact ⟨aj, an, al, cj, cn, cl, objAt_other o hn _ _, ownS_set1 r ho ht _ _⟩
theorem ownD_set1 {B N : Nat} {M : DlM} {d : DelD} {w : World} {vs : Array Value} (h : OwnD B M d w) (ho : ObjAt N vs 46 w) (j : Nat) (u : Value) : OwnD B M d (w.setCell ⟨N, j, none⟩ u) := ⟨own_box h.1 ho (by decide) j u, own_box h.2.1 ho (by decide) j u, own_box h.2.2.1 ho (by decide) j u, own_box h.2.2.2.1 ho (by decide) j u, own_box h.2.2.2.2.1 ho (by decide) j u, own_box h.2.2.2.2.2 ho (by decide) j u⟩
set_option maxRecDepth 100000 in
set_option maxHeartbeats 8000000 in
theorem do_is (v : SvD) (hv : checkE V8 v.s = 0) (hnow : 0 ≤ v.now ∧ v.now ≤ 1099511627776) (q : ReqD) (hwq : wReq q) (b : Nat) (w : World) (hT : Tabs w) (hS : SvAt b v w) :
    Calls Tryz.prog 16 #[.pointer (some ⟨b, 0, none⟩), .agg #[.int .i64 q.kind, .string q.job.name, .int .i64 q.job.prio, .int .i64 q.job.need, .int .i64 q.job.tries, .string q.job.tag, .string q.node.name, .int .i64 q.node.room, .string q.node.zone, .string q.lease.job, .string q.lease.node, .int .i64 q.lease.til, .string q.name, .int .i64 q.n]] w (DoPost b v.s (doR V8 v.s v.now q) w) := by
  have hbw := svAt_lt hS
  obtain ⟨W, hW⟩ : ∃ W, ((w.alloc (.cells #[.int .i64 q.kind, .string q.job.name, .int .i64 q.job.prio, .int .i64 q.job.need, .int .i64 q.job.tries, .string q.job.tag, .string q.node.name, .int .i64 q.node.room, .string q.node.zone, .string q.lease.job, .string q.lease.node, .int .i64 q.lease.til, .string q.name, .int .i64 q.n] 44)).alloc (.cells #[.int .i64 0, .int .i64 0] 46)).alloc (.cells #[.int .i64 0, .int .i64 0, .slice none 0 0, .slice none 0 0, .slice none 0 0, .slice none 0 0, .slice none 0 0, .slice none 0 0] 49) = W := ⟨_, rfl⟩
  obtain ⟨W1, hW1⟩ : ∃ W, w.alloc (.cells #[.int .i64 q.kind, .string q.job.name, .int .i64 q.job.prio, .int .i64 q.job.need, .int .i64 q.job.tries, .string q.job.tag, .string q.node.name, .int .i64 q.node.room, .string q.node.zone, .string q.lease.job, .string q.lease.node, .int .i64 q.lease.til, .string q.name, .int .i64 q.n] 44) = W := ⟨_, rfl⟩
  have q1 := objAt_new w #[.int .i64 q.kind, .string q.job.name, .int .i64 q.job.prio, .int .i64 q.job.need, .int .i64 q.job.tries, .string q.job.tag, .string q.node.name, .int .i64 q.node.room, .string q.node.zone, .string q.lease.job, .string q.lease.node, .int .i64 q.lease.til, .string q.name, .int .i64 q.n] 44
  have c1 := below_one w (.cells #[.int .i64 q.kind, .string q.job.name, .int .i64 q.job.prio, .int .i64 q.job.need, .int .i64 q.job.tries, .string q.job.tag, .string q.node.name, .int .i64 q.node.room, .string q.node.zone, .string q.lease.job, .string q.lease.node, .int .i64 q.lease.til, .string q.name, .int .i64 q.n] 44)
  rw [hW1] at q1 c1
  have n1 : W1.heap.size = w.heap.size + 1 := by rw [← hW1, World.size_alloc]
  obtain ⟨W2, hW2⟩ : ∃ W, W1.alloc (.cells #[.int .i64 0, .int .i64 0] 46) = W := ⟨_, rfl⟩
  have q2 := objAt_new W1 #[.int .i64 0, .int .i64 0] 46
  have c2 := below_one W1 (.cells #[.int .i64 0, .int .i64 0] 46)
  rw [hW2] at q2 c2
  rw [n1] at q2
  have n2 : W2.heap.size = w.heap.size + 1 + 1 := by rw [← hW2, World.size_alloc, n1]
  have q3 := objAt_new W2 #[.int .i64 0, .int .i64 0, .slice none 0 0, .slice none 0 0, .slice none 0 0, .slice none 0 0, .slice none 0 0, .slice none 0 0] 49
  have c3 := below_one W2 (.cells #[.int .i64 0, .int .i64 0, .slice none 0 0, .slice none 0 0, .slice none 0 0, .slice none 0 0, .slice none 0 0, .slice none 0 0] 49)
  have hW' : W2.alloc (.cells #[.int .i64 0, .int .i64 0, .slice none 0 0, .slice none 0 0, .slice none 0 0, .slice none 0 0, .slice none 0 0, .slice none 0 0] 49) = W := by rw [← hW, ← hW2, ← hW1]
  rw [hW'] at q3 c3
  rw [n2] at q3
  have oQ : ObjAt w.heap.size #[.int .i64 q.kind, .string q.job.name, .int .i64 q.job.prio, .int .i64 q.job.need, .int .i64 q.job.tries, .string q.job.tag, .string q.node.name, .int .i64 q.node.room, .string q.node.zone, .string q.lease.job, .string q.lease.node, .int .i64 q.lease.til, .string q.name, .int .i64 q.n] 44 W := objAt_next (objAt_next q1 c2) c3
  have oP : ObjAt (w.heap.size + 1) #[.int .i64 0, .int .i64 0] 46 W := objAt_next q2 c3
  have oD : ObjAt (w.heap.size + 1 + 1) #[.int .i64 0, .int .i64 0, .slice none 0 0, .slice none 0 0, .slice none 0 0, .slice none 0 0, .slice none 0 0, .slice none 0 0] 49 W := q3
  have bW : Below w.heap.size w W := below_trans (below_trans c1 c2 c1.size) c3 (by omega)
  clear q1 q2 q3 c1 c2 c3 hW1 hW2 hW' n1 n2
  have C1 := execute_is v hv hnow q hwq b W (hT.below bW) (svAt_next hS bW)
  obtain ⟨⟨r1, code, ch⟩, hD⟩ : ∃ r, doR V8 v.s v.now q = r := ⟨_, rfl⟩
  rw [hD] at C1
  unfold ExPost at C1
  obtain ⟨D, hDD⟩ : ∃ D, told v.s (r1, code, ch) = D := ⟨_, rfl⟩
  simp only [hDD] at C1
  have C1 := Lib.hid C1
  have HD := Lib.hid hD
  have HDD := Lib.hid hDD
  have y0 := objAt_cell oQ 0 rfl
  have y1 := objAt_cell oQ 1 rfl
  have y2 := objAt_cell oQ 2 rfl
  have y3 := objAt_cell oQ 3 rfl
  have y4 := objAt_cell oQ 4 rfl
  have y5 := objAt_cell oQ 5 rfl
  have y6 := objAt_cell oQ 6 rfl
  have y7 := objAt_cell oQ 7 rfl
  have y8 := objAt_cell oQ 8 rfl
  have y9 := objAt_cell oQ 9 rfl
  have y10 := objAt_cell oQ 10 rfl
  have y11 := objAt_cell oQ 11 rfl
  have y12 := objAt_cell oQ 12 rfl
  have y13 := objAt_cell oQ 13 rfl
  have OP := Lib.hid oP
  have OD := Lib.hid oD
  have BW := Lib.hid bW
  have hPW := objAt_lt oP
  have hDW := objAt_lt oD
  clear oQ oP oD bW hS hT hwq hv hnow hD hDD
  go_enter Tryz.func16, Tryz.ntmps16
  go_wp2_with fail
  refine C1.out.mono ?_
  rintro e w1 ⟨M, rfl, s1, d1, g1⟩
  obtain ⟨aj, an, al, cj, cn, cl, oB, xB⟩ := s1
  unfold svC at oB
  obtain ⟨X, hX⟩ : ∃ X, w1.alloc (.cells #[.int .i64 D.frm, .int .i64 D.til, .slice M.aj D.jobs.length M.cj, .slice M.an D.nodes.length M.cn, .slice M.al D.leases.length M.cl, .slice M.gj D.gj.length M.hj, .slice M.gn D.gn.length M.hn, .slice M.gl D.gl.length M.hl] 49) = X := ⟨_, rfl⟩
  have bX := below_one w1 (.cells #[.int .i64 D.frm, .int .i64 D.til, .slice M.aj D.jobs.length M.cj, .slice M.an D.nodes.length M.cn, .slice M.al D.leases.length M.cl, .slice M.gj D.gj.length M.hj, .slice M.gn D.gn.length M.hn, .slice M.gl D.gl.length M.hl] 49)
  have oL := objAt_new w1 #[.int .i64 D.frm, .int .i64 D.til, .slice M.aj D.jobs.length M.cj, .slice M.an D.nodes.length M.cn, .slice M.al D.leases.length M.cl, .slice M.gj D.gj.length M.hj, .slice M.gn D.gn.length M.hn, .slice M.gl D.gl.length M.hl] 49
  rw [hX] at bX oL
  have oP1 := objAt_next (objAt_gN OP.out (by omega) g1) bX
  have oD1 := objAt_next (objAt_gN OD.out (by omega) g1) bX
  have oB1 := objAt_next oB bX
  have xB1 := ownS_next xB bX
  have d2 := ownD_low (B' := w.heap.size) (ownD_next d1 bX) BW.out.size
  have gX := gN_next (g2_trans (gN_of_below BW.out) g1) bX
  have sX : SvAt b r1 X := ⟨aj, an, al, cj, cn, cl, oB1, xB1⟩
  have kb0 := objAt_cell oB1 0 rfl
  have lB := objAt_lt oB1
  have p0 := objAt_cell oP1 0 rfl
  have p1 := objAt_cell oP1 1 rfl
  have h0 := objAt_free oP1 0
  have h1 := objAt_free oP1 1
  have lP := objAt_lt oP1
  have lD := objAt_lt oD1
  have lL := objAt_lt oL
  have z0 := objAt_cell oD1 0 rfl
  have f0 := objAt_free oD1 0
  have l0 := objAt_cell oL 0 rfl
  have z1 := objAt_cell oD1 1 rfl
  have f1 := objAt_free oD1 1
  have l1 := objAt_cell oL 1 rfl
  have z2 := objAt_cell oD1 2 rfl
  have f2 := objAt_free oD1 2
  have l2 := objAt_cell oL 2 rfl
  have z3 := objAt_cell oD1 3 rfl
  have f3 := objAt_free oD1 3
  have l3 := objAt_cell oL 3 rfl
  have z4 := objAt_cell oD1 4 rfl
  have f4 := objAt_free oD1 4
  have l4 := objAt_cell oL 4 rfl
  have z5 := objAt_cell oD1 5 rfl
  have f5 := objAt_free oD1 5
  have l5 := objAt_cell oL 5 rfl
  have z6 := objAt_cell oD1 6 rfl
  have f6 := objAt_free oD1 6
  have l6 := objAt_cell oL 6 rfl
  have z7 := objAt_cell oD1 7 rfl
  have f7 := objAt_free oD1 7
  have l7 := objAt_cell oL 7 rfl
  obtain ⟨Y, hY⟩ : ∃ Y, (X.setCell ⟨w.heap.size + 1, 0, none⟩ (.int .i64 (code : Int))).setCell ⟨w.heap.size + 1, 1, none⟩ (.int .i64 r1.s.rev) = Y := ⟨_, rfl⟩
  have e0 := oP1
  have e1 : ObjAt (w.heap.size + 1) #[.int .i64 (code : Int), .int .i64 0] 46 _ := objAt_set e0 0 (.int .i64 (code : Int))
  have oPY : ObjAt (w.heap.size + 1) #[.int .i64 (code : Int), .int .i64 r1.s.rev] 46 Y := by rw [← hY]; exact objAt_set e1 1 _
  have oDY : ObjAt (w.heap.size + 1 + 1) #[.int .i64 0, .int .i64 0, .slice none 0 0, .slice none 0 0, .slice none 0 0, .slice none 0 0, .slice none 0 0, .slice none 0 0] 49 Y := by rw [← hY]; exact objAt_other (objAt_other oD1 (by omega) _ _) (by omega) _ _
  have oLY : ObjAt w1.heap.size #[.int .i64 D.frm, .int .i64 D.til, .slice M.aj D.jobs.length M.cj, .slice M.an D.nodes.length M.cn, .slice M.al D.leases.length M.cl, .slice M.gj D.gj.length M.hj, .slice M.gn D.gn.length M.hn, .slice M.gl D.gl.length M.hl] 49 Y := by rw [← hY]; exact objAt_other (objAt_other oL (by have := g1.size; omega) _ _) (by have := g1.size; omega) _ _
  have sY : SvAt b r1 Y := by rw [← hY]; exact svAt_set1 (svAt_set1 sX e0 rowT_rp (by omega) _ _) e1 rowT_rp (by omega) _ _
  have dY : OwnD w.heap.size M D Y := by rw [← hY]; exact ownD_set1 (ownD_set1 d2 e0 _ _) e1 _ _
  have gY : w.grownBy Y (some b) := by rw [← hY]; exact gN_app (gN_app gX (grown_set _ _ _ _) (by intro k hk; cases hk; omega)) (grown_set _ _ _ _) (by intro k hk; cases hk; omega)
  have oF := objAt_drew (obj_put8 oDY (.int .i64 D.frm) (.int .i64 D.til) (.slice M.aj D.jobs.length M.cj) (.slice M.an D.nodes.length M.cn) (.slice M.al D.leases.length M.cl) (.slice M.gj D.gj.length M.hj) (.slice M.gn D.gn.length M.hn) (.slice M.gl D.gl.length M.hl))
  have oPF := objAt_drew (other_put8 oPY (by omega : w.heap.size + 1 ≠ w.heap.size + 1 + 1) (.int .i64 D.frm) (.int .i64 D.til) (.slice M.aj D.jobs.length M.cj) (.slice M.an D.nodes.length M.cn) (.slice M.al D.leases.length M.cl) (.slice M.gj D.gj.length M.hj) (.slice M.gn D.gn.length M.hn) (.slice M.gl D.gl.length M.hl))
  have TT := Lib.hid (And.intro (objAt_cell oF 0 rfl) (And.intro (objAt_cell oF 1 rfl) (And.intro (objAt_cell oF 2 rfl) (And.intro (objAt_cell oF 3 rfl) (And.intro (objAt_cell oF 4 rfl) (And.intro (objAt_cell oF 5 rfl) (And.intro (objAt_cell oF 6 rfl) (And.intro (objAt_cell oF 7 rfl) (And.intro (objAt_cell oPF 0 rfl) (objAt_cell oPF 1 rfl))))))))))
  have RS := Lib.hid (svAt_next (svAt_put8 sY oDY (by omega) (.int .i64 D.frm) (.int .i64 D.til) (.slice M.aj D.jobs.length M.cj) (.slice M.an D.nodes.length M.cn) (.slice M.al D.leases.length M.cl) (.slice M.gj D.gj.length M.hj) (.slice M.gn D.gn.length M.hn) (.slice M.gl D.gl.length M.hl)) (Below.refl _ _).drew)
  have RD := Lib.hid (ownD_next (ownD_put8 dY oDY (.int .i64 D.frm) (.int .i64 D.til) (.slice M.aj D.jobs.length M.cj) (.slice M.an D.nodes.length M.cn) (.slice M.al D.leases.length M.cl) (.slice M.gj D.gj.length M.hj) (.slice M.gn D.gn.length M.hn) (.slice M.gl D.gl.length M.hl)) (Below.refl _ _).drew)
  have RG := Lib.hid (gN_next (gN_put8 gY (show w.heap.size ≤ w.heap.size + 1 + 1 by omega) (.int .i64 D.frm) (.int .i64 D.til) (.slice M.aj D.jobs.length M.cj) (.slice M.an D.nodes.length M.cn) (.slice M.al D.leases.length M.cl) (.slice M.gj D.gj.length M.hj) (.slice M.gn D.gn.length M.hn) (.slice M.gl D.gl.length M.hl)) (Below.refl _ _).drew)
  have zz0 := objAt_cell oDY 0 rfl
  have ff0 := objAt_free oDY 0
  have ll0 := objAt_cell oLY 0 rfl
  have zz1 := objAt_cell oDY 1 rfl
  have ff1 := objAt_free oDY 1
  have ll1 := objAt_cell oLY 1 rfl
  have zz2 := objAt_cell oDY 2 rfl
  have ff2 := objAt_free oDY 2
  have ll2 := objAt_cell oLY 2 rfl
  have zz3 := objAt_cell oDY 3 rfl
  have ff3 := objAt_free oDY 3
  have ll3 := objAt_cell oLY 3 rfl
  have zz4 := objAt_cell oDY 4 rfl
  have ff4 := objAt_free oDY 4
  have ll4 := objAt_cell oLY 4 rfl
  have zz5 := objAt_cell oDY 5 rfl
  have ff5 := objAt_free oDY 5
  have ll5 := objAt_cell oLY 5 rfl
  have zz6 := objAt_cell oDY 6 rfl
  have ff6 := objAt_free oDY 6
  have ll6 := objAt_cell oLY 6 rfl
  have zz7 := objAt_cell oDY 7 rfl
  have ff7 := objAt_free oDY 7
  have ll7 := objAt_cell oLY 7 rfl
  have lLY := objAt_lt oLY
  have lDY := objAt_lt oDY
  clear oB xB oL oP1 oD1 oB1 xB1 d1 d2 gX sX g1 bX e0 e1 oPY oDY oLY sY dY gY oF oPF C1 y0 y1 y2 y3 y4 y5 y6 y7 y8 y9 y10 y11 y12 y13
  go_wp2_with fail
  go_region_law (fail)
  all_goals
    go_wp2
    obtain ⟨t0, t1, t2, t3, t4, t5, t6, t7, r0, r1'⟩ := TT.out
    exact bodyPost_ret (v := .tuple #[.agg #[.int .i64 (code : Int), .int .i64 r1.s.rev], .agg #[.int .i64 D.frm, .int .i64 D.til, .slice M.aj D.jobs.length M.cj, .slice M.an D.nodes.length M.cn, .slice M.al D.leases.length M.cl, .slice M.gj D.gj.length M.hj, .slice M.gn D.gn.length M.hn, .slice M.gl D.gl.length M.hl], .bool ch]) (by simp [results, Tryz.results16, go_sem, t0, t1, t2, t3, t4, t5, t6, t7, r0, r1']) rfl (by show DoPost _ _ _ _ _ _; rw [HD.out]; exact ⟨M, by rw [HDD.out], RS.out, by rw [HDD.out]; exact RD.out, RG.out⟩)
end Go.Proofs.YthpgkfonbmffdaaGreatDoor
