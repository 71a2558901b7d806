import Derived.Test.YtiekgafopalfmaaGreatDoorPPkRq1
import Derived.Deep.RegionHeld3
import Derived.Test.YtiekgafopalfmaaGreatDoorRows
import Derived.Lib.SmallJoins
import Derived.OpenShut
import Derived.ShutString
import Derived.SizedLaws
import Derived.ChangeOld
set_option maxRecDepth 100000
set_option maxHeartbeats 4000000
namespace Go.Proofs.YtiekgafopalfmaaGreatDoor
open Go.RowKit Go.Lib
theorem m_job_request (v:Value) (w:World):(method 370 151 v "bracken/req.request").run Tryz.prog w = .ok (218,v) w:=by kernel_rfl
theorem m_job_check (v:Value) (w:World):(method 370 151 v "bracken/req.check").run Tryz.prog w = .ok (216,v) w:=by kernel_rfl
theorem m_node_request (v:Value) (w:World):(method 370 153 v "bracken/req.request").run Tryz.prog w = .ok (221,v) w:=by kernel_rfl
theorem m_node_check (v:Value) (w:World):(method 370 153 v "bracken/req.check").run Tryz.prog w = .ok (219,v) w:=by kernel_rfl
theorem m_lease_request (v:Value) (w:World):(method 370 156 v "bracken/req.request").run Tryz.prog w = .ok (227,v) w:=by kernel_rfl
theorem m_lease_check (v:Value) (w:World):(method 370 156 v "bracken/req.check").run Tryz.prog w = .ok (225,v) w:=by kernel_rfl
theorem m_name_request (v:Value) (w:World):(method 370 154 v "bracken/req.request").run Tryz.prog w = .ok (224,v) w:=by kernel_rfl
theorem m_name_check (v:Value) (w:World):(method 370 154 v "bracken/req.check").run Tryz.prog w = .ok (222,v) w:=by kernel_rfl
theorem m_ticks_request (v:Value) (w:World):(method 370 157 v "bracken/req.request").run Tryz.prog w = .ok (231,v) w:=by kernel_rfl
theorem m_ticks_check (v:Value) (w:World):(method 370 157 v "bracken/req.check").run Tryz.prog w = .ok (229,v) w:=by kernel_rfl
theorem m_nothing_request (v:Value) (w:World):(method 370 159 v "bracken/req.request").run Tryz.prog w = .ok (235,v) w:=by kernel_rfl
theorem m_nothing_check (v:Value) (w:World):(method 370 159 v "bracken/req.check").run Tryz.prog w = .ok (233,v) w:=by kernel_rfl
theorem held14 {T:Nat}{v0 v1 v2 v3 v4 v5 v6 v7 v8 v9 v10 v11 v12 v13:Value}{W w1 w2:World} (b2:Below w1.heap.size w1 w2)
  (h:(w1.cell? ⟨T,0,none⟩=some (v0)∧w1.cell? ⟨T,1,none⟩=some (v1)∧w1.cell? ⟨T,2,none⟩=some (v2)∧w1.cell? ⟨T,3,none⟩=some (v3)∧w1.cell? ⟨T,4,none⟩=some (v4)∧w1.cell? ⟨T,5,none⟩=some (v5)∧w1.cell? ⟨T,6,none⟩=some (v6)∧w1.cell? ⟨T,7,none⟩=some (v7)∧w1.cell? ⟨T,8,none⟩=some (v8)∧w1.cell? ⟨T,9,none⟩=some (v9)∧w1.cell? ⟨T,10,none⟩=some (v10)∧w1.cell? ⟨T,11,none⟩=some (v11)∧w1.cell? ⟨T,12,none⟩=some (v12)∧w1.cell? ⟨T,13,none⟩=some (v13))∧T<w1.heap.size∧Below W.heap.size W w1) :
  (w2.cell? ⟨T,0,none⟩=some (v0)∧w2.cell? ⟨T,1,none⟩=some (v1)∧w2.cell? ⟨T,2,none⟩=some (v2)∧w2.cell? ⟨T,3,none⟩=some (v3)∧w2.cell? ⟨T,4,none⟩=some (v4)∧w2.cell? ⟨T,5,none⟩=some (v5)∧w2.cell? ⟨T,6,none⟩=some (v6)∧w2.cell? ⟨T,7,none⟩=some (v7)∧w2.cell? ⟨T,8,none⟩=some (v8)∧w2.cell? ⟨T,9,none⟩=some (v9)∧w2.cell? ⟨T,10,none⟩=some (v10)∧w2.cell? ⟨T,11,none⟩=some (v11)∧w2.cell? ⟨T,12,none⟩=some (v12)∧w2.cell? ⟨T,13,none⟩=some (v13))∧T<w2.heap.size∧Below W.heap.size W w2:=by
 obtain⟨⟨c0,c1,c2,c3,c4,c5,c6,c7,c8,c9,c10,c11,c12,c13⟩,h1,h3⟩:=h
 have hs:=b2.size
 exact⟨⟨by rw[b2.cell (p:=⟨T,0,none⟩) h1];exact c0,by rw[b2.cell (p:=⟨T,1,none⟩) h1];exact c1,by rw[b2.cell (p:=⟨T,2,none⟩) h1];exact c2,by rw[b2.cell (p:=⟨T,3,none⟩) h1];exact c3,by rw[b2.cell (p:=⟨T,4,none⟩) h1];exact c4,by rw[b2.cell (p:=⟨T,5,none⟩) h1];exact c5,by rw[b2.cell (p:=⟨T,6,none⟩) h1];exact c6,by rw[b2.cell (p:=⟨T,7,none⟩) h1];exact c7,by rw[b2.cell (p:=⟨T,8,none⟩) h1];exact c8,by rw[b2.cell (p:=⟨T,9,none⟩) h1];exact c9,by rw[b2.cell (p:=⟨T,10,none⟩) h1];exact c10,by rw[b2.cell (p:=⟨T,11,none⟩) h1];exact c11,by rw[b2.cell (p:=⟨T,12,none⟩) h1];exact c12,by rw[b2.cell (p:=⟨T,13,none⟩) h1];exact c13⟩,by omega,below_trans h3 b2 h3.size⟩
theorem qcheck1_is (j:JobD) (n:NodeD) (l:LeaseD) (nm:ByteArray) (N:Int) (hw:wJob j) (w:World) (hT:Tabs w) :
  Calls Tryz.prog 81 #[.agg #[.int .i64 1,.string j.name,.int .i64 j.prio,.int .i64 j.need,.int .i64 j.tries,.string j.tag,.string n.name,.int .i64 n.room,.string n.zone,.string l.job,.string l.node,.int .i64 l.til,.string nm,.int .i64 N]] w fun e w'=>e = .returned (.int .i64 ((if sameQ (⟨1,j,n,l,nm,N⟩:ReqD) (⟨1,j,zNode,zLease,⟨#[]⟩,0⟩:ReqD) then jobE V8 j else 4:Nat):Int))∧Below w.heap.size w w':=by
 have oB:=objAt_new w #[.int .i64 1,.string j.name,.int .i64 j.prio,.int .i64 j.need,.int .i64 j.tries,.string j.tag,.string n.name,.int .i64 n.room,.string n.zone,.string l.job,.string l.node,.int .i64 l.til,.string nm,.int .i64 N] 44
 have bW:=below_one w (.cells #[.int .i64 1,.string j.name,.int .i64 j.prio,.int .i64 j.need,.int .i64 j.tries,.string j.tag,.string n.name,.int .i64 n.room,.string n.zone,.string l.job,.string l.node,.int .i64 l.til,.string nm,.int .i64 N] 44)
 obtain⟨W,hW⟩:∃W,w.alloc (.cells #[.int .i64 1,.string j.name,.int .i64 j.prio,.int .i64 j.need,.int .i64 j.tries,.string j.tag,.string n.name,.int .i64 n.room,.string n.zone,.string l.job,.string l.node,.int .i64 l.til,.string nm,.int .i64 N] 44)=W:=⟨_,rfl⟩
 rw[hW] at oB bW
 have HP:=Lib.hid (pay1_is j n l nm N W)
 have HR:=Lib.hid (jobRequest_is j 1)
 have hm:=m_job_request (.agg #[.string j.name,.int .i64 j.prio,.int .i64 j.need,.int .i64 j.tries,.string j.tag])
 have hmc:=m_job_check (.agg #[.string j.name,.int .i64 j.prio,.int .i64 j.need,.int .i64 j.tries,.string j.tag])
 have HQ:∀w:World,(binOp BinOp.neq 44 (.agg #[.int .i64 1,.string j.name,.int .i64 j.prio,.int .i64 j.need,.int .i64 j.tries,.string j.tag,.string n.name,.int .i64 n.room,.string n.zone,.string l.job,.string l.node,.int .i64 l.til,.string nm,.int .i64 N]) (.agg #[.int .i64 1,.string j.name,.int .i64 j.prio,.int .i64 j.need,.int .i64 j.tries,.string j.tag,.string ⟨#[]⟩,.int .i64 0,.string ⟨#[]⟩,.string ⟨#[]⟩,.string ⟨#[]⟩,.int .i64 0,.string ⟨#[]⟩,.int .i64 0])).run Tryz.prog w = .ok (.bool (!sameQ (⟨1,j,n,l,nm,N⟩:ReqD) (⟨1,j,zNode,zLease,⟨#[]⟩,0⟩:ReqD))) w:=fun w=>rq_neq (⟨1,j,n,l,nm,N⟩:ReqD) (⟨1,j,zNode,zLease,⟨#[]⟩,0⟩:ReqD) w
 have HC:=fun(V:World) (B:Below w.heap.size w V)=>jobCheck_is j hw V (hT.below B)
 obtain⟨c,hc⟩:∃c,sameQ (⟨1,j,n,l,nm,N⟩:ReqD) (⟨1,j,zNode,zLease,⟨#[]⟩,0⟩:ReqD)=c:=⟨_,rfl⟩
 rw[hc] at HQ⊢
 obtain⟨z,hz⟩:∃z:Nat,jobE V8 j=z:=⟨_,rfl⟩
 simp only[hz] at HC⊢
 have HC:=Lib.hid HC
 clear hc hz hT
 have k0:=objAt_cell oB 0 rfl
 have k1:=objAt_cell oB 1 rfl
 have k2:=objAt_cell oB 2 rfl
 have k3:=objAt_cell oB 3 rfl
 have k4:=objAt_cell oB 4 rfl
 have k5:=objAt_cell oB 5 rfl
 have k6:=objAt_cell oB 6 rfl
 have k7:=objAt_cell oB 7 rfl
 have k8:=objAt_cell oB 8 rfl
 have k9:=objAt_cell oB 9 rfl
 have k10:=objAt_cell oB 10 rfl
 have k11:=objAt_cell oB 11 rfl
 have k12:=objAt_cell oB 12 rfl
 have k13:=objAt_cell oB 13 rfl
 have OB:=Lib.hid oB
 have BW:=Lib.hid bW
 clear oB bW
 go_enter Tryz.func81,Tryz.ntmps81
 go_wp2_with fail
 refine HP.out.mono ?_
 rintro e w1 ⟨rfl,x1⟩
 have o1:=objAt_next OB.out x1
 have B1:=Lib.hid (below_trans BW.out x1 BW.out.size)
 go_upto_region 4 with fail
 clear k0 k1 k2 k3 k4 k5 k6 k7 k8 k9 k10 k11 k12 k13 x1 HP OB BW
 have s0:(w1.cell? ⟨w.heap.size,0,none⟩=some (.int .i64 1)∧w1.cell? ⟨w.heap.size,1,none⟩=some (.string j.name)∧w1.cell? ⟨w.heap.size,2,none⟩=some (.int .i64 j.prio)∧w1.cell? ⟨w.heap.size,3,none⟩=some (.int .i64 j.need)∧w1.cell? ⟨w.heap.size,4,none⟩=some (.int .i64 j.tries)∧w1.cell? ⟨w.heap.size,5,none⟩=some (.string j.tag)∧w1.cell? ⟨w.heap.size,6,none⟩=some (.string n.name)∧w1.cell? ⟨w.heap.size,7,none⟩=some (.int .i64 n.room)∧w1.cell? ⟨w.heap.size,8,none⟩=some (.string n.zone)∧w1.cell? ⟨w.heap.size,9,none⟩=some (.string l.job)∧w1.cell? ⟨w.heap.size,10,none⟩=some (.string l.node)∧w1.cell? ⟨w.heap.size,11,none⟩=some (.int .i64 l.til)∧w1.cell? ⟨w.heap.size,12,none⟩=some (.string nm)∧w1.cell? ⟨w.heap.size,13,none⟩=some (.int .i64 N))∧w.heap.size<w1.heap.size∧Below w1.heap.size w1 w1:=⟨⟨objAt_cell o1 0 rfl,objAt_cell o1 1 rfl,objAt_cell o1 2 rfl,objAt_cell o1 3 rfl,objAt_cell o1 4 rfl,objAt_cell o1 5 rfl,objAt_cell o1 6 rfl,objAt_cell o1 7 rfl,objAt_cell o1 8 rfl,objAt_cell o1 9 rfl,objAt_cell o1 10 rfl,objAt_cell o1 11 rfl,objAt_cell o1 12 rfl,objAt_cell o1 13 rfl⟩,objAt_lt o1,Below.refl _ _⟩
 clear o1
 go_region_held3 (fun w'=>(w'.cell? ⟨w.heap.size,0,none⟩=some (.int .i64 1)∧w'.cell? ⟨w.heap.size,1,none⟩=some (.string j.name)∧w'.cell? ⟨w.heap.size,2,none⟩=some (.int .i64 j.prio)∧w'.cell? ⟨w.heap.size,3,none⟩=some (.int .i64 j.need)∧w'.cell? ⟨w.heap.size,4,none⟩=some (.int .i64 j.tries)∧w'.cell? ⟨w.heap.size,5,none⟩=some (.string j.tag)∧w'.cell? ⟨w.heap.size,6,none⟩=some (.string n.name)∧w'.cell? ⟨w.heap.size,7,none⟩=some (.int .i64 n.room)∧w'.cell? ⟨w.heap.size,8,none⟩=some (.string n.zone)∧w'.cell? ⟨w.heap.size,9,none⟩=some (.string l.job)∧w'.cell? ⟨w.heap.size,10,none⟩=some (.string l.node)∧w'.cell? ⟨w.heap.size,11,none⟩=some (.int .i64 l.til)∧w'.cell? ⟨w.heap.size,12,none⟩=some (.string nm)∧w'.cell? ⟨w.heap.size,13,none⟩=some (.int .i64 N))∧w.heap.size<w'.heap.size∧Below w1.heap.size w1 w')
  (first | assumption | exact⟨s0.1,s0.2.1,s0.2.2.drew⟩)
  (first
   | (go_at_call 218;(with_reducible refine(HR.out _).mono ?_);rintro e x2 ⟨rfl,c2⟩;have s2:=held14 (W:=w1) c2 (by assumption)))
 all_goals
  rename_i s9
  have B:=below_trans B1.out s9.2.2 B1.out.size
  clear s9
  have B:=Lib.hid B
  cases c with
  | false =>
   go_wp2
   go_ret
   exact⟨rfl,B.out⟩
  | true =>
   go_wp2_with fail
   refine(HC.out _ B.out).mono ?_
   rintro e w2 ⟨rfl,x2⟩
   go_wp2
   go_ret
   exact⟨by first | rfl | simp,below_trans B.out x2 B.out.size⟩
theorem qcheck2_is (j:JobD) (n:NodeD) (l:LeaseD) (nm:ByteArray) (N:Int) (hw:wNode n) (w:World) (hT:Tabs w) :
  Calls Tryz.prog 81 #[.agg #[.int .i64 2,.string j.name,.int .i64 j.prio,.int .i64 j.need,.int .i64 j.tries,.string j.tag,.string n.name,.int .i64 n.room,.string n.zone,.string l.job,.string l.node,.int .i64 l.til,.string nm,.int .i64 N]] w fun e w'=>e = .returned (.int .i64 ((if sameQ (⟨2,j,n,l,nm,N⟩:ReqD) (⟨2,zJob,n,zLease,⟨#[]⟩,0⟩:ReqD) then nodeE V8 n else 4:Nat):Int))∧Below w.heap.size w w':=by
 have oB:=objAt_new w #[.int .i64 2,.string j.name,.int .i64 j.prio,.int .i64 j.need,.int .i64 j.tries,.string j.tag,.string n.name,.int .i64 n.room,.string n.zone,.string l.job,.string l.node,.int .i64 l.til,.string nm,.int .i64 N] 44
 have bW:=below_one w (.cells #[.int .i64 2,.string j.name,.int .i64 j.prio,.int .i64 j.need,.int .i64 j.tries,.string j.tag,.string n.name,.int .i64 n.room,.string n.zone,.string l.job,.string l.node,.int .i64 l.til,.string nm,.int .i64 N] 44)
 obtain⟨W,hW⟩:∃W,w.alloc (.cells #[.int .i64 2,.string j.name,.int .i64 j.prio,.int .i64 j.need,.int .i64 j.tries,.string j.tag,.string n.name,.int .i64 n.room,.string n.zone,.string l.job,.string l.node,.int .i64 l.til,.string nm,.int .i64 N] 44)=W:=⟨_,rfl⟩
 rw[hW] at oB bW
 have HP:=Lib.hid (pay2_is j n l nm N W)
 have HR:=Lib.hid (nodeRequest_is n 2)
 have hm:=m_node_request (.agg #[.string n.name,.int .i64 n.room,.string n.zone])
 have hmc:=m_node_check (.agg #[.string n.name,.int .i64 n.room,.string n.zone])
 have HQ:∀w:World,(binOp BinOp.neq 44 (.agg #[.int .i64 2,.string j.name,.int .i64 j.prio,.int .i64 j.need,.int .i64 j.tries,.string j.tag,.string n.name,.int .i64 n.room,.string n.zone,.string l.job,.string l.node,.int .i64 l.til,.string nm,.int .i64 N]) (.agg #[.int .i64 2,.string ⟨#[]⟩,.int .i64 0,.int .i64 0,.int .i64 0,.string ⟨#[]⟩,.string n.name,.int .i64 n.room,.string n.zone,.string ⟨#[]⟩,.string ⟨#[]⟩,.int .i64 0,.string ⟨#[]⟩,.int .i64 0])).run Tryz.prog w = .ok (.bool (!sameQ (⟨2,j,n,l,nm,N⟩:ReqD) (⟨2,zJob,n,zLease,⟨#[]⟩,0⟩:ReqD))) w:=fun w=>rq_neq (⟨2,j,n,l,nm,N⟩:ReqD) (⟨2,zJob,n,zLease,⟨#[]⟩,0⟩:ReqD) w
 have HC:=fun(V:World) (B:Below w.heap.size w V)=>nodeCheck_is n hw V (hT.below B)
 obtain⟨c,hc⟩:∃c,sameQ (⟨2,j,n,l,nm,N⟩:ReqD) (⟨2,zJob,n,zLease,⟨#[]⟩,0⟩:ReqD)=c:=⟨_,rfl⟩
 rw[hc] at HQ⊢
 obtain⟨z,hz⟩:∃z:Nat,nodeE V8 n=z:=⟨_,rfl⟩
 simp only[hz] at HC⊢
 have HC:=Lib.hid HC
 clear hc hz hT
 have k0:=objAt_cell oB 0 rfl
 have k1:=objAt_cell oB 1 rfl
 have k2:=objAt_cell oB 2 rfl
 have k3:=objAt_cell oB 3 rfl
 have k4:=objAt_cell oB 4 rfl
 have k5:=objAt_cell oB 5 rfl
 have k6:=objAt_cell oB 6 rfl
 have k7:=objAt_cell oB 7 rfl
 have k8:=objAt_cell oB 8 rfl
 have k9:=objAt_cell oB 9 rfl
 have k10:=objAt_cell oB 10 rfl
 have k11:=objAt_cell oB 11 rfl
 have k12:=objAt_cell oB 12 rfl
 have k13:=objAt_cell oB 13 rfl
 have OB:=Lib.hid oB
 have BW:=Lib.hid bW
 clear oB bW
 go_enter Tryz.func81,Tryz.ntmps81
 go_wp2_with fail
 refine HP.out.mono ?_
 rintro e w1 ⟨rfl,x1⟩
 have o1:=objAt_next OB.out x1
 have B1:=Lib.hid (below_trans BW.out x1 BW.out.size)
 go_upto_region 4 with fail
 clear k0 k1 k2 k3 k4 k5 k6 k7 k8 k9 k10 k11 k12 k13 x1 HP OB BW
 have s0:(w1.cell? ⟨w.heap.size,0,none⟩=some (.int .i64 2)∧w1.cell? ⟨w.heap.size,1,none⟩=some (.string j.name)∧w1.cell? ⟨w.heap.size,2,none⟩=some (.int .i64 j.prio)∧w1.cell? ⟨w.heap.size,3,none⟩=some (.int .i64 j.need)∧w1.cell? ⟨w.heap.size,4,none⟩=some (.int .i64 j.tries)∧w1.cell? ⟨w.heap.size,5,none⟩=some (.string j.tag)∧w1.cell? ⟨w.heap.size,6,none⟩=some (.string n.name)∧w1.cell? ⟨w.heap.size,7,none⟩=some (.int .i64 n.room)∧w1.cell? ⟨w.heap.size,8,none⟩=some (.string n.zone)∧w1.cell? ⟨w.heap.size,9,none⟩=some (.string l.job)∧w1.cell? ⟨w.heap.size,10,none⟩=some (.string l.node)∧w1.cell? ⟨w.heap.size,11,none⟩=some (.int .i64 l.til)∧w1.cell? ⟨w.heap.size,12,none⟩=some (.string nm)∧w1.cell? ⟨w.heap.size,13,none⟩=some (.int .i64 N))∧w.heap.size<w1.heap.size∧Below w1.heap.size w1 w1:=⟨⟨objAt_cell o1 0 rfl,objAt_cell o1 1 rfl,objAt_cell o1 2 rfl,objAt_cell o1 3 rfl,objAt_cell o1 4 rfl,objAt_cell o1 5 rfl,objAt_cell o1 6 rfl,objAt_cell o1 7 rfl,objAt_cell o1 8 rfl,objAt_cell o1 9 rfl,objAt_cell o1 10 rfl,objAt_cell o1 11 rfl,objAt_cell o1 12 rfl,objAt_cell o1 13 rfl⟩,objAt_lt o1,Below.refl _ _⟩
 clear o1
 go_region_held3 (fun w'=>(w'.cell? ⟨w.heap.size,0,none⟩=some (.int .i64 2)∧w'.cell? ⟨w.heap.size,1,none⟩=some (.string j.name)∧w'.cell? ⟨w.heap.size,2,none⟩=some (.int .i64 j.prio)∧w'.cell? ⟨w.heap.size,3,none⟩=some (.int .i64 j.need)∧w'.cell? ⟨w.heap.size,4,none⟩=some (.int .i64 j.tries)∧w'.cell? ⟨w.heap.size,5,none⟩=some (.string j.tag)∧w'.cell? ⟨w.heap.size,6,none⟩=some (.string n.name)∧w'.cell? ⟨w.heap.size,7,none⟩=some (.int .i64 n.room)∧w'.cell? ⟨w.heap.size,8,none⟩=some (.string n.zone)∧w'.cell? ⟨w.heap.size,9,none⟩=some (.string l.job)∧w'.cell? ⟨w.heap.size,10,none⟩=some (.string l.node)∧w'.cell? ⟨w.heap.size,11,none⟩=some (.int .i64 l.til)∧w'.cell? ⟨w.heap.size,12,none⟩=some (.string nm)∧w'.cell? ⟨w.heap.size,13,none⟩=some (.int .i64 N))∧w.heap.size<w'.heap.size∧Below w1.heap.size w1 w')
  (first | assumption | exact⟨s0.1,s0.2.1,s0.2.2.drew⟩)
  (first
   | (go_at_call 221;(with_reducible refine(HR.out _).mono ?_);rintro e x2 ⟨rfl,c2⟩;have s2:=held14 (W:=w1) c2 (by assumption)))
 all_goals
  rename_i s9
  have B:=below_trans B1.out s9.2.2 B1.out.size
  clear s9
  have B:=Lib.hid B
  cases c with
  | false =>
   go_wp2
   go_ret
   exact⟨rfl,B.out⟩
  | true =>
   go_wp2_with fail
   refine(HC.out _ B.out).mono ?_
   rintro e w2 ⟨rfl,x2⟩
   go_wp2
   go_ret
   exact⟨by first | rfl | simp,below_trans B.out x2 B.out.size⟩
theorem qcheck3_is (j:JobD) (n:NodeD) (l:LeaseD) (nm:ByteArray) (N:Int) (w:World) (hT:Tabs w) :
  Calls Tryz.prog 81 #[.agg #[.int .i64 3,.string j.name,.int .i64 j.prio,.int .i64 j.need,.int .i64 j.tries,.string j.tag,.string n.name,.int .i64 n.room,.string n.zone,.string l.job,.string l.node,.int .i64 l.til,.string nm,.int .i64 N]] w fun e w'=>e = .returned (.int .i64 ((if sameQ (⟨3,j,n,l,nm,N⟩:ReqD) (⟨3,zJob,zNode,zLease,nm,0⟩:ReqD) then(if isName V8 nm then 0 else 4) else 4:Nat):Int))∧Below w.heap.size w w':=by
 have oB:=objAt_new w #[.int .i64 3,.string j.name,.int .i64 j.prio,.int .i64 j.need,.int .i64 j.tries,.string j.tag,.string n.name,.int .i64 n.room,.string n.zone,.string l.job,.string l.node,.int .i64 l.til,.string nm,.int .i64 N] 44
 have bW:=below_one w (.cells #[.int .i64 3,.string j.name,.int .i64 j.prio,.int .i64 j.need,.int .i64 j.tries,.string j.tag,.string n.name,.int .i64 n.room,.string n.zone,.string l.job,.string l.node,.int .i64 l.til,.string nm,.int .i64 N] 44)
 obtain⟨W,hW⟩:∃W,w.alloc (.cells #[.int .i64 3,.string j.name,.int .i64 j.prio,.int .i64 j.need,.int .i64 j.tries,.string j.tag,.string n.name,.int .i64 n.room,.string n.zone,.string l.job,.string l.node,.int .i64 l.til,.string nm,.int .i64 N] 44)=W:=⟨_,rfl⟩
 rw[hW] at oB bW
 have HP:=Lib.hid (pay3_is j n l nm N W)
 have HR:=Lib.hid (nameRequest_is nm 3)
 have hm:=m_name_request (.string nm)
 have hmc:=m_name_check (.string nm)
 have HQ:∀w:World,(binOp BinOp.neq 44 (.agg #[.int .i64 3,.string j.name,.int .i64 j.prio,.int .i64 j.need,.int .i64 j.tries,.string j.tag,.string n.name,.int .i64 n.room,.string n.zone,.string l.job,.string l.node,.int .i64 l.til,.string nm,.int .i64 N]) (.agg #[.int .i64 3,.string ⟨#[]⟩,.int .i64 0,.int .i64 0,.int .i64 0,.string ⟨#[]⟩,.string ⟨#[]⟩,.int .i64 0,.string ⟨#[]⟩,.string ⟨#[]⟩,.string ⟨#[]⟩,.int .i64 0,.string nm,.int .i64 0])).run Tryz.prog w = .ok (.bool (!sameQ (⟨3,j,n,l,nm,N⟩:ReqD) (⟨3,zJob,zNode,zLease,nm,0⟩:ReqD))) w:=fun w=>rq_neq (⟨3,j,n,l,nm,N⟩:ReqD) (⟨3,zJob,zNode,zLease,nm,0⟩:ReqD) w
 have HC:=fun(V:World) (B:Below w.heap.size w V)=>nameCheck_is nm V (hT.below B)
 obtain⟨c,hc⟩:∃c,sameQ (⟨3,j,n,l,nm,N⟩:ReqD) (⟨3,zJob,zNode,zLease,nm,0⟩:ReqD)=c:=⟨_,rfl⟩
 rw[hc] at HQ⊢
 obtain⟨z,hz⟩:∃z:Nat,(if isName V8 nm then 0 else 4)=z:=⟨_,rfl⟩
 simp only[hz] at HC⊢
 have HC:=Lib.hid HC
 clear hc hz hT
 have k0:=objAt_cell oB 0 rfl
 have k1:=objAt_cell oB 1 rfl
 have k2:=objAt_cell oB 2 rfl
 have k3:=objAt_cell oB 3 rfl
 have k4:=objAt_cell oB 4 rfl
 have k5:=objAt_cell oB 5 rfl
 have k6:=objAt_cell oB 6 rfl
 have k7:=objAt_cell oB 7 rfl
 have k8:=objAt_cell oB 8 rfl
 have k9:=objAt_cell oB 9 rfl
 have k10:=objAt_cell oB 10 rfl
 have k11:=objAt_cell oB 11 rfl
 have k12:=objAt_cell oB 12 rfl
 have k13:=objAt_cell oB 13 rfl
 have OB:=Lib.hid oB
 have BW:=Lib.hid bW
 clear oB bW
 go_enter Tryz.func81,Tryz.ntmps81
 go_wp2_with fail
 refine HP.out.mono ?_
 rintro e w1 ⟨rfl,x1⟩
 have o1:=objAt_next OB.out x1
 have B1:=Lib.hid (below_trans BW.out x1 BW.out.size)
 go_upto_region 4 with fail
 clear k0 k1 k2 k3 k4 k5 k6 k7 k8 k9 k10 k11 k12 k13 x1 HP OB BW
 have s0:(w1.cell? ⟨w.heap.size,0,none⟩=some (.int .i64 3)∧w1.cell? ⟨w.heap.size,1,none⟩=some (.string j.name)∧w1.cell? ⟨w.heap.size,2,none⟩=some (.int .i64 j.prio)∧w1.cell? ⟨w.heap.size,3,none⟩=some (.int .i64 j.need)∧w1.cell? ⟨w.heap.size,4,none⟩=some (.int .i64 j.tries)∧w1.cell? ⟨w.heap.size,5,none⟩=some (.string j.tag)∧w1.cell? ⟨w.heap.size,6,none⟩=some (.string n.name)∧w1.cell? ⟨w.heap.size,7,none⟩=some (.int .i64 n.room)∧w1.cell? ⟨w.heap.size,8,none⟩=some (.string n.zone)∧w1.cell? ⟨w.heap.size,9,none⟩=some (.string l.job)∧w1.cell? ⟨w.heap.size,10,none⟩=some (.string l.node)∧w1.cell? ⟨w.heap.size,11,none⟩=some (.int .i64 l.til)∧w1.cell? ⟨w.heap.size,12,none⟩=some (.string nm)∧w1.cell? ⟨w.heap.size,13,none⟩=some (.int .i64 N))∧w.heap.size<w1.heap.size∧Below w1.heap.size w1 w1:=⟨⟨objAt_cell o1 0 rfl,objAt_cell o1 1 rfl,objAt_cell o1 2 rfl,objAt_cell o1 3 rfl,objAt_cell o1 4 rfl,objAt_cell o1 5 rfl,objAt_cell o1 6 rfl,objAt_cell o1 7 rfl,objAt_cell o1 8 rfl,objAt_cell o1 9 rfl,objAt_cell o1 10 rfl,objAt_cell o1 11 rfl,objAt_cell o1 12 rfl,objAt_cell o1 13 rfl⟩,objAt_lt o1,Below.refl _ _⟩
 clear o1
 go_region_held3 (fun w'=>(w'.cell? ⟨w.heap.size,0,none⟩=some (.int .i64 3)∧w'.cell? ⟨w.heap.size,1,none⟩=some (.string j.name)∧w'.cell? ⟨w.heap.size,2,none⟩=some (.int .i64 j.prio)∧w'.cell? ⟨w.heap.size,3,none⟩=some (.int .i64 j.need)∧w'.cell? ⟨w.heap.size,4,none⟩=some (.int .i64 j.tries)∧w'.cell? ⟨w.heap.size,5,none⟩=some (.string j.tag)∧w'.cell? ⟨w.heap.size,6,none⟩=some (.string n.name)∧w'.cell? ⟨w.heap.size,7,none⟩=some (.int .i64 n.room)∧w'.cell? ⟨w.heap.size,8,none⟩=some (.string n.zone)∧w'.cell? ⟨w.heap.size,9,none⟩=some (.string l.job)∧w'.cell? ⟨w.heap.size,10,none⟩=some (.string l.node)∧w'.cell? ⟨w.heap.size,11,none⟩=some (.int .i64 l.til)∧w'.cell? ⟨w.heap.size,12,none⟩=some (.string nm)∧w'.cell? ⟨w.heap.size,13,none⟩=some (.int .i64 N))∧w.heap.size<w'.heap.size∧Below w1.heap.size w1 w')
  (first | assumption | exact⟨s0.1,s0.2.1,s0.2.2.drew⟩)
  (first
   | (go_at_call 224;(with_reducible refine(HR.out _).mono ?_);rintro e x2 ⟨rfl,c2⟩;have s2:=held14 (W:=w1) c2 (by assumption)))
 all_goals
  rename_i s9
  have B:=below_trans B1.out s9.2.2 B1.out.size
  clear s9
  have B:=Lib.hid B
  cases c with
  | false =>
   go_wp2
   go_ret
   exact⟨rfl,B.out⟩
  | true =>
   go_wp2_with fail
   refine(HC.out _ B.out).mono ?_
   rintro e w2 ⟨rfl,x2⟩
   go_wp2
   go_ret
   exact⟨by first | rfl | simp,below_trans B.out x2 B.out.size⟩
theorem qcheck4_is (j:JobD) (n:NodeD) (l:LeaseD) (nm:ByteArray) (N:Int) (w:World) (hT:Tabs w) :
  Calls Tryz.prog 81 #[.agg #[.int .i64 4,.string j.name,.int .i64 j.prio,.int .i64 j.need,.int .i64 j.tries,.string j.tag,.string n.name,.int .i64 n.room,.string n.zone,.string l.job,.string l.node,.int .i64 l.til,.string nm,.int .i64 N]] w fun e w'=>e = .returned (.int .i64 ((if sameQ (⟨4,j,n,l,nm,N⟩:ReqD) (⟨4,zJob,zNode,zLease,nm,0⟩:ReqD) then(if isName V8 nm then 0 else 4) else 4:Nat):Int))∧Below w.heap.size w w':=by
 have oB:=objAt_new w #[.int .i64 4,.string j.name,.int .i64 j.prio,.int .i64 j.need,.int .i64 j.tries,.string j.tag,.string n.name,.int .i64 n.room,.string n.zone,.string l.job,.string l.node,.int .i64 l.til,.string nm,.int .i64 N] 44
 have bW:=below_one w (.cells #[.int .i64 4,.string j.name,.int .i64 j.prio,.int .i64 j.need,.int .i64 j.tries,.string j.tag,.string n.name,.int .i64 n.room,.string n.zone,.string l.job,.string l.node,.int .i64 l.til,.string nm,.int .i64 N] 44)
 obtain⟨W,hW⟩:∃W,w.alloc (.cells #[.int .i64 4,.string j.name,.int .i64 j.prio,.int .i64 j.need,.int .i64 j.tries,.string j.tag,.string n.name,.int .i64 n.room,.string n.zone,.string l.job,.string l.node,.int .i64 l.til,.string nm,.int .i64 N] 44)=W:=⟨_,rfl⟩
 rw[hW] at oB bW
 have HP:=Lib.hid (pay4_is j n l nm N W)
 have HR:=Lib.hid (nameRequest_is nm 4)
 have hm:=m_name_request (.string nm)
 have hmc:=m_name_check (.string nm)
 have HQ:∀w:World,(binOp BinOp.neq 44 (.agg #[.int .i64 4,.string j.name,.int .i64 j.prio,.int .i64 j.need,.int .i64 j.tries,.string j.tag,.string n.name,.int .i64 n.room,.string n.zone,.string l.job,.string l.node,.int .i64 l.til,.string nm,.int .i64 N]) (.agg #[.int .i64 4,.string ⟨#[]⟩,.int .i64 0,.int .i64 0,.int .i64 0,.string ⟨#[]⟩,.string ⟨#[]⟩,.int .i64 0,.string ⟨#[]⟩,.string ⟨#[]⟩,.string ⟨#[]⟩,.int .i64 0,.string nm,.int .i64 0])).run Tryz.prog w = .ok (.bool (!sameQ (⟨4,j,n,l,nm,N⟩:ReqD) (⟨4,zJob,zNode,zLease,nm,0⟩:ReqD))) w:=fun w=>rq_neq (⟨4,j,n,l,nm,N⟩:ReqD) (⟨4,zJob,zNode,zLease,nm,0⟩:ReqD) w
 have HC:=fun(V:World) (B:Below w.heap.size w V)=>nameCheck_is nm V (hT.below B)
 obtain⟨c,hc⟩:∃c,sameQ (⟨4,j,n,l,nm,N⟩:ReqD) (⟨4,zJob,zNode,zLease,nm,0⟩:ReqD)=c:=⟨_,rfl⟩
 rw[hc] at HQ⊢
 obtain⟨z,hz⟩:∃z:Nat,(if isName V8 nm then 0 else 4)=z:=⟨_,rfl⟩
 simp only[hz] at HC⊢
 have HC:=Lib.hid HC
 clear hc hz hT
 have k0:=objAt_cell oB 0 rfl
 have k1:=objAt_cell oB 1 rfl
 have k2:=objAt_cell oB 2 rfl
 have k3:=objAt_cell oB 3 rfl
 have k4:=objAt_cell oB 4 rfl
 have k5:=objAt_cell oB 5 rfl
 have k6:=objAt_cell oB 6 rfl
 have k7:=objAt_cell oB 7 rfl
 have k8:=objAt_cell oB 8 rfl
 have k9:=objAt_cell oB 9 rfl
 have k10:=objAt_cell oB 10 rfl
 have k11:=objAt_cell oB 11 rfl
 have k12:=objAt_cell oB 12 rfl
 have k13:=objAt_cell oB 13 rfl
 have OB:=Lib.hid oB
 have BW:=Lib.hid bW
 clear oB bW
 go_enter Tryz.func81,Tryz.ntmps81
 go_wp2_with fail
 refine HP.out.mono ?_
 rintro e w1 ⟨rfl,x1⟩
 have o1:=objAt_next OB.out x1
 have B1:=Lib.hid (below_trans BW.out x1 BW.out.size)
 go_upto_region 4 with fail
 clear k0 k1 k2 k3 k4 k5 k6 k7 k8 k9 k10 k11 k12 k13 x1 HP OB BW
 have s0:(w1.cell? ⟨w.heap.size,0,none⟩=some (.int .i64 4)∧w1.cell? ⟨w.heap.size,1,none⟩=some (.string j.name)∧w1.cell? ⟨w.heap.size,2,none⟩=some (.int .i64 j.prio)∧w1.cell? ⟨w.heap.size,3,none⟩=some (.int .i64 j.need)∧w1.cell? ⟨w.heap.size,4,none⟩=some (.int .i64 j.tries)∧w1.cell? ⟨w.heap.size,5,none⟩=some (.string j.tag)∧w1.cell? ⟨w.heap.size,6,none⟩=some (.string n.name)∧w1.cell? ⟨w.heap.size,7,none⟩=some (.int .i64 n.room)∧w1.cell? ⟨w.heap.size,8,none⟩=some (.string n.zone)∧w1.cell? ⟨w.heap.size,9,none⟩=some (.string l.job)∧w1.cell? ⟨w.heap.size,10,none⟩=some (.string l.node)∧w1.cell? ⟨w.heap.size,11,none⟩=some (.int .i64 l.til)∧w1.cell? ⟨w.heap.size,12,none⟩=some (.string nm)∧w1.cell? ⟨w.heap.size,13,none⟩=some (.int .i64 N))∧w.heap.size<w1.heap.size∧Below w1.heap.size w1 w1:=⟨⟨objAt_cell o1 0 rfl,objAt_cell o1 1 rfl,objAt_cell o1 2 rfl,objAt_cell o1 3 rfl,objAt_cell o1 4 rfl,objAt_cell o1 5 rfl,objAt_cell o1 6 rfl,objAt_cell o1 7 rfl,objAt_cell o1 8 rfl,objAt_cell o1 9 rfl,objAt_cell o1 10 rfl,objAt_cell o1 11 rfl,objAt_cell o1 12 rfl,objAt_cell o1 13 rfl⟩,objAt_lt o1,Below.refl _ _⟩
 clear o1
 go_region_held3 (fun w'=>(w'.cell? ⟨w.heap.size,0,none⟩=some (.int .i64 4)∧w'.cell? ⟨w.heap.size,1,none⟩=some (.string j.name)∧w'.cell? ⟨w.heap.size,2,none⟩=some (.int .i64 j.prio)∧w'.cell? ⟨w.heap.size,3,none⟩=some (.int .i64 j.need)∧w'.cell? ⟨w.heap.size,4,none⟩=some (.int .i64 j.tries)∧w'.cell? ⟨w.heap.size,5,none⟩=some (.string j.tag)∧w'.cell? ⟨w.heap.size,6,none⟩=some (.string n.name)∧w'.cell? ⟨w.heap.size,7,none⟩=some (.int .i64 n.room)∧w'.cell? ⟨w.heap.size,8,none⟩=some (.string n.zone)∧w'.cell? ⟨w.heap.size,9,none⟩=some (.string l.job)∧w'.cell? ⟨w.heap.size,10,none⟩=some (.string l.node)∧w'.cell? ⟨w.heap.size,11,none⟩=some (.int .i64 l.til)∧w'.cell? ⟨w.heap.size,12,none⟩=some (.string nm)∧w'.cell? ⟨w.heap.size,13,none⟩=some (.int .i64 N))∧w.heap.size<w'.heap.size∧Below w1.heap.size w1 w')
  (first | assumption | exact⟨s0.1,s0.2.1,s0.2.2.drew⟩)
  (first
   | (go_at_call 224;(with_reducible refine(HR.out _).mono ?_);rintro e x2 ⟨rfl,c2⟩;have s2:=held14 (W:=w1) c2 (by assumption)))
 all_goals
  rename_i s9
  have B:=below_trans B1.out s9.2.2 B1.out.size
  clear s9
  have B:=Lib.hid B
  cases c with
  | false =>
   go_wp2
   go_ret
   exact⟨rfl,B.out⟩
  | true =>
   go_wp2_with fail
   refine(HC.out _ B.out).mono ?_
   rintro e w2 ⟨rfl,x2⟩
   go_wp2
   go_ret
   exact⟨by first | rfl | simp,below_trans B.out x2 B.out.size⟩
theorem qcheck5_is (j:JobD) (n:NodeD) (l:LeaseD) (nm:ByteArray) (N:Int) (w:World) (hT:Tabs w) :
  Calls Tryz.prog 81 #[.agg #[.int .i64 5,.string j.name,.int .i64 j.prio,.int .i64 j.need,.int .i64 j.tries,.string j.tag,.string n.name,.int .i64 n.room,.string n.zone,.string l.job,.string l.node,.int .i64 l.til,.string nm,.int .i64 N]] w fun e w'=>e = .returned (.int .i64 ((if sameQ (⟨5,j,n,l,nm,N⟩:ReqD) (⟨5,zJob,zNode,l,⟨#[]⟩,0⟩:ReqD) then leaseCE V8 l else 4:Nat):Int))∧Below w.heap.size w w':=by
 have oB:=objAt_new w #[.int .i64 5,.string j.name,.int .i64 j.prio,.int .i64 j.need,.int .i64 j.tries,.string j.tag,.string n.name,.int .i64 n.room,.string n.zone,.string l.job,.string l.node,.int .i64 l.til,.string nm,.int .i64 N] 44
 have bW:=below_one w (.cells #[.int .i64 5,.string j.name,.int .i64 j.prio,.int .i64 j.need,.int .i64 j.tries,.string j.tag,.string n.name,.int .i64 n.room,.string n.zone,.string l.job,.string l.node,.int .i64 l.til,.string nm,.int .i64 N] 44)
 obtain⟨W,hW⟩:∃W,w.alloc (.cells #[.int .i64 5,.string j.name,.int .i64 j.prio,.int .i64 j.need,.int .i64 j.tries,.string j.tag,.string n.name,.int .i64 n.room,.string n.zone,.string l.job,.string l.node,.int .i64 l.til,.string nm,.int .i64 N] 44)=W:=⟨_,rfl⟩
 rw[hW] at oB bW
 have HP:=Lib.hid (pay5_is j n l nm N W)
 have HR:=Lib.hid (leaseRequest_is l 5)
 have hm:=m_lease_request (.agg #[.string l.job,.string l.node,.int .i64 l.til])
 have hmc:=m_lease_check (.agg #[.string l.job,.string l.node,.int .i64 l.til])
 have HQ:∀w:World,(binOp BinOp.neq 44 (.agg #[.int .i64 5,.string j.name,.int .i64 j.prio,.int .i64 j.need,.int .i64 j.tries,.string j.tag,.string n.name,.int .i64 n.room,.string n.zone,.string l.job,.string l.node,.int .i64 l.til,.string nm,.int .i64 N]) (.agg #[.int .i64 5,.string ⟨#[]⟩,.int .i64 0,.int .i64 0,.int .i64 0,.string ⟨#[]⟩,.string ⟨#[]⟩,.int .i64 0,.string ⟨#[]⟩,.string l.job,.string l.node,.int .i64 l.til,.string ⟨#[]⟩,.int .i64 0])).run Tryz.prog w = .ok (.bool (!sameQ (⟨5,j,n,l,nm,N⟩:ReqD) (⟨5,zJob,zNode,l,⟨#[]⟩,0⟩:ReqD))) w:=fun w=>rq_neq (⟨5,j,n,l,nm,N⟩:ReqD) (⟨5,zJob,zNode,l,⟨#[]⟩,0⟩:ReqD) w
 have HC:=fun(V:World) (B:Below w.heap.size w V)=>leaseCheck_is l V (hT.below B)
 obtain⟨c,hc⟩:∃c,sameQ (⟨5,j,n,l,nm,N⟩:ReqD) (⟨5,zJob,zNode,l,⟨#[]⟩,0⟩:ReqD)=c:=⟨_,rfl⟩
 rw[hc] at HQ⊢
 obtain⟨z,hz⟩:∃z:Nat,leaseCE V8 l=z:=⟨_,rfl⟩
 simp only[hz] at HC⊢
 have HC:=Lib.hid HC
 clear hc hz hT
 have k0:=objAt_cell oB 0 rfl
 have k1:=objAt_cell oB 1 rfl
 have k2:=objAt_cell oB 2 rfl
 have k3:=objAt_cell oB 3 rfl
 have k4:=objAt_cell oB 4 rfl
 have k5:=objAt_cell oB 5 rfl
 have k6:=objAt_cell oB 6 rfl
 have k7:=objAt_cell oB 7 rfl
 have k8:=objAt_cell oB 8 rfl
 have k9:=objAt_cell oB 9 rfl
 have k10:=objAt_cell oB 10 rfl
 have k11:=objAt_cell oB 11 rfl
 have k12:=objAt_cell oB 12 rfl
 have k13:=objAt_cell oB 13 rfl
 have OB:=Lib.hid oB
 have BW:=Lib.hid bW
 clear oB bW
 go_enter Tryz.func81,Tryz.ntmps81
 go_wp2_with fail
 refine HP.out.mono ?_
 rintro e w1 ⟨rfl,x1⟩
 have o1:=objAt_next OB.out x1
 have B1:=Lib.hid (below_trans BW.out x1 BW.out.size)
 go_upto_region 4 with fail
 clear k0 k1 k2 k3 k4 k5 k6 k7 k8 k9 k10 k11 k12 k13 x1 HP OB BW
 have s0:(w1.cell? ⟨w.heap.size,0,none⟩=some (.int .i64 5)∧w1.cell? ⟨w.heap.size,1,none⟩=some (.string j.name)∧w1.cell? ⟨w.heap.size,2,none⟩=some (.int .i64 j.prio)∧w1.cell? ⟨w.heap.size,3,none⟩=some (.int .i64 j.need)∧w1.cell? ⟨w.heap.size,4,none⟩=some (.int .i64 j.tries)∧w1.cell? ⟨w.heap.size,5,none⟩=some (.string j.tag)∧w1.cell? ⟨w.heap.size,6,none⟩=some (.string n.name)∧w1.cell? ⟨w.heap.size,7,none⟩=some (.int .i64 n.room)∧w1.cell? ⟨w.heap.size,8,none⟩=some (.string n.zone)∧w1.cell? ⟨w.heap.size,9,none⟩=some (.string l.job)∧w1.cell? ⟨w.heap.size,10,none⟩=some (.string l.node)∧w1.cell? ⟨w.heap.size,11,none⟩=some (.int .i64 l.til)∧w1.cell? ⟨w.heap.size,12,none⟩=some (.string nm)∧w1.cell? ⟨w.heap.size,13,none⟩=some (.int .i64 N))∧w.heap.size<w1.heap.size∧Below w1.heap.size w1 w1:=⟨⟨objAt_cell o1 0 rfl,objAt_cell o1 1 rfl,objAt_cell o1 2 rfl,objAt_cell o1 3 rfl,objAt_cell o1 4 rfl,objAt_cell o1 5 rfl,objAt_cell o1 6 rfl,objAt_cell o1 7 rfl,objAt_cell o1 8 rfl,objAt_cell o1 9 rfl,objAt_cell o1 10 rfl,objAt_cell o1 11 rfl,objAt_cell o1 12 rfl,objAt_cell o1 13 rfl⟩,objAt_lt o1,Below.refl _ _⟩
 clear o1
 go_region_held3 (fun w'=>(w'.cell? ⟨w.heap.size,0,none⟩=some (.int .i64 5)∧w'.cell? ⟨w.heap.size,1,none⟩=some (.string j.name)∧w'.cell? ⟨w.heap.size,2,none⟩=some (.int .i64 j.prio)∧w'.cell? ⟨w.heap.size,3,none⟩=some (.int .i64 j.need)∧w'.cell? ⟨w.heap.size,4,none⟩=some (.int .i64 j.tries)∧w'.cell? ⟨w.heap.size,5,none⟩=some (.string j.tag)∧w'.cell? ⟨w.heap.size,6,none⟩=some (.string n.name)∧w'.cell? ⟨w.heap.size,7,none⟩=some (.int .i64 n.room)∧w'.cell? ⟨w.heap.size,8,none⟩=some (.string n.zone)∧w'.cell? ⟨w.heap.size,9,none⟩=some (.string l.job)∧w'.cell? ⟨w.heap.size,10,none⟩=some (.string l.node)∧w'.cell? ⟨w.heap.size,11,none⟩=some (.int .i64 l.til)∧w'.cell? ⟨w.heap.size,12,none⟩=some (.string nm)∧w'.cell? ⟨w.heap.size,13,none⟩=some (.int .i64 N))∧w.heap.size<w'.heap.size∧Below w1.heap.size w1 w')
  (first | assumption | exact⟨s0.1,s0.2.1,s0.2.2.drew⟩)
  (first
   | (go_at_call 227;(with_reducible refine(HR.out _).mono ?_);rintro e x2 ⟨rfl,c2⟩;have s2:=held14 (W:=w1) c2 (by assumption)))
 all_goals
  rename_i s9
  have B:=below_trans B1.out s9.2.2 B1.out.size
  clear s9
  have B:=Lib.hid B
  cases c with
  | false =>
   go_wp2
   go_ret
   exact⟨rfl,B.out⟩
  | true =>
   go_wp2_with fail
   refine(HC.out _ B.out).mono ?_
   rintro e w2 ⟨rfl,x2⟩
   go_wp2
   go_ret
   exact⟨by first | rfl | simp,below_trans B.out x2 B.out.size⟩
theorem qcheck6_is (j:JobD) (n:NodeD) (l:LeaseD) (nm:ByteArray) (N:Int) (w:World) (hT:Tabs w) :
  Calls Tryz.prog 81 #[.agg #[.int .i64 6,.string j.name,.int .i64 j.prio,.int .i64 j.need,.int .i64 j.tries,.string j.tag,.string n.name,.int .i64 n.room,.string n.zone,.string l.job,.string l.node,.int .i64 l.til,.string nm,.int .i64 N]] w fun e w'=>e = .returned (.int .i64 ((if sameQ (⟨6,j,n,l,nm,N⟩:ReqD) (⟨6,zJob,zNode,zLease,nm,0⟩:ReqD) then(if isName V8 nm then 0 else 4) else 4:Nat):Int))∧Below w.heap.size w w':=by
 have oB:=objAt_new w #[.int .i64 6,.string j.name,.int .i64 j.prio,.int .i64 j.need,.int .i64 j.tries,.string j.tag,.string n.name,.int .i64 n.room,.string n.zone,.string l.job,.string l.node,.int .i64 l.til,.string nm,.int .i64 N] 44
 have bW:=below_one w (.cells #[.int .i64 6,.string j.name,.int .i64 j.prio,.int .i64 j.need,.int .i64 j.tries,.string j.tag,.string n.name,.int .i64 n.room,.string n.zone,.string l.job,.string l.node,.int .i64 l.til,.string nm,.int .i64 N] 44)
 obtain⟨W,hW⟩:∃W,w.alloc (.cells #[.int .i64 6,.string j.name,.int .i64 j.prio,.int .i64 j.need,.int .i64 j.tries,.string j.tag,.string n.name,.int .i64 n.room,.string n.zone,.string l.job,.string l.node,.int .i64 l.til,.string nm,.int .i64 N] 44)=W:=⟨_,rfl⟩
 rw[hW] at oB bW
 have HP:=Lib.hid (pay6_is j n l nm N W)
 have HR:=Lib.hid (nameRequest_is nm 6)
 have hm:=m_name_request (.string nm)
 have hmc:=m_name_check (.string nm)
 have HQ:∀w:World,(binOp BinOp.neq 44 (.agg #[.int .i64 6,.string j.name,.int .i64 j.prio,.int .i64 j.need,.int .i64 j.tries,.string j.tag,.string n.name,.int .i64 n.room,.string n.zone,.string l.job,.string l.node,.int .i64 l.til,.string nm,.int .i64 N]) (.agg #[.int .i64 6,.string ⟨#[]⟩,.int .i64 0,.int .i64 0,.int .i64 0,.string ⟨#[]⟩,.string ⟨#[]⟩,.int .i64 0,.string ⟨#[]⟩,.string ⟨#[]⟩,.string ⟨#[]⟩,.int .i64 0,.string nm,.int .i64 0])).run Tryz.prog w = .ok (.bool (!sameQ (⟨6,j,n,l,nm,N⟩:ReqD) (⟨6,zJob,zNode,zLease,nm,0⟩:ReqD))) w:=fun w=>rq_neq (⟨6,j,n,l,nm,N⟩:ReqD) (⟨6,zJob,zNode,zLease,nm,0⟩:ReqD) w
 have HC:=fun(V:World) (B:Below w.heap.size w V)=>nameCheck_is nm V (hT.below B)
 obtain⟨c,hc⟩:∃c,sameQ (⟨6,j,n,l,nm,N⟩:ReqD) (⟨6,zJob,zNode,zLease,nm,0⟩:ReqD)=c:=⟨_,rfl⟩
 rw[hc] at HQ⊢
 obtain⟨z,hz⟩:∃z:Nat,(if isName V8 nm then 0 else 4)=z:=⟨_,rfl⟩
 simp only[hz] at HC⊢
 have HC:=Lib.hid HC
 clear hc hz hT
 have k0:=objAt_cell oB 0 rfl
 have k1:=objAt_cell oB 1 rfl
 have k2:=objAt_cell oB 2 rfl
 have k3:=objAt_cell oB 3 rfl
 have k4:=objAt_cell oB 4 rfl
 have k5:=objAt_cell oB 5 rfl
 have k6:=objAt_cell oB 6 rfl
 have k7:=objAt_cell oB 7 rfl
 have k8:=objAt_cell oB 8 rfl
 have k9:=objAt_cell oB 9 rfl
 have k10:=objAt_cell oB 10 rfl
 have k11:=objAt_cell oB 11 rfl
 have k12:=objAt_cell oB 12 rfl
 have k13:=objAt_cell oB 13 rfl
 have OB:=Lib.hid oB
 have BW:=Lib.hid bW
 clear oB bW
 go_enter Tryz.func81,Tryz.ntmps81
 go_wp2_with fail
 refine HP.out.mono ?_
 rintro e w1 ⟨rfl,x1⟩
 have o1:=objAt_next OB.out x1
 have B1:=Lib.hid (below_trans BW.out x1 BW.out.size)
 go_upto_region 4 with fail
 clear k0 k1 k2 k3 k4 k5 k6 k7 k8 k9 k10 k11 k12 k13 x1 HP OB BW
 have s0:(w1.cell? ⟨w.heap.size,0,none⟩=some (.int .i64 6)∧w1.cell? ⟨w.heap.size,1,none⟩=some (.string j.name)∧w1.cell? ⟨w.heap.size,2,none⟩=some (.int .i64 j.prio)∧w1.cell? ⟨w.heap.size,3,none⟩=some (.int .i64 j.need)∧w1.cell? ⟨w.heap.size,4,none⟩=some (.int .i64 j.tries)∧w1.cell? ⟨w.heap.size,5,none⟩=some (.string j.tag)∧w1.cell? ⟨w.heap.size,6,none⟩=some (.string n.name)∧w1.cell? ⟨w.heap.size,7,none⟩=some (.int .i64 n.room)∧w1.cell? ⟨w.heap.size,8,none⟩=some (.string n.zone)∧w1.cell? ⟨w.heap.size,9,none⟩=some (.string l.job)∧w1.cell? ⟨w.heap.size,10,none⟩=some (.string l.node)∧w1.cell? ⟨w.heap.size,11,none⟩=some (.int .i64 l.til)∧w1.cell? ⟨w.heap.size,12,none⟩=some (.string nm)∧w1.cell? ⟨w.heap.size,13,none⟩=some (.int .i64 N))∧w.heap.size<w1.heap.size∧Below w1.heap.size w1 w1:=⟨⟨objAt_cell o1 0 rfl,objAt_cell o1 1 rfl,objAt_cell o1 2 rfl,objAt_cell o1 3 rfl,objAt_cell o1 4 rfl,objAt_cell o1 5 rfl,objAt_cell o1 6 rfl,objAt_cell o1 7 rfl,objAt_cell o1 8 rfl,objAt_cell o1 9 rfl,objAt_cell o1 10 rfl,objAt_cell o1 11 rfl,objAt_cell o1 12 rfl,objAt_cell o1 13 rfl⟩,objAt_lt o1,Below.refl _ _⟩
 clear o1
 go_region_held3 (fun w'=>(w'.cell? ⟨w.heap.size,0,none⟩=some (.int .i64 6)∧w'.cell? ⟨w.heap.size,1,none⟩=some (.string j.name)∧w'.cell? ⟨w.heap.size,2,none⟩=some (.int .i64 j.prio)∧w'.cell? ⟨w.heap.size,3,none⟩=some (.int .i64 j.need)∧w'.cell? ⟨w.heap.size,4,none⟩=some (.int .i64 j.tries)∧w'.cell? ⟨w.heap.size,5,none⟩=some (.string j.tag)∧w'.cell? ⟨w.heap.size,6,none⟩=some (.string n.name)∧w'.cell? ⟨w.heap.size,7,none⟩=some (.int .i64 n.room)∧w'.cell? ⟨w.heap.size,8,none⟩=some (.string n.zone)∧w'.cell? ⟨w.heap.size,9,none⟩=some (.string l.job)∧w'.cell? ⟨w.heap.size,10,none⟩=some (.string l.node)∧w'.cell? ⟨w.heap.size,11,none⟩=some (.int .i64 l.til)∧w'.cell? ⟨w.heap.size,12,none⟩=some (.string nm)∧w'.cell? ⟨w.heap.size,13,none⟩=some (.int .i64 N))∧w.heap.size<w'.heap.size∧Below w1.heap.size w1 w')
  (first | assumption | exact⟨s0.1,s0.2.1,s0.2.2.drew⟩)
  (first
   | (go_at_call 224;(with_reducible refine(HR.out _).mono ?_);rintro e x2 ⟨rfl,c2⟩;have s2:=held14 (W:=w1) c2 (by assumption)))
 all_goals
  rename_i s9
  have B:=below_trans B1.out s9.2.2 B1.out.size
  clear s9
  have B:=Lib.hid B
  cases c with
  | false =>
   go_wp2
   go_ret
   exact⟨rfl,B.out⟩
  | true =>
   go_wp2_with fail
   refine(HC.out _ B.out).mono ?_
   rintro e w2 ⟨rfl,x2⟩
   go_wp2
   go_ret
   exact⟨by first | rfl | simp,below_trans B.out x2 B.out.size⟩
theorem qcheck7_is (j:JobD) (n:NodeD) (l:LeaseD) (nm:ByteArray) (N:Int) (w:World) :
  Calls Tryz.prog 81 #[.agg #[.int .i64 7,.string j.name,.int .i64 j.prio,.int .i64 j.need,.int .i64 j.tries,.string j.tag,.string n.name,.int .i64 n.room,.string n.zone,.string l.job,.string l.node,.int .i64 l.til,.string nm,.int .i64 N]] w fun e w'=>e = .returned (.int .i64 ((if sameQ (⟨7,j,n,l,nm,N⟩:ReqD) (⟨7,zJob,zNode,zLease,⟨#[]⟩,N⟩:ReqD) then(if inR N 0 1099511627776 then 0 else 1) else 4:Nat):Int))∧Below w.heap.size w w':=by
 have oB:=objAt_new w #[.int .i64 7,.string j.name,.int .i64 j.prio,.int .i64 j.need,.int .i64 j.tries,.string j.tag,.string n.name,.int .i64 n.room,.string n.zone,.string l.job,.string l.node,.int .i64 l.til,.string nm,.int .i64 N] 44
 have bW:=below_one w (.cells #[.int .i64 7,.string j.name,.int .i64 j.prio,.int .i64 j.need,.int .i64 j.tries,.string j.tag,.string n.name,.int .i64 n.room,.string n.zone,.string l.job,.string l.node,.int .i64 l.til,.string nm,.int .i64 N] 44)
 obtain⟨W,hW⟩:∃W,w.alloc (.cells #[.int .i64 7,.string j.name,.int .i64 j.prio,.int .i64 j.need,.int .i64 j.tries,.string j.tag,.string n.name,.int .i64 n.room,.string n.zone,.string l.job,.string l.node,.int .i64 l.til,.string nm,.int .i64 N] 44)=W:=⟨_,rfl⟩
 rw[hW] at oB bW
 have HP:=Lib.hid (pay7_is j n l nm N W)
 have HR:=Lib.hid (ticksRequest_is N 7)
 have hm:=m_ticks_request (.int .i64 N)
 have hmc:=m_ticks_check (.int .i64 N)
 have HQ:∀w:World,(binOp BinOp.neq 44 (.agg #[.int .i64 7,.string j.name,.int .i64 j.prio,.int .i64 j.need,.int .i64 j.tries,.string j.tag,.string n.name,.int .i64 n.room,.string n.zone,.string l.job,.string l.node,.int .i64 l.til,.string nm,.int .i64 N]) (.agg #[.int .i64 7,.string ⟨#[]⟩,.int .i64 0,.int .i64 0,.int .i64 0,.string ⟨#[]⟩,.string ⟨#[]⟩,.int .i64 0,.string ⟨#[]⟩,.string ⟨#[]⟩,.string ⟨#[]⟩,.int .i64 0,.string ⟨#[]⟩,.int .i64 N])).run Tryz.prog w = .ok (.bool (!sameQ (⟨7,j,n,l,nm,N⟩:ReqD) (⟨7,zJob,zNode,zLease,⟨#[]⟩,N⟩:ReqD))) w:=fun w=>rq_neq (⟨7,j,n,l,nm,N⟩:ReqD) (⟨7,zJob,zNode,zLease,⟨#[]⟩,N⟩:ReqD) w
 have HC:=fun(V:World) (B:Below w.heap.size w V)=>ticksCheck_is N V
 obtain⟨c,hc⟩:∃c,sameQ (⟨7,j,n,l,nm,N⟩:ReqD) (⟨7,zJob,zNode,zLease,⟨#[]⟩,N⟩:ReqD)=c:=⟨_,rfl⟩
 rw[hc] at HQ⊢
 obtain⟨z,hz⟩:∃z:Nat,(if inR N 0 1099511627776 then 0 else 1)=z:=⟨_,rfl⟩
 simp only[hz] at HC⊢
 have HC:=Lib.hid HC
 clear hc hz
 have k0:=objAt_cell oB 0 rfl
 have k1:=objAt_cell oB 1 rfl
 have k2:=objAt_cell oB 2 rfl
 have k3:=objAt_cell oB 3 rfl
 have k4:=objAt_cell oB 4 rfl
 have k5:=objAt_cell oB 5 rfl
 have k6:=objAt_cell oB 6 rfl
 have k7:=objAt_cell oB 7 rfl
 have k8:=objAt_cell oB 8 rfl
 have k9:=objAt_cell oB 9 rfl
 have k10:=objAt_cell oB 10 rfl
 have k11:=objAt_cell oB 11 rfl
 have k12:=objAt_cell oB 12 rfl
 have k13:=objAt_cell oB 13 rfl
 have OB:=Lib.hid oB
 have BW:=Lib.hid bW
 clear oB bW
 go_enter Tryz.func81,Tryz.ntmps81
 go_wp2_with fail
 refine HP.out.mono ?_
 rintro e w1 ⟨rfl,x1⟩
 have o1:=objAt_next OB.out x1
 have B1:=Lib.hid (below_trans BW.out x1 BW.out.size)
 go_upto_region 4 with fail
 clear k0 k1 k2 k3 k4 k5 k6 k7 k8 k9 k10 k11 k12 k13 x1 HP OB BW
 have s0:(w1.cell? ⟨w.heap.size,0,none⟩=some (.int .i64 7)∧w1.cell? ⟨w.heap.size,1,none⟩=some (.string j.name)∧w1.cell? ⟨w.heap.size,2,none⟩=some (.int .i64 j.prio)∧w1.cell? ⟨w.heap.size,3,none⟩=some (.int .i64 j.need)∧w1.cell? ⟨w.heap.size,4,none⟩=some (.int .i64 j.tries)∧w1.cell? ⟨w.heap.size,5,none⟩=some (.string j.tag)∧w1.cell? ⟨w.heap.size,6,none⟩=some (.string n.name)∧w1.cell? ⟨w.heap.size,7,none⟩=some (.int .i64 n.room)∧w1.cell? ⟨w.heap.size,8,none⟩=some (.string n.zone)∧w1.cell? ⟨w.heap.size,9,none⟩=some (.string l.job)∧w1.cell? ⟨w.heap.size,10,none⟩=some (.string l.node)∧w1.cell? ⟨w.heap.size,11,none⟩=some (.int .i64 l.til)∧w1.cell? ⟨w.heap.size,12,none⟩=some (.string nm)∧w1.cell? ⟨w.heap.size,13,none⟩=some (.int .i64 N))∧w.heap.size<w1.heap.size∧Below w1.heap.size w1 w1:=⟨⟨objAt_cell o1 0 rfl,objAt_cell o1 1 rfl,objAt_cell o1 2 rfl,objAt_cell o1 3 rfl,objAt_cell o1 4 rfl,objAt_cell o1 5 rfl,objAt_cell o1 6 rfl,objAt_cell o1 7 rfl,objAt_cell o1 8 rfl,objAt_cell o1 9 rfl,objAt_cell o1 10 rfl,objAt_cell o1 11 rfl,objAt_cell o1 12 rfl,objAt_cell o1 13 rfl⟩,objAt_lt o1,Below.refl _ _⟩
 clear o1
 go_region_held3 (fun w'=>(w'.cell? ⟨w.heap.size,0,none⟩=some (.int .i64 7)∧w'.cell? ⟨w.heap.size,1,none⟩=some (.string j.name)∧w'.cell? ⟨w.heap.size,2,none⟩=some (.int .i64 j.prio)∧w'.cell? ⟨w.heap.size,3,none⟩=some (.int .i64 j.need)∧w'.cell? ⟨w.heap.size,4,none⟩=some (.int .i64 j.tries)∧w'.cell? ⟨w.heap.size,5,none⟩=some (.string j.tag)∧w'.cell? ⟨w.heap.size,6,none⟩=some (.string n.name)∧w'.cell? ⟨w.heap.size,7,none⟩=some (.int .i64 n.room)∧w'.cell? ⟨w.heap.size,8,none⟩=some (.string n.zone)∧w'.cell? ⟨w.heap.size,9,none⟩=some (.string l.job)∧w'.cell? ⟨w.heap.size,10,none⟩=some (.string l.node)∧w'.cell? ⟨w.heap.size,11,none⟩=some (.int .i64 l.til)∧w'.cell? ⟨w.heap.size,12,none⟩=some (.string nm)∧w'.cell? ⟨w.heap.size,13,none⟩=some (.int .i64 N))∧w.heap.size<w'.heap.size∧Below w1.heap.size w1 w')
  (first | assumption | exact⟨s0.1,s0.2.1,s0.2.2.drew⟩)
  (first
   | (go_at_call 231;(with_reducible refine(HR.out _).mono ?_);rintro e x2 ⟨rfl,c2⟩;have s2:=held14 (W:=w1) c2 (by assumption)))
 all_goals
  rename_i s9
  have B:=below_trans B1.out s9.2.2 B1.out.size
  clear s9
  have B:=Lib.hid B
  cases c with
  | false =>
   go_wp2
   go_ret
   exact⟨rfl,B.out⟩
  | true =>
   go_wp2_with fail
   refine(HC.out _ B.out).mono ?_
   rintro e w2 ⟨rfl,x2⟩
   go_wp2
   go_ret
   exact⟨by first | rfl | simp,below_trans B.out x2 B.out.size⟩
theorem qcheck8_is (j:JobD) (n:NodeD) (l:LeaseD) (nm:ByteArray) (N:Int) (w:World) :
  Calls Tryz.prog 81 #[.agg #[.int .i64 8,.string j.name,.int .i64 j.prio,.int .i64 j.need,.int .i64 j.tries,.string j.tag,.string n.name,.int .i64 n.room,.string n.zone,.string l.job,.string l.node,.int .i64 l.til,.string nm,.int .i64 N]] w fun e w'=>e = .returned (.int .i64 ((if sameQ (⟨8,j,n,l,nm,N⟩:ReqD) (⟨8,zJob,zNode,zLease,⟨#[]⟩,0⟩:ReqD) then 0 else 4:Nat):Int))∧Below w.heap.size w w':=by
 have oB:=objAt_new w #[.int .i64 8,.string j.name,.int .i64 j.prio,.int .i64 j.need,.int .i64 j.tries,.string j.tag,.string n.name,.int .i64 n.room,.string n.zone,.string l.job,.string l.node,.int .i64 l.til,.string nm,.int .i64 N] 44
 have bW:=below_one w (.cells #[.int .i64 8,.string j.name,.int .i64 j.prio,.int .i64 j.need,.int .i64 j.tries,.string j.tag,.string n.name,.int .i64 n.room,.string n.zone,.string l.job,.string l.node,.int .i64 l.til,.string nm,.int .i64 N] 44)
 obtain⟨W,hW⟩:∃W,w.alloc (.cells #[.int .i64 8,.string j.name,.int .i64 j.prio,.int .i64 j.need,.int .i64 j.tries,.string j.tag,.string n.name,.int .i64 n.room,.string n.zone,.string l.job,.string l.node,.int .i64 l.til,.string nm,.int .i64 N] 44)=W:=⟨_,rfl⟩
 rw[hW] at oB bW
 have HP:=Lib.hid (pay8_is j n l nm N W)
 have HR:=Lib.hid (nothingRequest_is  8)
 have hm:=m_nothing_request (.agg #[])
 have hmc:=m_nothing_check (.agg #[])
 have HQ:∀w:World,(binOp BinOp.neq 44 (.agg #[.int .i64 8,.string j.name,.int .i64 j.prio,.int .i64 j.need,.int .i64 j.tries,.string j.tag,.string n.name,.int .i64 n.room,.string n.zone,.string l.job,.string l.node,.int .i64 l.til,.string nm,.int .i64 N]) (.agg #[.int .i64 8,.string ⟨#[]⟩,.int .i64 0,.int .i64 0,.int .i64 0,.string ⟨#[]⟩,.string ⟨#[]⟩,.int .i64 0,.string ⟨#[]⟩,.string ⟨#[]⟩,.string ⟨#[]⟩,.int .i64 0,.string ⟨#[]⟩,.int .i64 0])).run Tryz.prog w = .ok (.bool (!sameQ (⟨8,j,n,l,nm,N⟩:ReqD) (⟨8,zJob,zNode,zLease,⟨#[]⟩,0⟩:ReqD))) w:=fun w=>rq_neq (⟨8,j,n,l,nm,N⟩:ReqD) (⟨8,zJob,zNode,zLease,⟨#[]⟩,0⟩:ReqD) w
 have HC:=fun(V:World) (B:Below w.heap.size w V)=>nothingCheck_is V
 obtain⟨c,hc⟩:∃c,sameQ (⟨8,j,n,l,nm,N⟩:ReqD) (⟨8,zJob,zNode,zLease,⟨#[]⟩,0⟩:ReqD)=c:=⟨_,rfl⟩
 rw[hc] at HQ⊢
 skip
 have HC:=Lib.hid HC
 clear hc
 have k0:=objAt_cell oB 0 rfl
 have k1:=objAt_cell oB 1 rfl
 have k2:=objAt_cell oB 2 rfl
 have k3:=objAt_cell oB 3 rfl
 have k4:=objAt_cell oB 4 rfl
 have k5:=objAt_cell oB 5 rfl
 have k6:=objAt_cell oB 6 rfl
 have k7:=objAt_cell oB 7 rfl
 have k8:=objAt_cell oB 8 rfl
 have k9:=objAt_cell oB 9 rfl
 have k10:=objAt_cell oB 10 rfl
 have k11:=objAt_cell oB 11 rfl
 have k12:=objAt_cell oB 12 rfl
 have k13:=objAt_cell oB 13 rfl
 have OB:=Lib.hid oB
 have BW:=Lib.hid bW
 clear oB bW
 go_enter Tryz.func81,Tryz.ntmps81
 go_wp2_with fail
 refine HP.out.mono ?_
 rintro e w1 ⟨rfl,x1⟩
 have o1:=objAt_next OB.out x1
 have B1:=Lib.hid (below_trans BW.out x1 BW.out.size)
 go_upto_region 4 with fail
 clear k0 k1 k2 k3 k4 k5 k6 k7 k8 k9 k10 k11 k12 k13 x1 HP OB BW
 have s0:(w1.cell? ⟨w.heap.size,0,none⟩=some (.int .i64 8)∧w1.cell? ⟨w.heap.size,1,none⟩=some (.string j.name)∧w1.cell? ⟨w.heap.size,2,none⟩=some (.int .i64 j.prio)∧w1.cell? ⟨w.heap.size,3,none⟩=some (.int .i64 j.need)∧w1.cell? ⟨w.heap.size,4,none⟩=some (.int .i64 j.tries)∧w1.cell? ⟨w.heap.size,5,none⟩=some (.string j.tag)∧w1.cell? ⟨w.heap.size,6,none⟩=some (.string n.name)∧w1.cell? ⟨w.heap.size,7,none⟩=some (.int .i64 n.room)∧w1.cell? ⟨w.heap.size,8,none⟩=some (.string n.zone)∧w1.cell? ⟨w.heap.size,9,none⟩=some (.string l.job)∧w1.cell? ⟨w.heap.size,10,none⟩=some (.string l.node)∧w1.cell? ⟨w.heap.size,11,none⟩=some (.int .i64 l.til)∧w1.cell? ⟨w.heap.size,12,none⟩=some (.string nm)∧w1.cell? ⟨w.heap.size,13,none⟩=some (.int .i64 N))∧w.heap.size<w1.heap.size∧Below w1.heap.size w1 w1:=⟨⟨objAt_cell o1 0 rfl,objAt_cell o1 1 rfl,objAt_cell o1 2 rfl,objAt_cell o1 3 rfl,objAt_cell o1 4 rfl,objAt_cell o1 5 rfl,objAt_cell o1 6 rfl,objAt_cell o1 7 rfl,objAt_cell o1 8 rfl,objAt_cell o1 9 rfl,objAt_cell o1 10 rfl,objAt_cell o1 11 rfl,objAt_cell o1 12 rfl,objAt_cell o1 13 rfl⟩,objAt_lt o1,Below.refl _ _⟩
 clear o1
 go_region_held3 (fun w'=>(w'.cell? ⟨w.heap.size,0,none⟩=some (.int .i64 8)∧w'.cell? ⟨w.heap.size,1,none⟩=some (.string j.name)∧w'.cell? ⟨w.heap.size,2,none⟩=some (.int .i64 j.prio)∧w'.cell? ⟨w.heap.size,3,none⟩=some (.int .i64 j.need)∧w'.cell? ⟨w.heap.size,4,none⟩=some (.int .i64 j.tries)∧w'.cell? ⟨w.heap.size,5,none⟩=some (.string j.tag)∧w'.cell? ⟨w.heap.size,6,none⟩=some (.string n.name)∧w'.cell? ⟨w.heap.size,7,none⟩=some (.int .i64 n.room)∧w'.cell? ⟨w.heap.size,8,none⟩=some (.string n.zone)∧w'.cell? ⟨w.heap.size,9,none⟩=some (.string l.job)∧w'.cell? ⟨w.heap.size,10,none⟩=some (.string l.node)∧w'.cell? ⟨w.heap.size,11,none⟩=some (.int .i64 l.til)∧w'.cell? ⟨w.heap.size,12,none⟩=some (.string nm)∧w'.cell? ⟨w.heap.size,13,none⟩=some (.int .i64 N))∧w.heap.size<w'.heap.size∧Below w1.heap.size w1 w')
  (first | assumption | exact⟨s0.1,s0.2.1,s0.2.2.drew⟩)
  (first
   | (go_at_call 235;(with_reducible refine(HR.out _).mono ?_);rintro e x2 ⟨rfl,c2⟩;have s2:=held14 (W:=w1) c2 (by assumption)))
 all_goals
  rename_i s9
  have B:=below_trans B1.out s9.2.2 B1.out.size
  clear s9
  have B:=Lib.hid B
  cases c with
  | false =>
   go_wp2
   go_ret
   exact⟨rfl,B.out⟩
  | true =>
   go_wp2_with fail
   refine(HC.out _ B.out).mono ?_
   rintro e w2 ⟨rfl,x2⟩
   go_wp2
   go_ret
   exact⟨by first | rfl | simp,below_trans B.out x2 B.out.size⟩
theorem qcheck9_is (j:JobD) (n:NodeD) (l:LeaseD) (nm:ByteArray) (N:Int) (w:World) :
  Calls Tryz.prog 81 #[.agg #[.int .i64 9,.string j.name,.int .i64 j.prio,.int .i64 j.need,.int .i64 j.tries,.string j.tag,.string n.name,.int .i64 n.room,.string n.zone,.string l.job,.string l.node,.int .i64 l.til,.string nm,.int .i64 N]] w fun e w'=>e = .returned (.int .i64 ((if sameQ (⟨9,j,n,l,nm,N⟩:ReqD) (⟨9,zJob,zNode,zLease,⟨#[]⟩,0⟩:ReqD) then 0 else 4:Nat):Int))∧Below w.heap.size w w':=by
 have oB:=objAt_new w #[.int .i64 9,.string j.name,.int .i64 j.prio,.int .i64 j.need,.int .i64 j.tries,.string j.tag,.string n.name,.int .i64 n.room,.string n.zone,.string l.job,.string l.node,.int .i64 l.til,.string nm,.int .i64 N] 44
 have bW:=below_one w (.cells #[.int .i64 9,.string j.name,.int .i64 j.prio,.int .i64 j.need,.int .i64 j.tries,.string j.tag,.string n.name,.int .i64 n.room,.string n.zone,.string l.job,.string l.node,.int .i64 l.til,.string nm,.int .i64 N] 44)
 obtain⟨W,hW⟩:∃W,w.alloc (.cells #[.int .i64 9,.string j.name,.int .i64 j.prio,.int .i64 j.need,.int .i64 j.tries,.string j.tag,.string n.name,.int .i64 n.room,.string n.zone,.string l.job,.string l.node,.int .i64 l.til,.string nm,.int .i64 N] 44)=W:=⟨_,rfl⟩
 rw[hW] at oB bW
 have HP:=Lib.hid (pay9_is j n l nm N W)
 have HR:=Lib.hid (nothingRequest_is  9)
 have hm:=m_nothing_request (.agg #[])
 have hmc:=m_nothing_check (.agg #[])
 have HQ:∀w:World,(binOp BinOp.neq 44 (.agg #[.int .i64 9,.string j.name,.int .i64 j.prio,.int .i64 j.need,.int .i64 j.tries,.string j.tag,.string n.name,.int .i64 n.room,.string n.zone,.string l.job,.string l.node,.int .i64 l.til,.string nm,.int .i64 N]) (.agg #[.int .i64 9,.string ⟨#[]⟩,.int .i64 0,.int .i64 0,.int .i64 0,.string ⟨#[]⟩,.string ⟨#[]⟩,.int .i64 0,.string ⟨#[]⟩,.string ⟨#[]⟩,.string ⟨#[]⟩,.int .i64 0,.string ⟨#[]⟩,.int .i64 0])).run Tryz.prog w = .ok (.bool (!sameQ (⟨9,j,n,l,nm,N⟩:ReqD) (⟨9,zJob,zNode,zLease,⟨#[]⟩,0⟩:ReqD))) w:=fun w=>rq_neq (⟨9,j,n,l,nm,N⟩:ReqD) (⟨9,zJob,zNode,zLease,⟨#[]⟩,0⟩:ReqD) w
 have HC:=fun(V:World) (B:Below w.heap.size w V)=>nothingCheck_is V
 obtain⟨c,hc⟩:∃c,sameQ (⟨9,j,n,l,nm,N⟩:ReqD) (⟨9,zJob,zNode,zLease,⟨#[]⟩,0⟩:ReqD)=c:=⟨_,rfl⟩
 rw[hc] at HQ⊢
 skip
 have HC:=Lib.hid HC
 clear hc
 have k0:=objAt_cell oB 0 rfl
 have k1:=objAt_cell oB 1 rfl
 have k2:=objAt_cell oB 2 rfl
 have k3:=objAt_cell oB 3 rfl
 have k4:=objAt_cell oB 4 rfl
 have k5:=objAt_cell oB 5 rfl
 have k6:=objAt_cell oB 6 rfl
 have k7:=objAt_cell oB 7 rfl
 have k8:=objAt_cell oB 8 rfl
 have k9:=objAt_cell oB 9 rfl
 have k10:=objAt_cell oB 10 rfl
 have k11:=objAt_cell oB 11 rfl
 have k12:=objAt_cell oB 12 rfl
 have k13:=objAt_cell oB 13 rfl
 have OB:=Lib.hid oB
 have BW:=Lib.hid bW
 clear oB bW
 go_enter Tryz.func81,Tryz.ntmps81
 go_wp2_with fail
 refine HP.out.mono ?_
 rintro e w1 ⟨rfl,x1⟩
 have o1:=objAt_next OB.out x1
 have B1:=Lib.hid (below_trans BW.out x1 BW.out.size)
 go_upto_region 4 with fail
 clear k0 k1 k2 k3 k4 k5 k6 k7 k8 k9 k10 k11 k12 k13 x1 HP OB BW
 have s0:(w1.cell? ⟨w.heap.size,0,none⟩=some (.int .i64 9)∧w1.cell? ⟨w.heap.size,1,none⟩=some (.string j.name)∧w1.cell? ⟨w.heap.size,2,none⟩=some (.int .i64 j.prio)∧w1.cell? ⟨w.heap.size,3,none⟩=some (.int .i64 j.need)∧w1.cell? ⟨w.heap.size,4,none⟩=some (.int .i64 j.tries)∧w1.cell? ⟨w.heap.size,5,none⟩=some (.string j.tag)∧w1.cell? ⟨w.heap.size,6,none⟩=some (.string n.name)∧w1.cell? ⟨w.heap.size,7,none⟩=some (.int .i64 n.room)∧w1.cell? ⟨w.heap.size,8,none⟩=some (.string n.zone)∧w1.cell? ⟨w.heap.size,9,none⟩=some (.string l.job)∧w1.cell? ⟨w.heap.size,10,none⟩=some (.string l.node)∧w1.cell? ⟨w.heap.size,11,none⟩=some (.int .i64 l.til)∧w1.cell? ⟨w.heap.size,12,none⟩=some (.string nm)∧w1.cell? ⟨w.heap.size,13,none⟩=some (.int .i64 N))∧w.heap.size<w1.heap.size∧Below w1.heap.size w1 w1:=⟨⟨objAt_cell o1 0 rfl,objAt_cell o1 1 rfl,objAt_cell o1 2 rfl,objAt_cell o1 3 rfl,objAt_cell o1 4 rfl,objAt_cell o1 5 rfl,objAt_cell o1 6 rfl,objAt_cell o1 7 rfl,objAt_cell o1 8 rfl,objAt_cell o1 9 rfl,objAt_cell o1 10 rfl,objAt_cell o1 11 rfl,objAt_cell o1 12 rfl,objAt_cell o1 13 rfl⟩,objAt_lt o1,Below.refl _ _⟩
 clear o1
 go_region_held3 (fun w'=>(w'.cell? ⟨w.heap.size,0,none⟩=some (.int .i64 9)∧w'.cell? ⟨w.heap.size,1,none⟩=some (.string j.name)∧w'.cell? ⟨w.heap.size,2,none⟩=some (.int .i64 j.prio)∧w'.cell? ⟨w.heap.size,3,none⟩=some (.int .i64 j.need)∧w'.cell? ⟨w.heap.size,4,none⟩=some (.int .i64 j.tries)∧w'.cell? ⟨w.heap.size,5,none⟩=some (.string j.tag)∧w'.cell? ⟨w.heap.size,6,none⟩=some (.string n.name)∧w'.cell? ⟨w.heap.size,7,none⟩=some (.int .i64 n.room)∧w'.cell? ⟨w.heap.size,8,none⟩=some (.string n.zone)∧w'.cell? ⟨w.heap.size,9,none⟩=some (.string l.job)∧w'.cell? ⟨w.heap.size,10,none⟩=some (.string l.node)∧w'.cell? ⟨w.heap.size,11,none⟩=some (.int .i64 l.til)∧w'.cell? ⟨w.heap.size,12,none⟩=some (.string nm)∧w'.cell? ⟨w.heap.size,13,none⟩=some (.int .i64 N))∧w.heap.size<w'.heap.size∧Below w1.heap.size w1 w')
  (first | assumption | exact⟨s0.1,s0.2.1,s0.2.2.drew⟩)
  (first
   | (go_at_call 235;(with_reducible refine(HR.out _).mono ?_);rintro e x2 ⟨rfl,c2⟩;have s2:=held14 (W:=w1) c2 (by assumption)))
 all_goals
  rename_i s9
  have B:=below_trans B1.out s9.2.2 B1.out.size
  clear s9
  have B:=Lib.hid B
  cases c with
  | false =>
   go_wp2
   go_ret
   exact⟨rfl,B.out⟩
  | true =>
   go_wp2_with fail
   refine(HC.out _ B.out).mono ?_
   rintro e w2 ⟨rfl,x2⟩
   go_wp2
   go_ret
   exact⟨by first | rfl | simp,below_trans B.out x2 B.out.size⟩
end Go.Proofs.YtiekgafopalfmaaGreatDoor
namespace Go.Proofs.YtiekgafopalfmaaGreatDoor
open Go.RowKit Go.Lib
def wReq (q:ReqD):Prop:=(Lit.int .i64 q.kind).wf=true∧wJob q.job∧wNode q.node∧wLease q.lease∧q.name.size≤maxLen∧(Lit.int .i64 q.n).wf=true
def Txt (k:Int):Prop:=1≤k∧k≤6
theorem kinds {k:Int} (h:1≤k∧k≤9):k=1∨k=2∨k=3∨k=4∨k=5∨k=6∨k=7∨k=8∨k=9:=by omega
theorem qcheck_same {q p:ReqD} (h:1≤q.kind∧q.kind≤9) (ho:ownQ q=p){e:Nat} (hp:partE V8 q=e):qcheckE V8 q=(if sameQ q p then e else 4):=by
 by_cases hs:ownQ q=q
 ·rw[qcheck_part V8 h hs,hp,(sameQ_iff q p).2 (hs.symm.trans ho),if_pos rfl]
 ·rw[qcheck_extra V8 h hs,sameQ_no (fun e=>hs (ho.trans e.symm))];rfl
theorem qcheck_any (q:ReqD) (hw:wReq q) (w:World) (hT:Txt q.kind→Tabs w) :
  Calls Tryz.prog 81 #[.agg #[.int .i64 q.kind,.string q.job.name,.int .i64 q.job.prio,.int .i64 q.job.need,.int .i64 q.job.tries,.string q.job.tag,.string q.node.name,.int .i64 q.node.room,.string q.node.zone,.string q.lease.job,.string q.lease.node,.int .i64 q.lease.til,.string q.name,.int .i64 q.n]] w fun e w'=>e = .returned (.int .i64 (qcheckE V8 q:Nat))∧Below w.heap.size w w':=by
 obtain⟨k,j,n,l,nm,N⟩:=q
 obtain⟨_,hj,hn,_,_,_⟩:=hw
 simp only at hj hn hT⊢
 by_cases h:1≤k∧k≤9
 ·rcases kinds h with rfl | rfl | rfl | rfl | rfl | rfl | rfl | rfl | rfl
  ·rw[qcheck_same (q:=⟨1,j,n,l,nm,N⟩) (p:=(⟨1,j,zNode,zLease,⟨#[]⟩,0⟩:ReqD)) (e:=jobE V8 j) h (by simp[ownQ]) (by simp[partE])];exact qcheck1_is j n l nm N hj w (hT ⟨by decide,by decide⟩)
  ·rw[qcheck_same (q:=⟨2,j,n,l,nm,N⟩) (p:=(⟨2,zJob,n,zLease,⟨#[]⟩,0⟩:ReqD)) (e:=nodeE V8 n) h (by simp[ownQ]) (by simp[partE])];exact qcheck2_is j n l nm N hn w (hT ⟨by decide,by decide⟩)
  ·rw[qcheck_same (q:=⟨3,j,n,l,nm,N⟩) (p:=(⟨3,zJob,zNode,zLease,nm,0⟩:ReqD)) (e:=(if isName V8 nm then 0 else 4)) h (by simp[ownQ]) (by simp[partE])];exact qcheck3_is j n l nm N w (hT ⟨by decide,by decide⟩)
  ·rw[qcheck_same (q:=⟨4,j,n,l,nm,N⟩) (p:=(⟨4,zJob,zNode,zLease,nm,0⟩:ReqD)) (e:=(if isName V8 nm then 0 else 4)) h (by simp[ownQ]) (by simp[partE])];exact qcheck4_is j n l nm N w (hT ⟨by decide,by decide⟩)
  ·rw[qcheck_same (q:=⟨5,j,n,l,nm,N⟩) (p:=(⟨5,zJob,zNode,l,⟨#[]⟩,0⟩:ReqD)) (e:=leaseCE V8 l) h (by simp[ownQ]) (by simp[partE])];exact qcheck5_is j n l nm N w (hT ⟨by decide,by decide⟩)
  ·rw[qcheck_same (q:=⟨6,j,n,l,nm,N⟩) (p:=(⟨6,zJob,zNode,zLease,nm,0⟩:ReqD)) (e:=(if isName V8 nm then 0 else 4)) h (by simp[ownQ]) (by simp[partE])];exact qcheck6_is j n l nm N w (hT ⟨by decide,by decide⟩)
  ·rw[qcheck_same (q:=⟨7,j,n,l,nm,N⟩) (p:=(⟨7,zJob,zNode,zLease,⟨#[]⟩,N⟩:ReqD)) (e:=(if inR N 0 1099511627776 then 0 else 1)) h (by simp[ownQ]) (by simp[partE])];exact qcheck7_is j n l nm N w
  ·rw[qcheck_same (q:=⟨8,j,n,l,nm,N⟩) (p:=(⟨8,zJob,zNode,zLease,⟨#[]⟩,0⟩:ReqD)) (e:=0) h (by simp[ownQ,kindQ]) (by simp[partE])];exact qcheck8_is j n l nm N w
  ·rw[qcheck_same (q:=⟨9,j,n,l,nm,N⟩) (p:=(⟨9,zJob,zNode,zLease,⟨#[]⟩,0⟩:ReqD)) (e:=0) h (by simp[ownQ,kindQ]) (by simp[partE])];exact qcheck9_is j n l nm N w
 ·rw[qcheck_arg V8 (q:=⟨k,j,n,l,nm,N⟩) h];exact qcheck0_is k h j n l nm N w
end Go.Proofs.YtiekgafopalfmaaGreatDoor
namespace Go.Proofs.YtiekgafopalfmaaGreatDoor
open Go.ChangeShapes Go.WideShapes Go.RowKit Go.Joins
section
variable {H : Type} {enc : TypeId × Value → H} {w : World} {base : Nat} {spare : Nat → Bool} {held : Bool}
theorem tread_job {fuel:Nat}{c0 c1 c2 c3 c4:Value}{y:DataW H×List MemPlace} (h:DataW.trod enc Tryz.prog w base spare held fuel 38 [c0,c1,c2,c3,c4]=some y) :
  ∃x:JobD,c0 = .string x.name∧c1 = .int .i64 x.prio∧c2 = .int .i64 x.need∧c3 = .int .i64 x.tries∧c4 = .string x.tag∧y.2 = []∧wJob x:=by
 obtain⟨xs,n,_,rfl,_,hlen,hg⟩:=DataW.trod_struct Tryz.underlying38 h
 match xs,hlen with
 | [y0,y1,y2,y3,y4],_ =>
  have t0:=hg 0 _ rfl
  have t1:=hg 1 _ rfl
  have t2:=hg 2 _ rfl
  have t3:=hg 3 _ rfl
  have t4:=hg 4 _ rfl
  simp at t0 t1 t2 t3 t4
  rw[show Tryz.prog.cellsOf 9=1 from by kernel_rfl] at t0 t4
  rw[show Tryz.prog.cellsOf 3=1 from by kernel_rfl] at t1 t2 t3
  simp only[List.take_succ_cons,List.take_zero] at t0 t1 t2 t3 t4
  obtain⟨p0,e0,rfl,u0⟩:=DataW.trod_string Tryz.underlying9 t0
  obtain⟨p1,e1,rfl,u1⟩:=DataW.trod_int Tryz.underlying3 t1
  obtain⟨p2,e2,rfl,u2⟩:=DataW.trod_int Tryz.underlying3 t2
  obtain⟨p3,e3,rfl,u3⟩:=DataW.trod_int Tryz.underlying3 t3
  obtain⟨p4,e4,rfl,u4⟩:=DataW.trod_string Tryz.underlying9 t4
  simp only[List.cons.injEq,and_true] at e0 e1 e2 e3 e4
  exact⟨⟨p0,p1,p2,p3,p4⟩,e0,e1,e2,e3,e4,by simp,u0,u1,u2,u3,u4⟩
theorem tread_node {fuel:Nat}{c0 c1 c2:Value}{y:DataW H×List MemPlace} (h:DataW.trod enc Tryz.prog w base spare held fuel 40 [c0,c1,c2]=some y) :
  ∃x:NodeD,c0 = .string x.name∧c1 = .int .i64 x.room∧c2 = .string x.zone∧y.2 = []∧wNode x:=by
 obtain⟨xs,n,_,rfl,_,hlen,hg⟩:=DataW.trod_struct Tryz.underlying40 h
 match xs,hlen with
 | [y0,y1,y2],_ =>
  have t0:=hg 0 _ rfl
  have t1:=hg 1 _ rfl
  have t2:=hg 2 _ rfl
  simp at t0 t1 t2
  rw[show Tryz.prog.cellsOf 9=1 from by kernel_rfl] at t0 t2
  rw[show Tryz.prog.cellsOf 3=1 from by kernel_rfl] at t1
  simp only[List.take_succ_cons,List.take_zero] at t0 t1 t2
  obtain⟨p0,e0,rfl,u0⟩:=DataW.trod_string Tryz.underlying9 t0
  obtain⟨p1,e1,rfl,u1⟩:=DataW.trod_int Tryz.underlying3 t1
  obtain⟨p2,e2,rfl,u2⟩:=DataW.trod_string Tryz.underlying9 t2
  simp only[List.cons.injEq,and_true] at e0 e1 e2
  exact⟨⟨p0,p1,p2⟩,e0,e1,e2,by simp,u0,u1,u2⟩
theorem tread_lease {fuel:Nat}{c0 c1 c2:Value}{y:DataW H×List MemPlace} (h:DataW.trod enc Tryz.prog w base spare held fuel 42 [c0,c1,c2]=some y) :
  ∃x:LeaseD,c0 = .string x.job∧c1 = .string x.node∧c2 = .int .i64 x.til∧y.2 = []∧wLease x:=by
 obtain⟨xs,n,_,rfl,_,hlen,hg⟩:=DataW.trod_struct Tryz.underlying42 h
 match xs,hlen with
 | [y0,y1,y2],_ =>
  have t0:=hg 0 _ rfl
  have t1:=hg 1 _ rfl
  have t2:=hg 2 _ rfl
  simp at t0 t1 t2
  rw[show Tryz.prog.cellsOf 9=1 from by kernel_rfl] at t0 t1
  rw[show Tryz.prog.cellsOf 3=1 from by kernel_rfl] at t2
  simp only[List.take_succ_cons,List.take_zero] at t0 t1 t2
  obtain⟨p0,e0,rfl,u0⟩:=DataW.trod_string Tryz.underlying9 t0
  obtain⟨p1,e1,rfl,u1⟩:=DataW.trod_string Tryz.underlying9 t1
  obtain⟨p2,e2,rfl,u2⟩:=DataW.trod_int Tryz.underlying3 t2
  simp only[List.cons.injEq,and_true] at e0 e1 e2
  exact⟨⟨p0,p1,p2⟩,e0,e1,e2,by simp,u0,u1,u2⟩
theorem list14 {α:Type}{l:List α} (h:l.length=14):∃c0 c1 c2 c3 c4 c5 c6 c7 c8 c9 c10 c11 c12 c13,l = [c0,c1,c2,c3,c4,c5,c6,c7,c8,c9,c10,c11,c12,c13]:=by
 match l,h with
 | [c0,c1,c2,c3,c4,c5,c6,c7,c8,c9,c10,c11,c12,c13],_=>exact⟨c0,c1,c2,c3,c4,c5,c6,c7,c8,c9,c10,c11,c12,c13,rfl⟩
theorem tread_req {fuel:Nat}{cs:List Value}{y:DataW H×List MemPlace} (h:DataW.trod enc Tryz.prog w base spare held fuel 44 cs=some y) :
  ∃q:ReqD,cs = [.int .i64 q.kind,.string q.job.name,.int .i64 q.job.prio,.int .i64 q.job.need,.int .i64 q.job.tries,.string q.job.tag,.string q.node.name,.int .i64 q.node.room,.string q.node.zone,.string q.lease.job,.string q.lease.node,.int .i64 q.lease.til,.string q.name,.int .i64 q.n]∧y.2 = []∧wReq q:=by
 obtain⟨xs,n,_,rfl,hc,hlen,hg⟩:=DataW.trod_struct Tryz.underlying44 h
 obtain⟨c0,c1,c2,c3,c4,c5,c6,c7,c8,c9,c10,c11,c12,c13,rfl⟩:=list14 (hc.trans (show Tryz.prog.cellsOf 44=14 from by kernel_rfl))
 match xs,hlen with
 | [y0,y1,y2,y3,y4,y5],_ =>
  have t0:=hg 0 _ rfl
  have t1:=hg 1 _ rfl
  have t2:=hg 2 _ rfl
  have t3:=hg 3 _ rfl
  have t4:=hg 4 _ rfl
  have t5:=hg 5 _ rfl
  simp at t0 t1 t2 t3 t4 t5
  rw[show Tryz.prog.cellsOf 9=1 from by kernel_rfl] at t4
  rw[show Tryz.prog.cellsOf 3=1 from by kernel_rfl] at t0 t5
  rw[show Tryz.prog.cellsOf 38=5 from by kernel_rfl] at t1
  rw[show Tryz.prog.cellsOf 40=3 from by kernel_rfl] at t2
  rw[show Tryz.prog.cellsOf 42=3 from by kernel_rfl] at t3
  simp only[List.take_succ_cons,List.take_zero] at t0 t1 t2 t3 t4 t5
  obtain⟨p0,e0,rfl,u0⟩:=DataW.trod_int Tryz.underlying3 t0
  obtain⟨j,j0,j1,j2,j3,j4,jp,jw⟩:=tread_job t1
  obtain⟨nd,n0,n1,n2,np,nw⟩:=tread_node t2
  obtain⟨l,l0,l1,l2,lp,lw⟩:=tread_lease t3
  obtain⟨p4,e4,rfl,u4⟩:=DataW.trod_string Tryz.underlying9 t4
  obtain⟨p5,e5,rfl,u5⟩:=DataW.trod_int Tryz.underlying3 t5
  simp only[List.cons.injEq,and_true] at e0 e4 e5
  subst e0 j0 j1 j2 j3 j4 n0 n1 n2 l0 l1 l2 e4 e5
  exact⟨⟨p0,j,nd,l,p4,p5⟩,rfl,by simp[jp,np,lp],u0,jw,nw,lw,u4,u5⟩
end
end Go.Proofs.YtiekgafopalfmaaGreatDoor
