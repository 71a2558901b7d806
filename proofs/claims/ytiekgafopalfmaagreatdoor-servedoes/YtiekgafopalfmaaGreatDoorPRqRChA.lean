import Derived.Test.YtiekgafopalfmaaGreatDoorPPkRq2
import Derived.Test.YtiekgafopalfmaaGreatDoorPRqPut
import Derived.Test.YtiekgafopalfmaaGreatDoorPPkStR
import Derived.Test.YtiekgafopalfmaaGreatDoorPDlRGone
import Derived.Deep.RegionLaw
set_option maxRecDepth 100000
set_option maxHeartbeats 8000000
namespace Go.Proofs.YtiekgafopalfmaaGreatDoor
open Go.RowKit Go.Lib
theorem rqcheck1_is (j:JobD) (n:NodeD) (l:LeaseD) (nm:ByteArray) (N:Int) (w:World) :
  Calls Tryz.prog 53 #[.agg #[.int .i64 1,.string j.name,.int .i64 j.prio,.int .i64 j.need,.int .i64 j.tries,.string j.tag,.string n.name,.int .i64 n.room,.string n.zone,.string l.job,.string l.node,.int .i64 l.til,.string nm,.int .i64 N]] w fun e w'=>e = .returned (.int .i64 ((if sameQ (⟨1,j,zNode,zLease,⟨#[]⟩,0⟩:ReqD) (⟨1,j,n,l,nm,N⟩:ReqD) then jobE V8 j else 4:Nat):Int))∧Below w.heap.size w w':=by
 have HO:=Lib.hid outside_is
 have HA:Hid (∀V:World,Calls Tryz.prog 17 #[.int .i64 1,.int .i64 1,.int .i64 9] V fun e w'=>e = .returned (.bool false)∧V=w'):=fun V=>HO.out 1 1 9 V
 have HQ:∀w:World,(binOp BinOp.neq 44 (.agg #[.int .i64 1,.string j.name,.int .i64 j.prio,.int .i64 j.need,.int .i64 j.tries,.string j.tag,.string ⟨#[]⟩,.int .i64 0,.string ⟨#[]⟩,.string ⟨#[]⟩,.string ⟨#[]⟩,.int .i64 0,.string ⟨#[]⟩,.int .i64 0]) (.agg #[.int .i64 1,.string j.name,.int .i64 j.prio,.int .i64 j.need,.int .i64 j.tries,.string j.tag,.string n.name,.int .i64 n.room,.string n.zone,.string l.job,.string l.node,.int .i64 l.til,.string nm,.int .i64 N])).run Tryz.prog w = .ok (.bool (!sameQ (⟨1,j,zNode,zLease,⟨#[]⟩,0⟩:ReqD) (⟨1,j,n,l,nm,N⟩:ReqD))) w:=fun w=>rq_neq (⟨1,j,zNode,zLease,⟨#[]⟩,0⟩:ReqD) (⟨1,j,n,l,nm,N⟩:ReqD) w
 obtain⟨c,hc⟩:∃c,sameQ (⟨1,j,zNode,zLease,⟨#[]⟩,0⟩:ReqD) (⟨1,j,n,l,nm,N⟩:ReqD)=c:=⟨_,rfl⟩
 rw[hc] at HQ⊢
 clear hc
 have B2:Below w.heap.size w ((w.alloc (.cells #[.int .i64 1,.string j.name,.int .i64 j.prio,.int .i64 j.need,.int .i64 j.tries,.string j.tag,.string n.name,.int .i64 n.room,.string n.zone,.string l.job,.string l.node,.int .i64 l.til,.string nm,.int .i64 N] 44)).alloc (.cells #[.int .i64 1,.string ⟨#[]⟩,.int .i64 0,.int .i64 0,.int .i64 0,.string ⟨#[]⟩,.string ⟨#[]⟩,.int .i64 0,.string ⟨#[]⟩,.string ⟨#[]⟩,.string ⟨#[]⟩,.int .i64 0,.string ⟨#[]⟩,.int .i64 0] 44)):=below_trans (below_one _ _) (below_one _ _) (by simp)
 have B2:=Lib.hid B2
 have oB:=objAt_new w #[.int .i64 1,.string j.name,.int .i64 j.prio,.int .i64 j.need,.int .i64 j.tries,.string j.tag,.string n.name,.int .i64 n.room,.string n.zone,.string l.job,.string l.node,.int .i64 l.til,.string nm,.int .i64 N] 44
 have oO:=objAt_new (w.alloc (.cells #[.int .i64 1,.string j.name,.int .i64 j.prio,.int .i64 j.need,.int .i64 j.tries,.string j.tag,.string n.name,.int .i64 n.room,.string n.zone,.string l.job,.string l.node,.int .i64 l.til,.string nm,.int .i64 N] 44)) #[.int .i64 1,.string ⟨#[]⟩,.int .i64 0,.int .i64 0,.int .i64 0,.string ⟨#[]⟩,.string ⟨#[]⟩,.int .i64 0,.string ⟨#[]⟩,.string ⟨#[]⟩,.string ⟨#[]⟩,.int .i64 0,.string ⟨#[]⟩,.int .i64 0] 44
 rw[World.size_alloc] at oO
 have OB:=objAt_next oB (below_one _ (.cells #[.int .i64 1,.string ⟨#[]⟩,.int .i64 0,.int .i64 0,.int .i64 0,.string ⟨#[]⟩,.string ⟨#[]⟩,.int .i64 0,.string ⟨#[]⟩,.string ⟨#[]⟩,.string ⟨#[]⟩,.int .i64 0,.string ⟨#[]⟩,.int .i64 0] 44))
 have HJ:=rjobCheck_is j
 obtain⟨z,hz⟩:∃z:Nat,jobE V8 j=z:=⟨_,rfl⟩
 rw[hz] at HJ⊢
 have HJ:=Lib.hid HJ
 have OB:=Lib.hid OB
 have OO:=Lib.hid oO
 clear oB oO hz HO
 go_enter Tryz.func53,Tryz.ntmps53
 go_wp2_with fail
 refine(HA.out _).mono ?_
 rintro e w1 ⟨rfl,rfl⟩
 go_upto_region 7 with fail
 clear HA
 generalize (w.alloc (.cells #[.int .i64 1,.string j.name,.int .i64 j.prio,.int .i64 j.need,.int .i64 j.tries,.string j.tag,.string n.name,.int .i64 n.room,.string n.zone,.string l.job,.string l.node,.int .i64 l.til,.string nm,.int .i64 N] 44)).alloc (.cells #[.int .i64 1,.string ⟨#[]⟩,.int .i64 0,.int .i64 0,.int .i64 0,.string ⟨#[]⟩,.string ⟨#[]⟩,.int .i64 0,.string ⟨#[]⟩,.string ⟨#[]⟩,.string ⟨#[]⟩,.int .i64 0,.string ⟨#[]⟩,.int .i64 0] 44)=V at OB OO B2⊢
 have k0:=objAt_cell OB.out 0 rfl
 have k1:=objAt_cell OB.out 1 rfl
 have k2:=objAt_cell OB.out 2 rfl
 have k3:=objAt_cell OB.out 3 rfl
 have k4:=objAt_cell OB.out 4 rfl
 have k5:=objAt_cell OB.out 5 rfl
 have k6:=objAt_cell OB.out 6 rfl
 have k7:=objAt_cell OB.out 7 rfl
 have k8:=objAt_cell OB.out 8 rfl
 have k9:=objAt_cell OB.out 9 rfl
 have k10:=objAt_cell OB.out 10 rfl
 have k11:=objAt_cell OB.out 11 rfl
 have k12:=objAt_cell OB.out 12 rfl
 have k13:=objAt_cell OB.out 13 rfl
 have zl:=objAt_lt OO.out
 go_region_law (first
  | (go_simp;go_at_call 49;refine(HJ.out _).mono ?_;rintro e x1 ⟨rfl,b1⟩;have ob1:=objAt_next (w:=V.drew) (objAt_drew OB.out) b1;have oo1:=objAt_next (w:=V.drew) (objAt_drew OO.out) b1;have BB:=Lib.hid b1;have OB1:=Lib.hid ob1;have OO1:=Lib.hid oo1;have q0:=objAt_cell ob1 0 rfl;have q1:=objAt_cell ob1 1 rfl;have q2:=objAt_cell ob1 2 rfl;have q3:=objAt_cell ob1 3 rfl;have q4:=objAt_cell ob1 4 rfl;have q5:=objAt_cell ob1 5 rfl;have q6:=objAt_cell ob1 6 rfl;have q7:=objAt_cell ob1 7 rfl;have q8:=objAt_cell ob1 8 rfl;have q9:=objAt_cell ob1 9 rfl;have q10:=objAt_cell ob1 10 rfl;have q11:=objAt_cell ob1 11 rfl;have q12:=objAt_cell ob1 12 rfl;have q13:=objAt_cell ob1 13 rfl;have f1:=objAt_free oo1 1;have o1:=objAt_cell oo1 1 rfl;have f2:=objAt_free oo1 2;have o2:=objAt_cell oo1 2 rfl;have f3:=objAt_free oo1 3;have o3:=objAt_cell oo1 3 rfl;have f4:=objAt_free oo1 4;have o4:=objAt_cell oo1 4 rfl;have f5:=objAt_free oo1 5;have o5:=objAt_cell oo1 5 rfl;have zl1:=objAt_lt oo1;clear ob1 oo1 b1))
 all_goals
  have hB:=below_trans B2.out.drew BB.out B2.out.size
  have O1:ObjAt (w.heap.size+1) #[.int .i64 1,.string j.name,.int .i64 0,.int .i64 0,.int .i64 0,.string ⟨#[]⟩,.string ⟨#[]⟩,.int .i64 0,.string ⟨#[]⟩,.string ⟨#[]⟩,.string ⟨#[]⟩,.int .i64 0,.string ⟨#[]⟩,.int .i64 0] 44 _:=objAt_set OO1.out 1 (.string j.name)
  have P1:=objAt_other OB1.out (c:=w.heap.size+1) (by omega) 1 (.string j.name)
  have hB:=hB.setCell (p:=⟨w.heap.size+1,1,none⟩) (by simp) (.string j.name)
  have O2:ObjAt (w.heap.size+1) #[.int .i64 1,.string j.name,.int .i64 j.prio,.int .i64 0,.int .i64 0,.string ⟨#[]⟩,.string ⟨#[]⟩,.int .i64 0,.string ⟨#[]⟩,.string ⟨#[]⟩,.string ⟨#[]⟩,.int .i64 0,.string ⟨#[]⟩,.int .i64 0] 44 _:=objAt_set O1 2 (.int .i64 j.prio)
  have P2:=objAt_other P1 (c:=w.heap.size+1) (by omega) 2 (.int .i64 j.prio)
  have hB:=hB.setCell (p:=⟨w.heap.size+1,2,none⟩) (by simp) (.int .i64 j.prio)
  have O3:ObjAt (w.heap.size+1) #[.int .i64 1,.string j.name,.int .i64 j.prio,.int .i64 j.need,.int .i64 0,.string ⟨#[]⟩,.string ⟨#[]⟩,.int .i64 0,.string ⟨#[]⟩,.string ⟨#[]⟩,.string ⟨#[]⟩,.int .i64 0,.string ⟨#[]⟩,.int .i64 0] 44 _:=objAt_set O2 3 (.int .i64 j.need)
  have P3:=objAt_other P2 (c:=w.heap.size+1) (by omega) 3 (.int .i64 j.need)
  have hB:=hB.setCell (p:=⟨w.heap.size+1,3,none⟩) (by simp) (.int .i64 j.need)
  have O4:ObjAt (w.heap.size+1) #[.int .i64 1,.string j.name,.int .i64 j.prio,.int .i64 j.need,.int .i64 j.tries,.string ⟨#[]⟩,.string ⟨#[]⟩,.int .i64 0,.string ⟨#[]⟩,.string ⟨#[]⟩,.string ⟨#[]⟩,.int .i64 0,.string ⟨#[]⟩,.int .i64 0] 44 _:=objAt_set O3 4 (.int .i64 j.tries)
  have P4:=objAt_other P3 (c:=w.heap.size+1) (by omega) 4 (.int .i64 j.tries)
  have hB:=hB.setCell (p:=⟨w.heap.size+1,4,none⟩) (by simp) (.int .i64 j.tries)
  have O5:ObjAt (w.heap.size+1) #[.int .i64 1,.string j.name,.int .i64 j.prio,.int .i64 j.need,.int .i64 j.tries,.string j.tag,.string ⟨#[]⟩,.int .i64 0,.string ⟨#[]⟩,.string ⟨#[]⟩,.string ⟨#[]⟩,.int .i64 0,.string ⟨#[]⟩,.int .i64 0] 44 _:=objAt_set O4 5 (.string j.tag)
  have P5:=objAt_other P4 (c:=w.heap.size+1) (by omega) 5 (.string j.tag)
  have hB:=hB.setCell (p:=⟨w.heap.size+1,5,none⟩) (by simp) (.string j.tag)
  clear f1 o1 f2 o2 f3 o3 f4 o4 f5 o5 q0 q1 q2 q3 q4 q5 q6 q7 q8 q9 q10 q11 q12 q13 k0 k1 k2 k3 k4 k5 k6 k7 k8 k9 k10 k11 k12 k13
  have BF:=Lib.hid hB
  have OF:=Lib.hid O5
  have PF:=Lib.hid P5
  clear hB zl zl1 O1 P1 O2 P2 O3 P3 O4 P4 O5 P5
  go_upto_region 22 with fail
  generalize (((((x1.setCell ⟨w.heap.size+1,1,none⟩ (.string j.name)).setCell ⟨w.heap.size+1,2,none⟩ (.int .i64 j.prio)).setCell ⟨w.heap.size+1,3,none⟩ (.int .i64 j.need)).setCell ⟨w.heap.size+1,4,none⟩ (.int .i64 j.tries)).setCell ⟨w.heap.size+1,5,none⟩ (.string j.tag))=V2 at BF OF PF⊢
  have t0:=objAt_cell OF.out 0 rfl
  have y0:=objAt_cell PF.out 0 rfl
  have t1:=objAt_cell OF.out 1 rfl
  have y1:=objAt_cell PF.out 1 rfl
  have t2:=objAt_cell OF.out 2 rfl
  have y2:=objAt_cell PF.out 2 rfl
  have t3:=objAt_cell OF.out 3 rfl
  have y3:=objAt_cell PF.out 3 rfl
  have t4:=objAt_cell OF.out 4 rfl
  have y4:=objAt_cell PF.out 4 rfl
  have t5:=objAt_cell OF.out 5 rfl
  have y5:=objAt_cell PF.out 5 rfl
  have t6:=objAt_cell OF.out 6 rfl
  have y6:=objAt_cell PF.out 6 rfl
  have t7:=objAt_cell OF.out 7 rfl
  have y7:=objAt_cell PF.out 7 rfl
  have t8:=objAt_cell OF.out 8 rfl
  have y8:=objAt_cell PF.out 8 rfl
  have t9:=objAt_cell OF.out 9 rfl
  have y9:=objAt_cell PF.out 9 rfl
  have t10:=objAt_cell OF.out 10 rfl
  have y10:=objAt_cell PF.out 10 rfl
  have t11:=objAt_cell OF.out 11 rfl
  have y11:=objAt_cell PF.out 11 rfl
  have t12:=objAt_cell OF.out 12 rfl
  have y12:=objAt_cell PF.out 12 rfl
  have t13:=objAt_cell OF.out 13 rfl
  have y13:=objAt_cell PF.out 13 rfl
  have zl2:=objAt_lt OF.out
  cases c with
  | false =>
   go_wp2
   go_ret
   exact⟨rfl,BF.out⟩
  | true =>
   go_wp2
   go_ret
   exact⟨rfl,BF.out⟩
theorem rqcheck2_is (j:JobD) (n:NodeD) (l:LeaseD) (nm:ByteArray) (N:Int) (w:World) :
  Calls Tryz.prog 53 #[.agg #[.int .i64 2,.string j.name,.int .i64 j.prio,.int .i64 j.need,.int .i64 j.tries,.string j.tag,.string n.name,.int .i64 n.room,.string n.zone,.string l.job,.string l.node,.int .i64 l.til,.string nm,.int .i64 N]] w fun e w'=>e = .returned (.int .i64 ((if sameQ (⟨2,zJob,n,zLease,⟨#[]⟩,0⟩:ReqD) (⟨2,j,n,l,nm,N⟩:ReqD) then nodeE V8 n else 4:Nat):Int))∧Below w.heap.size w w':=by
 have HO:=Lib.hid outside_is
 have HA:Hid (∀V:World,Calls Tryz.prog 17 #[.int .i64 2,.int .i64 1,.int .i64 9] V fun e w'=>e = .returned (.bool false)∧V=w'):=fun V=>HO.out 2 1 9 V
 have HQ:∀w:World,(binOp BinOp.neq 44 (.agg #[.int .i64 2,.string ⟨#[]⟩,.int .i64 0,.int .i64 0,.int .i64 0,.string ⟨#[]⟩,.string n.name,.int .i64 n.room,.string n.zone,.string ⟨#[]⟩,.string ⟨#[]⟩,.int .i64 0,.string ⟨#[]⟩,.int .i64 0]) (.agg #[.int .i64 2,.string j.name,.int .i64 j.prio,.int .i64 j.need,.int .i64 j.tries,.string j.tag,.string n.name,.int .i64 n.room,.string n.zone,.string l.job,.string l.node,.int .i64 l.til,.string nm,.int .i64 N])).run Tryz.prog w = .ok (.bool (!sameQ (⟨2,zJob,n,zLease,⟨#[]⟩,0⟩:ReqD) (⟨2,j,n,l,nm,N⟩:ReqD))) w:=fun w=>rq_neq (⟨2,zJob,n,zLease,⟨#[]⟩,0⟩:ReqD) (⟨2,j,n,l,nm,N⟩:ReqD) w
 obtain⟨c,hc⟩:∃c,sameQ (⟨2,zJob,n,zLease,⟨#[]⟩,0⟩:ReqD) (⟨2,j,n,l,nm,N⟩:ReqD)=c:=⟨_,rfl⟩
 rw[hc] at HQ⊢
 clear hc
 have B2:Below w.heap.size w ((w.alloc (.cells #[.int .i64 2,.string j.name,.int .i64 j.prio,.int .i64 j.need,.int .i64 j.tries,.string j.tag,.string n.name,.int .i64 n.room,.string n.zone,.string l.job,.string l.node,.int .i64 l.til,.string nm,.int .i64 N] 44)).alloc (.cells #[.int .i64 2,.string ⟨#[]⟩,.int .i64 0,.int .i64 0,.int .i64 0,.string ⟨#[]⟩,.string ⟨#[]⟩,.int .i64 0,.string ⟨#[]⟩,.string ⟨#[]⟩,.string ⟨#[]⟩,.int .i64 0,.string ⟨#[]⟩,.int .i64 0] 44)):=below_trans (below_one _ _) (below_one _ _) (by simp)
 have B2:=Lib.hid B2
 have oB:=objAt_new w #[.int .i64 2,.string j.name,.int .i64 j.prio,.int .i64 j.need,.int .i64 j.tries,.string j.tag,.string n.name,.int .i64 n.room,.string n.zone,.string l.job,.string l.node,.int .i64 l.til,.string nm,.int .i64 N] 44
 have oO:=objAt_new (w.alloc (.cells #[.int .i64 2,.string j.name,.int .i64 j.prio,.int .i64 j.need,.int .i64 j.tries,.string j.tag,.string n.name,.int .i64 n.room,.string n.zone,.string l.job,.string l.node,.int .i64 l.til,.string nm,.int .i64 N] 44)) #[.int .i64 2,.string ⟨#[]⟩,.int .i64 0,.int .i64 0,.int .i64 0,.string ⟨#[]⟩,.string ⟨#[]⟩,.int .i64 0,.string ⟨#[]⟩,.string ⟨#[]⟩,.string ⟨#[]⟩,.int .i64 0,.string ⟨#[]⟩,.int .i64 0] 44
 rw[World.size_alloc] at oO
 have OB:=objAt_next oB (below_one _ (.cells #[.int .i64 2,.string ⟨#[]⟩,.int .i64 0,.int .i64 0,.int .i64 0,.string ⟨#[]⟩,.string ⟨#[]⟩,.int .i64 0,.string ⟨#[]⟩,.string ⟨#[]⟩,.string ⟨#[]⟩,.int .i64 0,.string ⟨#[]⟩,.int .i64 0] 44))
 have HJ:=rnodeCheck_is n
 obtain⟨z,hz⟩:∃z:Nat,nodeE V8 n=z:=⟨_,rfl⟩
 rw[hz] at HJ⊢
 have HJ:=Lib.hid HJ
 have OB:=Lib.hid OB
 have OO:=Lib.hid oO
 clear oB oO hz HO
 go_enter Tryz.func53,Tryz.ntmps53
 go_wp2_with fail
 refine(HA.out _).mono ?_
 rintro e w1 ⟨rfl,rfl⟩
 go_upto_region 9 with fail
 clear HA
 generalize (w.alloc (.cells #[.int .i64 2,.string j.name,.int .i64 j.prio,.int .i64 j.need,.int .i64 j.tries,.string j.tag,.string n.name,.int .i64 n.room,.string n.zone,.string l.job,.string l.node,.int .i64 l.til,.string nm,.int .i64 N] 44)).alloc (.cells #[.int .i64 2,.string ⟨#[]⟩,.int .i64 0,.int .i64 0,.int .i64 0,.string ⟨#[]⟩,.string ⟨#[]⟩,.int .i64 0,.string ⟨#[]⟩,.string ⟨#[]⟩,.string ⟨#[]⟩,.int .i64 0,.string ⟨#[]⟩,.int .i64 0] 44)=V at OB OO B2⊢
 have k0:=objAt_cell OB.out 0 rfl
 have k1:=objAt_cell OB.out 1 rfl
 have k2:=objAt_cell OB.out 2 rfl
 have k3:=objAt_cell OB.out 3 rfl
 have k4:=objAt_cell OB.out 4 rfl
 have k5:=objAt_cell OB.out 5 rfl
 have k6:=objAt_cell OB.out 6 rfl
 have k7:=objAt_cell OB.out 7 rfl
 have k8:=objAt_cell OB.out 8 rfl
 have k9:=objAt_cell OB.out 9 rfl
 have k10:=objAt_cell OB.out 10 rfl
 have k11:=objAt_cell OB.out 11 rfl
 have k12:=objAt_cell OB.out 12 rfl
 have k13:=objAt_cell OB.out 13 rfl
 have zl:=objAt_lt OO.out
 go_region_law (first
  | (go_simp;go_at_call 50;refine(HJ.out _).mono ?_;rintro e x1 ⟨rfl,b1⟩;have ob1:=objAt_next (w:=V.drew) (objAt_drew OB.out) b1;have oo1:=objAt_next (w:=V.drew) (objAt_drew OO.out) b1;have BB:=Lib.hid b1;have OB1:=Lib.hid ob1;have OO1:=Lib.hid oo1;have q0:=objAt_cell ob1 0 rfl;have q1:=objAt_cell ob1 1 rfl;have q2:=objAt_cell ob1 2 rfl;have q3:=objAt_cell ob1 3 rfl;have q4:=objAt_cell ob1 4 rfl;have q5:=objAt_cell ob1 5 rfl;have q6:=objAt_cell ob1 6 rfl;have q7:=objAt_cell ob1 7 rfl;have q8:=objAt_cell ob1 8 rfl;have q9:=objAt_cell ob1 9 rfl;have q10:=objAt_cell ob1 10 rfl;have q11:=objAt_cell ob1 11 rfl;have q12:=objAt_cell ob1 12 rfl;have q13:=objAt_cell ob1 13 rfl;have f6:=objAt_free oo1 6;have o6:=objAt_cell oo1 6 rfl;have f7:=objAt_free oo1 7;have o7:=objAt_cell oo1 7 rfl;have f8:=objAt_free oo1 8;have o8:=objAt_cell oo1 8 rfl;have zl1:=objAt_lt oo1;clear ob1 oo1 b1))
 all_goals
  have hB:=below_trans B2.out.drew BB.out B2.out.size
  have O6:ObjAt (w.heap.size+1) #[.int .i64 2,.string ⟨#[]⟩,.int .i64 0,.int .i64 0,.int .i64 0,.string ⟨#[]⟩,.string n.name,.int .i64 0,.string ⟨#[]⟩,.string ⟨#[]⟩,.string ⟨#[]⟩,.int .i64 0,.string ⟨#[]⟩,.int .i64 0] 44 _:=objAt_set OO1.out 6 (.string n.name)
  have P6:=objAt_other OB1.out (c:=w.heap.size+1) (by omega) 6 (.string n.name)
  have hB:=hB.setCell (p:=⟨w.heap.size+1,6,none⟩) (by simp) (.string n.name)
  have O7:ObjAt (w.heap.size+1) #[.int .i64 2,.string ⟨#[]⟩,.int .i64 0,.int .i64 0,.int .i64 0,.string ⟨#[]⟩,.string n.name,.int .i64 n.room,.string ⟨#[]⟩,.string ⟨#[]⟩,.string ⟨#[]⟩,.int .i64 0,.string ⟨#[]⟩,.int .i64 0] 44 _:=objAt_set O6 7 (.int .i64 n.room)
  have P7:=objAt_other P6 (c:=w.heap.size+1) (by omega) 7 (.int .i64 n.room)
  have hB:=hB.setCell (p:=⟨w.heap.size+1,7,none⟩) (by simp) (.int .i64 n.room)
  have O8:ObjAt (w.heap.size+1) #[.int .i64 2,.string ⟨#[]⟩,.int .i64 0,.int .i64 0,.int .i64 0,.string ⟨#[]⟩,.string n.name,.int .i64 n.room,.string n.zone,.string ⟨#[]⟩,.string ⟨#[]⟩,.int .i64 0,.string ⟨#[]⟩,.int .i64 0] 44 _:=objAt_set O7 8 (.string n.zone)
  have P8:=objAt_other P7 (c:=w.heap.size+1) (by omega) 8 (.string n.zone)
  have hB:=hB.setCell (p:=⟨w.heap.size+1,8,none⟩) (by simp) (.string n.zone)
  clear f6 o6 f7 o7 f8 o8 q0 q1 q2 q3 q4 q5 q6 q7 q8 q9 q10 q11 q12 q13 k0 k1 k2 k3 k4 k5 k6 k7 k8 k9 k10 k11 k12 k13
  have BF:=Lib.hid hB
  have OF:=Lib.hid O8
  have PF:=Lib.hid P8
  clear hB zl zl1 O6 P6 O7 P7 O8 P8
  go_upto_region 22 with fail
  generalize (((x1.setCell ⟨w.heap.size+1,6,none⟩ (.string n.name)).setCell ⟨w.heap.size+1,7,none⟩ (.int .i64 n.room)).setCell ⟨w.heap.size+1,8,none⟩ (.string n.zone))=V2 at BF OF PF⊢
  have t0:=objAt_cell OF.out 0 rfl
  have y0:=objAt_cell PF.out 0 rfl
  have t1:=objAt_cell OF.out 1 rfl
  have y1:=objAt_cell PF.out 1 rfl
  have t2:=objAt_cell OF.out 2 rfl
  have y2:=objAt_cell PF.out 2 rfl
  have t3:=objAt_cell OF.out 3 rfl
  have y3:=objAt_cell PF.out 3 rfl
  have t4:=objAt_cell OF.out 4 rfl
  have y4:=objAt_cell PF.out 4 rfl
  have t5:=objAt_cell OF.out 5 rfl
  have y5:=objAt_cell PF.out 5 rfl
  have t6:=objAt_cell OF.out 6 rfl
  have y6:=objAt_cell PF.out 6 rfl
  have t7:=objAt_cell OF.out 7 rfl
  have y7:=objAt_cell PF.out 7 rfl
  have t8:=objAt_cell OF.out 8 rfl
  have y8:=objAt_cell PF.out 8 rfl
  have t9:=objAt_cell OF.out 9 rfl
  have y9:=objAt_cell PF.out 9 rfl
  have t10:=objAt_cell OF.out 10 rfl
  have y10:=objAt_cell PF.out 10 rfl
  have t11:=objAt_cell OF.out 11 rfl
  have y11:=objAt_cell PF.out 11 rfl
  have t12:=objAt_cell OF.out 12 rfl
  have y12:=objAt_cell PF.out 12 rfl
  have t13:=objAt_cell OF.out 13 rfl
  have y13:=objAt_cell PF.out 13 rfl
  have zl2:=objAt_lt OF.out
  cases c with
  | false =>
   go_wp2
   go_ret
   exact⟨rfl,BF.out⟩
  | true =>
   go_wp2
   go_ret
   exact⟨rfl,BF.out⟩
theorem rqcheck5_is (j:JobD) (n:NodeD) (l:LeaseD) (nm:ByteArray) (N:Int) (w:World) :
  Calls Tryz.prog 53 #[.agg #[.int .i64 5,.string j.name,.int .i64 j.prio,.int .i64 j.need,.int .i64 j.tries,.string j.tag,.string n.name,.int .i64 n.room,.string n.zone,.string l.job,.string l.node,.int .i64 l.til,.string nm,.int .i64 N]] w fun e w'=>e = .returned (.int .i64 ((if sameQ (⟨5,zJob,zNode,l,⟨#[]⟩,0⟩:ReqD) (⟨5,j,n,l,nm,N⟩:ReqD) then leaseCE V8 l else 4:Nat):Int))∧Below w.heap.size w w':=by
 have HO:=Lib.hid outside_is
 have HA:Hid (∀V:World,Calls Tryz.prog 17 #[.int .i64 5,.int .i64 1,.int .i64 9] V fun e w'=>e = .returned (.bool false)∧V=w'):=fun V=>HO.out 5 1 9 V
 have HQ:∀w:World,(binOp BinOp.neq 44 (.agg #[.int .i64 5,.string ⟨#[]⟩,.int .i64 0,.int .i64 0,.int .i64 0,.string ⟨#[]⟩,.string ⟨#[]⟩,.int .i64 0,.string ⟨#[]⟩,.string l.job,.string l.node,.int .i64 l.til,.string ⟨#[]⟩,.int .i64 0]) (.agg #[.int .i64 5,.string j.name,.int .i64 j.prio,.int .i64 j.need,.int .i64 j.tries,.string j.tag,.string n.name,.int .i64 n.room,.string n.zone,.string l.job,.string l.node,.int .i64 l.til,.string nm,.int .i64 N])).run Tryz.prog w = .ok (.bool (!sameQ (⟨5,zJob,zNode,l,⟨#[]⟩,0⟩:ReqD) (⟨5,j,n,l,nm,N⟩:ReqD))) w:=fun w=>rq_neq (⟨5,zJob,zNode,l,⟨#[]⟩,0⟩:ReqD) (⟨5,j,n,l,nm,N⟩:ReqD) w
 obtain⟨c,hc⟩:∃c,sameQ (⟨5,zJob,zNode,l,⟨#[]⟩,0⟩:ReqD) (⟨5,j,n,l,nm,N⟩:ReqD)=c:=⟨_,rfl⟩
 rw[hc] at HQ⊢
 clear hc
 have B2:Below w.heap.size w ((w.alloc (.cells #[.int .i64 5,.string j.name,.int .i64 j.prio,.int .i64 j.need,.int .i64 j.tries,.string j.tag,.string n.name,.int .i64 n.room,.string n.zone,.string l.job,.string l.node,.int .i64 l.til,.string nm,.int .i64 N] 44)).alloc (.cells #[.int .i64 5,.string ⟨#[]⟩,.int .i64 0,.int .i64 0,.int .i64 0,.string ⟨#[]⟩,.string ⟨#[]⟩,.int .i64 0,.string ⟨#[]⟩,.string ⟨#[]⟩,.string ⟨#[]⟩,.int .i64 0,.string ⟨#[]⟩,.int .i64 0] 44)):=below_trans (below_one _ _) (below_one _ _) (by simp)
 have B2:=Lib.hid B2
 have oB:=objAt_new w #[.int .i64 5,.string j.name,.int .i64 j.prio,.int .i64 j.need,.int .i64 j.tries,.string j.tag,.string n.name,.int .i64 n.room,.string n.zone,.string l.job,.string l.node,.int .i64 l.til,.string nm,.int .i64 N] 44
 have oO:=objAt_new (w.alloc (.cells #[.int .i64 5,.string j.name,.int .i64 j.prio,.int .i64 j.need,.int .i64 j.tries,.string j.tag,.string n.name,.int .i64 n.room,.string n.zone,.string l.job,.string l.node,.int .i64 l.til,.string nm,.int .i64 N] 44)) #[.int .i64 5,.string ⟨#[]⟩,.int .i64 0,.int .i64 0,.int .i64 0,.string ⟨#[]⟩,.string ⟨#[]⟩,.int .i64 0,.string ⟨#[]⟩,.string ⟨#[]⟩,.string ⟨#[]⟩,.int .i64 0,.string ⟨#[]⟩,.int .i64 0] 44
 rw[World.size_alloc] at oO
 have OB:=objAt_next oB (below_one _ (.cells #[.int .i64 5,.string ⟨#[]⟩,.int .i64 0,.int .i64 0,.int .i64 0,.string ⟨#[]⟩,.string ⟨#[]⟩,.int .i64 0,.string ⟨#[]⟩,.string ⟨#[]⟩,.string ⟨#[]⟩,.int .i64 0,.string ⟨#[]⟩,.int .i64 0] 44))
 have HJ:=rleaseCheck_is l
 obtain⟨z,hz⟩:∃z:Nat,leaseCE V8 l=z:=⟨_,rfl⟩
 rw[hz] at HJ⊢
 have HJ:=Lib.hid HJ
 have OB:=Lib.hid OB
 have OO:=Lib.hid oO
 clear oB oO hz HO
 go_enter Tryz.func53,Tryz.ntmps53
 go_wp2_with fail
 refine(HA.out _).mono ?_
 rintro e w1 ⟨rfl,rfl⟩
 go_upto_region 17 with fail
 clear HA
 generalize (w.alloc (.cells #[.int .i64 5,.string j.name,.int .i64 j.prio,.int .i64 j.need,.int .i64 j.tries,.string j.tag,.string n.name,.int .i64 n.room,.string n.zone,.string l.job,.string l.node,.int .i64 l.til,.string nm,.int .i64 N] 44)).alloc (.cells #[.int .i64 5,.string ⟨#[]⟩,.int .i64 0,.int .i64 0,.int .i64 0,.string ⟨#[]⟩,.string ⟨#[]⟩,.int .i64 0,.string ⟨#[]⟩,.string ⟨#[]⟩,.string ⟨#[]⟩,.int .i64 0,.string ⟨#[]⟩,.int .i64 0] 44)=V at OB OO B2⊢
 have k0:=objAt_cell OB.out 0 rfl
 have k1:=objAt_cell OB.out 1 rfl
 have k2:=objAt_cell OB.out 2 rfl
 have k3:=objAt_cell OB.out 3 rfl
 have k4:=objAt_cell OB.out 4 rfl
 have k5:=objAt_cell OB.out 5 rfl
 have k6:=objAt_cell OB.out 6 rfl
 have k7:=objAt_cell OB.out 7 rfl
 have k8:=objAt_cell OB.out 8 rfl
 have k9:=objAt_cell OB.out 9 rfl
 have k10:=objAt_cell OB.out 10 rfl
 have k11:=objAt_cell OB.out 11 rfl
 have k12:=objAt_cell OB.out 12 rfl
 have k13:=objAt_cell OB.out 13 rfl
 have zl:=objAt_lt OO.out
 go_region_law (first
  | (go_simp;go_at_call 91;refine(HJ.out _).mono ?_;rintro e x1 ⟨rfl,b1⟩;have ob1:=objAt_next (w:=V.drew) (objAt_drew OB.out) b1;have oo1:=objAt_next (w:=V.drew) (objAt_drew OO.out) b1;have BB:=Lib.hid b1;have OB1:=Lib.hid ob1;have OO1:=Lib.hid oo1;have q0:=objAt_cell ob1 0 rfl;have q1:=objAt_cell ob1 1 rfl;have q2:=objAt_cell ob1 2 rfl;have q3:=objAt_cell ob1 3 rfl;have q4:=objAt_cell ob1 4 rfl;have q5:=objAt_cell ob1 5 rfl;have q6:=objAt_cell ob1 6 rfl;have q7:=objAt_cell ob1 7 rfl;have q8:=objAt_cell ob1 8 rfl;have q9:=objAt_cell ob1 9 rfl;have q10:=objAt_cell ob1 10 rfl;have q11:=objAt_cell ob1 11 rfl;have q12:=objAt_cell ob1 12 rfl;have q13:=objAt_cell ob1 13 rfl;have f9:=objAt_free oo1 9;have o9:=objAt_cell oo1 9 rfl;have f10:=objAt_free oo1 10;have o10:=objAt_cell oo1 10 rfl;have f11:=objAt_free oo1 11;have o11:=objAt_cell oo1 11 rfl;have zl1:=objAt_lt oo1;clear ob1 oo1 b1))
 all_goals
  have hB:=below_trans B2.out.drew BB.out B2.out.size
  have O9:ObjAt (w.heap.size+1) #[.int .i64 5,.string ⟨#[]⟩,.int .i64 0,.int .i64 0,.int .i64 0,.string ⟨#[]⟩,.string ⟨#[]⟩,.int .i64 0,.string ⟨#[]⟩,.string l.job,.string ⟨#[]⟩,.int .i64 0,.string ⟨#[]⟩,.int .i64 0] 44 _:=objAt_set OO1.out 9 (.string l.job)
  have P9:=objAt_other OB1.out (c:=w.heap.size+1) (by omega) 9 (.string l.job)
  have hB:=hB.setCell (p:=⟨w.heap.size+1,9,none⟩) (by simp) (.string l.job)
  have O10:ObjAt (w.heap.size+1) #[.int .i64 5,.string ⟨#[]⟩,.int .i64 0,.int .i64 0,.int .i64 0,.string ⟨#[]⟩,.string ⟨#[]⟩,.int .i64 0,.string ⟨#[]⟩,.string l.job,.string l.node,.int .i64 0,.string ⟨#[]⟩,.int .i64 0] 44 _:=objAt_set O9 10 (.string l.node)
  have P10:=objAt_other P9 (c:=w.heap.size+1) (by omega) 10 (.string l.node)
  have hB:=hB.setCell (p:=⟨w.heap.size+1,10,none⟩) (by simp) (.string l.node)
  have O11:ObjAt (w.heap.size+1) #[.int .i64 5,.string ⟨#[]⟩,.int .i64 0,.int .i64 0,.int .i64 0,.string ⟨#[]⟩,.string ⟨#[]⟩,.int .i64 0,.string ⟨#[]⟩,.string l.job,.string l.node,.int .i64 l.til,.string ⟨#[]⟩,.int .i64 0] 44 _:=objAt_set O10 11 (.int .i64 l.til)
  have P11:=objAt_other P10 (c:=w.heap.size+1) (by omega) 11 (.int .i64 l.til)
  have hB:=hB.setCell (p:=⟨w.heap.size+1,11,none⟩) (by simp) (.int .i64 l.til)
  clear f9 o9 f10 o10 f11 o11 q0 q1 q2 q3 q4 q5 q6 q7 q8 q9 q10 q11 q12 q13 k0 k1 k2 k3 k4 k5 k6 k7 k8 k9 k10 k11 k12 k13
  have BF:=Lib.hid hB
  have OF:=Lib.hid O11
  have PF:=Lib.hid P11
  clear hB zl zl1 O9 P9 O10 P10 O11 P11
  go_upto_region 22 with fail
  generalize (((x1.setCell ⟨w.heap.size+1,9,none⟩ (.string l.job)).setCell ⟨w.heap.size+1,10,none⟩ (.string l.node)).setCell ⟨w.heap.size+1,11,none⟩ (.int .i64 l.til))=V2 at BF OF PF⊢
  have t0:=objAt_cell OF.out 0 rfl
  have y0:=objAt_cell PF.out 0 rfl
  have t1:=objAt_cell OF.out 1 rfl
  have y1:=objAt_cell PF.out 1 rfl
  have t2:=objAt_cell OF.out 2 rfl
  have y2:=objAt_cell PF.out 2 rfl
  have t3:=objAt_cell OF.out 3 rfl
  have y3:=objAt_cell PF.out 3 rfl
  have t4:=objAt_cell OF.out 4 rfl
  have y4:=objAt_cell PF.out 4 rfl
  have t5:=objAt_cell OF.out 5 rfl
  have y5:=objAt_cell PF.out 5 rfl
  have t6:=objAt_cell OF.out 6 rfl
  have y6:=objAt_cell PF.out 6 rfl
  have t7:=objAt_cell OF.out 7 rfl
  have y7:=objAt_cell PF.out 7 rfl
  have t8:=objAt_cell OF.out 8 rfl
  have y8:=objAt_cell PF.out 8 rfl
  have t9:=objAt_cell OF.out 9 rfl
  have y9:=objAt_cell PF.out 9 rfl
  have t10:=objAt_cell OF.out 10 rfl
  have y10:=objAt_cell PF.out 10 rfl
  have t11:=objAt_cell OF.out 11 rfl
  have y11:=objAt_cell PF.out 11 rfl
  have t12:=objAt_cell OF.out 12 rfl
  have y12:=objAt_cell PF.out 12 rfl
  have t13:=objAt_cell OF.out 13 rfl
  have y13:=objAt_cell PF.out 13 rfl
  have zl2:=objAt_lt OF.out
  cases c with
  | false =>
   go_wp2
   go_ret
   exact⟨rfl,BF.out⟩
  | true =>
   go_wp2
   go_ret
   exact⟨rfl,BF.out⟩
end Go.Proofs.YtiekgafopalfmaaGreatDoor
