import Derived.Test.YtiekgafopalfmaaGreatDoorPPkRq2
import Derived.Test.YtiekgafopalfmaaGreatDoorPRqPut
import Derived.Test.YtiekgafopalfmaaGreatDoorPPkStR
import Derived.Test.YtiekgafopalfmaaGreatDoorPDlRGone
import Derived.Deep.RegionLaw
set_option maxRecDepth 100000
set_option maxHeartbeats 8000000
namespace Go.Proofs.YtiekgafopalfmaaGreatDoor
open Go.RowKit Go.Lib
theorem rqcheck7_is (j:JobD) (n:NodeD) (l:LeaseD) (nm:ByteArray) (N:Int) (w:World) :
  Calls Tryz.prog 53 #[.agg #[.int .i64 7,.string j.name,.int .i64 j.prio,.int .i64 j.need,.int .i64 j.tries,.string j.tag,.string n.name,.int .i64 n.room,.string n.zone,.string l.job,.string l.node,.int .i64 l.til,.string nm,.int .i64 N]] w fun e w'=>e = .returned (.int .i64 ((if sameQ (⟨7,zJob,zNode,zLease,⟨#[]⟩,N⟩:ReqD) (⟨7,j,n,l,nm,N⟩:ReqD) then(if inR N 0 1099511627776 then 0 else 1) else 4:Nat):Int))∧Below w.heap.size w w':=by
 have HO:=Lib.hid outside_is
 have HA:Hid (∀V:World,Calls Tryz.prog 17 #[.int .i64 7,.int .i64 1,.int .i64 9] V fun e w'=>e = .returned (.bool false)∧V=w'):=fun V=>HO.out 7 1 9 V
 have HQ:∀w:World,(binOp BinOp.neq 44 (.agg #[.int .i64 7,.string ⟨#[]⟩,.int .i64 0,.int .i64 0,.int .i64 0,.string ⟨#[]⟩,.string ⟨#[]⟩,.int .i64 0,.string ⟨#[]⟩,.string ⟨#[]⟩,.string ⟨#[]⟩,.int .i64 0,.string ⟨#[]⟩,.int .i64 N]) (.agg #[.int .i64 7,.string j.name,.int .i64 j.prio,.int .i64 j.need,.int .i64 j.tries,.string j.tag,.string n.name,.int .i64 n.room,.string n.zone,.string l.job,.string l.node,.int .i64 l.til,.string nm,.int .i64 N])).run Tryz.prog w = .ok (.bool (!sameQ (⟨7,zJob,zNode,zLease,⟨#[]⟩,N⟩:ReqD) (⟨7,j,n,l,nm,N⟩:ReqD))) w:=fun w=>rq_neq (⟨7,zJob,zNode,zLease,⟨#[]⟩,N⟩:ReqD) (⟨7,j,n,l,nm,N⟩:ReqD) w
 obtain⟨c,hc⟩:∃c,sameQ (⟨7,zJob,zNode,zLease,⟨#[]⟩,N⟩:ReqD) (⟨7,j,n,l,nm,N⟩:ReqD)=c:=⟨_,rfl⟩
 rw[hc] at HQ⊢
 clear hc
 have B2:Below w.heap.size w ((w.alloc (.cells #[.int .i64 7,.string j.name,.int .i64 j.prio,.int .i64 j.need,.int .i64 j.tries,.string j.tag,.string n.name,.int .i64 n.room,.string n.zone,.string l.job,.string l.node,.int .i64 l.til,.string nm,.int .i64 N] 44)).alloc (.cells #[.int .i64 7,.string ⟨#[]⟩,.int .i64 0,.int .i64 0,.int .i64 0,.string ⟨#[]⟩,.string ⟨#[]⟩,.int .i64 0,.string ⟨#[]⟩,.string ⟨#[]⟩,.string ⟨#[]⟩,.int .i64 0,.string ⟨#[]⟩,.int .i64 N] 44)):=below_trans (below_one _ _) (below_one _ _) (by simp)
 have B2:=Lib.hid B2
 obtain⟨d,hd⟩:∃d,inR N 0 1099511627776=d:=⟨_,rfl⟩
 have HN:=(fun V:World=>HO.out N 0 1099511627776 V)
 rw[hd] at HN⊢
 have HN:=Lib.hid HN
 clear hd HO
 cases c with
 | false =>
  cases d with
  | false =>
   go_enter Tryz.func53,Tryz.ntmps53
   go_wp2_with fail
   refine(HA.out _).mono ?_
   rintro e w1 ⟨rfl,rfl⟩
   go_wp2_with fail
   refine(HN.out _).mono ?_
   rintro e w1 ⟨rfl,rfl⟩
   go_wp2
   go_ret
   exact⟨rfl,B2.out⟩
  | true =>
   go_enter Tryz.func53,Tryz.ntmps53
   go_wp2_with fail
   refine(HA.out _).mono ?_
   rintro e w1 ⟨rfl,rfl⟩
   go_wp2_with fail
   refine(HN.out _).mono ?_
   rintro e w1 ⟨rfl,rfl⟩
   go_wp2
   go_ret
   exact⟨rfl,B2.out⟩
 | true =>
  cases d with
  | false =>
   go_enter Tryz.func53,Tryz.ntmps53
   go_wp2_with fail
   refine(HA.out _).mono ?_
   rintro e w1 ⟨rfl,rfl⟩
   go_wp2_with fail
   refine(HN.out _).mono ?_
   rintro e w1 ⟨rfl,rfl⟩
   go_wp2
   go_ret
   exact⟨rfl,B2.out⟩
  | true =>
   go_enter Tryz.func53,Tryz.ntmps53
   go_wp2_with fail
   refine(HA.out _).mono ?_
   rintro e w1 ⟨rfl,rfl⟩
   go_wp2_with fail
   refine(HN.out _).mono ?_
   rintro e w1 ⟨rfl,rfl⟩
   go_wp2
   go_ret
   exact⟨rfl,B2.out⟩
theorem rqcheck8_is (j:JobD) (n:NodeD) (l:LeaseD) (nm:ByteArray) (N:Int) (w:World) :
  Calls Tryz.prog 53 #[.agg #[.int .i64 8,.string j.name,.int .i64 j.prio,.int .i64 j.need,.int .i64 j.tries,.string j.tag,.string n.name,.int .i64 n.room,.string n.zone,.string l.job,.string l.node,.int .i64 l.til,.string nm,.int .i64 N]] w fun e w'=>e = .returned (.int .i64 ((if sameQ (⟨8,zJob,zNode,zLease,⟨#[]⟩,0⟩:ReqD) (⟨8,j,n,l,nm,N⟩:ReqD) then 0 else 4:Nat):Int))∧Below w.heap.size w w':=by
 have HO:=Lib.hid outside_is
 have HA:Hid (∀V:World,Calls Tryz.prog 17 #[.int .i64 8,.int .i64 1,.int .i64 9] V fun e w'=>e = .returned (.bool false)∧V=w'):=fun V=>HO.out 8 1 9 V
 have HQ:∀w:World,(binOp BinOp.neq 44 (.agg #[.int .i64 8,.string ⟨#[]⟩,.int .i64 0,.int .i64 0,.int .i64 0,.string ⟨#[]⟩,.string ⟨#[]⟩,.int .i64 0,.string ⟨#[]⟩,.string ⟨#[]⟩,.string ⟨#[]⟩,.int .i64 0,.string ⟨#[]⟩,.int .i64 0]) (.agg #[.int .i64 8,.string j.name,.int .i64 j.prio,.int .i64 j.need,.int .i64 j.tries,.string j.tag,.string n.name,.int .i64 n.room,.string n.zone,.string l.job,.string l.node,.int .i64 l.til,.string nm,.int .i64 N])).run Tryz.prog w = .ok (.bool (!sameQ (⟨8,zJob,zNode,zLease,⟨#[]⟩,0⟩:ReqD) (⟨8,j,n,l,nm,N⟩:ReqD))) w:=fun w=>rq_neq (⟨8,zJob,zNode,zLease,⟨#[]⟩,0⟩:ReqD) (⟨8,j,n,l,nm,N⟩:ReqD) w
 obtain⟨c,hc⟩:∃c,sameQ (⟨8,zJob,zNode,zLease,⟨#[]⟩,0⟩:ReqD) (⟨8,j,n,l,nm,N⟩:ReqD)=c:=⟨_,rfl⟩
 rw[hc] at HQ⊢
 clear hc
 have B2:Below w.heap.size w ((w.alloc (.cells #[.int .i64 8,.string j.name,.int .i64 j.prio,.int .i64 j.need,.int .i64 j.tries,.string j.tag,.string n.name,.int .i64 n.room,.string n.zone,.string l.job,.string l.node,.int .i64 l.til,.string nm,.int .i64 N] 44)).alloc (.cells #[.int .i64 8,.string ⟨#[]⟩,.int .i64 0,.int .i64 0,.int .i64 0,.string ⟨#[]⟩,.string ⟨#[]⟩,.int .i64 0,.string ⟨#[]⟩,.string ⟨#[]⟩,.string ⟨#[]⟩,.int .i64 0,.string ⟨#[]⟩,.int .i64 0] 44)):=below_trans (below_one _ _) (below_one _ _) (by simp)
 have B2:=Lib.hid B2
 clear HO
 cases c with
 | false =>
  go_enter Tryz.func53,Tryz.ntmps53
  go_wp2_with fail
  refine(HA.out _).mono ?_
  rintro e w1 ⟨rfl,rfl⟩
  go_wp2
  go_ret
  exact⟨rfl,B2.out⟩
 | true =>
  go_enter Tryz.func53,Tryz.ntmps53
  go_wp2_with fail
  refine(HA.out _).mono ?_
  rintro e w1 ⟨rfl,rfl⟩
  go_wp2
  go_ret
  exact⟨rfl,B2.out⟩
theorem rqcheck9_is (j:JobD) (n:NodeD) (l:LeaseD) (nm:ByteArray) (N:Int) (w:World) :
  Calls Tryz.prog 53 #[.agg #[.int .i64 9,.string j.name,.int .i64 j.prio,.int .i64 j.need,.int .i64 j.tries,.string j.tag,.string n.name,.int .i64 n.room,.string n.zone,.string l.job,.string l.node,.int .i64 l.til,.string nm,.int .i64 N]] w fun e w'=>e = .returned (.int .i64 ((if sameQ (⟨9,zJob,zNode,zLease,⟨#[]⟩,0⟩:ReqD) (⟨9,j,n,l,nm,N⟩:ReqD) then 0 else 4:Nat):Int))∧Below w.heap.size w w':=by
 have HO:=Lib.hid outside_is
 have HA:Hid (∀V:World,Calls Tryz.prog 17 #[.int .i64 9,.int .i64 1,.int .i64 9] V fun e w'=>e = .returned (.bool false)∧V=w'):=fun V=>HO.out 9 1 9 V
 have HQ:∀w:World,(binOp BinOp.neq 44 (.agg #[.int .i64 9,.string ⟨#[]⟩,.int .i64 0,.int .i64 0,.int .i64 0,.string ⟨#[]⟩,.string ⟨#[]⟩,.int .i64 0,.string ⟨#[]⟩,.string ⟨#[]⟩,.string ⟨#[]⟩,.int .i64 0,.string ⟨#[]⟩,.int .i64 0]) (.agg #[.int .i64 9,.string j.name,.int .i64 j.prio,.int .i64 j.need,.int .i64 j.tries,.string j.tag,.string n.name,.int .i64 n.room,.string n.zone,.string l.job,.string l.node,.int .i64 l.til,.string nm,.int .i64 N])).run Tryz.prog w = .ok (.bool (!sameQ (⟨9,zJob,zNode,zLease,⟨#[]⟩,0⟩:ReqD) (⟨9,j,n,l,nm,N⟩:ReqD))) w:=fun w=>rq_neq (⟨9,zJob,zNode,zLease,⟨#[]⟩,0⟩:ReqD) (⟨9,j,n,l,nm,N⟩:ReqD) w
 obtain⟨c,hc⟩:∃c,sameQ (⟨9,zJob,zNode,zLease,⟨#[]⟩,0⟩:ReqD) (⟨9,j,n,l,nm,N⟩:ReqD)=c:=⟨_,rfl⟩
 rw[hc] at HQ⊢
 clear hc
 have B2:Below w.heap.size w ((w.alloc (.cells #[.int .i64 9,.string j.name,.int .i64 j.prio,.int .i64 j.need,.int .i64 j.tries,.string j.tag,.string n.name,.int .i64 n.room,.string n.zone,.string l.job,.string l.node,.int .i64 l.til,.string nm,.int .i64 N] 44)).alloc (.cells #[.int .i64 9,.string ⟨#[]⟩,.int .i64 0,.int .i64 0,.int .i64 0,.string ⟨#[]⟩,.string ⟨#[]⟩,.int .i64 0,.string ⟨#[]⟩,.string ⟨#[]⟩,.string ⟨#[]⟩,.int .i64 0,.string ⟨#[]⟩,.int .i64 0] 44)):=below_trans (below_one _ _) (below_one _ _) (by simp)
 have B2:=Lib.hid B2
 clear HO
 cases c with
 | false =>
  go_enter Tryz.func53,Tryz.ntmps53
  go_wp2_with fail
  refine(HA.out _).mono ?_
  rintro e w1 ⟨rfl,rfl⟩
  go_wp2
  go_ret
  exact⟨rfl,B2.out⟩
 | true =>
  go_enter Tryz.func53,Tryz.ntmps53
  go_wp2_with fail
  refine(HA.out _).mono ?_
  rintro e w1 ⟨rfl,rfl⟩
  go_wp2
  go_ret
  exact⟨rfl,B2.out⟩
end Go.Proofs.YtiekgafopalfmaaGreatDoor
