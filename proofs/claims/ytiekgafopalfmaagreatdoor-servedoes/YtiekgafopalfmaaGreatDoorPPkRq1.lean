import Derived.Test.YtiekgafopalfmaaGreatDoorPPkDl3
import Derived.Test.YtiekgafopalfmaaGreatDoorPPkWi2
import Derived.Test.YtiekgafopalfmaaGreatDoorPPkWi4
import Derived.Test.YtiekgafopalfmaaGreatDoorPPkWi5
import Derived.Test.YtiekgafopalfmaaGreatDoorPPkWi3
import Derived.Test.YtiekgafopalfmaaGreatDoorPPkSt2
import Derived.Test.YtiekgafopalfmaaGreatDoorPPkDl2
set_option maxRecDepth 100000
set_option maxHeartbeats 4000000
namespace Go.Proofs.YtiekgafopalfmaaGreatDoor
structure ReqD where
 kind:Int
 job:JobD
 node:NodeD
 lease:LeaseD
 name:ByteArray
 n:Int
def kindQ (k:Int):ReqD:=⟨k,zJob,zNode,zLease,⟨#[]⟩,0⟩
def ownQ (q:ReqD):ReqD :=
 if q.kind=1 then⟨q.kind,q.job,zNode,zLease,⟨#[]⟩,0⟩
 else if q.kind=2 then⟨q.kind,zJob,q.node,zLease,⟨#[]⟩,0⟩
 else if q.kind=5 then⟨q.kind,zJob,zNode,q.lease,⟨#[]⟩,0⟩
 else if q.kind=7 then⟨q.kind,zJob,zNode,zLease,⟨#[]⟩,q.n⟩
 else if q.kind=3∨q.kind=4∨q.kind=6 then⟨q.kind,zJob,zNode,zLease,q.name,0⟩
 else kindQ q.kind
section
variable (U : ByteArray → Bool)
def partE (q:ReqD):Nat :=
 if q.kind=1 then jobE U q.job
 else if q.kind=2 then nodeE U q.node
 else if q.kind=5 then leaseCE U q.lease
 else if q.kind=7 then(if inR q.n 0 1099511627776 then 0 else 1)
 else if q.kind=3∨q.kind=4∨q.kind=6 then(if isName U q.name then 0 else 4)
 else 0
open Classical in
noncomputable def qcheckE (q:ReqD):Nat:=if inR q.kind 1 9 then(if ownQ q=q then partE U q else 4) else 1
theorem qcheck_zero (q:ReqD):qcheckE U q=0↔(1≤q.kind∧q.kind≤9)∧ownQ q=q∧partE U q=0:=by
 unfold qcheckE
 by_cases h:inR q.kind 1 9=true
 ·rw[if_pos h]
  rw[inR_iff] at h
  by_cases h2:ownQ q=q
  ·rw[if_pos h2];exact⟨fun h3=>⟨h,h2,h3⟩,fun h3=>h3.2.2⟩
  ·rw[if_neg h2];exact⟨fun h3=>absurd h3 (by omega),fun h3=>absurd h3.2.1 h2⟩
 ·rw[if_neg h]
  rw[inR_iff] at h
  exact⟨fun h3=>absurd h3 (by omega),fun h3=>absurd h3.1 h⟩
theorem qcheck_arg {q:ReqD} (h:¬(1≤q.kind∧q.kind≤9)):qcheckE U q=1:=by
 unfold qcheckE;rw[if_neg (by rw[inR_iff];exact h)]
theorem qcheck_extra {q:ReqD} (h:1≤q.kind∧q.kind≤9) (h2:ownQ q≠q):qcheckE U q=4:=by
 unfold qcheckE;rw[if_pos ((inR_iff _ _ _).2 h),if_neg h2]
theorem qcheck_part {q:ReqD} (h:1≤q.kind∧q.kind≤9) (h2:ownQ q=q):qcheckE U q=partE U q:=by
 unfold qcheckE;rw[if_pos ((inR_iff _ _ _).2 h),if_pos h2]
end
section
variable {U : ByteArray → Bool}
end
end Go.Proofs.YtiekgafopalfmaaGreatDoor
namespace Go.Proofs.YtiekgafopalfmaaGreatDoor
open Go.RowKit Go.Lib
end Go.Proofs.YtiekgafopalfmaaGreatDoor
namespace Go.Proofs.YtiekgafopalfmaaGreatDoor
open Go.RowKit Go.Lib
def sameQ (q p:ReqD):Bool:=(q.kind==p.kind)&&(q.job.name.toList==p.job.name.toList)&&(q.job.prio==p.job.prio)&&(q.job.need==p.job.need)&&(q.job.tries==p.job.tries)&&(q.job.tag.toList==p.job.tag.toList)&&(q.node.name.toList==p.node.name.toList)&&(q.node.room==p.node.room)&&(q.node.zone.toList==p.node.zone.toList)&&(q.lease.job.toList==p.lease.job.toList)&&(q.lease.node.toList==p.lease.node.toList)&&(q.lease.til==p.lease.til)&&(q.name.toList==p.name.toList)&&(q.n==p.n)
theorem tl_eq {a b:ByteArray} (h:a.toList=b.toList):a=b:=by
 by_cases e:a=b
 ·exact e
 ·have h2:=lists_ne e
  rw[h] at h2
  simp at h2
theorem sameQ_iff (q p:ReqD):sameQ q p=true↔q=p:=by
 unfold sameQ
 simp only[Bool.and_eq_true,beq_iff_eq]
 constructor
 ·intro h
  obtain⟨k,⟨j0,j1,j2,j3,j4⟩,⟨n0,n1,n2⟩,⟨l0,l1,l2⟩,nm,n⟩:=q
  obtain⟨k',⟨j0',j1',j2',j3',j4'⟩,⟨n0',n1',n2'⟩,⟨l0',l1',l2'⟩,nm',n'⟩:=p
  simp only at h
  obtain⟨⟨⟨⟨⟨⟨⟨⟨⟨⟨⟨⟨⟨h0,h1⟩,h2⟩,h3⟩,h4⟩,h5⟩,h6⟩,h7⟩,h8⟩,h9⟩,h10⟩,h11⟩,h12⟩,h13⟩:=h
  rw[h0,tl_eq h1,h2,h3,h4,tl_eq h5,tl_eq h6,h7,tl_eq h8,tl_eq h9,tl_eq h10,h11,tl_eq h12,h13]
 ·rintro rfl;simp
theorem sameQ_no {q p:ReqD} (h:q≠p):sameQ q p=false:=by
 cases e:sameQ q p with
 | false=>rfl
 | true=>exact absurd ((sameQ_iff q p).1 e) h
theorem rq_neq (q p:ReqD) (w:World):(binOp BinOp.neq 44 (.agg #[.int .i64 q.kind,.string q.job.name,.int .i64 q.job.prio,.int .i64 q.job.need,.int .i64 q.job.tries,.string q.job.tag,.string q.node.name,.int .i64 q.node.room,.string q.node.zone,.string q.lease.job,.string q.lease.node,.int .i64 q.lease.til,.string q.name,.int .i64 q.n]) (.agg #[.int .i64 p.kind,.string p.job.name,.int .i64 p.job.prio,.int .i64 p.job.need,.int .i64 p.job.tries,.string p.job.tag,.string p.node.name,.int .i64 p.node.room,.string p.node.zone,.string p.lease.job,.string p.lease.node,.int .i64 p.lease.til,.string p.name,.int .i64 p.n])).run Tryz.prog w = .ok (.bool (!sameQ q p)) w:=by
 obtain⟨c,hc⟩:∃c,sameQ q p=c:=⟨_,rfl⟩
 rw[hc]
 have no:¬q=p→c=false:=fun h=>by rw[←hc];exact sameQ_no h
 have yes:q=p→c=true:=fun h=>by rw[←hc];exact(sameQ_iff q p).2 h
 clear hc
 obtain⟨k,⟨j0,j1,j2,j3,j4⟩,⟨n0,n1,n2⟩,⟨l0,l1,l2⟩,nm,n⟩:=q
 obtain⟨k',⟨j0',j1',j2',j3',j4'⟩,⟨n0',n1',n2'⟩,⟨l0',l1',l2'⟩,nm',n'⟩:=p
 have NO:=Lib.hid no
 have YES:=Lib.hid yes
 clear no yes
 simp only
 go_simp
 by_cases h0:k=k'
 case neg=>rw[NO.out (fun e=>h0 (congrArg (fun q:ReqD=>q.kind) e))];simp[h0]
 by_cases h1:j0.toList=j0'.toList
 case neg=>rw[NO.out (fun e=>h1 (congrArg (fun q:ReqD=>q.job.name.toList) e))];simp[h1]
 by_cases h2:j1=j1'
 case neg=>rw[NO.out (fun e=>h2 (congrArg (fun q:ReqD=>q.job.prio) e))];simp[h2]
 by_cases h3:j2=j2'
 case neg=>rw[NO.out (fun e=>h3 (congrArg (fun q:ReqD=>q.job.need) e))];simp[h3]
 by_cases h4:j3=j3'
 case neg=>rw[NO.out (fun e=>h4 (congrArg (fun q:ReqD=>q.job.tries) e))];simp[h4]
 by_cases h5:j4.toList=j4'.toList
 case neg=>rw[NO.out (fun e=>h5 (congrArg (fun q:ReqD=>q.job.tag.toList) e))];simp[h5]
 by_cases h6:n0.toList=n0'.toList
 case neg=>rw[NO.out (fun e=>h6 (congrArg (fun q:ReqD=>q.node.name.toList) e))];simp[h6]
 by_cases h7:n1=n1'
 case neg=>rw[NO.out (fun e=>h7 (congrArg (fun q:ReqD=>q.node.room) e))];simp[h7]
 by_cases h8:n2.toList=n2'.toList
 case neg=>rw[NO.out (fun e=>h8 (congrArg (fun q:ReqD=>q.node.zone.toList) e))];simp[h8]
 by_cases h9:l0.toList=l0'.toList
 case neg=>rw[NO.out (fun e=>h9 (congrArg (fun q:ReqD=>q.lease.job.toList) e))];simp[h9]
 by_cases h10:l1.toList=l1'.toList
 case neg=>rw[NO.out (fun e=>h10 (congrArg (fun q:ReqD=>q.lease.node.toList) e))];simp[h10]
 by_cases h11:l2=l2'
 case neg=>rw[NO.out (fun e=>h11 (congrArg (fun q:ReqD=>q.lease.til) e))];simp[h11]
 by_cases h12:nm.toList=nm'.toList
 case neg=>rw[NO.out (fun e=>h12 (congrArg (fun q:ReqD=>q.name.toList) e))];simp[h12]
 by_cases h13:n=n'
 case neg=>rw[NO.out (fun e=>h13 (congrArg (fun q:ReqD=>q.n) e))];simp[h13]
 rw[YES.out (by rw[h0,tl_eq h1,h2,h3,h4,tl_eq h5,tl_eq h6,h7,tl_eq h8,tl_eq h9,tl_eq h10,h11,tl_eq h12,h13])]
 simp[h0,h1,h2,h3,h4,h5,h6,h7,h8,h9,h10,h11,h12,h13]
end Go.Proofs.YtiekgafopalfmaaGreatDoor
namespace Go.Proofs.YtiekgafopalfmaaGreatDoor
open Go.RowKit
end Go.Proofs.YtiekgafopalfmaaGreatDoor
namespace Go.Proofs.YtiekgafopalfmaaGreatDoor
open Go.RowKit Go.Lib
theorem isTime_is (n:Int) (w:World) :
  Calls Tryz.prog 232 #[.int .i64 n] w fun e w'=>e = .returned (.bool (inR n 0 1099511627776))∧w=w':=by
 unfold inR
 by_cases h:0≤n
 ·by_cases h2:n≤1099511627776
  ·have h1:decide (0≤n)=true:=decide_eq_true h
   have h3:decide (n≤1099511627776)=true:=decide_eq_true h2
   rw[h1,h3]
   go_enter Tryz.func232,Tryz.ntmps232
   go_wp2
   go_ret
   exact⟨rfl,rfl⟩
  ·have h1:decide (0≤n)=true:=decide_eq_true h
   have h3:decide (n≤1099511627776)=false:=decide_eq_false h2
   rw[h1,h3]
   clear h2
   go_enter Tryz.func232,Tryz.ntmps232
   go_wp2
   go_ret
   exact⟨rfl,rfl⟩
 ·have h1:decide (0≤n)=false:=decide_eq_false h
  rw[h1]
  clear h
  go_enter Tryz.func232,Tryz.ntmps232
  go_wp2
  go_ret
  exact⟨by simp,rfl⟩
end Go.Proofs.YtiekgafopalfmaaGreatDoor
namespace Go.Proofs.YtiekgafopalfmaaGreatDoor
open Go.RowKit Go.Lib
theorem pay1_is (j:JobD) (n:NodeD) (l:LeaseD) (nm:ByteArray) (N:Int) (w:World) :
  Calls Tryz.prog 95 #[.agg #[.int .i64 1,.string j.name,.int .i64 j.prio,.int .i64 j.need,.int .i64 j.tries,.string j.tag,.string n.name,.int .i64 n.room,.string n.zone,.string l.job,.string l.node,.int .i64 l.til,.string nm,.int .i64 N]] w fun e w'=>e = .returned (.tuple #[.iface 151 (.agg #[.string j.name,.int .i64 j.prio,.int .i64 j.need,.int .i64 j.tries,.string j.tag]),.bool true])∧Below w.heap.size w w':=by
 go_enter Tryz.func95,Tryz.ntmps95
 go_wp2
 go_ret2
 exact⟨rfl,below_one _ _⟩
theorem pay2_is (j:JobD) (n:NodeD) (l:LeaseD) (nm:ByteArray) (N:Int) (w:World) :
  Calls Tryz.prog 95 #[.agg #[.int .i64 2,.string j.name,.int .i64 j.prio,.int .i64 j.need,.int .i64 j.tries,.string j.tag,.string n.name,.int .i64 n.room,.string n.zone,.string l.job,.string l.node,.int .i64 l.til,.string nm,.int .i64 N]] w fun e w'=>e = .returned (.tuple #[.iface 153 (.agg #[.string n.name,.int .i64 n.room,.string n.zone]),.bool true])∧Below w.heap.size w w':=by
 go_enter Tryz.func95,Tryz.ntmps95
 go_wp2
 go_ret2
 exact⟨rfl,below_one _ _⟩
theorem pay3_is (j:JobD) (n:NodeD) (l:LeaseD) (nm:ByteArray) (N:Int) (w:World) :
  Calls Tryz.prog 95 #[.agg #[.int .i64 3,.string j.name,.int .i64 j.prio,.int .i64 j.need,.int .i64 j.tries,.string j.tag,.string n.name,.int .i64 n.room,.string n.zone,.string l.job,.string l.node,.int .i64 l.til,.string nm,.int .i64 N]] w fun e w'=>e = .returned (.tuple #[.iface 154 (.string nm),.bool true])∧Below w.heap.size w w':=by
 go_enter Tryz.func95,Tryz.ntmps95
 go_wp2
 go_ret2
 exact⟨rfl,below_one _ _⟩
theorem pay4_is (j:JobD) (n:NodeD) (l:LeaseD) (nm:ByteArray) (N:Int) (w:World) :
  Calls Tryz.prog 95 #[.agg #[.int .i64 4,.string j.name,.int .i64 j.prio,.int .i64 j.need,.int .i64 j.tries,.string j.tag,.string n.name,.int .i64 n.room,.string n.zone,.string l.job,.string l.node,.int .i64 l.til,.string nm,.int .i64 N]] w fun e w'=>e = .returned (.tuple #[.iface 154 (.string nm),.bool true])∧Below w.heap.size w w':=by
 go_enter Tryz.func95,Tryz.ntmps95
 go_wp2
 go_ret2
 exact⟨rfl,below_one _ _⟩
theorem pay5_is (j:JobD) (n:NodeD) (l:LeaseD) (nm:ByteArray) (N:Int) (w:World) :
  Calls Tryz.prog 95 #[.agg #[.int .i64 5,.string j.name,.int .i64 j.prio,.int .i64 j.need,.int .i64 j.tries,.string j.tag,.string n.name,.int .i64 n.room,.string n.zone,.string l.job,.string l.node,.int .i64 l.til,.string nm,.int .i64 N]] w fun e w'=>e = .returned (.tuple #[.iface 156 (.agg #[.string l.job,.string l.node,.int .i64 l.til]),.bool true])∧Below w.heap.size w w':=by
 go_enter Tryz.func95,Tryz.ntmps95
 go_wp2
 go_ret2
 exact⟨rfl,below_one _ _⟩
theorem pay6_is (j:JobD) (n:NodeD) (l:LeaseD) (nm:ByteArray) (N:Int) (w:World) :
  Calls Tryz.prog 95 #[.agg #[.int .i64 6,.string j.name,.int .i64 j.prio,.int .i64 j.need,.int .i64 j.tries,.string j.tag,.string n.name,.int .i64 n.room,.string n.zone,.string l.job,.string l.node,.int .i64 l.til,.string nm,.int .i64 N]] w fun e w'=>e = .returned (.tuple #[.iface 154 (.string nm),.bool true])∧Below w.heap.size w w':=by
 go_enter Tryz.func95,Tryz.ntmps95
 go_wp2
 go_ret2
 exact⟨rfl,below_one _ _⟩
theorem pay7_is (j:JobD) (n:NodeD) (l:LeaseD) (nm:ByteArray) (N:Int) (w:World) :
  Calls Tryz.prog 95 #[.agg #[.int .i64 7,.string j.name,.int .i64 j.prio,.int .i64 j.need,.int .i64 j.tries,.string j.tag,.string n.name,.int .i64 n.room,.string n.zone,.string l.job,.string l.node,.int .i64 l.til,.string nm,.int .i64 N]] w fun e w'=>e = .returned (.tuple #[.iface 157 (.int .i64 N),.bool true])∧Below w.heap.size w w':=by
 go_enter Tryz.func95,Tryz.ntmps95
 go_wp2
 go_ret2
 exact⟨rfl,below_one _ _⟩
theorem pay8_is (j:JobD) (n:NodeD) (l:LeaseD) (nm:ByteArray) (N:Int) (w:World) :
  Calls Tryz.prog 95 #[.agg #[.int .i64 8,.string j.name,.int .i64 j.prio,.int .i64 j.need,.int .i64 j.tries,.string j.tag,.string n.name,.int .i64 n.room,.string n.zone,.string l.job,.string l.node,.int .i64 l.til,.string nm,.int .i64 N]] w fun e w'=>e = .returned (.tuple #[.iface 159 (.agg #[]),.bool true])∧Below w.heap.size w w':=by
 go_enter Tryz.func95,Tryz.ntmps95
 go_wp2
 go_ret2
 exact⟨rfl,below_one _ _⟩
theorem pay9_is (j:JobD) (n:NodeD) (l:LeaseD) (nm:ByteArray) (N:Int) (w:World) :
  Calls Tryz.prog 95 #[.agg #[.int .i64 9,.string j.name,.int .i64 j.prio,.int .i64 j.need,.int .i64 j.tries,.string j.tag,.string n.name,.int .i64 n.room,.string n.zone,.string l.job,.string l.node,.int .i64 l.til,.string nm,.int .i64 N]] w fun e w'=>e = .returned (.tuple #[.iface 159 (.agg #[]),.bool true])∧Below w.heap.size w w':=by
 go_enter Tryz.func95,Tryz.ntmps95
 go_wp2
 go_ret2
 exact⟨rfl,below_one _ _⟩
theorem pay0_is (k:Int) (hk:¬(1≤k∧k≤9)) (j:JobD) (n:NodeD) (l:LeaseD) (nm:ByteArray) (N:Int) (w:World) :
  Calls Tryz.prog 95 #[.agg #[.int .i64 k,.string j.name,.int .i64 j.prio,.int .i64 j.need,.int .i64 j.tries,.string j.tag,.string n.name,.int .i64 n.room,.string n.zone,.string l.job,.string l.node,.int .i64 l.til,.string nm,.int .i64 N]] w fun e w'=>e = .returned (.tuple #[.nilIface,.bool false])∧Below w.heap.size w w':=by
 have h1:(k==1)=false:=by simp;omega
 have h2:(k==2)=false:=by simp;omega
 have h3:(k==3)=false:=by simp;omega
 have h4:(k==4)=false:=by simp;omega
 have h5:(k==5)=false:=by simp;omega
 have h6:(k==6)=false:=by simp;omega
 have h7:(k==7)=false:=by simp;omega
 have h8:(k==8)=false:=by simp;omega
 have h9:(k==9)=false:=by simp;omega
 clear hk
 go_enter Tryz.func95,Tryz.ntmps95
 go_wp2
 go_ret2
 exact⟨rfl,below_one _ _⟩
theorem jobRequest_is (j:JobD) (k:Int) (w:World) :
  Calls Tryz.prog 218 #[.agg #[.string j.name,.int .i64 j.prio,.int .i64 j.need,.int .i64 j.tries,.string j.tag],.int .i64 k] w fun e w'=>e = .returned (.agg #[.int .i64 k,.string j.name,.int .i64 j.prio,.int .i64 j.need,.int .i64 j.tries,.string j.tag,.string ⟨#[]⟩,.int .i64 0,.string ⟨#[]⟩,.string ⟨#[]⟩,.string ⟨#[]⟩,.int .i64 0,.string ⟨#[]⟩,.int .i64 0])∧Below w.heap.size w w':=by
 go_enter Tryz.func218,Tryz.ntmps218
 go_wp2
 exact bodyPost_ret (v:=.agg #[.int .i64 k,.string j.name,.int .i64 j.prio,.int .i64 j.need,.int .i64 j.tries,.string j.tag,.string ⟨#[]⟩,.int .i64 0,.string ⟨#[]⟩,.string ⟨#[]⟩,.string ⟨#[]⟩,.int .i64 0,.string ⟨#[]⟩,.int .i64 0]) (by simp[results,Tryz.results218,go_sem]) rfl ⟨rfl,below_trans (below_one _ _) (below_one _ _) (by simp)⟩
theorem nodeRequest_is (n:NodeD) (k:Int) (w:World) :
  Calls Tryz.prog 221 #[.agg #[.string n.name,.int .i64 n.room,.string n.zone],.int .i64 k] w fun e w'=>e = .returned (.agg #[.int .i64 k,.string ⟨#[]⟩,.int .i64 0,.int .i64 0,.int .i64 0,.string ⟨#[]⟩,.string n.name,.int .i64 n.room,.string n.zone,.string ⟨#[]⟩,.string ⟨#[]⟩,.int .i64 0,.string ⟨#[]⟩,.int .i64 0])∧Below w.heap.size w w':=by
 go_enter Tryz.func221,Tryz.ntmps221
 go_wp2
 exact bodyPost_ret (v:=.agg #[.int .i64 k,.string ⟨#[]⟩,.int .i64 0,.int .i64 0,.int .i64 0,.string ⟨#[]⟩,.string n.name,.int .i64 n.room,.string n.zone,.string ⟨#[]⟩,.string ⟨#[]⟩,.int .i64 0,.string ⟨#[]⟩,.int .i64 0]) (by simp[results,Tryz.results221,go_sem]) rfl ⟨rfl,below_trans (below_one _ _) (below_one _ _) (by simp)⟩
theorem leaseRequest_is (l:LeaseD) (k:Int) (w:World) :
  Calls Tryz.prog 227 #[.agg #[.string l.job,.string l.node,.int .i64 l.til],.int .i64 k] w fun e w'=>e = .returned (.agg #[.int .i64 k,.string ⟨#[]⟩,.int .i64 0,.int .i64 0,.int .i64 0,.string ⟨#[]⟩,.string ⟨#[]⟩,.int .i64 0,.string ⟨#[]⟩,.string l.job,.string l.node,.int .i64 l.til,.string ⟨#[]⟩,.int .i64 0])∧Below w.heap.size w w':=by
 go_enter Tryz.func227,Tryz.ntmps227
 go_wp2
 exact bodyPost_ret (v:=.agg #[.int .i64 k,.string ⟨#[]⟩,.int .i64 0,.int .i64 0,.int .i64 0,.string ⟨#[]⟩,.string ⟨#[]⟩,.int .i64 0,.string ⟨#[]⟩,.string l.job,.string l.node,.int .i64 l.til,.string ⟨#[]⟩,.int .i64 0]) (by simp[results,Tryz.results227,go_sem]) rfl ⟨rfl,below_trans (below_one _ _) (below_one _ _) (by simp)⟩
theorem nameRequest_is (nm:ByteArray) (k:Int) (w:World) :
  Calls Tryz.prog 224 #[.string nm,.int .i64 k] w fun e w'=>e = .returned (.agg #[.int .i64 k,.string ⟨#[]⟩,.int .i64 0,.int .i64 0,.int .i64 0,.string ⟨#[]⟩,.string ⟨#[]⟩,.int .i64 0,.string ⟨#[]⟩,.string ⟨#[]⟩,.string ⟨#[]⟩,.int .i64 0,.string nm,.int .i64 0])∧Below w.heap.size w w':=by
 go_enter Tryz.func224,Tryz.ntmps224
 go_wp2
 exact bodyPost_ret (v:=.agg #[.int .i64 k,.string ⟨#[]⟩,.int .i64 0,.int .i64 0,.int .i64 0,.string ⟨#[]⟩,.string ⟨#[]⟩,.int .i64 0,.string ⟨#[]⟩,.string ⟨#[]⟩,.string ⟨#[]⟩,.int .i64 0,.string nm,.int .i64 0]) (by simp[results,Tryz.results224,go_sem]) rfl ⟨rfl,below_one _ _⟩
theorem ticksRequest_is (N:Int) (k:Int) (w:World) :
  Calls Tryz.prog 231 #[.int .i64 N,.int .i64 k] w fun e w'=>e = .returned (.agg #[.int .i64 k,.string ⟨#[]⟩,.int .i64 0,.int .i64 0,.int .i64 0,.string ⟨#[]⟩,.string ⟨#[]⟩,.int .i64 0,.string ⟨#[]⟩,.string ⟨#[]⟩,.string ⟨#[]⟩,.int .i64 0,.string ⟨#[]⟩,.int .i64 N])∧Below w.heap.size w w':=by
 go_enter Tryz.func231,Tryz.ntmps231
 go_wp2
 exact bodyPost_ret (v:=.agg #[.int .i64 k,.string ⟨#[]⟩,.int .i64 0,.int .i64 0,.int .i64 0,.string ⟨#[]⟩,.string ⟨#[]⟩,.int .i64 0,.string ⟨#[]⟩,.string ⟨#[]⟩,.string ⟨#[]⟩,.int .i64 0,.string ⟨#[]⟩,.int .i64 N]) (by simp[results,Tryz.results231,go_sem]) rfl ⟨rfl,below_one _ _⟩
theorem nothingRequest_is (k:Int) (w:World) :
  Calls Tryz.prog 235 #[.agg #[],.int .i64 k] w fun e w'=>e = .returned (.agg #[.int .i64 k,.string ⟨#[]⟩,.int .i64 0,.int .i64 0,.int .i64 0,.string ⟨#[]⟩,.string ⟨#[]⟩,.int .i64 0,.string ⟨#[]⟩,.string ⟨#[]⟩,.string ⟨#[]⟩,.int .i64 0,.string ⟨#[]⟩,.int .i64 0])∧Below w.heap.size w w':=by
 go_enter Tryz.func235,Tryz.ntmps235
 go_wp2
 exact bodyPost_ret (v:=.agg #[.int .i64 k,.string ⟨#[]⟩,.int .i64 0,.int .i64 0,.int .i64 0,.string ⟨#[]⟩,.string ⟨#[]⟩,.int .i64 0,.string ⟨#[]⟩,.string ⟨#[]⟩,.string ⟨#[]⟩,.int .i64 0,.string ⟨#[]⟩,.int .i64 0]) (by simp[results,Tryz.results235,go_sem]) rfl ⟨rfl,below_trans (below_one _ _) (below_one _ _) (by simp)⟩
end Go.Proofs.YtiekgafopalfmaaGreatDoor
namespace Go.Proofs.YtiekgafopalfmaaGreatDoor
open Go.RowKit Go.Lib
theorem qcheck0_is (k:Int) (hk:¬(1≤k∧k≤9)) (j:JobD) (n:NodeD) (l:LeaseD) (nm:ByteArray) (N:Int) (w:World) :
  Calls Tryz.prog 81 #[.agg #[.int .i64 k,.string j.name,.int .i64 j.prio,.int .i64 j.need,.int .i64 j.tries,.string j.tag,.string n.name,.int .i64 n.room,.string n.zone,.string l.job,.string l.node,.int .i64 l.til,.string nm,.int .i64 N]] w fun e w'=>e = .returned (.int .i64 1)∧Below w.heap.size w w':=by
 have HP:=Lib.hid (pay0_is k hk j n l nm N (w.alloc (.cells #[.int .i64 k,.string j.name,.int .i64 j.prio,.int .i64 j.need,.int .i64 j.tries,.string j.tag,.string n.name,.int .i64 n.room,.string n.zone,.string l.job,.string l.node,.int .i64 l.til,.string nm,.int .i64 N] 44)))
 have B:=Lib.hid (below_one w (.cells #[.int .i64 k,.string j.name,.int .i64 j.prio,.int .i64 j.need,.int .i64 j.tries,.string j.tag,.string n.name,.int .i64 n.room,.string n.zone,.string l.job,.string l.node,.int .i64 l.til,.string nm,.int .i64 N] 44))
 clear hk
 go_enter Tryz.func81,Tryz.ntmps81
 go_wp2_with fail
 refine HP.out.mono ?_
 rintro e w1 ⟨rfl,x1⟩
 go_wp2
 go_ret
 exact⟨rfl,below_trans B.out x1 (by simp)⟩
end Go.Proofs.YtiekgafopalfmaaGreatDoor
namespace Go.Proofs.YtiekgafopalfmaaGreatDoor
open Go.RowKit Go.Lib
theorem check_job1 (j:JobD):checkE V8 ⟨0,[j],[],[]⟩=jobE V8 j:=by
 have h1:headSE ⟨0,[j],[],[]⟩=0:=by simp[headSE,inR]
 have h2:rowsE (jobE V8) (·.name) none [j]=jobE V8 j:=by
  unfold rowsE
  by_cases h:jobE V8 j≠0
  ·rw[if_pos h]
  ·rw[if_neg h];simp only[badO];simp[rowsE];omega
 unfold checkE
 simp only
 rw[h1,h2]
 simp[orE,rowsE,roomE]
 omega
theorem check_node1 (n:NodeD):checkE V8 ⟨0,[],[n],[]⟩=nodeE V8 n:=by
 have h1:headSE ⟨0,[],[n],[]⟩=0:=by simp[headSE,inR]
 have h2:rowsE (nodeE V8) (·.name) none [n]=nodeE V8 n:=by
  unfold rowsE
  by_cases h:nodeE V8 n≠0
  ·rw[if_pos h]
  ·rw[if_neg h];simp only[badO];simp[rowsE];omega
 unfold checkE
 simp only
 rw[h1,h2]
 by_cases h:nodeE V8 n≠0
 ·simp[orE,rowsE,h]
 ·have h:nodeE V8 n=0:=by omega
  have hr:=((nodeE_zero V8 n).1 h).2.1
  simp[orE,rowsE,h,roomE,usedD,sumZ,hr]
theorem jobsAt_one {b:Nat}{x:JobD}{t:TypeId}{w:World} (o:ObjAt b #[.string x.name,.int .i64 x.prio,.int .i64 x.need,.int .i64 x.tries,.string x.tag] t w):JobsAt w (some ⟨b,0,none⟩) [x]:=by
 intro i hi
 obtain rfl:i=0:=by simp at hi;omega
 exact⟨_,rfl,objAt_lt o,objAt_cell o 0 rfl,objAt_cell o 1 rfl,objAt_cell o 2 rfl,objAt_cell o 3 rfl,objAt_cell o 4 rfl⟩
theorem nodesAt_one {b:Nat}{x:NodeD}{t:TypeId}{w:World} (o:ObjAt b #[.string x.name,.int .i64 x.room,.string x.zone] t w):NodesAt w (some ⟨b,0,none⟩) [x]:=by
 intro i hi
 obtain rfl:i=0:=by simp at hi;omega
 exact⟨_,rfl,objAt_lt o,objAt_cell o 0 rfl,objAt_cell o 1 rfl,objAt_cell o 2 rfl⟩
theorem jobCheck_is (j:JobD) (hw:wJob j) (w:World) (hT:Tabs w) :
  Calls Tryz.prog 216 #[.agg #[.string j.name,.int .i64 j.prio,.int .i64 j.need,.int .i64 j.tries,.string j.tag]] w fun e w'=>e = .returned (.int .i64 (jobE V8 j:Nat))∧Below w.heap.size w w':=by
 have o:=objAt_new (w.alloc (.cells #[.string j.name,.int .i64 j.prio,.int .i64 j.need,.int .i64 j.tries,.string j.tag] 151)) #[.string j.name,.int .i64 j.prio,.int .i64 j.need,.int .i64 j.tries,.string j.tag] 38
 rw[World.size_alloc] at o
 have bW:Below w.heap.size w ((w.alloc (.cells #[.string j.name,.int .i64 j.prio,.int .i64 j.need,.int .i64 j.tries,.string j.tag] 151)).alloc (.cells #[.string j.name,.int .i64 j.prio,.int .i64 j.need,.int .i64 j.tries,.string j.tag] 38)):=below_trans (below_one _ _) (below_one _ _) (by simp)
 have HC:=check_any 0 (some ⟨w.heap.size+1,0,none⟩) none none 1 0 0 [j] [] [] ⟨by show(Lit.int .i64 0).wf=true;decide,fun x hx=>by simp at hx;subst hx;exact hw,fun x hx=>(by cases hx),fun x hx=>(by cases hx)⟩ _ (hT.below bW) (jobsAt_one o) (fun i hi=>absurd hi (by simp)) (fun i hi=>absurd hi (by simp))
 rw[check_job1] at HC
 simp only[List.length_singleton,List.length_nil] at HC
 have HC:=Lib.hid HC
 have BW:=Lib.hid bW
 clear hT hw o bW
 go_enter Tryz.func216,Tryz.ntmps216
 go_wp2_with fail
 refine HC.out.mono ?_
 rintro e w1 ⟨rfl,b1⟩
 go_wp2
 go_ret
 exact⟨rfl,below_trans BW.out b1 BW.out.size⟩
theorem nodeCheck_is (n:NodeD) (hw:wNode n) (w:World) (hT:Tabs w) :
  Calls Tryz.prog 219 #[.agg #[.string n.name,.int .i64 n.room,.string n.zone]] w fun e w'=>e = .returned (.int .i64 (nodeE V8 n:Nat))∧Below w.heap.size w w':=by
 have o:=objAt_new (w.alloc (.cells #[.string n.name,.int .i64 n.room,.string n.zone] 153)) #[.string n.name,.int .i64 n.room,.string n.zone] 40
 rw[World.size_alloc] at o
 have bW:Below w.heap.size w ((w.alloc (.cells #[.string n.name,.int .i64 n.room,.string n.zone] 153)).alloc (.cells #[.string n.name,.int .i64 n.room,.string n.zone] 40)):=below_trans (below_one _ _) (below_one _ _) (by simp)
 have HC:=check_any 0 none (some ⟨w.heap.size+1,0,none⟩) none 0 1 0 [] [n] [] ⟨by show(Lit.int .i64 0).wf=true;decide,fun x hx=>(by cases hx),fun x hx=>by simp at hx;subst hx;exact hw,fun x hx=>(by cases hx)⟩ _ (hT.below bW) (fun i hi=>absurd hi (by simp)) (nodesAt_one o) (fun i hi=>absurd hi (by simp))
 rw[check_node1] at HC
 simp only[List.length_singleton,List.length_nil] at HC
 have HC:=Lib.hid HC
 have BW:=Lib.hid bW
 clear hT hw o bW
 go_enter Tryz.func219,Tryz.ntmps219
 go_wp2_with fail
 refine HC.out.mono ?_
 rintro e w1 ⟨rfl,b1⟩
 go_wp2
 go_ret
 exact⟨rfl,below_trans BW.out b1 BW.out.size⟩
theorem leaseCheck_is (l:LeaseD) (w:World) (hT:Tabs w) :
  Calls Tryz.prog 225 #[.agg #[.string l.job,.string l.node,.int .i64 l.til]] w fun e w'=>e = .returned (.int .i64 (leaseCE V8 l:Nat))∧Below w.heap.size w w':=by
 have bW:=below_one w (.cells #[.string l.job,.string l.node,.int .i64 l.til] 156)
 have HC:=Lib.hid (checkLeaseC_is l _ (hT.below bW))
 have BW:=Lib.hid bW
 clear hT bW
 go_enter Tryz.func225,Tryz.ntmps225
 go_wp2_with fail
 refine HC.out.mono ?_
 rintro e w1 ⟨rfl,b1⟩
 go_wp2
 go_ret
 exact⟨rfl,below_trans BW.out b1 BW.out.size⟩
theorem nameCheck_is (nm:ByteArray) (w:World) (hT:Tabs w) :
  Calls Tryz.prog 222 #[.string nm] w fun e w'=>e = .returned (.int .i64 ((if isName V8 nm then 0 else 4:Nat):Int))∧Below w.heap.size w w':=by
 have HC:=isName_is nm w hT
 obtain⟨c,hc⟩:∃c,isName V8 nm=c:=⟨_,rfl⟩
 rw[hc] at HC⊢
 have HC:=Lib.hid HC
 clear hT hc
 cases c with
 | true =>
  go_enter Tryz.func222,Tryz.ntmps222
  go_wp2_with fail
  refine HC.out.mono ?_
  rintro e w1 ⟨rfl,b1⟩
  go_wp2
  go_ret
  exact⟨rfl,b1⟩
 | false =>
  go_enter Tryz.func222,Tryz.ntmps222
  go_wp2_with fail
  refine HC.out.mono ?_
  rintro e w1 ⟨rfl,b1⟩
  go_wp2
  go_ret
  exact⟨rfl,b1⟩
theorem ticksCheck_is (N:Int) (w:World) :
  Calls Tryz.prog 229 #[.int .i64 N] w fun e w'=>e = .returned (.int .i64 ((if inR N 0 1099511627776 then 0 else 1:Nat):Int))∧Below w.heap.size w w':=by
 have HC:=isTime_is N w
 obtain⟨c,hc⟩:∃c,inR N 0 1099511627776=c:=⟨_,rfl⟩
 rw[hc] at HC⊢
 have HC:=Lib.hid HC
 clear hc
 cases c with
 | true =>
  go_enter Tryz.func229,Tryz.ntmps229
  go_wp2_with fail
  refine HC.out.mono ?_
  rintro e w1 ⟨rfl,rfl⟩
  go_wp2
  go_ret
  exact⟨rfl,Below.refl _ _⟩
 | false =>
  go_enter Tryz.func229,Tryz.ntmps229
  go_wp2_with fail
  refine HC.out.mono ?_
  rintro e w1 ⟨rfl,rfl⟩
  go_wp2
  go_ret
  exact⟨rfl,Below.refl _ _⟩
theorem nothingCheck_is (w:World) :
  Calls Tryz.prog 233 #[.agg #[]] w fun e w'=>e = .returned (.int .i64 0)∧Below w.heap.size w w':=by
 go_enter Tryz.func233,Tryz.ntmps233
 go_wp2
 go_ret
 exact⟨rfl,below_one _ _⟩
end Go.Proofs.YtiekgafopalfmaaGreatDoor
