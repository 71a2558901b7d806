import Derived.Test.YtiekgafopalfmaaGreatDoorPRqRChA
import Derived.Test.YtiekgafopalfmaaGreatDoorPRqRChB
import Derived.Test.YtiekgafopalfmaaGreatDoorPRqRChC
set_option maxRecDepth 100000
namespace Go.Proofs.YtiekgafopalfmaaGreatDoor
open Go.RowKit Go.Lib
set_option maxHeartbeats 8000000 in
theorem rqcheck0_is (k:Int) (hk:¬(1≤k∧k≤9)) (j:JobD) (n:NodeD) (l:LeaseD) (nm:ByteArray) (N:Int) (w:World) :
  Calls Tryz.prog 53 #[.agg #[.int .i64 k,.string j.name,.int .i64 j.prio,.int .i64 j.need,.int .i64 j.tries,.string j.tag,.string n.name,.int .i64 n.room,.string n.zone,.string l.job,.string l.node,.int .i64 l.til,.string nm,.int .i64 N]] w fun e w'=>e = .returned (.int .i64 1)∧Below w.heap.size w w':=by
 have HA:Hid (∀V:World,Calls Tryz.prog 17 #[.int .i64 k,.int .i64 1,.int .i64 9] V fun e w'=>e = .returned (.bool true)∧V=w'):=fun V=>by
  have h:=outside_is k 1 9 V
  rw[show inR k 1 9=false from by cases e:inR k 1 9 with | false=>rfl | true=>exact absurd ((inR_iff _ _ _).1 e) hk] at h
  exact h
 clear hk
 go_enter Tryz.func53,Tryz.ntmps53
 go_wp2_with fail
 refine(HA.out _).mono ?_
 rintro e w1 ⟨rfl,rfl⟩
 go_wp2
 go_ret
 exact⟨rfl,below_one _ _⟩
theorem sameQ_comm (q p:ReqD):sameQ q p=sameQ p q:=by
 by_cases h:q=p
 ·rw[h]
 ·rw[sameQ_no h,sameQ_no (fun e=>h e.symm)]
theorem rqcheck_any (q:ReqD) (w:World) :
  Calls Tryz.prog 53 #[.agg #[.int .i64 q.kind,.string q.job.name,.int .i64 q.job.prio,.int .i64 q.job.need,.int .i64 q.job.tries,.string q.job.tag,.string q.node.name,.int .i64 q.node.room,.string q.node.zone,.string q.lease.job,.string q.lease.node,.int .i64 q.lease.til,.string q.name,.int .i64 q.n]] w fun e w'=>e = .returned (.int .i64 (qcheckE V8 q:Nat))∧Below w.heap.size w w':=by
 obtain⟨k,j,n,l,nm,N⟩:=q
 simp only
 by_cases h:1≤k∧k≤9
 ·rcases kinds h with rfl | rfl | rfl | rfl | rfl | rfl | rfl | rfl | rfl
  ·rw[qcheck_same (q:=⟨1,j,n,l,nm,N⟩) (p:=(⟨1,j,zNode,zLease,⟨#[]⟩,0⟩:ReqD)) (e:=jobE V8 j) h (by simp[ownQ]) (by simp[partE]),sameQ_comm];exact rqcheck1_is j n l nm N w
  ·rw[qcheck_same (q:=⟨2,j,n,l,nm,N⟩) (p:=(⟨2,zJob,n,zLease,⟨#[]⟩,0⟩:ReqD)) (e:=nodeE V8 n) h (by simp[ownQ]) (by simp[partE]),sameQ_comm];exact rqcheck2_is j n l nm N w
  ·rw[qcheck_same (q:=⟨3,j,n,l,nm,N⟩) (p:=(⟨3,zJob,zNode,zLease,nm,0⟩:ReqD)) (e:=(if isName V8 nm then 0 else 4)) h (by simp[ownQ]) (by simp[partE]),sameQ_comm];exact rqcheck3_is j n l nm N w
  ·rw[qcheck_same (q:=⟨4,j,n,l,nm,N⟩) (p:=(⟨4,zJob,zNode,zLease,nm,0⟩:ReqD)) (e:=(if isName V8 nm then 0 else 4)) h (by simp[ownQ]) (by simp[partE]),sameQ_comm];exact rqcheck4_is j n l nm N w
  ·rw[qcheck_same (q:=⟨5,j,n,l,nm,N⟩) (p:=(⟨5,zJob,zNode,l,⟨#[]⟩,0⟩:ReqD)) (e:=leaseCE V8 l) h (by simp[ownQ]) (by simp[partE]),sameQ_comm];exact rqcheck5_is j n l nm N w
  ·rw[qcheck_same (q:=⟨6,j,n,l,nm,N⟩) (p:=(⟨6,zJob,zNode,zLease,nm,0⟩:ReqD)) (e:=(if isName V8 nm then 0 else 4)) h (by simp[ownQ]) (by simp[partE]),sameQ_comm];exact rqcheck6_is j n l nm N w
  ·rw[qcheck_same (q:=⟨7,j,n,l,nm,N⟩) (p:=(⟨7,zJob,zNode,zLease,⟨#[]⟩,N⟩:ReqD)) (e:=(if inR N 0 1099511627776 then 0 else 1)) h (by simp[ownQ]) (by simp[partE]),sameQ_comm];exact rqcheck7_is j n l nm N w
  ·rw[qcheck_same (q:=⟨8,j,n,l,nm,N⟩) (p:=(⟨8,zJob,zNode,zLease,⟨#[]⟩,0⟩:ReqD)) (e:=0) h (by simp[ownQ,kindQ]) (by simp[partE]),sameQ_comm];exact rqcheck8_is j n l nm N w
  ·rw[qcheck_same (q:=⟨9,j,n,l,nm,N⟩) (p:=(⟨9,zJob,zNode,zLease,⟨#[]⟩,0⟩:ReqD)) (e:=0) h (by simp[ownQ,kindQ]) (by simp[partE]),sameQ_comm];exact rqcheck9_is j n l nm N w
 ·rw[qcheck_arg V8 (q:=⟨k,j,n,l,nm,N⟩) h];exact rqcheck0_is k h j n l nm N w
end Go.Proofs.YtiekgafopalfmaaGreatDoor
