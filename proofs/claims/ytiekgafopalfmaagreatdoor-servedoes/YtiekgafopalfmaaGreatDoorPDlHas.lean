import Derived.Test.YtiekgafopalfmaaGreatDoorPPkDl1
import Derived.Test.YtiekgafopalfmaaGreatDoorPPkWi5
import Derived.Test.YtiekgafopalfmaaGreatDoorPPkWi2
set_option maxRecDepth 100000
set_option maxHeartbeats 4000000
namespace Go.Proofs.YtiekgafopalfmaaGreatDoor
open Go.RowKit
theorem hasJob_is (xs:List JobD) (x:JobD) (B:Bool) (hB:B=true↔x∈xs) (ad:Option Addr) (cap:Nat) (hx1:xs.length≤140737488355328) (w:World) (hx:JobsAt w ad xs) :
  Calls Tryz.prog 71 #[.slice ad xs.length cap,.agg #[.string x.name,.int .i64 x.prio,.int .i64 x.need,.int .i64 x.tries,.string x.tag]] w fun e w'=>e = .returned (.bool B)∧Below w.heap.size w w':=by
 have HX:=Lib.hid hx
 have HB:=Lib.hid hB
 clear hx hB
 have bW:=below_one w (.cells #[.string x.name,.int .i64 x.prio,.int .i64 x.need,.int .i64 x.tries,.string x.tag] 38)
 have oW:=objAt_new w #[.string x.name,.int .i64 x.prio,.int .i64 x.need,.int .i64 x.tries,.string x.tag] 38
 obtain⟨H,hH⟩:∃H,w.heap.size=H:=⟨_,rfl⟩
 obtain⟨W,hW⟩:∃W,w.alloc (.cells #[.string x.name,.int .i64 x.prio,.int .i64 x.need,.int .i64 x.tries,.string x.tag] 38)=W:=⟨_,rfl⟩
 rw[hW] at bW oW
 rw[hH] at oW
 have BW:=Lib.hid bW
 have OW:=Lib.hid oW
 have HW:=Lib.hid hW
 clear bW oW hW
 go_enter Tryz.func71,Tryz.ntmps71
 go_wp2
 rw[HW.out]
 go_loopw [9] (fun iv wr=>∃(i:Nat),iv = .int .i64 (i:Int)∧i≤xs.length∧Below W.heap.size W wr∧Hid (∀j (h:j<xs.length),j<i→xs[j]≠x)) (fun iv _=>xs.length - (intOf iv).toNat)
 case atStart=>exact⟨0,rfl,by omega,Below.refl _ _,fun j _ hj=>by omega⟩
 case round =>
  obtain⟨i,rfl,hi,hbr,HS⟩:=hrel
  have hbw:Below w.heap.size w wr:=below_trans BW.out hbr BW.out.size
  by_cases h:(i:Int)<(xs.length:Int)
  ·have hil:i<xs.length:=by omega
   obtain⟨a,rfl,hal,k0,k1,k2,k3,k4⟩:=jobsAt_next HX.out hbw i hil
   obtain⟨y,hyi⟩:∃y,xs[i]=y:=⟨_,rfl⟩
   rw[hyi] at k0 k1 k2 k3 k4
   have bA:=below_one wr (.cells #[.string y.name,.int .i64 y.prio,.int .i64 y.need,.int .i64 y.tries,.string y.tag] 38)
   have oX:=objAt_next (objAt_next OW.out hbr) bA
   have z0:=objAt_cell oX 0 rfl
   have z1:=objAt_cell oX 1 rfl
   have z2:=objAt_cell oX 2 rfl
   have z3:=objAt_cell oX 3 rfl
   have z4:=objAt_cell oX 4 rfl
   have zl:=objAt_lt OW.out
   have zl2:H<wr.heap.size:=Nat.lt_of_lt_of_le zl hbr.size
   have BA:=Lib.hid (below_trans hbw bA hbw.size)
   have BC:=Lib.hid (below_trans hbr bA hbr.size)
   clear bA oX zl
   have HQ:=Lib.hid hyi
   clear hyi hbr hbw
   by_cases hxy:x=y
   ·have HM:Hid (x∈xs):=by show _∈_;rw[hxy,←HQ.out];exact List.getElem_mem hil
    obtain rfl:B=true:=HB.out.2 HM.out
    subst hxy
    have h_name:=lists_eq x.name
    have h_tag:=lists_eq x.tag
    go_wp2
    go_ret
    exact⟨rfl,by first | exact BA.out | (rw[←hH];exact BA.out)⟩
   ·have HS2:Hid (∀j (h:j<xs.length),j<i+1→xs[j]≠x):=fun j hj hji=>by
     by_cases e:j=i
     ·subst e;rw[HQ.out];exact fun h=>hxy h.symm
     ·exact HS.out j hj (by omega)
    have hf:=firstJob hxy
    clear hxy
    rcases hf with hf | ⟨q0,hf⟩ | ⟨q0,q1,hf⟩ | ⟨q0,q1,q2,hf⟩ | ⟨q0,q1,q2,q3,hf⟩
    ·go_wp2
     go_roundw
     case rel=>exact⟨i+1,by simp,by omega,BC.out,HS2⟩
     case measure=>simp[intOf];omega
    ·have g0:(x.name.toList==y.name.toList)=true:=by rw[q0];exact lists_eq _
     clear q0
     go_wp2
     go_roundw
     case rel=>exact⟨i+1,by simp,by omega,BC.out,HS2⟩
     case measure=>simp[intOf];omega
    ·have g0:(x.name.toList==y.name.toList)=true:=by rw[q0];exact lists_eq _
     have g1:(x.prio==y.prio)=true:=by rw[q1];simp
     clear q0 q1
     go_wp2
     go_roundw
     case rel=>exact⟨i+1,by simp,by omega,BC.out,HS2⟩
     case measure=>simp[intOf];omega
    ·have g0:(x.name.toList==y.name.toList)=true:=by rw[q0];exact lists_eq _
     have g1:(x.prio==y.prio)=true:=by rw[q1];simp
     have g2:(x.need==y.need)=true:=by rw[q2];simp
     clear q0 q1 q2
     go_wp2
     go_roundw
     case rel=>exact⟨i+1,by simp,by omega,BC.out,HS2⟩
     case measure=>simp[intOf];omega
    ·have g0:(x.name.toList==y.name.toList)=true:=by rw[q0];exact lists_eq _
     have g1:(x.prio==y.prio)=true:=by rw[q1];simp
     have g2:(x.need==y.need)=true:=by rw[q2];simp
     have g3:(x.tries==y.tries)=true:=by rw[q3];simp
     clear q0 q1 q2 q3
     go_wp2
     go_roundw
     case rel=>exact⟨i+1,by simp,by omega,BC.out,HS2⟩
     case measure=>simp[intOf];omega
  ·obtain rfl:i=xs.length:=by omega
   obtain rfl:B=false:=by
    cases B with
    | false=>rfl
    | true =>
     obtain⟨j,hj,e⟩:=List.getElem_of_mem (HB.out.1 (by first | rfl | trivial))
     exact absurd e (HS.out j hj hj)
   have BA:=Lib.hid hbw
   clear hbw hbr
   go_wp2
   go_ret
   exact⟨rfl,by first | exact BA.out | (rw[←hH];exact BA.out)⟩
theorem hasNode_is (xs:List NodeD) (x:NodeD) (B:Bool) (hB:B=true↔x∈xs) (ad:Option Addr) (cap:Nat) (hx1:xs.length≤140737488355328) (w:World) (hx:NodesAt w ad xs) :
  Calls Tryz.prog 72 #[.slice ad xs.length cap,.agg #[.string x.name,.int .i64 x.room,.string x.zone]] w fun e w'=>e = .returned (.bool B)∧Below w.heap.size w w':=by
 have HX:=Lib.hid hx
 have HB:=Lib.hid hB
 clear hx hB
 have bW:=below_one w (.cells #[.string x.name,.int .i64 x.room,.string x.zone] 40)
 have oW:=objAt_new w #[.string x.name,.int .i64 x.room,.string x.zone] 40
 obtain⟨H,hH⟩:∃H,w.heap.size=H:=⟨_,rfl⟩
 obtain⟨W,hW⟩:∃W,w.alloc (.cells #[.string x.name,.int .i64 x.room,.string x.zone] 40)=W:=⟨_,rfl⟩
 rw[hW] at bW oW
 rw[hH] at oW
 have BW:=Lib.hid bW
 have OW:=Lib.hid oW
 have HW:=Lib.hid hW
 clear bW oW hW
 go_enter Tryz.func72,Tryz.ntmps72
 go_wp2
 rw[HW.out]
 go_loopw [9] (fun iv wr=>∃(i:Nat),iv = .int .i64 (i:Int)∧i≤xs.length∧Below W.heap.size W wr∧Hid (∀j (h:j<xs.length),j<i→xs[j]≠x)) (fun iv _=>xs.length - (intOf iv).toNat)
 case atStart=>exact⟨0,rfl,by omega,Below.refl _ _,fun j _ hj=>by omega⟩
 case round =>
  obtain⟨i,rfl,hi,hbr,HS⟩:=hrel
  have hbw:Below w.heap.size w wr:=below_trans BW.out hbr BW.out.size
  by_cases h:(i:Int)<(xs.length:Int)
  ·have hil:i<xs.length:=by omega
   obtain⟨a,rfl,hal,k0,k1,k2⟩:=nodesAt_next HX.out hbw i hil
   obtain⟨y,hyi⟩:∃y,xs[i]=y:=⟨_,rfl⟩
   rw[hyi] at k0 k1 k2
   have bA:=below_one wr (.cells #[.string y.name,.int .i64 y.room,.string y.zone] 40)
   have oX:=objAt_next (objAt_next OW.out hbr) bA
   have z0:=objAt_cell oX 0 rfl
   have z1:=objAt_cell oX 1 rfl
   have z2:=objAt_cell oX 2 rfl
   have zl:=objAt_lt OW.out
   have zl2:H<wr.heap.size:=Nat.lt_of_lt_of_le zl hbr.size
   have BA:=Lib.hid (below_trans hbw bA hbw.size)
   have BC:=Lib.hid (below_trans hbr bA hbr.size)
   clear bA oX zl
   have HQ:=Lib.hid hyi
   clear hyi hbr hbw
   by_cases hxy:x=y
   ·have HM:Hid (x∈xs):=by show _∈_;rw[hxy,←HQ.out];exact List.getElem_mem hil
    obtain rfl:B=true:=HB.out.2 HM.out
    subst hxy
    have h_name:=lists_eq x.name
    have h_zone:=lists_eq x.zone
    go_wp2
    go_ret
    exact⟨rfl,by first | exact BA.out | (rw[←hH];exact BA.out)⟩
   ·have HS2:Hid (∀j (h:j<xs.length),j<i+1→xs[j]≠x):=fun j hj hji=>by
     by_cases e:j=i
     ·subst e;rw[HQ.out];exact fun h=>hxy h.symm
     ·exact HS.out j hj (by omega)
    have hf:=firstNode hxy
    clear hxy
    rcases hf with hf | ⟨q0,hf⟩ | ⟨q0,q1,hf⟩
    ·go_wp2
     go_roundw
     case rel=>exact⟨i+1,by simp,by omega,BC.out,HS2⟩
     case measure=>simp[intOf];omega
    ·have g0:(x.name.toList==y.name.toList)=true:=by rw[q0];exact lists_eq _
     clear q0
     go_wp2
     go_roundw
     case rel=>exact⟨i+1,by simp,by omega,BC.out,HS2⟩
     case measure=>simp[intOf];omega
    ·have g0:(x.name.toList==y.name.toList)=true:=by rw[q0];exact lists_eq _
     have g1:(x.room==y.room)=true:=by rw[q1];simp
     clear q0 q1
     go_wp2
     go_roundw
     case rel=>exact⟨i+1,by simp,by omega,BC.out,HS2⟩
     case measure=>simp[intOf];omega
  ·obtain rfl:i=xs.length:=by omega
   obtain rfl:B=false:=by
    cases B with
    | false=>rfl
    | true =>
     obtain⟨j,hj,e⟩:=List.getElem_of_mem (HB.out.1 (by first | rfl | trivial))
     exact absurd e (HS.out j hj hj)
   have BA:=Lib.hid hbw
   clear hbw hbr
   go_wp2
   go_ret
   exact⟨rfl,by first | exact BA.out | (rw[←hH];exact BA.out)⟩
theorem hasLease_is (xs:List LeaseD) (x:LeaseD) (B:Bool) (hB:B=true↔x∈xs) (ad:Option Addr) (cap:Nat) (hx1:xs.length≤140737488355328) (w:World) (hx:LeasesAt w ad xs) :
  Calls Tryz.prog 73 #[.slice ad xs.length cap,.agg #[.string x.job,.string x.node,.int .i64 x.til]] w fun e w'=>e = .returned (.bool B)∧Below w.heap.size w w':=by
 have HX:=Lib.hid hx
 have HB:=Lib.hid hB
 clear hx hB
 have bW:=below_one w (.cells #[.string x.job,.string x.node,.int .i64 x.til] 42)
 have oW:=objAt_new w #[.string x.job,.string x.node,.int .i64 x.til] 42
 obtain⟨H,hH⟩:∃H,w.heap.size=H:=⟨_,rfl⟩
 obtain⟨W,hW⟩:∃W,w.alloc (.cells #[.string x.job,.string x.node,.int .i64 x.til] 42)=W:=⟨_,rfl⟩
 rw[hW] at bW oW
 rw[hH] at oW
 have BW:=Lib.hid bW
 have OW:=Lib.hid oW
 have HW:=Lib.hid hW
 clear bW oW hW
 go_enter Tryz.func73,Tryz.ntmps73
 go_wp2
 rw[HW.out]
 go_loopw [9] (fun iv wr=>∃(i:Nat),iv = .int .i64 (i:Int)∧i≤xs.length∧Below W.heap.size W wr∧Hid (∀j (h:j<xs.length),j<i→xs[j]≠x)) (fun iv _=>xs.length - (intOf iv).toNat)
 case atStart=>exact⟨0,rfl,by omega,Below.refl _ _,fun j _ hj=>by omega⟩
 case round =>
  obtain⟨i,rfl,hi,hbr,HS⟩:=hrel
  have hbw:Below w.heap.size w wr:=below_trans BW.out hbr BW.out.size
  by_cases h:(i:Int)<(xs.length:Int)
  ·have hil:i<xs.length:=by omega
   obtain⟨a,rfl,hal,k0,k1,k2⟩:=leasesAt_next HX.out hbw i hil
   obtain⟨y,hyi⟩:∃y,xs[i]=y:=⟨_,rfl⟩
   rw[hyi] at k0 k1 k2
   have bA:=below_one wr (.cells #[.string y.job,.string y.node,.int .i64 y.til] 42)
   have oX:=objAt_next (objAt_next OW.out hbr) bA
   have z0:=objAt_cell oX 0 rfl
   have z1:=objAt_cell oX 1 rfl
   have z2:=objAt_cell oX 2 rfl
   have zl:=objAt_lt OW.out
   have zl2:H<wr.heap.size:=Nat.lt_of_lt_of_le zl hbr.size
   have BA:=Lib.hid (below_trans hbw bA hbw.size)
   have BC:=Lib.hid (below_trans hbr bA hbr.size)
   clear bA oX zl
   have HQ:=Lib.hid hyi
   clear hyi hbr hbw
   by_cases hxy:x=y
   ·have HM:Hid (x∈xs):=by show _∈_;rw[hxy,←HQ.out];exact List.getElem_mem hil
    obtain rfl:B=true:=HB.out.2 HM.out
    subst hxy
    have h_job:=lists_eq x.job
    have h_node:=lists_eq x.node
    go_wp2
    go_ret
    exact⟨rfl,by first | exact BA.out | (rw[←hH];exact BA.out)⟩
   ·have HS2:Hid (∀j (h:j<xs.length),j<i+1→xs[j]≠x):=fun j hj hji=>by
     by_cases e:j=i
     ·subst e;rw[HQ.out];exact fun h=>hxy h.symm
     ·exact HS.out j hj (by omega)
    have hf:=firstLease hxy
    clear hxy
    rcases hf with hf | ⟨q0,hf⟩ | ⟨q0,q1,hf⟩
    ·go_wp2
     go_roundw
     case rel=>exact⟨i+1,by simp,by omega,BC.out,HS2⟩
     case measure=>simp[intOf];omega
    ·have g0:(x.job.toList==y.job.toList)=true:=by rw[q0];exact lists_eq _
     clear q0
     go_wp2
     go_roundw
     case rel=>exact⟨i+1,by simp,by omega,BC.out,HS2⟩
     case measure=>simp[intOf];omega
    ·have g0:(x.job.toList==y.job.toList)=true:=by rw[q0];exact lists_eq _
     have g1:(x.node.toList==y.node.toList)=true:=by rw[q1];exact lists_eq _
     clear q0 q1
     go_wp2
     go_roundw
     case rel=>exact⟨i+1,by simp,by omega,BC.out,HS2⟩
     case measure=>simp[intOf];omega
  ·obtain rfl:i=xs.length:=by omega
   obtain rfl:B=false:=by
    cases B with
    | false=>rfl
    | true =>
     obtain⟨j,hj,e⟩:=List.getElem_of_mem (HB.out.1 (by first | rfl | trivial))
     exact absurd e (HS.out j hj hj)
   have BA:=Lib.hid hbw
   clear hbw hbr
   go_wp2
   go_ret
   exact⟨rfl,by first | exact BA.out | (rw[←hH];exact BA.out)⟩
end Go.Proofs.YtiekgafopalfmaaGreatDoor
