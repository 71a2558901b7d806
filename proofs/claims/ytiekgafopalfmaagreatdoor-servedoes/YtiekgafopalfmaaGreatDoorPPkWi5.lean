import Derived.Test.YtiekgafopalfmaaGreatDoorPPkSt2
import Derived.RegionTactic
import Derived.Test.YtiekgafopalfmaaGreatDoorPPkWi4
import Derived.Deep.RegionHeld3
import Derived.Test.YtiekgafopalfmaaGreatDoorCards
import Derived.Test.YtiekgafopalfmaaGreatDoorTie
import Derived.OpenShut
import Derived.ShutString
import Derived.SizedLaws
import Derived.ChangeOld
import Derived.Lib.LaidIn
import Derived.Lib.LaidU8T
import Derived.Deep.DeepHandedRow
import Derived.Deep.DeepWitnessRowRef
import Derived.Test.YtiekgafopalfmaaGreatDoorPRest
set_option maxRecDepth 100000
set_option maxHeartbeats 4000000
namespace Go.Proofs.YtiekgafopalfmaaGreatDoor
open Go.RowKit
theorem bytes_eq {a b:ByteArray} (h:a.data.toList=b.data.toList):a=b:=WideShapes.bytes_inj h
theorem lists_ne {a b:ByteArray} (h:a≠b):(a.toList==b.toList)=false:=by
 rw[ByteArray.toList_eq,ByteArray.toList_eq]
 have:¬a.data.toList=b.data.toList:=fun e=>h (bytes_eq e)
 simpa using this
theorem lists_eq (a:ByteArray):(a.toList==a.toList)=true:=by simp
theorem list_same {α:Type}{xs ys:List α} (hl:xs.length=ys.length) (h:∀j,j<xs.length→xs[j]?=ys[j]?):xs=ys:=by
 apply List.ext_getElem?
 intro j
 by_cases hj:j<xs.length
 ·exact h j hj
 ·rw[List.getElem?_eq_none (by omega),List.getElem?_eq_none (by omega)]
theorem firstJob {x y:JobD} (h:x≠y):((x.name.toList==y.name.toList)=false)∨(x.name=y.name∧(x.prio==y.prio)=false)∨(x.name=y.name∧x.prio=y.prio∧(x.need==y.need)=false)∨(x.name=y.name∧x.prio=y.prio∧x.need=y.need∧(x.tries==y.tries)=false)∨(x.name=y.name∧x.prio=y.prio∧x.need=y.need∧x.tries=y.tries∧(x.tag.toList==y.tag.toList)=false):=by
 by_cases e0:x.name=y.name
 case neg=>exact .inl (lists_ne e0)
 by_cases e1:x.prio=y.prio
 case neg=>exact .inr (.inl ⟨e0,by simpa using e1⟩)
 by_cases e2:x.need=y.need
 case neg=>exact .inr (.inr (.inl ⟨e0,e1,by simpa using e2⟩))
 by_cases e3:x.tries=y.tries
 case neg=>exact .inr (.inr (.inr (.inl ⟨e0,e1,e2,by simpa using e3⟩)))
 by_cases e4:x.tag=y.tag
 case neg=>exact .inr (.inr (.inr (.inr (⟨e0,e1,e2,e3,lists_ne e4⟩))))
 exact absurd (by cases x;cases y;simp_all) h
theorem eqJobs_is (xs ys:List JobD) (ad ad':Option Addr) (cap cap':Nat) (hx1:xs.length≤140737488355328) (w:World) (hx:JobsAt w ad xs) (hy:JobsAt w ad' ys) :
  Calls Tryz.prog 26 #[.slice ad xs.length cap,.slice ad' ys.length cap'] w fun e w'=>∃c:Bool,e = .returned (.bool c)∧(c=true↔xs=ys)∧Below w.heap.size w w':=by
 by_cases hl:xs.length=ys.length
 case neg =>
  have hl':((xs.length:Int)!=(ys.length:Int))=true:=by simp;omega
  have HN:Hid (¬xs=ys):=fun e=>hl (by rw[e])
  clear hx hy hl
  go_enter Tryz.func26,Tryz.ntmps26
  go_wp2
  go_ret
  exact⟨false,rfl,⟨fun h=>(by cases h),fun h=>absurd h HN.out⟩,Below.refl _ _⟩
 have HX:=Lib.hid hx
 have HY:=Lib.hid hy
 have HL:=Lib.hid hl
 clear hx hy hl
 have hl0:((xs.length:Int)!=(ys.length:Int))=false:=by simp[HL.out]
 go_enter Tryz.func26,Tryz.ntmps26
 go_wp2
 go_loopw [14] (fun iv wr=>∃(i:Nat),iv = .int .i64 (i:Int)∧i≤xs.length∧Below w.heap.size w wr∧Hid (∀j,j<i→xs[j]?=ys[j]?)) (fun iv _=>xs.length - (intOf iv).toNat)
 case atStart=>exact⟨0,rfl,by omega,Below.refl _ _,fun j hj=>by omega⟩
 case round =>
  obtain⟨i,rfl,hi,hbr,HS⟩:=hrel
  by_cases h:(i:Int)<(xs.length:Int)
  ·have hil:i<xs.length:=by omega
   have hil':i<ys.length:=by rw[←HL.out];exact hil
   have hiy:(i:Int)<(ys.length:Int):=by omega
   obtain⟨a,rfl,hal,k0,k1,k2,k3,k4⟩:=jobsAt_next HX.out hbr i hil
   obtain⟨x,hxi⟩:∃x,xs[i]=x:=⟨_,rfl⟩
   rw[hxi] at k0 k1 k2 k3 k4
   have bA:=below_trans hbr (below_one wr (.cells #[.string x.name,.int .i64 x.prio,.int .i64 x.need,.int .i64 x.tries,.string x.tag] 38)) hbr.size
   have hY:=jobsAt_next HY.out bA i hil'
   obtain⟨a',rfl,hal',m0,m1,m2,m3,m4⟩:=hY
   obtain⟨y,hyi⟩:∃y,ys[i]=y:=⟨_,rfl⟩
   rw[hyi] at m0 m1 m2 m3 m4
   have qx:xs[i]?=some x:=by rw[List.getElem?_eq_getElem hil,hxi]
   have qy:ys[i]?=some y:=by rw[List.getElem?_eq_getElem hil',hyi]
   have HQ:=Lib.hid (And.intro qx qy)
   have BA:=Lib.hid bA
   clear hxi hyi qx qy bA
   by_cases hxy:x=y
   ·subst hxy
    have h_name:=lists_eq x.name
    have h_tag:=lists_eq x.tag
    have HS2:Hid (∀j,j<i+1→xs[j]?=ys[j]?):=fun j hj=>by
     by_cases e:j=i
     ·subst e;rw[HQ.out.1,HQ.out.2]
     ·exact HS.out j (by omega)
    go_wp2_with fail
    go_region
    go_wp2
    go_roundw
    case rel=>exact⟨i+1,by simp,by omega,BA.out.drew,HS2⟩
    case measure=>simp[intOf];omega
   ·have HN:Hid (¬xs=ys):=fun e=>by
     have h1:=HQ.out.1
     rw[e,HQ.out.2] at h1
     simp only[Option.some.injEq] at h1
     exact hxy h1.symm
    have hf:=firstJob hxy
    clear hxy
    cases x with | mk x0 x1 x2 x3 x4 =>
    cases y with | mk y0 y1 y2 y3 y4 =>
    simp only at hf k0 k1 k2 k3 k4 m0 m1 m2 m3 m4
    rcases hf with hf | ⟨rfl,hf⟩ | ⟨rfl,rfl,hf⟩ | ⟨rfl,rfl,rfl,hf⟩ | ⟨rfl,rfl,rfl,rfl,hf⟩
    ·go_wp2_with fail
     go_region
     go_wp2
     go_ret
     exact⟨false,rfl,⟨fun h=>(by cases h),fun h=>absurd h HN.out⟩,BA.out.drew⟩
    ·have g0:=lists_eq x0
     go_wp2_with fail
     go_region
     go_wp2
     go_ret
     exact⟨false,rfl,⟨fun h=>(by cases h),fun h=>absurd h HN.out⟩,BA.out.drew⟩
    ·have g0:=lists_eq x0
     go_wp2_with fail
     go_region
     go_wp2
     go_ret
     exact⟨false,rfl,⟨fun h=>(by cases h),fun h=>absurd h HN.out⟩,BA.out.drew⟩
    ·have g0:=lists_eq x0
     go_wp2_with fail
     go_region
     go_wp2
     go_ret
     exact⟨false,rfl,⟨fun h=>(by cases h),fun h=>absurd h HN.out⟩,BA.out.drew⟩
    ·have g0:=lists_eq x0
     go_wp2_with fail
     go_region
     go_wp2
     go_ret
     exact⟨false,rfl,⟨fun h=>(by cases h),fun h=>absurd h HN.out⟩,BA.out.drew⟩
  ·obtain rfl:i=xs.length:=by omega
   have HE:=Lib.hid (list_same HL.out HS.out)
   go_wp2
   go_ret
   first | exact⟨true,rfl,⟨fun _=>HE.out,fun _=>rfl⟩,hbr⟩ | exact .inr ⟨rfl,HE.out,hbr⟩
theorem firstNode {x y:NodeD} (h:x≠y):((x.name.toList==y.name.toList)=false)∨(x.name=y.name∧(x.room==y.room)=false)∨(x.name=y.name∧x.room=y.room∧(x.zone.toList==y.zone.toList)=false):=by
 by_cases e0:x.name=y.name
 case neg=>exact .inl (lists_ne e0)
 by_cases e1:x.room=y.room
 case neg=>exact .inr (.inl ⟨e0,by simpa using e1⟩)
 by_cases e2:x.zone=y.zone
 case neg=>exact .inr (.inr (⟨e0,e1,lists_ne e2⟩))
 exact absurd (by cases x;cases y;simp_all) h
theorem eqNodes_is (xs ys:List NodeD) (ad ad':Option Addr) (cap cap':Nat) (hx1:xs.length≤140737488355328) (w:World) (hx:NodesAt w ad xs) (hy:NodesAt w ad' ys) :
  Calls Tryz.prog 27 #[.slice ad xs.length cap,.slice ad' ys.length cap'] w fun e w'=>∃c:Bool,e = .returned (.bool c)∧(c=true↔xs=ys)∧Below w.heap.size w w':=by
 by_cases hl:xs.length=ys.length
 case neg =>
  have hl':((xs.length:Int)!=(ys.length:Int))=true:=by simp;omega
  have HN:Hid (¬xs=ys):=fun e=>hl (by rw[e])
  clear hx hy hl
  go_enter Tryz.func27,Tryz.ntmps27
  go_wp2
  go_ret
  exact⟨false,rfl,⟨fun h=>(by cases h),fun h=>absurd h HN.out⟩,Below.refl _ _⟩
 have HX:=Lib.hid hx
 have HY:=Lib.hid hy
 have HL:=Lib.hid hl
 clear hx hy hl
 have hl0:((xs.length:Int)!=(ys.length:Int))=false:=by simp[HL.out]
 go_enter Tryz.func27,Tryz.ntmps27
 go_wp2
 go_loopw [14] (fun iv wr=>∃(i:Nat),iv = .int .i64 (i:Int)∧i≤xs.length∧Below w.heap.size w wr∧Hid (∀j,j<i→xs[j]?=ys[j]?)) (fun iv _=>xs.length - (intOf iv).toNat)
 case atStart=>exact⟨0,rfl,by omega,Below.refl _ _,fun j hj=>by omega⟩
 case round =>
  obtain⟨i,rfl,hi,hbr,HS⟩:=hrel
  by_cases h:(i:Int)<(xs.length:Int)
  ·have hil:i<xs.length:=by omega
   have hil':i<ys.length:=by rw[←HL.out];exact hil
   have hiy:(i:Int)<(ys.length:Int):=by omega
   obtain⟨a,rfl,hal,k0,k1,k2⟩:=nodesAt_next HX.out hbr i hil
   obtain⟨x,hxi⟩:∃x,xs[i]=x:=⟨_,rfl⟩
   rw[hxi] at k0 k1 k2
   have bA:=below_trans hbr (below_one wr (.cells #[.string x.name,.int .i64 x.room,.string x.zone] 40)) hbr.size
   have hY:=nodesAt_next HY.out bA i hil'
   obtain⟨a',rfl,hal',m0,m1,m2⟩:=hY
   obtain⟨y,hyi⟩:∃y,ys[i]=y:=⟨_,rfl⟩
   rw[hyi] at m0 m1 m2
   have qx:xs[i]?=some x:=by rw[List.getElem?_eq_getElem hil,hxi]
   have qy:ys[i]?=some y:=by rw[List.getElem?_eq_getElem hil',hyi]
   have HQ:=Lib.hid (And.intro qx qy)
   have BA:=Lib.hid bA
   clear hxi hyi qx qy bA
   by_cases hxy:x=y
   ·subst hxy
    have h_name:=lists_eq x.name
    have h_zone:=lists_eq x.zone
    have HS2:Hid (∀j,j<i+1→xs[j]?=ys[j]?):=fun j hj=>by
     by_cases e:j=i
     ·subst e;rw[HQ.out.1,HQ.out.2]
     ·exact HS.out j (by omega)
    go_wp2_with fail
    go_region
    go_wp2
    go_roundw
    case rel=>exact⟨i+1,by simp,by omega,BA.out.drew,HS2⟩
    case measure=>simp[intOf];omega
   ·have HN:Hid (¬xs=ys):=fun e=>by
     have h1:=HQ.out.1
     rw[e,HQ.out.2] at h1
     simp only[Option.some.injEq] at h1
     exact hxy h1.symm
    have hf:=firstNode hxy
    clear hxy
    cases x with | mk x0 x1 x2 =>
    cases y with | mk y0 y1 y2 =>
    simp only at hf k0 k1 k2 m0 m1 m2
    rcases hf with hf | ⟨rfl,hf⟩ | ⟨rfl,rfl,hf⟩
    ·go_wp2_with fail
     go_region
     go_wp2
     go_ret
     exact⟨false,rfl,⟨fun h=>(by cases h),fun h=>absurd h HN.out⟩,BA.out.drew⟩
    ·have g0:=lists_eq x0
     go_wp2_with fail
     go_region
     go_wp2
     go_ret
     exact⟨false,rfl,⟨fun h=>(by cases h),fun h=>absurd h HN.out⟩,BA.out.drew⟩
    ·have g0:=lists_eq x0
     go_wp2_with fail
     go_region
     go_wp2
     go_ret
     exact⟨false,rfl,⟨fun h=>(by cases h),fun h=>absurd h HN.out⟩,BA.out.drew⟩
  ·obtain rfl:i=xs.length:=by omega
   have HE:=Lib.hid (list_same HL.out HS.out)
   go_wp2
   go_ret
   first | exact⟨true,rfl,⟨fun _=>HE.out,fun _=>rfl⟩,hbr⟩ | exact .inr ⟨rfl,HE.out,hbr⟩
theorem firstLease {x y:LeaseD} (h:x≠y):((x.job.toList==y.job.toList)=false)∨(x.job=y.job∧(x.node.toList==y.node.toList)=false)∨(x.job=y.job∧x.node=y.node∧(x.til==y.til)=false):=by
 by_cases e0:x.job=y.job
 case neg=>exact .inl (lists_ne e0)
 by_cases e1:x.node=y.node
 case neg=>exact .inr (.inl ⟨e0,lists_ne e1⟩)
 by_cases e2:x.til=y.til
 case neg=>exact .inr (.inr (⟨e0,e1,by simpa using e2⟩))
 exact absurd (by cases x;cases y;simp_all) h
theorem eqLeases_is (xs ys:List LeaseD) (ad ad':Option Addr) (cap cap':Nat) (hx1:xs.length≤140737488355328) (w:World) (hx:LeasesAt w ad xs) (hy:LeasesAt w ad' ys) :
  Calls Tryz.prog 28 #[.slice ad xs.length cap,.slice ad' ys.length cap'] w fun e w'=>∃c:Bool,e = .returned (.bool c)∧(c=true↔xs=ys)∧Below w.heap.size w w':=by
 by_cases hl:xs.length=ys.length
 case neg =>
  have hl':((xs.length:Int)!=(ys.length:Int))=true:=by simp;omega
  have HN:Hid (¬xs=ys):=fun e=>hl (by rw[e])
  clear hx hy hl
  go_enter Tryz.func28,Tryz.ntmps28
  go_wp2
  go_ret
  exact⟨false,rfl,⟨fun h=>(by cases h),fun h=>absurd h HN.out⟩,Below.refl _ _⟩
 have HX:=Lib.hid hx
 have HY:=Lib.hid hy
 have HL:=Lib.hid hl
 clear hx hy hl
 have hl0:((xs.length:Int)!=(ys.length:Int))=false:=by simp[HL.out]
 go_enter Tryz.func28,Tryz.ntmps28
 go_wp2
 go_loopw [14] (fun iv wr=>∃(i:Nat),iv = .int .i64 (i:Int)∧i≤xs.length∧Below w.heap.size w wr∧Hid (∀j,j<i→xs[j]?=ys[j]?)) (fun iv _=>xs.length - (intOf iv).toNat)
 case atStart=>exact⟨0,rfl,by omega,Below.refl _ _,fun j hj=>by omega⟩
 case round =>
  obtain⟨i,rfl,hi,hbr,HS⟩:=hrel
  by_cases h:(i:Int)<(xs.length:Int)
  ·have hil:i<xs.length:=by omega
   have hil':i<ys.length:=by rw[←HL.out];exact hil
   have hiy:(i:Int)<(ys.length:Int):=by omega
   obtain⟨a,rfl,hal,k0,k1,k2⟩:=leasesAt_next HX.out hbr i hil
   obtain⟨x,hxi⟩:∃x,xs[i]=x:=⟨_,rfl⟩
   rw[hxi] at k0 k1 k2
   have bA:=below_trans hbr (below_one wr (.cells #[.string x.job,.string x.node,.int .i64 x.til] 42)) hbr.size
   have hY:=leasesAt_next HY.out bA i hil'
   obtain⟨a',rfl,hal',m0,m1,m2⟩:=hY
   obtain⟨y,hyi⟩:∃y,ys[i]=y:=⟨_,rfl⟩
   rw[hyi] at m0 m1 m2
   have qx:xs[i]?=some x:=by rw[List.getElem?_eq_getElem hil,hxi]
   have qy:ys[i]?=some y:=by rw[List.getElem?_eq_getElem hil',hyi]
   have HQ:=Lib.hid (And.intro qx qy)
   have BA:=Lib.hid bA
   clear hxi hyi qx qy bA
   by_cases hxy:x=y
   ·subst hxy
    have h_job:=lists_eq x.job
    have h_node:=lists_eq x.node
    have HS2:Hid (∀j,j<i+1→xs[j]?=ys[j]?):=fun j hj=>by
     by_cases e:j=i
     ·subst e;rw[HQ.out.1,HQ.out.2]
     ·exact HS.out j (by omega)
    go_wp2_with fail
    go_region
    go_wp2
    go_roundw
    case rel=>exact⟨i+1,by simp,by omega,BA.out.drew,HS2⟩
    case measure=>simp[intOf];omega
   ·have HN:Hid (¬xs=ys):=fun e=>by
     have h1:=HQ.out.1
     rw[e,HQ.out.2] at h1
     simp only[Option.some.injEq] at h1
     exact hxy h1.symm
    have hf:=firstLease hxy
    clear hxy
    cases x with | mk x0 x1 x2 =>
    cases y with | mk y0 y1 y2 =>
    simp only at hf k0 k1 k2 m0 m1 m2
    rcases hf with hf | ⟨rfl,hf⟩ | ⟨rfl,rfl,hf⟩
    ·go_wp2_with fail
     go_region
     go_wp2
     go_ret
     exact⟨false,rfl,⟨fun h=>(by cases h),fun h=>absurd h HN.out⟩,BA.out.drew⟩
    ·have g0:=lists_eq x0
     go_wp2_with fail
     go_region
     go_wp2
     go_ret
     exact⟨false,rfl,⟨fun h=>(by cases h),fun h=>absurd h HN.out⟩,BA.out.drew⟩
    ·have g0:=lists_eq x0
     have g1:=lists_eq x1
     go_wp2_with fail
     go_region
     go_wp2
     go_ret
     exact⟨false,rfl,⟨fun h=>(by cases h),fun h=>absurd h HN.out⟩,BA.out.drew⟩
  ·obtain rfl:i=xs.length:=by omega
   have HE:=Lib.hid (list_same HL.out HS.out)
   go_wp2
   go_ret
   first | exact⟨true,rfl,⟨fun _=>HE.out,fun _=>rfl⟩,hbr⟩ | exact .inr ⟨rfl,HE.out,hbr⟩
theorem st_eq {s t:StD}:s=t↔s.rev=t.rev∧s.jobs=t.jobs∧s.nodes=t.nodes∧s.leases=t.leases:=by
 constructor
 ·rintro rfl;exact⟨rfl,rfl,rfl,rfl⟩
 ·cases s;cases t;rintro ⟨h1,h2,h3,h4⟩;simp only at h1 h2 h3 h4;subst h1 h2 h3 h4;rfl
theorem same_is (s t:StD) (aj an al aj' an' al':Option Addr) (cj cn cl cj' cn' cl':Nat) (hs:s.jobs.length≤140737488355328∧s.nodes.length≤140737488355328∧s.leases.length≤140737488355328) (w:World)
  (hj:JobsAt w aj s.jobs) (hn:NodesAt w an s.nodes) (hl:LeasesAt w al s.leases) (hj':JobsAt w aj' t.jobs) (hn':NodesAt w an' t.nodes) (hl':LeasesAt w al' t.leases) :
  Calls Tryz.prog 11 #[.agg #[.int .i64 s.rev,.slice aj s.jobs.length cj,.slice an s.nodes.length cn,.slice al s.leases.length cl],.agg #[.int .i64 t.rev,.slice aj' t.jobs.length cj',.slice an' t.nodes.length cn',.slice al' t.leases.length cl']] w fun e w'=>∃c:Bool,e = .returned (.bool c)∧(c=true↔s=t)∧Below w.heap.size w w':=by
 obtain⟨W,hW⟩:∃W,(w.alloc (.cells #[.int .i64 s.rev,.slice aj s.jobs.length cj,.slice an s.nodes.length cn,.slice al s.leases.length cl] 26)).alloc (.cells #[.int .i64 t.rev,.slice aj' t.jobs.length cj',.slice an' t.nodes.length cn',.slice al' t.leases.length cl'] 26)=W:=⟨_,rfl⟩
 have q1:=box_alloc (box_new4 w (.int .i64 s.rev) (.slice aj s.jobs.length cj) (.slice an s.nodes.length cn) (.slice al s.leases.length cl) 26) (.cells #[.int .i64 t.rev,.slice aj' t.jobs.length cj',.slice an' t.nodes.length cn',.slice al' t.leases.length cl'] 26)
 have q2:=box_new4 (w.alloc (.cells #[.int .i64 s.rev,.slice aj s.jobs.length cj,.slice an s.nodes.length cn,.slice al s.leases.length cl] 26)) (.int .i64 t.rev) (.slice aj' t.jobs.length cj') (.slice an' t.nodes.length cn') (.slice al' t.leases.length cl') 26
 have bW:Below w.heap.size w W:=by rw[←hW];exact below_trans (below_one _ _) (below_one _ _) (by simp)
 rw[hW] at q1 q2
 rw[World.size_alloc] at q2
 have E:=Lib.hid (@st_eq s t)
 have HJ:=Lib.hid (fun W' (hb:Below w.heap.size w W')=>eqJobs_is s.jobs t.jobs aj aj' cj cj' hs.1 W' (jobsAt_next hj hb) (jobsAt_next hj' hb))
 have HN:=Lib.hid (fun W' (hb:Below w.heap.size w W')=>eqNodes_is s.nodes t.nodes an an' cn cn' hs.2.1 W' (nodesAt_next hn hb) (nodesAt_next hn' hb))
 have HL:=Lib.hid (fun W' (hb:Below w.heap.size w W')=>eqLeases_is s.leases t.leases al al' cl cl' hs.2.2 W' (leasesAt_next hl hb) (leasesAt_next hl' hb))
 have Q1:=Lib.hid q1
 have Q2:=Lib.hid q2
 have a0:=q1.1 0 _ rfl
 have a1:=q1.1 1 _ rfl
 have b0:=q2.1 0 _ rfl
 have b1:=q2.1 1 _ rfl
 have HW:=Lib.hid hW
 have BW:=Lib.hid bW
 clear hj hn hl hj' hn' hl' q1 q2 hs bW
 by_cases h0:s.rev=t.rev
 ·have h0':(s.rev==t.rev)=true:=by simpa using h0
  have HJ1:=Lib.hid (HJ.out W BW.out)
  have H0:=Lib.hid h0
  clear h0
  go_enter Tryz.func11,Tryz.ntmps11
  go_wp2_with fail
  refine HJ1.out.mono ?_
  rintro e w1 ⟨c1,rfl,i1,x1⟩
  have B1:=below_trans BW.out x1 BW.out.size
  have p1:=box_next Q1.out x1
  have p2:=box_next Q2.out x1
  have a2:=p1.1 2 _ rfl
  have b2:=p2.1 2 _ rfl
  have I1:=Lib.hid i1
  clear a0 a1 b0 b1 i1
  cases c1 with
  | false =>
   go_wp2
   go_ret
   exact⟨false,rfl,⟨fun h=>(by cases h),fun h=>by have:=I1.out.2 (E.out.1 h).2.1;cases this⟩,B1⟩
  | true =>
   have HN1:=Lib.hid (HN.out w1 B1)
   go_wp2_with fail
   refine HN1.out.mono ?_
   rintro e w2 ⟨c2,rfl,i2,x2⟩
   have B2:=below_trans B1 x2 B1.size
   have r1:=box_next p1 x2
   have r2:=box_next p2 x2
   have a3:=r1.1 3 _ rfl
   have b3:=r2.1 3 _ rfl
   have I2:=Lib.hid i2
   clear a2 b2 i2
   cases c2 with
   | false =>
    go_wp2
    go_ret
    exact⟨false,rfl,⟨fun h=>(by cases h),fun h=>by have:=I2.out.2 (E.out.1 h).2.2.1;cases this⟩,B2⟩
   | true =>
    have HL1:=Lib.hid (HL.out w2 B2)
    go_wp2_with fail
    refine HL1.out.mono ?_
    rintro e w3 ⟨c3,rfl,i3,x3⟩
    have B3:=below_trans B2 x3 B2.size
    have I3:=Lib.hid i3
    clear i3 a3 b3
    go_wp2
    go_ret
    exact⟨c3,rfl,⟨fun h=>E.out.2 ⟨H0.out,I1.out.1 (by simp),I2.out.1 (by simp),I3.out.1 h⟩,fun h=>I3.out.2 (E.out.1 h).2.2.2⟩,B3⟩
 ·have h0':(s.rev==t.rev)=false:=by simpa using h0
  have H0:=Lib.hid h0
  clear h0
  go_enter Tryz.func11,Tryz.ntmps11
  go_wp2
  go_ret
  exact⟨false,rfl,⟨fun h=>(by cases h),fun h=>absurd (E.out.1 h).1 H0.out⟩,BW.out⟩
end Go.Proofs.YtiekgafopalfmaaGreatDoor
namespace Go.Proofs.YtiekgafopalfmaaGreatDoor
open Go.RowKit
end Go.Proofs.YtiekgafopalfmaaGreatDoor
namespace Go.Proofs.YtiekgafopalfmaaGreatDoor
open Go.RowKit Go.Lib
theorem first_data:Rows.laid_unicode_utf8_first=Lib.firstData:=by kernel_rfl
theorem accept_data:(Rows.laid_unicode_utf8_acceptRanges:DataW Unit)=Lib.acceptData:=by kernel_rfl
theorem tabs_of {W:World} (hL:laidMetH Tryz.prog Rows.serveDoesRow.laid W):Tabs W:=by
 have h:laidMet Tryz.prog Rows.serveDoesRow.laid W:=hL
 have h4:=Lib.laidMet.reads h (d:=Rows.laid_unicode_utf8_acceptRanges) (.head _)
 have h3:=Lib.laidMet.reads h (d:=Rows.laid_unicode_utf8_first) (.tail _ (.head _))
 rw[accept_data] at h4
 rw[first_data] at h3
 exact utf8Tabs_of_readsT (U8Types.of196 Tryz.laysValid) ⟨by kernel_rfl,by kernel_rfl,by kernel_rfl,by kernel_rfl,by kernel_rfl,by kernel_rfl,by kernel_rfl⟩ h3 h4
noncomputable def laidWorld (os:Os):World :=
 let w0:=World.holding Tryz.prog os ⟨#[],#[],[]⟩
 let put (h:Array Obj) (g:Nat) (cs:Array Value):Array Obj:=h.modify g fun
  | .cells _ t frozen=>.cells cs t frozen
  | o=>o
 let h1:=put w0.heap (Tryz.laysValid_ren.g 3) (Lib.firstTab.map fun z=>Value.int .u8 z).toArray
 let h2:=put h1 (Tryz.laysValid_ren.g 4) ((List.range 16).flatMap fun i => [Value.int .u8 (Lib.accLo i),Value.int .u8 (Lib.accHi i)]).toArray
 { w0 with heap:=h2 }
end Go.Proofs.YtiekgafopalfmaaGreatDoor
namespace Go.Proofs.YtiekgafopalfmaaGreatDoor
open Go.RowKit
end Go.Proofs.YtiekgafopalfmaaGreatDoor
