import Derived.Test.YtiekgafopalfmaaGreatDoorPPkWi5
set_option maxRecDepth 100000
set_option maxHeartbeats 4000000
namespace Go.Proofs.YtiekgafopalfmaaGreatDoor
open Go.RowKit
theorem equalJobs_is (xs ys:List JobD) (ad ad':Option Addr) (cap cap':Nat) (hx1:xs.length≤140737488355328) (w:World) (hx:JobsAt w ad xs) (hy:JobsAt w ad' ys) :
  Calls Tryz.prog 107 #[.slice ad xs.length cap,.slice ad' ys.length cap'] w fun e w'=>∃c:Bool,e = .returned (.bool c)∧(c=true↔xs=ys)∧Below w.heap.size w w':=by
 by_cases hl:xs.length=ys.length
 case neg =>
  have hl':((xs.length:Int)!=(ys.length:Int))=true:=by simp;omega
  have HN:Hid (¬xs=ys):=fun e=>hl (by rw[e])
  clear hx hy hl
  go_enter Tryz.func107,Tryz.ntmps107
  go_wp2
  go_ret
  exact⟨false,rfl,⟨fun h=>(by cases h),fun h=>absurd h HN.out⟩,Below.refl _ _⟩
 have HX:=Lib.hid hx
 have HY:=Lib.hid hy
 have HL:=Lib.hid hl
 clear hx hy hl
 have hl0:((xs.length:Int)!=(ys.length:Int))=false:=by simp[HL.out]
 go_enter Tryz.func107,Tryz.ntmps107
 go_wp2
 go_loopw [13] (fun iv wr=>∃(i:Nat),iv = .int .i64 (i:Int)∧i≤xs.length∧Below w.heap.size w wr∧Hid (∀j,j<i→xs[j]?=ys[j]?)) (fun iv _=>xs.length - (intOf iv).toNat)
 case atStart=>exact⟨0,rfl,by omega,Below.refl _ _,fun j hj=>by omega⟩
 case round =>
  obtain⟨i,rfl,hi,hbr,HS⟩:=hrel
  by_cases h:(i:Int)<(xs.length:Int)
  ·have hil:i<xs.length:=by omega
   have hil':i<ys.length:=by rw[←HL.out];exact hil
   have hiy:(i:Int)<(ys.length:Int):=by omega
   obtain⟨a,rfl,hal,k0,k1,k2,k3,k4⟩:=jobsAt_next HX.out hbr i hil
   obtain⟨x,hxi⟩:∃x,xs[i]=x:=⟨_,rfl⟩
   rw[hxi] at k0 k1 k2 k3 k4
   have bA:=hbr
   have hY:=jobsAt_next HY.out bA i hil'
   obtain⟨a',rfl,hal',m0,m1,m2,m3,m4⟩:=hY
   obtain⟨y,hyi⟩:∃y,ys[i]=y:=⟨_,rfl⟩
   rw[hyi] at m0 m1 m2 m3 m4
   have qx:xs[i]?=some x:=by rw[List.getElem?_eq_getElem hil,hxi]
   have qy:ys[i]?=some y:=by rw[List.getElem?_eq_getElem hil',hyi]
   have HQ:=Lib.hid (And.intro qx qy)
   have BA:=Lib.hid bA
   clear hxi hyi qx qy bA
   by_cases hxy:x=y
   ·subst hxy
    have h_name:=lists_eq x.name
    have h_tag:=lists_eq x.tag
    have HS2:Hid (∀j,j<i+1→xs[j]?=ys[j]?):=fun j hj=>by
     by_cases e:j=i
     ·subst e;rw[HQ.out.1,HQ.out.2]
     ·exact HS.out j (by omega)
    go_wp2_with fail
    go_region
    go_wp2
    go_roundw
    case rel=>exact⟨i+1,by simp,by omega,BA.out.drew,HS2⟩
    case measure=>simp[intOf];omega
   ·have HN:Hid (¬xs=ys):=fun e=>by
     have h1:=HQ.out.1
     rw[e,HQ.out.2] at h1
     simp only[Option.some.injEq] at h1
     exact hxy h1.symm
    have hf:=firstJob hxy
    clear hxy
    cases x with | mk x0 x1 x2 x3 x4 =>
    cases y with | mk y0 y1 y2 y3 y4 =>
    simp only at hf k0 k1 k2 k3 k4 m0 m1 m2 m3 m4
    rcases hf with hf | ⟨rfl,hf⟩ | ⟨rfl,rfl,hf⟩ | ⟨rfl,rfl,rfl,hf⟩ | ⟨rfl,rfl,rfl,rfl,hf⟩
    ·go_wp2_with fail
     go_region
     go_wp2
     go_ret
     exact⟨false,rfl,⟨fun h=>(by cases h),fun h=>absurd h HN.out⟩,BA.out.drew⟩
    ·have g0:=lists_eq x0
     go_wp2_with fail
     go_region
     go_wp2
     go_ret
     exact⟨false,rfl,⟨fun h=>(by cases h),fun h=>absurd h HN.out⟩,BA.out.drew⟩
    ·have g0:=lists_eq x0
     go_wp2_with fail
     go_region
     go_wp2
     go_ret
     exact⟨false,rfl,⟨fun h=>(by cases h),fun h=>absurd h HN.out⟩,BA.out.drew⟩
    ·have g0:=lists_eq x0
     go_wp2_with fail
     go_region
     go_wp2
     go_ret
     exact⟨false,rfl,⟨fun h=>(by cases h),fun h=>absurd h HN.out⟩,BA.out.drew⟩
    ·have g0:=lists_eq x0
     go_wp2_with fail
     go_region
     go_wp2
     go_ret
     exact⟨false,rfl,⟨fun h=>(by cases h),fun h=>absurd h HN.out⟩,BA.out.drew⟩
  ·obtain rfl:i=xs.length:=by omega
   have HE:=Lib.hid (list_same HL.out HS.out)
   go_wp2
   go_ret
   first | exact⟨true,rfl,⟨fun _=>HE.out,fun _=>rfl⟩,hbr⟩ | exact .inr ⟨rfl,HE.out,hbr⟩
theorem equalNodes_is (xs ys:List NodeD) (ad ad':Option Addr) (cap cap':Nat) (hx1:xs.length≤140737488355328) (w:World) (hx:NodesAt w ad xs) (hy:NodesAt w ad' ys) :
  Calls Tryz.prog 108 #[.slice ad xs.length cap,.slice ad' ys.length cap'] w fun e w'=>∃c:Bool,e = .returned (.bool c)∧(c=true↔xs=ys)∧Below w.heap.size w w':=by
 by_cases hl:xs.length=ys.length
 case neg =>
  have hl':((xs.length:Int)!=(ys.length:Int))=true:=by simp;omega
  have HN:Hid (¬xs=ys):=fun e=>hl (by rw[e])
  clear hx hy hl
  go_enter Tryz.func108,Tryz.ntmps108
  go_wp2
  go_ret
  exact⟨false,rfl,⟨fun h=>(by cases h),fun h=>absurd h HN.out⟩,Below.refl _ _⟩
 have HX:=Lib.hid hx
 have HY:=Lib.hid hy
 have HL:=Lib.hid hl
 clear hx hy hl
 have hl0:((xs.length:Int)!=(ys.length:Int))=false:=by simp[HL.out]
 go_enter Tryz.func108,Tryz.ntmps108
 go_wp2
 go_loopw [13] (fun iv wr=>∃(i:Nat),iv = .int .i64 (i:Int)∧i≤xs.length∧Below w.heap.size w wr∧Hid (∀j,j<i→xs[j]?=ys[j]?)) (fun iv _=>xs.length - (intOf iv).toNat)
 case atStart=>exact⟨0,rfl,by omega,Below.refl _ _,fun j hj=>by omega⟩
 case round =>
  obtain⟨i,rfl,hi,hbr,HS⟩:=hrel
  by_cases h:(i:Int)<(xs.length:Int)
  ·have hil:i<xs.length:=by omega
   have hil':i<ys.length:=by rw[←HL.out];exact hil
   have hiy:(i:Int)<(ys.length:Int):=by omega
   obtain⟨a,rfl,hal,k0,k1,k2⟩:=nodesAt_next HX.out hbr i hil
   obtain⟨x,hxi⟩:∃x,xs[i]=x:=⟨_,rfl⟩
   rw[hxi] at k0 k1 k2
   have bA:=hbr
   have hY:=nodesAt_next HY.out bA i hil'
   obtain⟨a',rfl,hal',m0,m1,m2⟩:=hY
   obtain⟨y,hyi⟩:∃y,ys[i]=y:=⟨_,rfl⟩
   rw[hyi] at m0 m1 m2
   have qx:xs[i]?=some x:=by rw[List.getElem?_eq_getElem hil,hxi]
   have qy:ys[i]?=some y:=by rw[List.getElem?_eq_getElem hil',hyi]
   have HQ:=Lib.hid (And.intro qx qy)
   have BA:=Lib.hid bA
   clear hxi hyi qx qy bA
   by_cases hxy:x=y
   ·subst hxy
    have h_name:=lists_eq x.name
    have h_zone:=lists_eq x.zone
    have HS2:Hid (∀j,j<i+1→xs[j]?=ys[j]?):=fun j hj=>by
     by_cases e:j=i
     ·subst e;rw[HQ.out.1,HQ.out.2]
     ·exact HS.out j (by omega)
    go_wp2_with fail
    go_region
    go_wp2
    go_roundw
    case rel=>exact⟨i+1,by simp,by omega,BA.out.drew,HS2⟩
    case measure=>simp[intOf];omega
   ·have HN:Hid (¬xs=ys):=fun e=>by
     have h1:=HQ.out.1
     rw[e,HQ.out.2] at h1
     simp only[Option.some.injEq] at h1
     exact hxy h1.symm
    have hf:=firstNode hxy
    clear hxy
    cases x with | mk x0 x1 x2 =>
    cases y with | mk y0 y1 y2 =>
    simp only at hf k0 k1 k2 m0 m1 m2
    rcases hf with hf | ⟨rfl,hf⟩ | ⟨rfl,rfl,hf⟩
    ·go_wp2_with fail
     go_region
     go_wp2
     go_ret
     exact⟨false,rfl,⟨fun h=>(by cases h),fun h=>absurd h HN.out⟩,BA.out.drew⟩
    ·have g0:=lists_eq x0
     go_wp2_with fail
     go_region
     go_wp2
     go_ret
     exact⟨false,rfl,⟨fun h=>(by cases h),fun h=>absurd h HN.out⟩,BA.out.drew⟩
    ·have g0:=lists_eq x0
     go_wp2_with fail
     go_region
     go_wp2
     go_ret
     exact⟨false,rfl,⟨fun h=>(by cases h),fun h=>absurd h HN.out⟩,BA.out.drew⟩
  ·obtain rfl:i=xs.length:=by omega
   have HE:=Lib.hid (list_same HL.out HS.out)
   go_wp2
   go_ret
   first | exact⟨true,rfl,⟨fun _=>HE.out,fun _=>rfl⟩,hbr⟩ | exact .inr ⟨rfl,HE.out,hbr⟩
theorem equalLeases_is (xs ys:List LeaseD) (ad ad':Option Addr) (cap cap':Nat) (hx1:xs.length≤140737488355328) (w:World) (hx:LeasesAt w ad xs) (hy:LeasesAt w ad' ys) :
  Calls Tryz.prog 109 #[.slice ad xs.length cap,.slice ad' ys.length cap'] w fun e w'=>∃c:Bool,e = .returned (.bool c)∧(c=true↔xs=ys)∧Below w.heap.size w w':=by
 by_cases hl:xs.length=ys.length
 case neg =>
  have hl':((xs.length:Int)!=(ys.length:Int))=true:=by simp;omega
  have HN:Hid (¬xs=ys):=fun e=>hl (by rw[e])
  clear hx hy hl
  go_enter Tryz.func109,Tryz.ntmps109
  go_wp2
  go_ret
  exact⟨false,rfl,⟨fun h=>(by cases h),fun h=>absurd h HN.out⟩,Below.refl _ _⟩
 have HX:=Lib.hid hx
 have HY:=Lib.hid hy
 have HL:=Lib.hid hl
 clear hx hy hl
 have hl0:((xs.length:Int)!=(ys.length:Int))=false:=by simp[HL.out]
 go_enter Tryz.func109,Tryz.ntmps109
 go_wp2
 go_loopw [13] (fun iv wr=>∃(i:Nat),iv = .int .i64 (i:Int)∧i≤xs.length∧Below w.heap.size w wr∧Hid (∀j,j<i→xs[j]?=ys[j]?)) (fun iv _=>xs.length - (intOf iv).toNat)
 case atStart=>exact⟨0,rfl,by omega,Below.refl _ _,fun j hj=>by omega⟩
 case round =>
  obtain⟨i,rfl,hi,hbr,HS⟩:=hrel
  by_cases h:(i:Int)<(xs.length:Int)
  ·have hil:i<xs.length:=by omega
   have hil':i<ys.length:=by rw[←HL.out];exact hil
   have hiy:(i:Int)<(ys.length:Int):=by omega
   obtain⟨a,rfl,hal,k0,k1,k2⟩:=leasesAt_next HX.out hbr i hil
   obtain⟨x,hxi⟩:∃x,xs[i]=x:=⟨_,rfl⟩
   rw[hxi] at k0 k1 k2
   have bA:=hbr
   have hY:=leasesAt_next HY.out bA i hil'
   obtain⟨a',rfl,hal',m0,m1,m2⟩:=hY
   obtain⟨y,hyi⟩:∃y,ys[i]=y:=⟨_,rfl⟩
   rw[hyi] at m0 m1 m2
   have qx:xs[i]?=some x:=by rw[List.getElem?_eq_getElem hil,hxi]
   have qy:ys[i]?=some y:=by rw[List.getElem?_eq_getElem hil',hyi]
   have HQ:=Lib.hid (And.intro qx qy)
   have BA:=Lib.hid bA
   clear hxi hyi qx qy bA
   by_cases hxy:x=y
   ·subst hxy
    have h_job:=lists_eq x.job
    have h_node:=lists_eq x.node
    have HS2:Hid (∀j,j<i+1→xs[j]?=ys[j]?):=fun j hj=>by
     by_cases e:j=i
     ·subst e;rw[HQ.out.1,HQ.out.2]
     ·exact HS.out j (by omega)
    go_wp2_with fail
    go_region
    go_wp2
    go_roundw
    case rel=>exact⟨i+1,by simp,by omega,BA.out.drew,HS2⟩
    case measure=>simp[intOf];omega
   ·have HN:Hid (¬xs=ys):=fun e=>by
     have h1:=HQ.out.1
     rw[e,HQ.out.2] at h1
     simp only[Option.some.injEq] at h1
     exact hxy h1.symm
    have hf:=firstLease hxy
    clear hxy
    cases x with | mk x0 x1 x2 =>
    cases y with | mk y0 y1 y2 =>
    simp only at hf k0 k1 k2 m0 m1 m2
    rcases hf with hf | ⟨rfl,hf⟩ | ⟨rfl,rfl,hf⟩
    ·go_wp2_with fail
     go_region
     go_wp2
     go_ret
     exact⟨false,rfl,⟨fun h=>(by cases h),fun h=>absurd h HN.out⟩,BA.out.drew⟩
    ·have g0:=lists_eq x0
     go_wp2_with fail
     go_region
     go_wp2
     go_ret
     exact⟨false,rfl,⟨fun h=>(by cases h),fun h=>absurd h HN.out⟩,BA.out.drew⟩
    ·have g0:=lists_eq x0
     have g1:=lists_eq x1
     go_wp2_with fail
     go_region
     go_wp2
     go_ret
     exact⟨false,rfl,⟨fun h=>(by cases h),fun h=>absurd h HN.out⟩,BA.out.drew⟩
  ·obtain rfl:i=xs.length:=by omega
   have HE:=Lib.hid (list_same HL.out HS.out)
   go_wp2
   go_ret
   first | exact⟨true,rfl,⟨fun _=>HE.out,fun _=>rfl⟩,hbr⟩ | exact .inr ⟨rfl,HE.out,hbr⟩
end Go.Proofs.YtiekgafopalfmaaGreatDoor
