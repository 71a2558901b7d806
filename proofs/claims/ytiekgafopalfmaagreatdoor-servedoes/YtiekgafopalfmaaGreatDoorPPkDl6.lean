import Derived.Test.YtiekgafopalfmaaGreatDoorPPkDl1
import Derived.Test.YtiekgafopalfmaaGreatDoorPPkWi5
import Derived.Test.YtiekgafopalfmaaGreatDoorPPkWi2
import Derived.Test.YtiekgafopalfmaaGreatDoorPPkDl2
import Derived.Deep.RegionHeld3
import Derived.Test.YtiekgafopalfmaaGreatDoorPPkUp4
set_option maxRecDepth 100000
set_option maxHeartbeats 4000000
namespace Go.Proofs.YtiekgafopalfmaaGreatDoor
open Go.RowKit
theorem eqNms_is (xs ys:List ByteArray) (ad ad':Option Addr) (cap cap':Nat) (hx1:xs.length≤140737488355328) (w:World) (hx:NmsAt w ad xs) (hy:NmsAt w ad' ys) :
  Calls Tryz.prog 29 #[.slice ad xs.length cap,.slice ad' ys.length cap'] w fun e w'=>∃c:Bool,e = .returned (.bool c)∧(c=true↔xs=ys)∧Below w.heap.size w w':=by
 by_cases hl:xs.length=ys.length
 case neg =>
  have hl':((xs.length:Int)!=(ys.length:Int))=true:=by simp;omega
  have HN:Hid (¬xs=ys):=fun e=>hl (by rw[e])
  clear hx hy hl
  go_enter Tryz.func29,Tryz.ntmps29
  go_wp2
  go_ret
  exact⟨false,rfl,⟨fun h=>(by cases h),fun h=>absurd h HN.out⟩,Below.refl _ _⟩
 have HX:=Lib.hid hx
 have HY:=Lib.hid hy
 have HL:=Lib.hid hl
 clear hx hy hl
 have hl0:((xs.length:Int)!=(ys.length:Int))=false:=by simp[HL.out]
 go_enter Tryz.func29,Tryz.ntmps29
 go_wp2
 go_loopw [14] (fun iv wr=>∃(i:Nat),iv = .int .i64 (i:Int)∧i≤xs.length∧Below w.heap.size w wr∧Hid (∀j,j<i→xs[j]?=ys[j]?)) (fun iv _=>xs.length - (intOf iv).toNat)
 case atStart=>exact⟨0,rfl,by omega,Below.refl _ _,fun j hj=>by omega⟩
 case round =>
  obtain⟨i,rfl,hi,hbr,HS⟩:=hrel
  by_cases h:(i:Int)<(xs.length:Int)
  ·have hil:i<xs.length:=by omega
   have hil':i<ys.length:=by rw[←HL.out];exact hil
   have hiy:(i:Int)<(ys.length:Int):=by omega
   obtain⟨a,rfl,hal,k0⟩:=nmsAt_next HX.out hbr i hil
   obtain⟨x,hxi⟩:∃x,xs[i]=x:=⟨_,rfl⟩
   rw[hxi] at k0
   obtain⟨a',rfl,hal',m0⟩:=nmsAt_next HY.out hbr i hil'
   obtain⟨y,hyi⟩:∃y,ys[i]=y:=⟨_,rfl⟩
   rw[hyi] at m0
   have qx:xs[i]?=some x:=by rw[List.getElem?_eq_getElem hil,hxi]
   have qy:ys[i]?=some y:=by rw[List.getElem?_eq_getElem hil',hyi]
   have HQ:=Lib.hid (And.intro qx qy)
   have BA:=Lib.hid hbr
   clear hxi hyi qx qy
   by_cases hxy:x=y
   ·subst hxy
    have h_x:=lists_eq x
    have HS2:Hid (∀j,j<i+1→xs[j]?=ys[j]?):=fun j hj=>by
     by_cases e:j=i
     ·subst e;rw[HQ.out.1,HQ.out.2]
     ·exact HS.out j (by omega)
    go_wp2
    go_roundw
    case rel=>exact⟨i+1,by simp,by omega,BA.out,HS2⟩
    case measure=>simp[intOf];omega
   ·have HN:Hid (¬xs=ys):=fun e=>by
     have h1:=HQ.out.1
     rw[e,HQ.out.2] at h1
     simp only[Option.some.injEq] at h1
     exact hxy h1.symm
    have hf:=lists_ne hxy
    clear hxy
    go_wp2
    go_ret
    exact⟨false,rfl,⟨fun h=>(by cases h),fun h=>absurd h HN.out⟩,BA.out⟩
  ·obtain rfl:i=xs.length:=by omega
   have HE:=Lib.hid (list_same HL.out HS.out)
   go_wp2
   go_ret
   first | exact⟨true,rfl,⟨fun _=>HE.out,fun _=>rfl⟩,hbr⟩ | exact .inr ⟨rfl,HE.out,hbr⟩
theorem del_eq {s t:DelD}:s=t↔s.frm=t.frm∧s.til=t.til∧s.jobs=t.jobs∧s.nodes=t.nodes∧s.leases=t.leases∧s.gj=t.gj∧s.gn=t.gn∧s.gl=t.gl:=by
 constructor
 ·rintro rfl;exact⟨rfl,rfl,rfl,rfl,rfl,rfl,rfl,rfl⟩
 ·cases s;cases t;rintro ⟨h1,h2,h3,h4,h5,h6,h7,h8⟩;simp only at h1 h2 h3 h4 h5 h6 h7 h8;subst h1 h2 h3 h4 h5 h6 h7 h8;rfl
def LenD (d:DelD):Prop:=(d.jobs.length≤140737488355328∧d.nodes.length≤140737488355328∧d.leases.length≤140737488355328)∧d.gj.length≤140737488355328∧d.gn.length≤140737488355328∧d.gl.length≤140737488355328
theorem dl_pair (w:World) (cs cs':Array Value) (W:World) (hW:(w.alloc (.cells cs 49)).alloc (.cells cs' 49)=W):ObjAt w.heap.size cs 49 W∧ObjAt (w.heap.size+1) cs' 49 W∧Below w.heap.size w W:=by
 rw[←hW]
 have p1:=objAt_new (w.alloc (.cells cs 49)) cs' 49
 rw[World.size_alloc] at p1
 exact⟨objAt_next (objAt_new w _ _) (below_one _ _),p1,below_trans (below_one _ _) (below_one _ _) (by simp)⟩
theorem deltaEq_is (s t:DelD) (M M':DlM) (hs:LenD s) (w:World) (hm:DeltaAt w M s) (hm':DeltaAt w M' t) :
  Calls Tryz.prog 10 #[.agg (dlC M s),.agg (dlC M' t)] w fun e w'=>∃c:Bool,e = .returned (.bool c)∧(c=true↔s=t)∧Below w.heap.size w w':=by
 obtain⟨H,hH⟩:∃H,w.heap.size=H:=⟨_,rfl⟩
 obtain⟨W,hW⟩:∃W,(w.alloc (.cells (dlC M s) 49)).alloc (.cells (dlC M' t) 49)=W:=⟨_,rfl⟩
 obtain⟨p0,q0,B0⟩:=dl_pair w _ _ W hW
 have E:=Lib.hid (@del_eq s t)
 rw[hH] at p0 q0 B0
 rw[hH]
 have C0:=Lib.hid (fun W' (hb:Below H w W')=>eqJobs_is s.jobs t.jobs M.aj M'.aj M.cj M'.cj hs.1.1 W' (jobsAt_next hm.1.1 (by rw[hH];exact hb)) (jobsAt_next hm'.1.1 (by rw[hH];exact hb)))
 have C1:=Lib.hid (fun W' (hb:Below H w W')=>eqNodes_is s.nodes t.nodes M.an M'.an M.cn M'.cn hs.1.2.1 W' (nodesAt_next hm.1.2.1 (by rw[hH];exact hb)) (nodesAt_next hm'.1.2.1 (by rw[hH];exact hb)))
 have C2:=Lib.hid (fun W' (hb:Below H w W')=>eqLeases_is s.leases t.leases M.al M'.al M.cl M'.cl hs.1.2.2 W' (leasesAt_next hm.1.2.2 (by rw[hH];exact hb)) (leasesAt_next hm'.1.2.2 (by rw[hH];exact hb)))
 have C3:=Lib.hid (fun W' (hb:Below H w W')=>eqNms_is s.gj t.gj M.gj M'.gj M.hj M'.hj hs.2.1 W' (nmsAt_next hm.2.1 (by rw[hH];exact hb)) (nmsAt_next hm'.2.1 (by rw[hH];exact hb)))
 have C4:=Lib.hid (fun W' (hb:Below H w W')=>eqNms_is s.gn t.gn M.gn M'.gn M.hn M'.hn hs.2.2.1 W' (nmsAt_next hm.2.2.1 (by rw[hH];exact hb)) (nmsAt_next hm'.2.2.1 (by rw[hH];exact hb)))
 have C5:=Lib.hid (fun W' (hb:Below H w W')=>eqNms_is s.gl t.gl M.gl M'.gl M.hl M'.hl hs.2.2.2 W' (nmsAt_next hm.2.2.2 (by rw[hH];exact hb)) (nmsAt_next hm'.2.2.2 (by rw[hH];exact hb)))
 unfold dlC at hW p0 q0⊢
 have HW:=Lib.hid hW
 have SW:=Lib.hid (show H≤W.heap.size by have:=B0.size;omega)
 have a0:=objAt_cell p0 0 rfl
 have b0:=objAt_cell q0 0 rfl
 have a1:=objAt_cell p0 1 rfl
 have b1:=objAt_cell q0 1 rfl
 have a2:=objAt_cell p0 2 rfl
 have b2:=objAt_cell q0 2 rfl
 have al_:=objAt_lt p0
 have bl_:=objAt_lt q0
 have P0:=Lib.hid (And.intro p0 (And.intro q0 B0))
 clear hm hm' hs hW p0 q0 B0
 by_cases h0:s.frm=t.frm
 case neg =>
  have h0':(s.frm==t.frm)=false:=by simpa using h0
  have HN:=Lib.hid h0
  clear h0
  go_enter Tryz.func10,Tryz.ntmps10
  go_wp2
  rw[HW.out]
  go_ret
  exact⟨false,rfl,⟨fun h=>(by cases h),fun h=>(by have:=(E.out.1 h).1;exact absurd this HN.out)⟩,P0.out.2.2⟩
 have h0':(s.frm==t.frm)=true:=by simpa using h0
 have H0:=Lib.hid h0
 clear h0
 by_cases h1:s.til=t.til
 case neg =>
  have h1':(s.til==t.til)=false:=by simpa using h1
  have HN:=Lib.hid h1
  clear h1
  go_enter Tryz.func10,Tryz.ntmps10
  go_wp2
  rw[HW.out]
  go_ret
  exact⟨false,rfl,⟨fun h=>(by cases h),fun h=>(by have:=(E.out.1 h).2.1;exact absurd this HN.out)⟩,P0.out.2.2⟩
 have h1':(s.til==t.til)=true:=by simpa using h1
 have H1:=Lib.hid h1
 clear h1
 have D0:=Lib.hid (C0.out W P0.out.2.2)
 go_enter Tryz.func10,Tryz.ntmps10
 go_wp2_with fail
 rw[HW.out]
 refine D0.out.mono ?_
 rintro e w1 ⟨c1,rfl,i1,x1⟩
 obtain⟨p,q,B⟩:=P0.out
 have B':=below_trans B x1 (by have:=SW.out;omega)
 have p':=objAt_next p x1
 have q':=objAt_next q x1
 have S1:Hid (H≤w1.heap.size):=by show _≤_;have:=x1.size;have:=SW.out;omega
 have a3:=objAt_cell p' 3 rfl
 have b3:=objAt_cell q' 3 rfl
 have P1:=Lib.hid (And.intro p' (And.intro q' B'))
 have D1:=Lib.hid (C1.out w1 B')
 clear p q B p' q' B' x1 D0 C0 P0 a0 b0 a1 b1 a2 b2 al_ bl_
 have al_:=objAt_lt P1.out.1
 have bl_:=objAt_lt P1.out.2.1
 have I1:=Lib.hid i1
 clear i1
 cases c1 with
 | false =>
  go_wp2
  go_ret
  exact⟨false,rfl,⟨fun h=>(by cases h),fun h=>by have:=I1.out.2 (E.out.1 h).2.2.1;cases this⟩,P1.out.2.2⟩
 | true =>
 go_wp2_with fail
 refine D1.out.mono ?_
 rintro e w2 ⟨c2,rfl,i2,x2⟩
 obtain⟨p,q,B⟩:=P1.out
 have B':=below_trans B x2 (by have:=S1.out;omega)
 have p':=objAt_next p x2
 have q':=objAt_next q x2
 have S2:Hid (H≤w2.heap.size):=by show _≤_;have:=x2.size;have:=S1.out;omega
 have a4:=objAt_cell p' 4 rfl
 have b4:=objAt_cell q' 4 rfl
 have P2:=Lib.hid (And.intro p' (And.intro q' B'))
 have D2:=Lib.hid (C2.out w2 B')
 clear p q B p' q' B' x2 D1 C1 P1 a3 b3 al_ bl_
 have al_:=objAt_lt P2.out.1
 have bl_:=objAt_lt P2.out.2.1
 have I2:=Lib.hid i2
 clear i2
 cases c2 with
 | false =>
  go_wp2
  go_ret
  exact⟨false,rfl,⟨fun h=>(by cases h),fun h=>by have:=I2.out.2 (E.out.1 h).2.2.2.1;cases this⟩,P2.out.2.2⟩
 | true =>
 go_wp2_with fail
 refine D2.out.mono ?_
 rintro e w3 ⟨c3,rfl,i3,x3⟩
 obtain⟨p,q,B⟩:=P2.out
 have B':=below_trans B x3 (by have:=S2.out;omega)
 have p':=objAt_next p x3
 have q':=objAt_next q x3
 have S3:Hid (H≤w3.heap.size):=by show _≤_;have:=x3.size;have:=S2.out;omega
 have a5:=objAt_cell p' 5 rfl
 have b5:=objAt_cell q' 5 rfl
 have P3:=Lib.hid (And.intro p' (And.intro q' B'))
 have D3:=Lib.hid (C3.out w3 B')
 clear p q B p' q' B' x3 D2 C2 P2 a4 b4 al_ bl_
 have al_:=objAt_lt P3.out.1
 have bl_:=objAt_lt P3.out.2.1
 have I3:=Lib.hid i3
 clear i3
 cases c3 with
 | false =>
  go_wp2
  go_ret
  exact⟨false,rfl,⟨fun h=>(by cases h),fun h=>by have:=I3.out.2 (E.out.1 h).2.2.2.2.1;cases this⟩,P3.out.2.2⟩
 | true =>
 go_wp2_with fail
 refine D3.out.mono ?_
 rintro e w4 ⟨c4,rfl,i4,x4⟩
 obtain⟨p,q,B⟩:=P3.out
 have B':=below_trans B x4 (by have:=S3.out;omega)
 have p':=objAt_next p x4
 have q':=objAt_next q x4
 have S4:Hid (H≤w4.heap.size):=by show _≤_;have:=x4.size;have:=S3.out;omega
 have a6:=objAt_cell p' 6 rfl
 have b6:=objAt_cell q' 6 rfl
 have P4:=Lib.hid (And.intro p' (And.intro q' B'))
 have D4:=Lib.hid (C4.out w4 B')
 clear p q B p' q' B' x4 D3 C3 P3 a5 b5 al_ bl_
 have al_:=objAt_lt P4.out.1
 have bl_:=objAt_lt P4.out.2.1
 have I4:=Lib.hid i4
 clear i4
 cases c4 with
 | false =>
  go_wp2
  go_ret
  exact⟨false,rfl,⟨fun h=>(by cases h),fun h=>by have:=I4.out.2 (E.out.1 h).2.2.2.2.2.1;cases this⟩,P4.out.2.2⟩
 | true =>
 go_wp2_with fail
 refine D4.out.mono ?_
 rintro e w5 ⟨c5,rfl,i5,x5⟩
 obtain⟨p,q,B⟩:=P4.out
 have B':=below_trans B x5 (by have:=S4.out;omega)
 have p':=objAt_next p x5
 have q':=objAt_next q x5
 have S5:Hid (H≤w5.heap.size):=by show _≤_;have:=x5.size;have:=S4.out;omega
 have a7:=objAt_cell p' 7 rfl
 have b7:=objAt_cell q' 7 rfl
 have P5:=Lib.hid (And.intro p' (And.intro q' B'))
 have D5:=Lib.hid (C5.out w5 B')
 clear p q B p' q' B' x5 D4 C4 P4 a6 b6 al_ bl_
 have al_:=objAt_lt P5.out.1
 have bl_:=objAt_lt P5.out.2.1
 have I5:=Lib.hid i5
 clear i5
 cases c5 with
 | false =>
  go_wp2
  go_ret
  exact⟨false,rfl,⟨fun h=>(by cases h),fun h=>by have:=I5.out.2 (E.out.1 h).2.2.2.2.2.2.1;cases this⟩,P5.out.2.2⟩
 | true =>
 go_wp2_with fail
 refine D5.out.mono ?_
 rintro e w6 ⟨c6,rfl,i6,x6⟩
 obtain⟨p,q,B⟩:=P5.out
 have B':=below_trans B x6 (by have:=S5.out;omega)
 have p':=objAt_next p x6
 have q':=objAt_next q x6
 have S6:Hid (H≤w6.heap.size):=by show _≤_;have:=x6.size;have:=S5.out;omega
 have P6:=Lib.hid (And.intro p' (And.intro q' B'))
 clear p q B p' q' B' x6 D5 C5 P5 a7 b7 al_ bl_
 have I6:=Lib.hid i6
 clear i6
 cases c6 with
 | false =>
  go_wp2
  go_ret
  exact⟨false,rfl,⟨fun h=>(by cases h),fun h=>by have:=I6.out.2 (E.out.1 h).2.2.2.2.2.2.2;cases this⟩,P6.out.2.2⟩
 | true =>
 go_wp2
 go_ret
 exact⟨true,rfl,⟨fun _=>E.out.2 ⟨H0.out,H1.out,I1.out.1 (by first | rfl | trivial),I2.out.1 (by first | rfl | trivial),I3.out.1 (by first | rfl | trivial),I4.out.1 (by first | rfl | trivial),I5.out.1 (by first | rfl | trivial),I6.out.1 (by first | rfl | trivial)⟩,fun _=>rfl⟩,P6.out.2.2⟩
end Go.Proofs.YtiekgafopalfmaaGreatDoor
namespace Go.Proofs.YtiekgafopalfmaaGreatDoor
open Go.RowKit
end Go.Proofs.YtiekgafopalfmaaGreatDoor
namespace Go.Proofs.YtiekgafopalfmaaGreatDoor
open Go.RowKit
def BxS (b:Nat) (aj an al:Option Addr) (cj cn cl:Nat) (t:StD) (w:World):Prop:=ObjAt b #[.int .i64 t.rev,.slice aj t.jobs.length cj,.slice an t.nodes.length cn,.slice al t.leases.length cl] 26 w∧JobsAt w aj t.jobs∧NodesAt w an t.nodes∧LeasesAt w al t.leases
theorem bxS_next {b:Nat}{aj an al:Option Addr}{cj cn cl:Nat}{t:StD}{w w':World} (h:BxS b aj an al cj cn cl t w) (hb:Below w.heap.size w w'):BxS b aj an al cj cn cl t w':=⟨objAt_next h.1 hb,jobsAt_next h.2.1 hb,nodesAt_next h.2.2.1 hb,leasesAt_next h.2.2.2 hb⟩
theorem bxS_new {aj an al:Option Addr}{cj cn cl:Nat}{t:StD}{w:World} (h:JobsAt w aj t.jobs∧NodesAt w an t.nodes∧LeasesAt w al t.leases):BxS w.heap.size aj an al cj cn cl t (w.alloc (.cells #[.int .i64 t.rev,.slice aj t.jobs.length cj,.slice an t.nodes.length cn,.slice al t.leases.length cl] 26)) :=
 ⟨objAt_new w _ _,jobsAt_next h.1 (below_one _ _),nodesAt_next h.2.1 (below_one _ _),leasesAt_next h.2.2 (below_one _ _)⟩
theorem bxS_cells {b:Nat}{aj an al:Option Addr}{cj cn cl:Nat}{t:StD}{w:World} (h:BxS b aj an al cj cn cl t w):w.cell? ⟨b,0,none⟩=some (.int .i64 t.rev)∧w.cell? ⟨b,1,none⟩=some (.slice aj t.jobs.length cj)∧w.cell? ⟨b,2,none⟩=some (.slice an t.nodes.length cn)∧w.cell? ⟨b,3,none⟩=some (.slice al t.leases.length cl) :=
 ⟨objAt_cell h.1 0 rfl,objAt_cell h.1 1 rfl,objAt_cell h.1 2 rfl,objAt_cell h.1 3 rfl⟩
theorem lenD_zero:LenD zeroDel:=by unfold LenD zeroDel;simp
theorem deltaEq_at {d t:DelD}{M M':DlM} (hd:LenD d){w:World} (hm:DeltaAt w M d) (hm':DeltaAt w M' t):Calls Tryz.prog 10 #[.agg #[.int .i64 d.frm,.int .i64 d.til,.slice M.aj d.jobs.length M.cj,.slice M.an d.nodes.length M.cn,.slice M.al d.leases.length M.cl,.slice M.gj d.gj.length M.hj,.slice M.gn d.gn.length M.hn,.slice M.gl d.gl.length M.hl],.agg #[.int .i64 t.frm,.int .i64 t.til,.slice M'.aj t.jobs.length M'.cj,.slice M'.an t.nodes.length M'.cn,.slice M'.al t.leases.length M'.cl,.slice M'.gj t.gj.length M'.hj,.slice M'.gn t.gn.length M'.hn,.slice M'.gl t.gl.length M'.hl]] w fun e w'=>∃c:Bool,e = .returned (.bool c)∧(c=true↔d=t)∧Below w.heap.size w w':=deltaEq_is d t M M' hd w hm hm'
end Go.Proofs.YtiekgafopalfmaaGreatDoor
