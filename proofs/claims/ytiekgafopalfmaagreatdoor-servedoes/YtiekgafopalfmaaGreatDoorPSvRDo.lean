import Derived.Test.YtiekgafopalfmaaGreatDoorPSvRNx
import Derived.Test.YtiekgafopalfmaaGreatDoorPPkSv5
import Derived.Test.YtiekgafopalfmaaGreatDoorPDlBtw
import Derived.Test.YtiekgafopalfmaaGreatDoorPPkWi5
import Derived.Deep.RegionLaw
namespace Go.Proofs.YtiekgafopalfmaaGreatDoor
open Go.RowKit Go.Lib
set_option linter.unusedVariables false
def RoAt (H c:Nat) (SC QC:Array Value) (w V:World):Prop:=ObjAt c SC 36 V∧ObjAt H QC 44 V∧ObjAt (H+1) #[.int .i64 0,.int .i64 0] 46 V∧ObjAt (H+1+1) #[.int .i64 0,.int .i64 0,.slice none 0 0,.slice none 0 0,.slice none 0 0,.slice none 0 0,.slice none 0 0,.slice none 0 0] 49 V∧Below H w V∧c<H
theorem ro_size {H c:Nat}{SC QC:Array Value}{w V:World} (h:RoAt H c SC QC w V):H+3≤V.heap.size:=by have:=objAt_lt h.2.2.2.1;omega
theorem ro_next {H c:Nat}{SC QC:Array Value}{w V V':World} (h:RoAt H c SC QC w V) (b:Below V.heap.size V V'):RoAt H c SC QC w V' :=
 ⟨objAt_next h.1 b,objAt_next h.2.1 b,objAt_next h.2.2.1 b,objAt_next h.2.2.2.1 b,below_trans h.2.2.2.2.1 b (by have:=ro_size h;omega),h.2.2.2.2.2⟩
theorem ro_drew {H c:Nat}{SC QC:Array Value}{w V:World} (h:RoAt H c SC QC w V):RoAt H c SC QC w V.drew:=ro_next h (Below.refl _ _).drew
theorem ro_put {H c N:Nat}{SC QC:Array Value}{w V:World} (h:RoAt H c SC QC w V) (hN:H+3≤N) (x0 x1 x2 x3:Value):RoAt H c SC QC w ((((V.setCell ⟨N,0,none⟩ x0).setCell ⟨N,1,none⟩ x1).setCell ⟨N,2,none⟩ x2).setCell ⟨N,3,none⟩ x3):=by
 have hc:=h.2.2.2.2.2
 exact⟨other_put4 h.1 (by omega) _ _ _ _,other_put4 h.2.1 (by omega) _ _ _ _,other_put4 h.2.2.1 (by omega) _ _ _ _,other_put4 h.2.2.2.1 (by omega) _ _ _ _,below_put4 h.2.2.2.2.1 (by omega) _ _ _ _,hc⟩
theorem nxRows_low {H B:Nat}{s:StD}{aj an al:Option Addr}{cj cn cl:Nat}{js:List JobD}{ns:List NodeD}{ls:List LeaseD}{bj bn bl:Option Addr}{dj dn dl:Nat}{V:World} (h:NxRows B s aj an al cj cn cl js ns ls bj bn bl dj dn dl V) (hB:H≤B):NxRows H s aj an al cj cn cl js ns ls bj bn bl dj dn dl V :=
 ⟨h.1.imp id (fun h=>ownsRow_low h hB),h.2.1.imp id (fun h=>ownsRow_low h hB),h.2.2.imp id (fun h=>ownsRow_low h hB)⟩
def RoRel (v:SvD) (aj an al:Option Addr) (cj cn cl:Nat) (q:ReqD) (H c:Nat) (SC QC:Array Value) (w:World) (p n e:Value) (wc:World):Prop:=∃(N:Nat) (js:List JobD) (ns:List NodeD) (ls:List LeaseD) (n':Int) (bj bn bl:Option Addr) (dj dn dl:Nat),p = .pointer (some ⟨N,0,none⟩)∧n = .int .i64 n'∧e = .int .i64 ((runR V8 v.s v.now q).2:Nat)∧H+3≤N∧ObjAt N #[.int .i64 v.s.rev,.slice bj js.length dj,.slice bn ns.length dn,.slice bl ls.length dl] 26 wc∧RoAt H c SC QC w wc∧((runR V8 v.s v.now q).2=0→(runR V8 v.s v.now q).1=⟨⟨v.s.rev,js,ns,ls⟩,n'⟩∧NxRows H v.s aj an al cj cn cl js ns ls bj bn bl dj dn dl wc)
def FinAt (H c:Nat) (rc dc SC':Array Value) (M:DlM) (d:DelD) (s:StD) (aj an al:Option Addr) (cj cn cl:Nat) (t:StD) (bj bn bl:Option Addr) (dj dn dl:Nat) (w Y:World):Prop :=
 ObjAt (H+1) rc 46 Y∧ObjAt (H+1+1) dc 49 Y∧ObjAt c SC' 36 Y∧OwnD H M d Y∧NxRows H s aj an al cj cn cl t.jobs t.nodes t.leases bj bn bl dj dn dl Y∧w.grownBy Y (some c)
theorem own_any2 {w:World}{B e sz n b:Nat}{v:Value}{xs:List Value}{vs:Array Value}{t:TypeId} (h:w.ownsRow B e sz v n xs) (ho:ObjAt b vs t w) (ht:t≠e) (x0 x1:Value):((w.setCell ⟨b,0,none⟩ x0).setCell ⟨b,1,none⟩ x1).ownsRow B e sz v n xs:=own_box (own_box h ho ht 0 x0) (objAt_set ho 0 x0) ht 1 x1
theorem fin_reply {H c:Nat}{r0 r1 x0 x1:Value}{dc SC':Array Value}{M:DlM}{d:DelD}{s t:StD}{aj an al bj bn bl:Option Addr}{cj cn cl dj dn dl:Nat}{w Y:World} (h:FinAt H c #[r0,r1] dc SC' M d s aj an al cj cn cl t bj bn bl dj dn dl w Y) (hc:c<H) (hw:w.heap.size=H):FinAt H c #[x0,x1] dc SC' M d s aj an al cj cn cl t bj bn bl dj dn dl w ((Y.setCell ⟨H+1,0,none⟩ x0).setCell ⟨H+1,1,none⟩ x1):=by
 obtain⟨h1,h2,h3,h4,h5,h6⟩:=h
 refine⟨?_,objAt_other (objAt_other h2 (by omega) _ _) (by omega) _ _,objAt_other (objAt_other h3 (by omega) _ _) (by omega) _ _,ownD_set1 (ownD_set1 h4 h1 0 x0) (objAt_set h1 0 x0) 1 x1,⟨h5.1.imp id (fun h=>own_any2 h h1 (by decide) x0 x1),h5.2.1.imp id (fun h=>own_any2 h h1 (by decide) x0 x1),h5.2.2.imp id (fun h=>own_any2 h h1 (by decide) x0 x1)⟩,gN_app (gN_app h6 (grown_set _ _ _ _) (by intro k hk;cases hk;omega)) (grown_set _ _ _ _) (by intro k hk;cases hk;omega)⟩
 exact objAt_set (objAt_set h1 0 x0) 1 x1
theorem fin_delta {H c:Nat}{rc SC':Array Value}{a0 a1 a2 a3 a4 a5 a6 a7:Value} (x0 x1 x2 x3 x4 x5 x6 x7:Value){M:DlM}{d:DelD}{s t:StD}{aj an al bj bn bl:Option Addr}{cj cn cl dj dn dl:Nat}{w Y:World} (h:FinAt H c rc #[a0,a1,a2,a3,a4,a5,a6,a7] SC' M d s aj an al cj cn cl t bj bn bl dj dn dl w Y) (hc:c<H) (hw:w.heap.size=H):FinAt H c rc #[x0,x1,x2,x3,x4,x5,x6,x7] SC' M d s aj an al cj cn cl t bj bn bl dj dn dl w (put8 Y (H+1+1) x0 x1 x2 x3 x4 x5 x6 x7):=by
 obtain⟨h1,h2,h3,h4,h5,h6⟩:=h
 exact⟨other_put8 h1 (by omega) x0 x1 x2 x3 x4 x5 x6 x7,obj_put8 h2 x0 x1 x2 x3 x4 x5 x6 x7,other_put8 h3 (by omega) x0 x1 x2 x3 x4 x5 x6 x7,ownD_put8 h4 h2 x0 x1 x2 x3 x4 x5 x6 x7,⟨h5.1.imp id (fun h=>own_put8 h h2 (by decide) x0 x1 x2 x3 x4 x5 x6 x7),h5.2.1.imp id (fun h=>own_put8 h h2 (by decide) x0 x1 x2 x3 x4 x5 x6 x7),h5.2.2.imp id (fun h=>own_put8 h h2 (by decide) x0 x1 x2 x3 x4 x5 x6 x7)⟩,gN_put8 h6 (by omega) x0 x1 x2 x3 x4 x5 x6 x7⟩
theorem fin_drew {H c:Nat}{rc dc SC':Array Value}{M:DlM}{d:DelD}{s t:StD}{aj an al bj bn bl:Option Addr}{cj cn cl dj dn dl:Nat}{w Y:World} (h:FinAt H c rc dc SC' M d s aj an al cj cn cl t bj bn bl dj dn dl w Y):FinAt H c rc dc SC' M d s aj an al cj cn cl t bj bn bl dj dn dl w Y.drew :=
 have b:Below Y.heap.size Y Y.drew:=(Below.refl _ _).drew
 ⟨objAt_next h.1 b,objAt_next h.2.1 b,objAt_next h.2.2.1 b,ownD_next h.2.2.2.1 b,nxRows_next h.2.2.2.2.1 b,gN_next h.2.2.2.2.2 b⟩
theorem s8_all {c N:Nat}{a0 a1 a2 a3 a4 t0 t1 t2 t3:Value}{V:World} (oc:ObjAt c #[a0,a1,a2,a3,a4] 36 V) (oN:ObjAt N #[t0,t1,t2,t3] 26 V):((V.cell? ⟨c,0,none⟩=some a0∧V.cell? ⟨c,1,none⟩=some a1∧V.cell? ⟨c,2,none⟩=some a2∧V.cell? ⟨c,3,none⟩=some a3∧V.cell? ⟨N,0,none⟩=some t0∧V.cell? ⟨N,1,none⟩=some t1∧V.cell? ⟨N,2,none⟩=some t2∧V.cell? ⟨N,3,none⟩=some t3)∧ObjAt c #[a0,a1,a2,a3,a4] 36 V∧ObjAt N #[t0,t1,t2,t3] 26 V) :=
 ⟨⟨objAt_cell oc 0 rfl,objAt_cell oc 1 rfl,objAt_cell oc 2 rfl,objAt_cell oc 3 rfl,objAt_cell oN 0 rfl,objAt_cell oN 1 rfl,objAt_cell oN 2 rfl,objAt_cell oN 3 rfl⟩,oc,oN⟩
theorem s8_call {c N:Nat}{a0 a1 a2 a3 a4 t0 t1 t2 t3:Value}{V V':World} (b:Below V.heap.size V V') (h:((V.cell? ⟨c,0,none⟩=some a0∧V.cell? ⟨c,1,none⟩=some a1∧V.cell? ⟨c,2,none⟩=some a2∧V.cell? ⟨c,3,none⟩=some a3∧V.cell? ⟨N,0,none⟩=some t0∧V.cell? ⟨N,1,none⟩=some t1∧V.cell? ⟨N,2,none⟩=some t2∧V.cell? ⟨N,3,none⟩=some t3)∧ObjAt c #[a0,a1,a2,a3,a4] 36 V∧ObjAt N #[t0,t1,t2,t3] 26 V)):((V'.cell? ⟨c,0,none⟩=some a0∧V'.cell? ⟨c,1,none⟩=some a1∧V'.cell? ⟨c,2,none⟩=some a2∧V'.cell? ⟨c,3,none⟩=some a3∧V'.cell? ⟨N,0,none⟩=some t0∧V'.cell? ⟨N,1,none⟩=some t1∧V'.cell? ⟨N,2,none⟩=some t2∧V'.cell? ⟨N,3,none⟩=some t3)∧ObjAt c #[a0,a1,a2,a3,a4] 36 V'∧ObjAt N #[t0,t1,t2,t3] 26 V'):=s8_all (objAt_next h.2.1 b) (objAt_next h.2.2 b)
theorem s8_put {c N L:Nat}{a0 a1 a2 a3 a4 t0 t1 t2 t3:Value}{V:World} (x0 x1 x2 x3 x4 x5 x6 x7:Value) (h1:c≠L) (h2:N≠L) (h:((V.cell? ⟨c,0,none⟩=some a0∧V.cell? ⟨c,1,none⟩=some a1∧V.cell? ⟨c,2,none⟩=some a2∧V.cell? ⟨c,3,none⟩=some a3∧V.cell? ⟨N,0,none⟩=some t0∧V.cell? ⟨N,1,none⟩=some t1∧V.cell? ⟨N,2,none⟩=some t2∧V.cell? ⟨N,3,none⟩=some t3)∧ObjAt c #[a0,a1,a2,a3,a4] 36 V∧ObjAt N #[t0,t1,t2,t3] 26 V)):((((((((((V.setCell ⟨L,0,none⟩ x0).setCell ⟨L,1,none⟩ x1).setCell ⟨L,2,none⟩ x2).setCell ⟨L,3,none⟩ x3).setCell ⟨L,4,none⟩ x4).setCell ⟨L,5,none⟩ x5).setCell ⟨L,6,none⟩ x6).setCell ⟨L,7,none⟩ x7).cell? ⟨c,0,none⟩=some a0∧((((((((V.setCell ⟨L,0,none⟩ x0).setCell ⟨L,1,none⟩ x1).setCell ⟨L,2,none⟩ x2).setCell ⟨L,3,none⟩ x3).setCell ⟨L,4,none⟩ x4).setCell ⟨L,5,none⟩ x5).setCell ⟨L,6,none⟩ x6).setCell ⟨L,7,none⟩ x7).cell? ⟨c,1,none⟩=some a1∧((((((((V.setCell ⟨L,0,none⟩ x0).setCell ⟨L,1,none⟩ x1).setCell ⟨L,2,none⟩ x2).setCell ⟨L,3,none⟩ x3).setCell ⟨L,4,none⟩ x4).setCell ⟨L,5,none⟩ x5).setCell ⟨L,6,none⟩ x6).setCell ⟨L,7,none⟩ x7).cell? ⟨c,2,none⟩=some a2∧((((((((V.setCell ⟨L,0,none⟩ x0).setCell ⟨L,1,none⟩ x1).setCell ⟨L,2,none⟩ x2).setCell ⟨L,3,none⟩ x3).setCell ⟨L,4,none⟩ x4).setCell ⟨L,5,none⟩ x5).setCell ⟨L,6,none⟩ x6).setCell ⟨L,7,none⟩ x7).cell? ⟨c,3,none⟩=some a3∧((((((((V.setCell ⟨L,0,none⟩ x0).setCell ⟨L,1,none⟩ x1).setCell ⟨L,2,none⟩ x2).setCell ⟨L,3,none⟩ x3).setCell ⟨L,4,none⟩ x4).setCell ⟨L,5,none⟩ x5).setCell ⟨L,6,none⟩ x6).setCell ⟨L,7,none⟩ x7).cell? ⟨N,0,none⟩=some t0∧((((((((V.setCell ⟨L,0,none⟩ x0).setCell ⟨L,1,none⟩ x1).setCell ⟨L,2,none⟩ x2).setCell ⟨L,3,none⟩ x3).setCell ⟨L,4,none⟩ x4).setCell ⟨L,5,none⟩ x5).setCell ⟨L,6,none⟩ x6).setCell ⟨L,7,none⟩ x7).cell? ⟨N,1,none⟩=some t1∧((((((((V.setCell ⟨L,0,none⟩ x0).setCell ⟨L,1,none⟩ x1).setCell ⟨L,2,none⟩ x2).setCell ⟨L,3,none⟩ x3).setCell ⟨L,4,none⟩ x4).setCell ⟨L,5,none⟩ x5).setCell ⟨L,6,none⟩ x6).setCell ⟨L,7,none⟩ x7).cell? ⟨N,2,none⟩=some t2∧((((((((V.setCell ⟨L,0,none⟩ x0).setCell ⟨L,1,none⟩ x1).setCell ⟨L,2,none⟩ x2).setCell ⟨L,3,none⟩ x3).setCell ⟨L,4,none⟩ x4).setCell ⟨L,5,none⟩ x5).setCell ⟨L,6,none⟩ x6).setCell ⟨L,7,none⟩ x7).cell? ⟨N,3,none⟩=some t3)∧ObjAt c #[a0,a1,a2,a3,a4] 36 ((((((((V.setCell ⟨L,0,none⟩ x0).setCell ⟨L,1,none⟩ x1).setCell ⟨L,2,none⟩ x2).setCell ⟨L,3,none⟩ x3).setCell ⟨L,4,none⟩ x4).setCell ⟨L,5,none⟩ x5).setCell ⟨L,6,none⟩ x6).setCell ⟨L,7,none⟩ x7)∧ObjAt N #[t0,t1,t2,t3] 26 ((((((((V.setCell ⟨L,0,none⟩ x0).setCell ⟨L,1,none⟩ x1).setCell ⟨L,2,none⟩ x2).setCell ⟨L,3,none⟩ x3).setCell ⟨L,4,none⟩ x4).setCell ⟨L,5,none⟩ x5).setCell ⟨L,6,none⟩ x6).setCell ⟨L,7,none⟩ x7)):=s8_all (other_put8 h.2.1 h1 x0 x1 x2 x3 x4 x5 x6 x7) (other_put8 h.2.2 h2 x0 x1 x2 x3 x4 x5 x6 x7)
theorem ro_put8 {H c L:Nat}{SC QC:Array Value}{w V:World} (h:RoAt H c SC QC w V) (hL:H+3≤L) (x0 x1 x2 x3 x4 x5 x6 x7:Value):RoAt H c SC QC w (put8 V L x0 x1 x2 x3 x4 x5 x6 x7):=by
 have hc:=h.2.2.2.2.2
 have hb:=h.2.2.2.2.1
 refine⟨other_put8 h.1 (by omega) _ _ _ _ _ _ _ _,other_put8 h.2.1 (by omega) _ _ _ _ _ _ _ _,other_put8 h.2.2.1 (by omega) _ _ _ _ _ _ _ _,other_put8 h.2.2.2.1 (by omega) _ _ _ _ _ _ _ _,?_,hc⟩
 exact(((((((hb.setCell (p:=⟨L,0,none⟩) (by show H≤L;omega) _).setCell (p:=⟨L,1,none⟩) (by show H≤L;omega) _).setCell (p:=⟨L,2,none⟩) (by show H≤L;omega) _).setCell (p:=⟨L,3,none⟩) (by show H≤L;omega) _).setCell (p:=⟨L,4,none⟩) (by show H≤L;omega) _).setCell (p:=⟨L,5,none⟩) (by show H≤L;omega) _).setCell (p:=⟨L,6,none⟩) (by show H≤L;omega) _).setCell (p:=⟨L,7,none⟩) (by show H≤L;omega) _
theorem ro_set {H c N:Nat}{SC QC:Array Value}{w V:World} (h:RoAt H c SC QC w V) (hN:H+3≤N) (j:Nat) (u:Value):RoAt H c SC QC w (V.setCell ⟨N,j,none⟩ u):=by
 have hc:=h.2.2.2.2.2
 exact⟨objAt_other h.1 (by omega) _ _,objAt_other h.2.1 (by omega) _ _,objAt_other h.2.2.1 (by omega) _ _,objAt_other h.2.2.2.1 (by omega) _ _,h.2.2.2.2.1.setCell (p:=⟨N,j,none⟩) (by show H≤N;omega) _,hc⟩
theorem nxRows_put8 {H:Nat}{s:StD}{aj an al:Option Addr}{cj cn cl:Nat}{js:List JobD}{ns:List NodeD}{ls:List LeaseD}{bj bn bl:Option Addr}{dj dn dl:Nat}{V:World}{b:Nat}{a0 a1 a2 a3 a4 a5 a6 a7:Value} (h:NxRows H s aj an al cj cn cl js ns ls bj bn bl dj dn dl V) (ho:ObjAt b #[a0,a1,a2,a3,a4,a5,a6,a7] 49 V) (x0 x1 x2 x3 x4 x5 x6 x7:Value):NxRows H s aj an al cj cn cl js ns ls bj bn bl dj dn dl (put8 V b x0 x1 x2 x3 x4 x5 x6 x7) :=
 ⟨h.1.imp id (fun h=>own_put8 h ho (by decide) x0 x1 x2 x3 x4 x5 x6 x7),h.2.1.imp id (fun h=>own_put8 h ho (by decide) x0 x1 x2 x3 x4 x5 x6 x7),h.2.2.imp id (fun h=>own_put8 h ho (by decide) x0 x1 x2 x3 x4 x5 x6 x7)⟩
theorem nxRows_set {H:Nat}{s:StD}{aj an al:Option Addr}{cj cn cl:Nat}{js:List JobD}{ns:List NodeD}{ls:List LeaseD}{bj bn bl:Option Addr}{dj dn dl:Nat}{V:World}{b:Nat}{vs:Array Value}{t:TypeId} (h:NxRows H s aj an al cj cn cl js ns ls bj bn bl dj dn dl V) (ho:ObjAt b vs t V) (ht:RowT t) (j:Nat) (u:Value):NxRows H s aj an al cj cn cl js ns ls bj bn bl dj dn dl (V.setCell ⟨b,j,none⟩ u) :=
 ⟨h.1.imp id (fun h=>own_box h ho ht.1 j u),h.2.1.imp id (fun h=>own_box h ho ht.2.1 j u),h.2.2.imp id (fun h=>own_box h ho ht.2.2 j u)⟩
theorem ownD_set {B N:Nat}{M:DlM}{d:DelD}{w:World}{vs:Array Value} (h:OwnD B M d w) (ho:ObjAt N vs 36 w) (j:Nat) (u:Value):OwnD B M d (w.setCell ⟨N,j,none⟩ u):=⟨own_box h.1 ho (by decide) j u,own_box h.2.1 ho (by decide) j u,own_box h.2.2.1 ho (by decide) j u,own_box h.2.2.2.1 ho (by decide) j u,own_box h.2.2.2.2.1 ho (by decide) j u,own_box h.2.2.2.2.2 ho (by decide) j u⟩
theorem rowT_rs:RowT 36:=by unfold RowT;decide
theorem fin_server {H c:Nat}{a0 a1 a2 a3 a4:Value}{QC:Array Value} (x0 x1 x2 x3 x4:Value){M:DlM}{d:DelD}{s t:StD}{aj an al bj bn bl:Option Addr}{cj cn cl dj dn dl:Nat}{w X:World} (h:RoAt H c #[a0,a1,a2,a3,a4] QC w X) (hw:w.heap.size=H) (hD:OwnD H M d X) (hr:NxRows H s aj an al cj cn cl t.jobs t.nodes t.leases bj bn bl dj dn dl X):FinAt H c #[.int .i64 0,.int .i64 0] #[.int .i64 0,.int .i64 0,.slice none 0 0,.slice none 0 0,.slice none 0 0,.slice none 0 0,.slice none 0 0,.slice none 0 0] #[x0,x1,x2,x3,x4] M d s aj an al cj cn cl t bj bn bl dj dn dl w (((((X.setCell ⟨c,0,none⟩ x0).setCell ⟨c,1,none⟩ x1).setCell ⟨c,2,none⟩ x2).setCell ⟨c,3,none⟩ x3).setCell ⟨c,4,none⟩ x4):=by
 obtain⟨h0,h1,h2,h3,h4,h5⟩:=h
 have e1:=objAt_set h0 0 x0
 have e2:=objAt_set e1 1 x1
 have e3:=objAt_set e2 2 x2
 have e4:=objAt_set e3 3 x3
 have e5:=objAt_set e4 4 x4
 have g0:w.grownBy X (some c):=gN_of_below (by rw[hw];exact h4)
 exact⟨objAt_other (objAt_other (objAt_other (objAt_other (objAt_other h2 (by omega) _ _) (by omega) _ _) (by omega) _ _) (by omega) _ _) (by omega) _ _,objAt_other (objAt_other (objAt_other (objAt_other (objAt_other h3 (by omega) _ _) (by omega) _ _) (by omega) _ _) (by omega) _ _) (by omega) _ _,e5,ownD_set (ownD_set (ownD_set (ownD_set (ownD_set hD h0 0 x0) e1 1 x1) e2 2 x2) e3 3 x3) e4 4 x4,nxRows_set (nxRows_set (nxRows_set (nxRows_set (nxRows_set hr h0 rowT_rs 0 x0) e1 rowT_rs 1 x1) e2 rowT_rs 2 x2) e3 rowT_rs 3 x3) e4 rowT_rs 4 x4,gN_set (gN_set (gN_set (gN_set (gN_set g0 0 x0) 1 x1) 2 x2) 3 x3) 4 x4⟩
theorem fin_same {H c:Nat}{SC QC:Array Value}{M:DlM}{d:DelD}{s t:StD}{aj an al bj bn bl:Option Addr}{cj cn cl dj dn dl:Nat}{w X:World} (h:RoAt H c SC QC w X) (hw:w.heap.size=H) (hD:OwnD H M d X) (hr:NxRows H s aj an al cj cn cl t.jobs t.nodes t.leases bj bn bl dj dn dl X):FinAt H c #[.int .i64 0,.int .i64 0] #[.int .i64 0,.int .i64 0,.slice none 0 0,.slice none 0 0,.slice none 0 0,.slice none 0 0,.slice none 0 0,.slice none 0 0] SC M d s aj an al cj cn cl t bj bn bl dj dn dl w X :=
 ⟨h.2.2.1,h.2.2.2.1,h.1,hD,hr,gN_of_below (by rw[hw];exact h.2.2.2.2.1)⟩
theorem s9_all {c L:Nat}{a0 a1 a2 a3 a4 d0 d1 d2 d3 d4 d5 d6 d7:Value}{V:World} (oc:ObjAt c #[a0,a1,a2,a3,a4] 36 V) (oL:ObjAt L #[d0,d1,d2,d3,d4,d5,d6,d7] 49 V):((V.cell? ⟨c,0,none⟩=some (a0)∧V.cell? ⟨L,0,none⟩=some (d0)∧V.cell? ⟨L,1,none⟩=some (d1)∧V.cell? ⟨L,2,none⟩=some (d2)∧V.cell? ⟨L,3,none⟩=some (d3)∧V.cell? ⟨L,4,none⟩=some (d4)∧V.cell? ⟨L,5,none⟩=some (d5)∧V.cell? ⟨L,6,none⟩=some (d6)∧V.cell? ⟨L,7,none⟩=some (d7))∧ObjAt c #[a0,a1,a2,a3,a4] 36 V∧ObjAt L #[d0,d1,d2,d3,d4,d5,d6,d7] 49 V) :=
 ⟨⟨objAt_cell oc 0 rfl,objAt_cell oL 0 rfl,objAt_cell oL 1 rfl,objAt_cell oL 2 rfl,objAt_cell oL 3 rfl,objAt_cell oL 4 rfl,objAt_cell oL 5 rfl,objAt_cell oL 6 rfl,objAt_cell oL 7 rfl⟩,oc,oL⟩
theorem s9_rep {c L M:Nat}{a0 a1 a2 a3 a4 d0 d1 d2 d3 d4 d5 d6 d7:Value}{V:World} (x0 x1:Value) (h1:c≠M) (h2:L≠M) (h:((V.cell? ⟨c,0,none⟩=some (a0)∧V.cell? ⟨L,0,none⟩=some (d0)∧V.cell? ⟨L,1,none⟩=some (d1)∧V.cell? ⟨L,2,none⟩=some (d2)∧V.cell? ⟨L,3,none⟩=some (d3)∧V.cell? ⟨L,4,none⟩=some (d4)∧V.cell? ⟨L,5,none⟩=some (d5)∧V.cell? ⟨L,6,none⟩=some (d6)∧V.cell? ⟨L,7,none⟩=some (d7))∧ObjAt c #[a0,a1,a2,a3,a4] 36 V∧ObjAt L #[d0,d1,d2,d3,d4,d5,d6,d7] 49 V)):((((V.setCell ⟨M,0,none⟩ (x0)).setCell ⟨M,1,none⟩ (x1)).cell? ⟨c,0,none⟩=some (a0)∧((V.setCell ⟨M,0,none⟩ (x0)).setCell ⟨M,1,none⟩ (x1)).cell? ⟨L,0,none⟩=some (d0)∧((V.setCell ⟨M,0,none⟩ (x0)).setCell ⟨M,1,none⟩ (x1)).cell? ⟨L,1,none⟩=some (d1)∧((V.setCell ⟨M,0,none⟩ (x0)).setCell ⟨M,1,none⟩ (x1)).cell? ⟨L,2,none⟩=some (d2)∧((V.setCell ⟨M,0,none⟩ (x0)).setCell ⟨M,1,none⟩ (x1)).cell? ⟨L,3,none⟩=some (d3)∧((V.setCell ⟨M,0,none⟩ (x0)).setCell ⟨M,1,none⟩ (x1)).cell? ⟨L,4,none⟩=some (d4)∧((V.setCell ⟨M,0,none⟩ (x0)).setCell ⟨M,1,none⟩ (x1)).cell? ⟨L,5,none⟩=some (d5)∧((V.setCell ⟨M,0,none⟩ (x0)).setCell ⟨M,1,none⟩ (x1)).cell? ⟨L,6,none⟩=some (d6)∧((V.setCell ⟨M,0,none⟩ (x0)).setCell ⟨M,1,none⟩ (x1)).cell? ⟨L,7,none⟩=some (d7))∧ObjAt c #[a0,a1,a2,a3,a4] 36 ((V.setCell ⟨M,0,none⟩ (x0)).setCell ⟨M,1,none⟩ (x1))∧ObjAt L #[d0,d1,d2,d3,d4,d5,d6,d7] 49 ((V.setCell ⟨M,0,none⟩ (x0)).setCell ⟨M,1,none⟩ (x1))):=s9_all (objAt_other (objAt_other h.2.1 h1 _ _) h1 _ _) (objAt_other (objAt_other h.2.2 h2 _ _) h2 _ _)
theorem s9_del {c L M:Nat}{a0 a1 a2 a3 a4 d0 d1 d2 d3 d4 d5 d6 d7:Value}{V:World} (x0 x1 x2 x3 x4 x5 x6 x7:Value) (h1:c≠M) (h2:L≠M) (h:((V.cell? ⟨c,0,none⟩=some (a0)∧V.cell? ⟨L,0,none⟩=some (d0)∧V.cell? ⟨L,1,none⟩=some (d1)∧V.cell? ⟨L,2,none⟩=some (d2)∧V.cell? ⟨L,3,none⟩=some (d3)∧V.cell? ⟨L,4,none⟩=some (d4)∧V.cell? ⟨L,5,none⟩=some (d5)∧V.cell? ⟨L,6,none⟩=some (d6)∧V.cell? ⟨L,7,none⟩=some (d7))∧ObjAt c #[a0,a1,a2,a3,a4] 36 V∧ObjAt L #[d0,d1,d2,d3,d4,d5,d6,d7] 49 V)):((((((((((V.setCell ⟨M,0,none⟩ (x0)).setCell ⟨M,1,none⟩ (x1)).setCell ⟨M,2,none⟩ (x2)).setCell ⟨M,3,none⟩ (x3)).setCell ⟨M,4,none⟩ (x4)).setCell ⟨M,5,none⟩ (x5)).setCell ⟨M,6,none⟩ (x6)).setCell ⟨M,7,none⟩ (x7)).cell? ⟨c,0,none⟩=some (a0)∧((((((((V.setCell ⟨M,0,none⟩ (x0)).setCell ⟨M,1,none⟩ (x1)).setCell ⟨M,2,none⟩ (x2)).setCell ⟨M,3,none⟩ (x3)).setCell ⟨M,4,none⟩ (x4)).setCell ⟨M,5,none⟩ (x5)).setCell ⟨M,6,none⟩ (x6)).setCell ⟨M,7,none⟩ (x7)).cell? ⟨L,0,none⟩=some (d0)∧((((((((V.setCell ⟨M,0,none⟩ (x0)).setCell ⟨M,1,none⟩ (x1)).setCell ⟨M,2,none⟩ (x2)).setCell ⟨M,3,none⟩ (x3)).setCell ⟨M,4,none⟩ (x4)).setCell ⟨M,5,none⟩ (x5)).setCell ⟨M,6,none⟩ (x6)).setCell ⟨M,7,none⟩ (x7)).cell? ⟨L,1,none⟩=some (d1)∧((((((((V.setCell ⟨M,0,none⟩ (x0)).setCell ⟨M,1,none⟩ (x1)).setCell ⟨M,2,none⟩ (x2)).setCell ⟨M,3,none⟩ (x3)).setCell ⟨M,4,none⟩ (x4)).setCell ⟨M,5,none⟩ (x5)).setCell ⟨M,6,none⟩ (x6)).setCell ⟨M,7,none⟩ (x7)).cell? ⟨L,2,none⟩=some (d2)∧((((((((V.setCell ⟨M,0,none⟩ (x0)).setCell ⟨M,1,none⟩ (x1)).setCell ⟨M,2,none⟩ (x2)).setCell ⟨M,3,none⟩ (x3)).setCell ⟨M,4,none⟩ (x4)).setCell ⟨M,5,none⟩ (x5)).setCell ⟨M,6,none⟩ (x6)).setCell ⟨M,7,none⟩ (x7)).cell? ⟨L,3,none⟩=some (d3)∧((((((((V.setCell ⟨M,0,none⟩ (x0)).setCell ⟨M,1,none⟩ (x1)).setCell ⟨M,2,none⟩ (x2)).setCell ⟨M,3,none⟩ (x3)).setCell ⟨M,4,none⟩ (x4)).setCell ⟨M,5,none⟩ (x5)).setCell ⟨M,6,none⟩ (x6)).setCell ⟨M,7,none⟩ (x7)).cell? ⟨L,4,none⟩=some (d4)∧((((((((V.setCell ⟨M,0,none⟩ (x0)).setCell ⟨M,1,none⟩ (x1)).setCell ⟨M,2,none⟩ (x2)).setCell ⟨M,3,none⟩ (x3)).setCell ⟨M,4,none⟩ (x4)).setCell ⟨M,5,none⟩ (x5)).setCell ⟨M,6,none⟩ (x6)).setCell ⟨M,7,none⟩ (x7)).cell? ⟨L,5,none⟩=some (d5)∧((((((((V.setCell ⟨M,0,none⟩ (x0)).setCell ⟨M,1,none⟩ (x1)).setCell ⟨M,2,none⟩ (x2)).setCell ⟨M,3,none⟩ (x3)).setCell ⟨M,4,none⟩ (x4)).setCell ⟨M,5,none⟩ (x5)).setCell ⟨M,6,none⟩ (x6)).setCell ⟨M,7,none⟩ (x7)).cell? ⟨L,6,none⟩=some (d6)∧((((((((V.setCell ⟨M,0,none⟩ (x0)).setCell ⟨M,1,none⟩ (x1)).setCell ⟨M,2,none⟩ (x2)).setCell ⟨M,3,none⟩ (x3)).setCell ⟨M,4,none⟩ (x4)).setCell ⟨M,5,none⟩ (x5)).setCell ⟨M,6,none⟩ (x6)).setCell ⟨M,7,none⟩ (x7)).cell? ⟨L,7,none⟩=some (d7))∧ObjAt c #[a0,a1,a2,a3,a4] 36 ((((((((V.setCell ⟨M,0,none⟩ (x0)).setCell ⟨M,1,none⟩ (x1)).setCell ⟨M,2,none⟩ (x2)).setCell ⟨M,3,none⟩ (x3)).setCell ⟨M,4,none⟩ (x4)).setCell ⟨M,5,none⟩ (x5)).setCell ⟨M,6,none⟩ (x6)).setCell ⟨M,7,none⟩ (x7))∧ObjAt L #[d0,d1,d2,d3,d4,d5,d6,d7] 49 ((((((((V.setCell ⟨M,0,none⟩ (x0)).setCell ⟨M,1,none⟩ (x1)).setCell ⟨M,2,none⟩ (x2)).setCell ⟨M,3,none⟩ (x3)).setCell ⟨M,4,none⟩ (x4)).setCell ⟨M,5,none⟩ (x5)).setCell ⟨M,6,none⟩ (x6)).setCell ⟨M,7,none⟩ (x7))):=s9_all (other_put8 h.2.1 h1 x0 x1 x2 x3 x4 x5 x6 x7) (other_put8 h.2.2 h2 x0 x1 x2 x3 x4 x5 x6 x7)
theorem s9_drew {c L:Nat}{a0 a1 a2 a3 a4 d0 d1 d2 d3 d4 d5 d6 d7:Value}{V:World} (h:((V.cell? ⟨c,0,none⟩=some (a0)∧V.cell? ⟨L,0,none⟩=some (d0)∧V.cell? ⟨L,1,none⟩=some (d1)∧V.cell? ⟨L,2,none⟩=some (d2)∧V.cell? ⟨L,3,none⟩=some (d3)∧V.cell? ⟨L,4,none⟩=some (d4)∧V.cell? ⟨L,5,none⟩=some (d5)∧V.cell? ⟨L,6,none⟩=some (d6)∧V.cell? ⟨L,7,none⟩=some (d7))∧ObjAt c #[a0,a1,a2,a3,a4] 36 V∧ObjAt L #[d0,d1,d2,d3,d4,d5,d6,d7] 49 V)):((V.drew.cell? ⟨c,0,none⟩=some (a0)∧V.drew.cell? ⟨L,0,none⟩=some (d0)∧V.drew.cell? ⟨L,1,none⟩=some (d1)∧V.drew.cell? ⟨L,2,none⟩=some (d2)∧V.drew.cell? ⟨L,3,none⟩=some (d3)∧V.drew.cell? ⟨L,4,none⟩=some (d4)∧V.drew.cell? ⟨L,5,none⟩=some (d5)∧V.drew.cell? ⟨L,6,none⟩=some (d6)∧V.drew.cell? ⟨L,7,none⟩=some (d7))∧ObjAt c #[a0,a1,a2,a3,a4] 36 V.drew∧ObjAt L #[d0,d1,d2,d3,d4,d5,d6,d7] 49 V.drew):=s9_all (objAt_drew h.2.1) (objAt_drew h.2.2)
def RoPost (v:SvD) (aj an al:Option Addr) (cj cn cl:Nat) (c:Nat) (r:SvD×Nat×Bool) (w:World) (e:Ending) (w':World):Prop:=∃(M:DlM) (bj bn bl:Option Addr) (dj dn dl:Nat),e = .returned (.tuple #[.agg #[.int .i64 (r.2.1:Nat),.int .i64 r.1.s.rev],.agg #[.int .i64 (told v.s r).frm,.int .i64 (told v.s r).til,.slice M.aj (told v.s r).jobs.length M.cj,.slice M.an (told v.s r).nodes.length M.cn,.slice M.al (told v.s r).leases.length M.cl,.slice M.gj (told v.s r).gj.length M.hj,.slice M.gn (told v.s r).gn.length M.hn,.slice M.gl (told v.s r).gl.length M.hl],.bool r.2.2])∧OwnD w.heap.size M (told v.s r) w'∧ObjAt c #[.int .i64 r.1.s.rev,.slice bj r.1.s.jobs.length dj,.slice bn r.1.s.nodes.length dn,.slice bl r.1.s.leases.length dl,.int .i64 r.1.now] 36 w'∧NxRows w.heap.size v.s aj an al cj cn cl r.1.s.jobs r.1.s.nodes r.1.s.leases bj bn bl dj dn dl w'∧w.grownBy w' (some c)
set_option maxRecDepth 100000 in
set_option maxHeartbeats 16000000 in
theorem rdo_is (v:SvD) (hv:checkE V8 v.s=0) (hnow:0≤v.now∧v.now≤1099511627776) (q:ReqD) (c:Nat) (aj an al:Option Addr) (cj cn cl:Nat) (w:World) (hS:ObjAt c #[.int .i64 v.s.rev,.slice aj v.s.jobs.length cj,.slice an v.s.nodes.length cn,.slice al v.s.leases.length cl,.int .i64 v.now] 36 w) (hm:JobsAt w aj v.s.jobs∧NodesAt w an v.s.nodes∧LeasesAt w al v.s.leases) :
  Calls Tryz.prog 9 #[.pointer (some ⟨c,0,none⟩),.agg #[.int .i64 q.kind,.string q.job.name,.int .i64 q.job.prio,.int .i64 q.job.need,.int .i64 q.job.tries,.string q.job.tag,.string q.node.name,.int .i64 q.node.room,.string q.node.zone,.string q.lease.job,.string q.lease.node,.int .i64 q.lease.til,.string q.name,.int .i64 q.n]] w (RoPost v aj an al cj cn cl c (doR V8 v.s v.now q) w):=by
 have hcw:=objAt_lt hS
 obtain⟨H,hH⟩:∃H,w.heap.size=H:=⟨_,rfl⟩
 have bb0:=below_one w (.cells #[.int .i64 q.kind,.string q.job.name,.int .i64 q.job.prio,.int .i64 q.job.need,.int .i64 q.job.tries,.string q.job.tag,.string q.node.name,.int .i64 q.node.room,.string q.node.zone,.string q.lease.job,.string q.lease.node,.int .i64 q.lease.til,.string q.name,.int .i64 q.n] 44)
 have o0:=objAt_new w #[.int .i64 q.kind,.string q.job.name,.int .i64 q.job.prio,.int .i64 q.job.need,.int .i64 q.job.tries,.string q.job.tag,.string q.node.name,.int .i64 q.node.room,.string q.node.zone,.string q.lease.job,.string q.lease.node,.int .i64 q.lease.til,.string q.name,.int .i64 q.n] 44
 have bb1:=below_one (w.alloc (.cells #[.int .i64 q.kind,.string q.job.name,.int .i64 q.job.prio,.int .i64 q.job.need,.int .i64 q.job.tries,.string q.job.tag,.string q.node.name,.int .i64 q.node.room,.string q.node.zone,.string q.lease.job,.string q.lease.node,.int .i64 q.lease.til,.string q.name,.int .i64 q.n] 44)) (.cells #[.int .i64 0,.int .i64 0] 46)
 have o0:=objAt_next o0 bb1
 have o1:=objAt_new (w.alloc (.cells #[.int .i64 q.kind,.string q.job.name,.int .i64 q.job.prio,.int .i64 q.job.need,.int .i64 q.job.tries,.string q.job.tag,.string q.node.name,.int .i64 q.node.room,.string q.node.zone,.string q.lease.job,.string q.lease.node,.int .i64 q.lease.til,.string q.name,.int .i64 q.n] 44)) #[.int .i64 0,.int .i64 0] 46
 have bb2:=below_one ((w.alloc (.cells #[.int .i64 q.kind,.string q.job.name,.int .i64 q.job.prio,.int .i64 q.job.need,.int .i64 q.job.tries,.string q.job.tag,.string q.node.name,.int .i64 q.node.room,.string q.node.zone,.string q.lease.job,.string q.lease.node,.int .i64 q.lease.til,.string q.name,.int .i64 q.n] 44)).alloc (.cells #[.int .i64 0,.int .i64 0] 46)) (.cells #[.int .i64 0,.int .i64 0,.slice none 0 0,.slice none 0 0,.slice none 0 0,.slice none 0 0,.slice none 0 0,.slice none 0 0] 49)
 have o0:=objAt_next o0 bb2
 have o1:=objAt_next o1 bb2
 have o2:=objAt_new ((w.alloc (.cells #[.int .i64 q.kind,.string q.job.name,.int .i64 q.job.prio,.int .i64 q.job.need,.int .i64 q.job.tries,.string q.job.tag,.string q.node.name,.int .i64 q.node.room,.string q.node.zone,.string q.lease.job,.string q.lease.node,.int .i64 q.lease.til,.string q.name,.int .i64 q.n] 44)).alloc (.cells #[.int .i64 0,.int .i64 0] 46)) #[.int .i64 0,.int .i64 0,.slice none 0 0,.slice none 0 0,.slice none 0 0,.slice none 0 0,.slice none 0 0,.slice none 0 0] 49
 have BB:=below_trans (below_trans bb0 bb1 (by simp only[World.size_alloc];omega)) bb2 (by simp only[World.size_alloc];omega)
 have oc:=objAt_next hS BB
 simp only[World.size_alloc] at o1 o2
 obtain⟨W0,hW0⟩:∃W0,((w.alloc (.cells #[.int .i64 q.kind,.string q.job.name,.int .i64 q.job.prio,.int .i64 q.job.need,.int .i64 q.job.tries,.string q.job.tag,.string q.node.name,.int .i64 q.node.room,.string q.node.zone,.string q.lease.job,.string q.lease.node,.int .i64 q.lease.til,.string q.name,.int .i64 q.n] 44)).alloc (.cells #[.int .i64 0,.int .i64 0] 46)).alloc (.cells #[.int .i64 0,.int .i64 0,.slice none 0 0,.slice none 0 0,.slice none 0 0,.slice none 0 0,.slice none 0 0,.slice none 0 0] 49)=W0:=⟨_,rfl⟩
 rw[hW0] at o0 o1 o2 oc BB
 rw[hH] at o0 o1 o2 BB hcw
 have HMS:=Lib.hid (fun(V:World) (b:Below H w V)=>(show JobsAt V aj v.s.jobs∧NodesAt V an v.s.nodes∧LeasesAt V al v.s.leases from⟨jobsAt_next hm.1 (by rw[hH];exact b),nodesAt_next hm.2.1 (by rw[hH];exact b),leasesAt_next hm.2.2 (by rw[hH];exact b)⟩))
 have CN:=Lib.hid (fun(V:World) (h:RoAt H c #[.int .i64 v.s.rev,.slice aj v.s.jobs.length cj,.slice an v.s.nodes.length cn,.slice al v.s.leases.length cl,.int .i64 v.now] #[.int .i64 q.kind,.string q.job.name,.int .i64 q.job.prio,.int .i64 q.job.need,.int .i64 q.job.tries,.string q.job.tag,.string q.node.name,.int .i64 q.node.room,.string q.node.zone,.string q.lease.job,.string q.lease.node,.int .i64 q.lease.til,.string q.name,.int .i64 q.n] w V)=>rnext_is v hv hnow q aj an al cj cn cl V (HMS.out V h.2.2.2.2.1))
 have HV:=Lib.hid ((check_zero V8 _).1 hv)
 have HW:=Lib.hid hW0
 have HHW:=Lib.hid hH
 have P0:Hid (RoAt H c #[.int .i64 v.s.rev,.slice aj v.s.jobs.length cj,.slice an v.s.nodes.length cn,.slice al v.s.leases.length cl,.int .i64 v.now] #[.int .i64 q.kind,.string q.job.name,.int .i64 q.job.prio,.int .i64 q.job.need,.int .i64 q.job.tries,.string q.job.tag,.string q.node.name,.int .i64 q.node.room,.string q.node.zone,.string q.lease.job,.string q.lease.node,.int .i64 q.lease.til,.string q.name,.int .i64 q.n] w W0):=⟨oc,o0,o1,o2,BB,hcw⟩
 unfold RoPost
 rw[hH]
 clear hm hv hnow o0 o1 o2 oc BB bb0 bb1 bb2 hW0 hS hcw
 go_enter Tryz.func9,Tryz.ntmps9
 go_upto_region 1 with fail
 rw[HW.out]
 go_cut [7,8,9] from 12 to 20 (fun p n e wc=>RoRel v aj an al cj cn cl q H c #[.int .i64 v.s.rev,.slice aj v.s.jobs.length cj,.slice an v.s.nodes.length cn,.slice al v.s.leases.length cl,.int .i64 v.now] #[.int .i64 q.kind,.string q.job.name,.int .i64 q.job.prio,.int .i64 q.job.need,.int .i64 q.job.tries,.string q.job.tag,.string q.node.name,.int .i64 q.node.room,.string q.node.zone,.string q.lease.job,.string q.lease.node,.int .i64 q.lease.til,.string q.name,.int .i64 q.n] w p n e wc)
 case first =>
  refine wp_region_held_drew (S:=fun x=>RoAt H c #[.int .i64 v.s.rev,.slice aj v.s.jobs.length cj,.slice an v.s.nodes.length cn,.slice al v.s.leases.length cl,.int .i64 v.now] #[.int .i64 q.kind,.string q.job.name,.int .i64 q.job.prio,.int .i64 q.job.need,.int .i64 q.job.tries,.string q.job.tag,.string q.node.name,.int .i64 q.node.room,.string q.node.zone,.string q.lease.job,.string q.lease.node,.int .i64 q.lease.til,.string q.name,.int .i64 q.n] w x) (by kernel_rfl) (ro_drew P0.out) (fun hHeld=>?_)
  generalize W0.drew=V at hHeld⊢
  refine wpAnyH_take (i:=0) (oi:=⟨_,_,_,_,_,_⟩) (v:=.pointer (some ⟨c,0,none⟩)) rfl (by kernel_rfl) (by kernel_rfl) (by kernel_rfl) (fun _ _ _ h=>h) (Or.inl ⟨by rfl,?_⟩) hHeld ?_
  ·intro x hx
   go_simp
  simp only[Act.put,List.setIfInBounds_toArray,List.set_cons_zero,List.set_cons_succ]
  refine wpAnyH_take (i:=1) (oi:=⟨_,_,_,_,_,_⟩) (v:=.pointer (some ⟨c,0,none⟩)) rfl (by kernel_rfl) (by kernel_rfl) (by kernel_rfl) (fun _ _ _ h=>h) (Or.inl ⟨by rfl,?_⟩) hHeld ?_
  ·intro x hx
   go_simp
  simp only[Act.put,List.setIfInBounds_toArray,List.set_cons_zero,List.set_cons_succ]
  refine wpAnyH_take (i:=2) (oi:=⟨_,_,_,_,_,_⟩) (v:=.agg #[.int .i64 v.s.rev,.slice aj v.s.jobs.length cj,.slice an v.s.nodes.length cn,.slice al v.s.leases.length cl,.int .i64 v.now]) rfl (by kernel_rfl) (by kernel_rfl) (by kernel_rfl) (fun _ _ _ h=>h) (Or.inl ⟨by rfl,?_⟩) hHeld ?_
  ·intro x hx
   have c0:=objAt_cell hx.1 0 rfl
   have c1:=objAt_cell hx.1 1 rfl
   have c2:=objAt_cell hx.1 2 rfl
   have c3:=objAt_cell hx.1 3 rfl
   have c4:=objAt_cell hx.1 4 rfl
   go_simp
  simp only[Act.put,List.setIfInBounds_toArray,List.set_cons_zero,List.set_cons_succ]
  refine wpAnyH_take (i:=3) (oi:=⟨_,_,_,_,_,_⟩) (v:=.agg #[.int .i64 q.kind,.string q.job.name,.int .i64 q.job.prio,.int .i64 q.job.need,.int .i64 q.job.tries,.string q.job.tag,.string q.node.name,.int .i64 q.node.room,.string q.node.zone,.string q.lease.job,.string q.lease.node,.int .i64 q.lease.til,.string q.name,.int .i64 q.n]) rfl (by kernel_rfl) (by kernel_rfl) (by kernel_rfl) (fun _ _ _ h=>h) (Or.inl ⟨by rfl,?_⟩) hHeld ?_
  ·intro x hx
   have d0:=objAt_cell hx.2.1 0 rfl
   have d1:=objAt_cell hx.2.1 1 rfl
   have d2:=objAt_cell hx.2.1 2 rfl
   have d3:=objAt_cell hx.2.1 3 rfl
   have d4:=objAt_cell hx.2.1 4 rfl
   have d5:=objAt_cell hx.2.1 5 rfl
   have d6:=objAt_cell hx.2.1 6 rfl
   have d7:=objAt_cell hx.2.1 7 rfl
   have d8:=objAt_cell hx.2.1 8 rfl
   have d9:=objAt_cell hx.2.1 9 rfl
   have d10:=objAt_cell hx.2.1 10 rfl
   have d11:=objAt_cell hx.2.1 11 rfl
   have d12:=objAt_cell hx.2.1 12 rfl
   have d13:=objAt_cell hx.2.1 13 rfl
   go_simp
  simp only[Act.put,List.setIfInBounds_toArray,List.set_cons_zero,List.set_cons_succ]
  refine wpAnyH_ready (rs:=[4,9]) (by kernel_rfl) (by simp) ?_
  refine AllReadyH.cons (o:=⟨_,_,_,_,_,_⟩) rfl (fun K hK=>?_) ?_
  ·go_simp
   refine(CN.out V hHeld).mono ?_
   rintro e x1 ⟨js,ns,ls,n',bj,bn,bl,dj,dn,dl,rfl,hz,b⟩
   have hN:=ro_next hHeld b
   have HZ:=Lib.hid (fun h=>(show(runR V8 v.s v.now q).1=⟨⟨v.s.rev,js,ns,ls⟩,n'⟩∧NxRows H v.s aj an al cj cn cl js ns ls bj bn bl dj dn dl x1 from⟨(hz h).1,nxRows_low (hz h).2 (by have:=ro_size hHeld;omega)⟩))
   clear hz b
   go_wp2_with fail
   refine hK.out _ _ hN (fun hHeld=>?_)
   clear hK K
   try simp only[Act.put,List.setIfInBounds_toArray,List.set_cons_zero,List.set_cons_succ]
   refine wpAnyH_take (i:=5) (oi:=⟨_,_,_,_,_,_⟩) (v:=.tuple #[.agg #[.int .i64 v.s.rev,.slice bj js.length dj,.slice bn ns.length dn,.slice bl ls.length dl],.int .i64 n',.int .i64 ((runR V8 v.s v.now q).2:Nat)]) rfl (by kernel_rfl) (by kernel_rfl) (by kernel_rfl) (fun _ _ _ h=>h) (Or.inl ⟨by rfl,?_⟩) hHeld ?_
   ·intro x hx
    go_simp
   simp only[Act.put,List.setIfInBounds_toArray,List.set_cons_zero,List.set_cons_succ]
   refine wpAnyH_take (i:=6) (oi:=⟨_,_,_,_,_,_⟩) (v:=.agg #[.int .i64 v.s.rev,.slice bj js.length dj,.slice bn ns.length dn,.slice bl ls.length dl]) rfl (by kernel_rfl) (by kernel_rfl) (by kernel_rfl) (fun _ _ _ h=>h) (Or.inl ⟨by rfl,?_⟩) hHeld ?_
   ·intro x hx
    go_simp
   simp only[Act.put,List.setIfInBounds_toArray,List.set_cons_zero,List.set_cons_succ]
   refine wpAnyH_take (i:=7) (oi:=⟨_,_,_,_,_,_⟩) (v:=.int .i64 n') rfl (by kernel_rfl) (by kernel_rfl) (by kernel_rfl) (fun _ _ _ h=>h) (Or.inl ⟨by rfl,?_⟩) hHeld ?_
   ·intro x hx
    go_simp
   simp only[Act.put,List.setIfInBounds_toArray,List.set_cons_zero,List.set_cons_succ]
   refine wpAnyH_take (i:=8) (oi:=⟨_,_,_,_,_,_⟩) (v:=.int .i64 ((runR V8 v.s v.now q).2:Nat)) rfl (by kernel_rfl) (by kernel_rfl) (by kernel_rfl) (fun _ _ _ h=>h) (Or.inl ⟨by rfl,?_⟩) hHeld ?_
   ·intro x hx
    go_simp
   simp only[Act.put,List.setIfInBounds_toArray,List.set_cons_zero,List.set_cons_succ]
   refine wpAnyH_ready (rs:=[9]) (by kernel_rfl) (by simp) ?_
   refine AllReadyH.cons (o:=⟨_,_,_,_,_,_⟩) rfl (fun K hK=>?_) ?_
   ·go_simp
    have hN:=ro_next hHeld (below_one x1 (.cells #[.int .i64 0,.slice none 0 0,.slice none 0 0,.slice none 0 0] 26))
    have Z:=Lib.hid (objAt_new x1 #[.int .i64 0,.slice none 0 0,.slice none 0 0,.slice none 0 0] 26)
    have HP:=Lib.hid hHeld
    refine hK.out _ _ hN (fun hHeld=>?_)
    clear hK K
    try simp only[Act.put,List.setIfInBounds_toArray,List.set_cons_zero,List.set_cons_succ]
    have k0:=objAt_cell Z.out 0 rfl
    have f0:=objAt_free Z.out 0
    have k1:=objAt_cell Z.out 1 rfl
    have f1:=objAt_free Z.out 1
    have k2:=objAt_cell Z.out 2 rfl
    have f2:=objAt_free Z.out 2
    have k3:=objAt_cell Z.out 3 rfl
    have f3:=objAt_free Z.out 3
    have kl:=objAt_lt Z.out
    have AS:=Lib.hid (ro_next HP.out (below_one x1 (.cells #[.int .i64 v.s.rev,.slice bj js.length dj,.slice bn ns.length dn,.slice bl ls.length dl] 26)))
    have REL:Hid (RoRel v aj an al cj cn cl q H c #[.int .i64 v.s.rev,.slice aj v.s.jobs.length cj,.slice an v.s.nodes.length cn,.slice al v.s.leases.length cl,.int .i64 v.now] #[.int .i64 q.kind,.string q.job.name,.int .i64 q.job.prio,.int .i64 q.job.need,.int .i64 q.job.tries,.string q.job.tag,.string q.node.name,.int .i64 q.node.room,.string q.node.zone,.string q.lease.job,.string q.lease.node,.int .i64 q.lease.til,.string q.name,.int .i64 q.n] w (.pointer (some ⟨x1.heap.size,0,none⟩)) (.int .i64 n') (.int .i64 ((runR V8 v.s v.now q).2:Nat)) (x1.alloc (.cells #[.int .i64 v.s.rev,.slice bj js.length dj,.slice bn ns.length dn,.slice bl ls.length dl] 26))):=⟨x1.heap.size,js,ns,ls,n',bj,bn,bl,dj,dn,dl,rfl,rfl,rfl,ro_size HP.out,objAt_new x1 #[.int .i64 v.s.rev,.slice bj js.length dj,.slice bn ns.length dn,.slice bl ls.length dl] 26,AS.out,fun h=>⟨(HZ.out h).1,nxRows_next (HZ.out h).2 (below_one x1 (.cells #[.int .i64 v.s.rev,.slice bj js.length dj,.slice bn ns.length dn,.slice bl ls.length dl] 26))⟩⟩
    refine wpAnyH_ready (rs:=[10]) (by kernel_rfl) (by simp) ?_
    refine AllReadyH.cons (o:=⟨_,_,_,_,_,_⟩) rfl (fun K hK=>?_) ?_
    ·go_simp
     refine hK.out _ _ AS.out (fun hHeld=>?_)
     clear hK K
     try simp only[Act.put,List.setIfInBounds_toArray,List.set_cons_zero,List.set_cons_succ]
     refine wpAnyH_take (i:=11) (oi:=⟨_,_,_,_,_,_⟩) (v:=.int .i64 n') rfl (by kernel_rfl) (by kernel_rfl) (by kernel_rfl) (fun _ _ _ h=>h) (Or.inl ⟨by rfl,?_⟩) hHeld ?_
     ·intro x hx
      go_simp
     simp only[Act.put,List.setIfInBounds_toArray,List.set_cons_zero,List.set_cons_succ]
     refine wpAnyH_take (i:=12) (oi:=⟨_,_,_,_,_,_⟩) (v:=.int .i64 ((runR V8 v.s v.now q).2:Nat)) rfl (by kernel_rfl) (by kernel_rfl) (by kernel_rfl) (fun _ _ _ h=>h) (Or.inl ⟨by rfl,?_⟩) hHeld ?_
     ·intro x hx
      go_simp
     simp only[Act.put,List.setIfInBounds_toArray,List.set_cons_zero,List.set_cons_succ]
     refine wpAnyH_done (by kernel_rfl) ?_ _
     go_wp2_with fail
     go_meet
     case rel =>
      with_reducible exact REL.out
    exact AllReadyH.nil
   exact AllReadyH.nil
  refine AllReadyH.cons (o:=⟨_,_,_,_,_,_⟩) rfl (fun K hK=>?_) ?_
  ·go_simp
   have hN:=ro_next hHeld (below_one V (.cells #[.int .i64 0,.slice none 0 0,.slice none 0 0,.slice none 0 0] 26))
   have Z0:=Lib.hid (objAt_new V #[.int .i64 0,.slice none 0 0,.slice none 0 0,.slice none 0 0] 26)
   have HV3:=Lib.hid (ro_size hHeld)
   refine hK.out _ _ hN (fun hHeld=>?_)
   clear hK K
   try simp only[Act.put,List.setIfInBounds_toArray,List.set_cons_zero,List.set_cons_succ]
   refine wpAnyH_ready (rs:=[4]) (by kernel_rfl) (by simp) ?_
   refine AllReadyH.cons (o:=⟨_,_,_,_,_,_⟩) rfl (fun K hK=>?_) ?_
   ·go_simp
    refine(CN.out _ hHeld).mono ?_
    rintro e x1 ⟨js,ns,ls,n',bj,bn,bl,dj,dn,dl,rfl,hz,b⟩
    have hN:=ro_next hHeld b
    have HZ:=Lib.hid (fun h=>(show(runR V8 v.s v.now q).1=⟨⟨v.s.rev,js,ns,ls⟩,n'⟩∧NxRows H v.s aj an al cj cn cl js ns ls bj bn bl dj dn dl x1 from⟨(hz h).1,nxRows_low (hz h).2 (by have:=ro_size hHeld;omega)⟩))
    have Z:=Lib.hid (objAt_next Z0.out b)
    clear hz b
    go_wp2_with fail
    refine hK.out _ _ hN (fun hHeld=>?_)
    clear hK K
    try simp only[Act.put,List.setIfInBounds_toArray,List.set_cons_zero,List.set_cons_succ]
    have k0:=objAt_cell Z.out 0 rfl
    have f0:=objAt_free Z.out 0
    have k1:=objAt_cell Z.out 1 rfl
    have f1:=objAt_free Z.out 1
    have k2:=objAt_cell Z.out 2 rfl
    have f2:=objAt_free Z.out 2
    have k3:=objAt_cell Z.out 3 rfl
    have f3:=objAt_free Z.out 3
    have kl:=objAt_lt Z.out
    have AS:=Lib.hid (ro_put hHeld HV3.out (.int .i64 v.s.rev) (.slice bj js.length dj) (.slice bn ns.length dn) (.slice bl ls.length dl))
    have REL:Hid (RoRel v aj an al cj cn cl q H c #[.int .i64 v.s.rev,.slice aj v.s.jobs.length cj,.slice an v.s.nodes.length cn,.slice al v.s.leases.length cl,.int .i64 v.now] #[.int .i64 q.kind,.string q.job.name,.int .i64 q.job.prio,.int .i64 q.job.need,.int .i64 q.job.tries,.string q.job.tag,.string q.node.name,.int .i64 q.node.room,.string q.node.zone,.string q.lease.job,.string q.lease.node,.int .i64 q.lease.til,.string q.name,.int .i64 q.n] w (.pointer (some ⟨V.heap.size,0,none⟩)) (.int .i64 n') (.int .i64 ((runR V8 v.s v.now q).2:Nat)) ((((x1.setCell ⟨V.heap.size,0,none⟩ (.int .i64 v.s.rev)).setCell ⟨V.heap.size,1,none⟩ (.slice bj js.length dj)).setCell ⟨V.heap.size,2,none⟩ (.slice bn ns.length dn)).setCell ⟨V.heap.size,3,none⟩ (.slice bl ls.length dl))):=⟨V.heap.size,js,ns,ls,n',bj,bn,bl,dj,dn,dl,rfl,rfl,rfl,HV3.out,obj_put4 Z.out (.int .i64 v.s.rev) (.slice bj js.length dj) (.slice bn ns.length dn) (.slice bl ls.length dl),AS.out,fun h=>⟨(HZ.out h).1,nxRows_put (HZ.out h).2 Z.out (.int .i64 v.s.rev) (.slice bj js.length dj) (.slice bn ns.length dn) (.slice bl ls.length dl)⟩⟩
    refine wpAnyH_take (i:=5) (oi:=⟨_,_,_,_,_,_⟩) (v:=.tuple #[.agg #[.int .i64 v.s.rev,.slice bj js.length dj,.slice bn ns.length dn,.slice bl ls.length dl],.int .i64 n',.int .i64 ((runR V8 v.s v.now q).2:Nat)]) rfl (by kernel_rfl) (by kernel_rfl) (by kernel_rfl) (fun _ _ _ h=>h) (Or.inl ⟨by rfl,?_⟩) hHeld ?_
    ·intro x hx
     go_simp
    simp only[Act.put,List.setIfInBounds_toArray,List.set_cons_zero,List.set_cons_succ]
    refine wpAnyH_take (i:=6) (oi:=⟨_,_,_,_,_,_⟩) (v:=.agg #[.int .i64 v.s.rev,.slice bj js.length dj,.slice bn ns.length dn,.slice bl ls.length dl]) rfl (by kernel_rfl) (by kernel_rfl) (by kernel_rfl) (fun _ _ _ h=>h) (Or.inl ⟨by rfl,?_⟩) hHeld ?_
    ·intro x hx
     go_simp
    simp only[Act.put,List.setIfInBounds_toArray,List.set_cons_zero,List.set_cons_succ]
    refine wpAnyH_take (i:=7) (oi:=⟨_,_,_,_,_,_⟩) (v:=.int .i64 n') rfl (by kernel_rfl) (by kernel_rfl) (by kernel_rfl) (fun _ _ _ h=>h) (Or.inl ⟨by rfl,?_⟩) hHeld ?_
    ·intro x hx
     go_simp
    simp only[Act.put,List.setIfInBounds_toArray,List.set_cons_zero,List.set_cons_succ]
    refine wpAnyH_take (i:=8) (oi:=⟨_,_,_,_,_,_⟩) (v:=.int .i64 ((runR V8 v.s v.now q).2:Nat)) rfl (by kernel_rfl) (by kernel_rfl) (by kernel_rfl) (fun _ _ _ h=>h) (Or.inl ⟨by rfl,?_⟩) hHeld ?_
    ·intro x hx
     go_simp
    simp only[Act.put,List.setIfInBounds_toArray,List.set_cons_zero,List.set_cons_succ]
    refine wpAnyH_ready (rs:=[10]) (by kernel_rfl) (by simp) ?_
    refine AllReadyH.cons (o:=⟨_,_,_,_,_,_⟩) rfl (fun K hK=>?_) ?_
    ·go_simp
     refine hK.out _ _ AS.out (fun hHeld=>?_)
     clear hK K
     try simp only[Act.put,List.setIfInBounds_toArray,List.set_cons_zero,List.set_cons_succ]
     refine wpAnyH_take (i:=11) (oi:=⟨_,_,_,_,_,_⟩) (v:=.int .i64 n') rfl (by kernel_rfl) (by kernel_rfl) (by kernel_rfl) (fun _ _ _ h=>h) (Or.inl ⟨by rfl,?_⟩) hHeld ?_
     ·intro x hx
      go_simp
     simp only[Act.put,List.setIfInBounds_toArray,List.set_cons_zero,List.set_cons_succ]
     refine wpAnyH_take (i:=12) (oi:=⟨_,_,_,_,_,_⟩) (v:=.int .i64 ((runR V8 v.s v.now q).2:Nat)) rfl (by kernel_rfl) (by kernel_rfl) (by kernel_rfl) (fun _ _ _ h=>h) (Or.inl ⟨by rfl,?_⟩) hHeld ?_
     ·intro x hx
      go_simp
     simp only[Act.put,List.setIfInBounds_toArray,List.set_cons_zero,List.set_cons_succ]
     refine wpAnyH_done (by kernel_rfl) ?_ _
     go_wp2_with fail
     go_meet
     case rel =>
      with_reducible exact REL.out
    exact AllReadyH.nil
   exact AllReadyH.nil
  exact AllReadyH.nil
 case rest =>
  obtain⟨N,js,ns,ls,n',bj,bn,bl,dj,dn,dl,rfl,rfl,rfl,hN3,oN,rd,hz⟩:=hcut
  clear P0 HW CN
  have bL:=below_one wc (.cells #[.int .i64 0,.int .i64 0,.slice none 0 0,.slice none 0 0,.slice none 0 0,.slice none 0 0,.slice none 0 0,.slice none 0 0] 49)
  have oL:=objAt_new wc #[.int .i64 0,.int .i64 0,.slice none 0 0,.slice none 0 0,.slice none 0 0,.slice none 0 0,.slice none 0 0,.slice none 0 0] 49
  have hLs:=ro_size rd
  have rd:=ro_next rd bL
  have hNw:=objAt_lt oN
  have oN:=objAt_next oN bL
  have hz:=fun h=>And.intro (hz h).1 (nxRows_next (hz h).2 bL)
  obtain⟨L,hL⟩:∃L,wc.heap.size=L:=⟨_,rfl⟩
  have HLN:=Lib.hid (show H+3≤L∧N≠L∧H+3≤N from⟨by omega,by omega,hN3⟩)
  obtain⟨k,hk⟩:∃k,(runR V8 v.s v.now q).2=k:=⟨_,rfl⟩
  rw[hk] at hz⊢
  obtain⟨X1,hX1⟩:∃X,wc.alloc (.cells #[.int .i64 0,.int .i64 0,.slice none 0 0,.slice none 0 0,.slice none 0 0,.slice none 0 0,.slice none 0 0,.slice none 0 0] 49)=X:=⟨_,rfl⟩
  rw[hX1] at rd oL oN hz
  rw[hL] at oL
  have HZ:=Lib.hid hz
  have RD:=Lib.hid rd
  have ON:=Lib.hid oN
  have OL:=Lib.hid oL
  have HKK:=Lib.hid hk
  have HC:=Lib.hid rd.2.2.2.2.2
  clear hz rd oN oL hk bL hNw hN3 hLs
  by_cases hk0:k=0
  case neg =>
   have c1:((k:Int)==0)=false:=by simp;omega
   have HD:Hid (doR V8 v.s v.now q=(⟨v.s,v.now⟩,k,false)):=by show _=_;rw[doR_err (by rw[HKK.out];exact hk0),HKK.out]
   have HTD:Hid (told v.s (⟨v.s,v.now⟩,k,false)=zeroDel):=by show _=_;unfold told;rfl
   clear hk0
   go_wp2_with fail
   go_quiet (fail)
   obtain⟨X2,hX2⟩:∃W,X1.drewN nq=W:=⟨_,rfl⟩
   have b2:Below X1.heap.size X1 X2:=by rw[←hX2];exact⟨rfl,rfl,rfl,Nat.le_refl _,fun _ _=>rfl⟩
   rw[hX2]
   have FI:=Lib.hid (fin_same (t:=v.s) (s:=v.s) (aj:=aj) (an:=an) (al:=al) (cj:=cj) (cn:=cn) (cl:=cl) (bj:=aj) (bn:=an) (bl:=al) (dj:=cj) (dn:=cn) (dl:=cl) (ro_next RD.out b2) HHW.out (ownD_zero H X2) ⟨Or.inl ⟨rfl,rfl,rfl⟩,Or.inl ⟨rfl,rfl,rfl⟩,Or.inl ⟨rfl,rfl,rfl⟩⟩)
   have OL2:=Lib.hid (objAt_next OL.out b2)
   clear b2
   have yc:=objAt_cell FI.out.2.2.1 0 rfl
   have ycl:=objAt_lt FI.out.2.2.1
   have l0:=objAt_cell OL2.out 0 rfl
   have l1:=objAt_cell OL2.out 1 rfl
   have l2:=objAt_cell OL2.out 2 rfl
   have l3:=objAt_cell OL2.out 3 rfl
   have l4:=objAt_cell OL2.out 4 rfl
   have l5:=objAt_cell OL2.out 5 rfl
   have l6:=objAt_cell OL2.out 6 rfl
   have l7:=objAt_cell OL2.out 7 rfl
   have ll:=objAt_lt OL2.out
   have z0:=objAt_cell FI.out.1 0 rfl
   have g0:=objAt_free FI.out.1 0
   have z1:=objAt_cell FI.out.1 1 rfl
   have g1:=objAt_free FI.out.1 1
   have w0:=objAt_cell FI.out.2.1 0 rfl
   have h0:=objAt_free FI.out.2.1 0
   have w1:=objAt_cell FI.out.2.1 1 rfl
   have h1:=objAt_free FI.out.2.1 1
   have w2:=objAt_cell FI.out.2.1 2 rfl
   have h2:=objAt_free FI.out.2.1 2
   have w3:=objAt_cell FI.out.2.1 3 rfl
   have h3:=objAt_free FI.out.2.1 3
   have w4:=objAt_cell FI.out.2.1 4 rfl
   have h4:=objAt_free FI.out.2.1 4
   have w5:=objAt_cell FI.out.2.1 5 rfl
   have h5:=objAt_free FI.out.2.1 5
   have w6:=objAt_cell FI.out.2.1 6 rfl
   have h6:=objAt_free FI.out.2.1 6
   have w7:=objAt_cell FI.out.2.1 7 rfl
   have h7:=objAt_free FI.out.2.1 7
   have wl:=objAt_lt FI.out.2.1
   have FA:=Lib.hid (fin_delta (.int .i64 0) (.int .i64 0) (.slice none 0 0) (.slice none 0 0) (.slice none 0 0) (.slice none 0 0) (.slice none 0 0) (.slice none 0 0) (fin_reply (x0:=.int .i64 (k:Int)) (x1:=.int .i64 v.s.rev) FI.out HC.out HHW.out) HC.out HHW.out)
   obtain⟨YA,hYA⟩:∃Y,(((((((((X2.setCell ⟨H+1,0,none⟩ (.int .i64 (k:Int))).setCell ⟨H+1,1,none⟩ (.int .i64 v.s.rev)).setCell ⟨H+1+1,0,none⟩ (.int .i64 0)).setCell ⟨H+1+1,1,none⟩ (.int .i64 0)).setCell ⟨H+1+1,2,none⟩ (.slice none 0 0)).setCell ⟨H+1+1,3,none⟩ (.slice none 0 0)).setCell ⟨H+1+1,4,none⟩ (.slice none 0 0)).setCell ⟨H+1+1,5,none⟩ (.slice none 0 0)).setCell ⟨H+1+1,6,none⟩ (.slice none 0 0)).setCell ⟨H+1+1,7,none⟩ (.slice none 0 0)=Y:=⟨_,rfl⟩
   have HYA:=Lib.hid hYA
   clear hYA
   have HN4:=Lib.hid (show c≠H+1∧L≠H+1∧c≠H+1+1∧L≠H+1+1 from by have:=HC.out;have:=HLN.out;omega)
   have s1:=s9_all FI.out.2.2.1 OL2.out
   have s0:=s9_drew s1
   have S1:=Lib.hid s1
   clear s1
   go_wp2_with fail
   go_region_held3 (fun w'=>((w'.cell? ⟨c,0,none⟩=some (.int .i64 v.s.rev)∧w'.cell? ⟨L,0,none⟩=some (.int .i64 0)∧w'.cell? ⟨L,1,none⟩=some (.int .i64 0)∧w'.cell? ⟨L,2,none⟩=some (.slice none 0 0)∧w'.cell? ⟨L,3,none⟩=some (.slice none 0 0)∧w'.cell? ⟨L,4,none⟩=some (.slice none 0 0)∧w'.cell? ⟨L,5,none⟩=some (.slice none 0 0)∧w'.cell? ⟨L,6,none⟩=some (.slice none 0 0)∧w'.cell? ⟨L,7,none⟩=some (.slice none 0 0))∧ObjAt c #[.int .i64 v.s.rev,.slice aj v.s.jobs.length cj,.slice an v.s.nodes.length cn,.slice al v.s.leases.length cl,.int .i64 v.now] 36 w'∧ObjAt L #[.int .i64 0,.int .i64 0,.slice none 0 0,.slice none 0 0,.slice none 0 0,.slice none 0 0,.slice none 0 0,.slice none 0 0] 49 w')) (first | with_reducible assumption | with_reducible exact s0 | with_reducible exact s9_drew (s9_rep _ _ HN4.out.1 HN4.out.2.1 S1.out) | with_reducible exact s9_drew (s9_del _ _ _ _ _ _ _ _ HN4.out.2.2.1 HN4.out.2.2.2 (s9_rep _ _ HN4.out.1 HN4.out.2.1 S1.out))) (fail)
   rename_i hS
   clear hS s0
   go_wp2
   rw[HYA.out]
   have FF:=fin_drew (show FinAt H c #[.int .i64 (k:Int),.int .i64 v.s.rev] #[.int .i64 0,.int .i64 0,.slice none 0 0,.slice none 0 0,.slice none 0 0,.slice none 0 0,.slice none 0 0,.slice none 0 0] #[.int .i64 v.s.rev,.slice aj v.s.jobs.length cj,.slice an v.s.nodes.length cn,.slice al v.s.leases.length cl,.int .i64 v.now] ⟨none,0,none,0,none,0,none,0,none,0,none,0⟩ zeroDel v.s aj an al cj cn cl v.s aj an al cj cn cl w YA from HYA.out ▸ FA.out)
   have r0:=objAt_cell FF.1 0 rfl
   have r1:=objAt_cell FF.1 1 rfl
   have q0:=objAt_cell FF.2.1 0 rfl
   have q1:=objAt_cell FF.2.1 1 rfl
   have q2:=objAt_cell FF.2.1 2 rfl
   have q3:=objAt_cell FF.2.1 3 rfl
   have q4:=objAt_cell FF.2.1 4 rfl
   have q5:=objAt_cell FF.2.1 5 rfl
   have q6:=objAt_cell FF.2.1 6 rfl
   have q7:=objAt_cell FF.2.1 7 rfl
   have FF:=Lib.hid FF
   exact bodyPost_ret (v:=.tuple #[.agg #[.int .i64 (k:Int),.int .i64 v.s.rev],.agg #[.int .i64 0,.int .i64 0,.slice none 0 0,.slice none 0 0,.slice none 0 0,.slice none 0 0,.slice none 0 0,.slice none 0 0],.bool false]) (by simp[results,Tryz.results9,go_sem,r0,r1,q0,q1,q2,q3,q4,q5,q6,q7]) rfl ⟨⟨none,0,none,0,none,0,none,0,none,0,none,0⟩,aj,an,al,cj,cn,cl,by rw[HD.out,HTD.out];rfl,by rw[HD.out,HTD.out];exact FF.out.2.2.2.1,by rw[HD.out];exact FF.out.2.2.1,by rw[HD.out];exact FF.out.2.2.2.2.1,FF.out.2.2.2.2.2⟩
  obtain rfl:0=k:=hk0.symm
  obtain⟨he,hr⟩:=HZ.out rfl
  have HE:=Lib.hid he
  have HR:=Lib.hid hr
  have hvt:=runR_valid HV.out v.now q HKK.out
  rw[he] at hvt
  have HVT:=Lib.hid hvt
  have hcL:c≠L:=by have:=HC.out;have:=HLN.out;omega
  have HCL:=Lib.hid hcL
  clear he hr hvt HZ hcL
  have HM:=Lib.hid (fun W' (h:((W'.cell? ⟨c,0,none⟩=some (.int .i64 v.s.rev)∧W'.cell? ⟨c,1,none⟩=some (.slice aj v.s.jobs.length cj)∧W'.cell? ⟨c,2,none⟩=some (.slice an v.s.nodes.length cn)∧W'.cell? ⟨c,3,none⟩=some (.slice al v.s.leases.length cl)∧W'.cell? ⟨N,0,none⟩=some (.int .i64 v.s.rev)∧W'.cell? ⟨N,1,none⟩=some (.slice bj js.length dj)∧W'.cell? ⟨N,2,none⟩=some (.slice bn ns.length dn)∧W'.cell? ⟨N,3,none⟩=some (.slice bl ls.length dl))∧ObjAt c #[.int .i64 v.s.rev,.slice aj v.s.jobs.length cj,.slice an v.s.nodes.length cn,.slice al v.s.leases.length cl,.int .i64 v.now] 36 W'∧ObjAt N #[.int .i64 v.s.rev,.slice bj js.length dj,.slice bn ns.length dn,.slice bl ls.length dl] 26 W')) (b:Below X1.heap.size X1 W')=>same_is (⟨v.s.rev,js,ns,ls⟩:StD) v.s bj bn bl aj an al dj dn dl cj cn cl (by have:=HVT.out.1.2.1;simp only at this⊢;omega) W' (nxRows_at (nxRows_next HR.out b) (HMS.out W' (ro_next RD.out b).2.2.2.2.1)).1 (nxRows_at (nxRows_next HR.out b) (HMS.out W' (ro_next RD.out b).2.2.2.2.1)).2.1 (nxRows_at (nxRows_next HR.out b) (HMS.out W' (ro_next RD.out b).2.2.2.2.1)).2.2 (HMS.out W' (ro_next RD.out b).2.2.2.2.1).1 (HMS.out W' (ro_next RD.out b).2.2.2.2.1).2.1 (HMS.out W' (ro_next RD.out b).2.2.2.2.1).2.2)
  have s0:=s8_all (V:=X1.drew) (objAt_drew RD.out.1) (objAt_drew ON.out)
  have hgd:∀(x y:Value) (l:List Value),(x :: l)[0]?.getD y=x:=fun _ _ _=>rfl
  by_cases hs:(⟨v.s.rev,js,ns,ls⟩:StD)=v.s
  case pos =>
   have HS:=Lib.hid hs
   clear hs
   go_wp2_with fail
   go_region_held3 (fun w'=>((w'.cell? ⟨c,0,none⟩=some (.int .i64 v.s.rev)∧w'.cell? ⟨c,1,none⟩=some (.slice aj v.s.jobs.length cj)∧w'.cell? ⟨c,2,none⟩=some (.slice an v.s.nodes.length cn)∧w'.cell? ⟨c,3,none⟩=some (.slice al v.s.leases.length cl)∧w'.cell? ⟨N,0,none⟩=some (.int .i64 v.s.rev)∧w'.cell? ⟨N,1,none⟩=some (.slice bj js.length dj)∧w'.cell? ⟨N,2,none⟩=some (.slice bn ns.length dn)∧w'.cell? ⟨N,3,none⟩=some (.slice bl ls.length dl))∧ObjAt c #[.int .i64 v.s.rev,.slice aj v.s.jobs.length cj,.slice an v.s.nodes.length cn,.slice al v.s.leases.length cl,.int .i64 v.now] 36 w'∧ObjAt N #[.int .i64 v.s.rev,.slice bj js.length dj,.slice bn ns.length dn,.slice bl ls.length dl] 26 w')) (first | with_reducible assumption | with_reducible exact s0)
    (first | (go_at_call 11;(with_reducible refine(HM.out _ s0 (Below.refl _ _).drew).mono ?_);rintro e x5 ⟨c7,rfl,hc7,b5⟩;obtain rfl:c7=true:=(hc7.2 HS.out);clear hc7;have o5:=s8_call b5 s0;have B5:=Lib.hid (below_trans (Below.refl _ _).drew b5 (Nat.le_refl X1.heap.size))))
   rename_i hS
   obtain rfl:js=v.s.jobs:=congrArg StD.jobs HS.out
   obtain rfl:ns=v.s.nodes:=congrArg StD.nodes HS.out
   obtain rfl:ls=v.s.leases:=congrArg StD.leases HS.out
   have HD:Hid (doR V8 v.s v.now q=(⟨v.s,n'⟩,0,false)):=by show _=_;rw[doR_same HKK.out (by rw[HE.out];exact⟨rfl,rfl,rfl⟩),HE.out]
   have HTD:Hid (told v.s (⟨v.s,n'⟩,0,false)=zeroDel):=by show _=_;unfold told;rfl
   have RD5:=Lib.hid (ro_next RD.out B5.out)
   have ON5:=Lib.hid (objAt_next ON.out B5.out)
   have OL5:=Lib.hid (objAt_next OL.out B5.out)
   have HR5:=Lib.hid (nxRows_next HR.out B5.out)
   clear hS s0 o5 HM
   have y0:=objAt_cell RD5.out.1 0 rfl
   have e0:=objAt_free RD5.out.1 0
   have y1:=objAt_cell RD5.out.1 1 rfl
   have e1:=objAt_free RD5.out.1 1
   have y2:=objAt_cell RD5.out.1 2 rfl
   have e2:=objAt_free RD5.out.1 2
   have y3:=objAt_cell RD5.out.1 3 rfl
   have e3:=objAt_free RD5.out.1 3
   have y4:=objAt_cell RD5.out.1 4 rfl
   have e4:=objAt_free RD5.out.1 4
   have ycl:=objAt_lt RD5.out.1
   have n0:=objAt_cell ON5.out 0 rfl
   have n1:=objAt_cell ON5.out 1 rfl
   have n2:=objAt_cell ON5.out 2 rfl
   have n3:=objAt_cell ON5.out 3 rfl
   have nl:=objAt_lt ON5.out
   have fi:=fin_server (.int .i64 v.s.rev) (.slice bj v.s.jobs.length dj) (.slice bn v.s.nodes.length dn) (.slice bl v.s.leases.length dl) (.int .i64 n') (t:=v.s) RD5.out HHW.out (ownD_zero H x5) HR5.out
   have ol:=objAt_other (objAt_other (objAt_other (objAt_other (objAt_other (OL5.out) (Ne.symm HCL.out) 0 (.int .i64 v.s.rev)) (Ne.symm HCL.out) 1 (.slice bj v.s.jobs.length dj)) (Ne.symm HCL.out) 2 (.slice bn v.s.nodes.length dn)) (Ne.symm HCL.out) 3 (.slice bl v.s.leases.length dl)) (Ne.symm HCL.out) 4 (.int .i64 n')
   obtain⟨X6,hX6⟩:∃X,((((x5.setCell ⟨c,0,none⟩ (.int .i64 v.s.rev)).setCell ⟨c,1,none⟩ (.slice bj v.s.jobs.length dj)).setCell ⟨c,2,none⟩ (.slice bn v.s.nodes.length dn)).setCell ⟨c,3,none⟩ (.slice bl v.s.leases.length dl)).setCell ⟨c,4,none⟩ (.int .i64 n')=X:=⟨_,rfl⟩
   rw[hX6] at fi
   have ol:ObjAt L _ 49 X6:=hX6 ▸ ol
   have FI:=Lib.hid fi
   have OLF:=Lib.hid ol
   clear fi ol
   have yc:=objAt_cell FI.out.2.2.1 0 rfl
   have ycl:=objAt_lt FI.out.2.2.1
   have l0:=objAt_cell OLF.out 0 rfl
   have l1:=objAt_cell OLF.out 1 rfl
   have l2:=objAt_cell OLF.out 2 rfl
   have l3:=objAt_cell OLF.out 3 rfl
   have l4:=objAt_cell OLF.out 4 rfl
   have l5:=objAt_cell OLF.out 5 rfl
   have l6:=objAt_cell OLF.out 6 rfl
   have l7:=objAt_cell OLF.out 7 rfl
   have ll:=objAt_lt OLF.out
   have z0:=objAt_cell FI.out.1 0 rfl
   have g0:=objAt_free FI.out.1 0
   have z1:=objAt_cell FI.out.1 1 rfl
   have g1:=objAt_free FI.out.1 1
   have w0:=objAt_cell FI.out.2.1 0 rfl
   have h0:=objAt_free FI.out.2.1 0
   have w1:=objAt_cell FI.out.2.1 1 rfl
   have h1:=objAt_free FI.out.2.1 1
   have w2:=objAt_cell FI.out.2.1 2 rfl
   have h2:=objAt_free FI.out.2.1 2
   have w3:=objAt_cell FI.out.2.1 3 rfl
   have h3:=objAt_free FI.out.2.1 3
   have w4:=objAt_cell FI.out.2.1 4 rfl
   have h4:=objAt_free FI.out.2.1 4
   have w5:=objAt_cell FI.out.2.1 5 rfl
   have h5:=objAt_free FI.out.2.1 5
   have w6:=objAt_cell FI.out.2.1 6 rfl
   have h6:=objAt_free FI.out.2.1 6
   have w7:=objAt_cell FI.out.2.1 7 rfl
   have h7:=objAt_free FI.out.2.1 7
   have wl:=objAt_lt FI.out.2.1
   have FA:=Lib.hid (fin_delta (.int .i64 0) (.int .i64 0) (.slice none 0 0) (.slice none 0 0) (.slice none 0 0) (.slice none 0 0) (.slice none 0 0) (.slice none 0 0) (fin_reply (x0:=.int .i64 0) (x1:=.int .i64 v.s.rev) FI.out HC.out HHW.out) HC.out HHW.out)
   obtain⟨YA,hYA⟩:∃Y,(((((((((X6.setCell ⟨H+1,0,none⟩ (.int .i64 0)).setCell ⟨H+1,1,none⟩ (.int .i64 v.s.rev)).setCell ⟨H+1+1,0,none⟩ (.int .i64 0)).setCell ⟨H+1+1,1,none⟩ (.int .i64 0)).setCell ⟨H+1+1,2,none⟩ (.slice none 0 0)).setCell ⟨H+1+1,3,none⟩ (.slice none 0 0)).setCell ⟨H+1+1,4,none⟩ (.slice none 0 0)).setCell ⟨H+1+1,5,none⟩ (.slice none 0 0)).setCell ⟨H+1+1,6,none⟩ (.slice none 0 0)).setCell ⟨H+1+1,7,none⟩ (.slice none 0 0)=Y:=⟨_,rfl⟩
   have HYA:=Lib.hid hYA
   clear hYA
   have HN4:=Lib.hid (show c≠H+1∧L≠H+1∧c≠H+1+1∧L≠H+1+1 from by have:=HC.out;have:=HLN.out;omega)
   have s1:=s9_all FI.out.2.2.1 OLF.out
   have s0:=s9_drew s1
   have S1:=Lib.hid s1
   clear s1
   go_wp2_with fail
   go_region_held3 (fun w'=>((w'.cell? ⟨c,0,none⟩=some (.int .i64 v.s.rev)∧w'.cell? ⟨L,0,none⟩=some (.int .i64 0)∧w'.cell? ⟨L,1,none⟩=some (.int .i64 0)∧w'.cell? ⟨L,2,none⟩=some (.slice none 0 0)∧w'.cell? ⟨L,3,none⟩=some (.slice none 0 0)∧w'.cell? ⟨L,4,none⟩=some (.slice none 0 0)∧w'.cell? ⟨L,5,none⟩=some (.slice none 0 0)∧w'.cell? ⟨L,6,none⟩=some (.slice none 0 0)∧w'.cell? ⟨L,7,none⟩=some (.slice none 0 0))∧ObjAt c #[.int .i64 v.s.rev,.slice bj v.s.jobs.length dj,.slice bn v.s.nodes.length dn,.slice bl v.s.leases.length dl,.int .i64 n'] 36 w'∧ObjAt L #[.int .i64 0,.int .i64 0,.slice none 0 0,.slice none 0 0,.slice none 0 0,.slice none 0 0,.slice none 0 0,.slice none 0 0] 49 w')) (first | with_reducible assumption | with_reducible exact s0 | with_reducible exact s9_drew (s9_rep _ _ HN4.out.1 HN4.out.2.1 S1.out) | with_reducible exact s9_drew (s9_del _ _ _ _ _ _ _ _ HN4.out.2.2.1 HN4.out.2.2.2 (s9_rep _ _ HN4.out.1 HN4.out.2.1 S1.out))) (fail)
   rename_i hS
   clear hS s0
   go_wp2
   rw[HYA.out]
   have FF:=fin_drew (show FinAt H c #[.int .i64 0,.int .i64 v.s.rev] #[.int .i64 0,.int .i64 0,.slice none 0 0,.slice none 0 0,.slice none 0 0,.slice none 0 0,.slice none 0 0,.slice none 0 0] #[.int .i64 v.s.rev,.slice bj v.s.jobs.length dj,.slice bn v.s.nodes.length dn,.slice bl v.s.leases.length dl,.int .i64 n'] ⟨none,0,none,0,none,0,none,0,none,0,none,0⟩ zeroDel v.s aj an al cj cn cl v.s bj bn bl dj dn dl w YA from HYA.out ▸ FA.out)
   have r0:=objAt_cell FF.1 0 rfl
   have r1:=objAt_cell FF.1 1 rfl
   have q0:=objAt_cell FF.2.1 0 rfl
   have q1:=objAt_cell FF.2.1 1 rfl
   have q2:=objAt_cell FF.2.1 2 rfl
   have q3:=objAt_cell FF.2.1 3 rfl
   have q4:=objAt_cell FF.2.1 4 rfl
   have q5:=objAt_cell FF.2.1 5 rfl
   have q6:=objAt_cell FF.2.1 6 rfl
   have q7:=objAt_cell FF.2.1 7 rfl
   have FF:=Lib.hid FF
   exact bodyPost_ret (v:=.tuple #[.agg #[.int .i64 0,.int .i64 v.s.rev],.agg #[.int .i64 0,.int .i64 0,.slice none 0 0,.slice none 0 0,.slice none 0 0,.slice none 0 0,.slice none 0 0,.slice none 0 0],.bool false]) (by simp[results,Tryz.results9,go_sem,r0,r1,q0,q1,q2,q3,q4,q5,q6,q7]) rfl ⟨⟨none,0,none,0,none,0,none,0,none,0,none,0⟩,bj,bn,bl,dj,dn,dl,by rw[HD.out,HTD.out];rfl,by rw[HD.out,HTD.out];exact FF.out.2.2.2.1,by rw[HD.out];exact FF.out.2.2.1,by rw[HD.out];exact FF.out.2.2.2.2.1,FF.out.2.2.2.2.2⟩
  have HS:=Lib.hid hs
  clear hs
  go_wp2_with fail
  go_region_held3 (fun w'=>((w'.cell? ⟨c,0,none⟩=some (.int .i64 v.s.rev)∧w'.cell? ⟨c,1,none⟩=some (.slice aj v.s.jobs.length cj)∧w'.cell? ⟨c,2,none⟩=some (.slice an v.s.nodes.length cn)∧w'.cell? ⟨c,3,none⟩=some (.slice al v.s.leases.length cl)∧w'.cell? ⟨N,0,none⟩=some (.int .i64 v.s.rev)∧w'.cell? ⟨N,1,none⟩=some (.slice bj js.length dj)∧w'.cell? ⟨N,2,none⟩=some (.slice bn ns.length dn)∧w'.cell? ⟨N,3,none⟩=some (.slice bl ls.length dl))∧ObjAt c #[.int .i64 v.s.rev,.slice aj v.s.jobs.length cj,.slice an v.s.nodes.length cn,.slice al v.s.leases.length cl,.int .i64 v.now] 36 w'∧ObjAt N #[.int .i64 v.s.rev,.slice bj js.length dj,.slice bn ns.length dn,.slice bl ls.length dl] 26 w')) (first | with_reducible assumption | with_reducible exact s0)
   (first | (go_at_call 11;(with_reducible refine(HM.out _ s0 (Below.refl _ _).drew).mono ?_);rintro e x5 ⟨c7,rfl,hc7,b5⟩;obtain rfl:c7=false:=(Bool.eq_false_iff.2 (fun h=>HS.out (hc7.1 h)));clear hc7;have o5:=s8_call b5 s0;have B5:=Lib.hid (below_trans (Below.refl _ _).drew b5 (Nat.le_refl X1.heap.size))))
  rename_i hS
  have hns:¬SameRows v.s (runR V8 v.s v.now q).1.s:=by
   rw[HE.out]
   intro h
   exact HS.out (by obtain⟨h1,h2,h3⟩:=h;simp only at h1 h2 h3;rw[←h1,←h2,←h3])
  have HNS:=Lib.hid hns
  have RD5:=Lib.hid (ro_next RD.out B5.out)
  have ON5:=Lib.hid (objAt_next ON.out B5.out)
  have OL5:=Lib.hid (objAt_next OL.out B5.out)
  have HR5:=Lib.hid (nxRows_next HR.out B5.out)
  clear hS s0 o5 HM hns
  have hwr:IntKind.i64.wrap (v.s.rev+1)=v.s.rev+1:=IntWalk.i64_in _ (by have:=HV.out.1;omega)
  have n0:=objAt_cell ON5.out 0 rfl
  have nf:=objAt_free ON5.out 0
  have nl:=objAt_lt ON5.out
  have rd6:=ro_set RD5.out HLN.out.2.2 0 (.int .i64 (v.s.rev+1))
  have on6:ObjAt N #[.int .i64 (v.s.rev+1),.slice bj js.length dj,.slice bn ns.length dn,.slice bl ls.length dl] 26 (x5.setCell ⟨N,0,none⟩ (.int .i64 (v.s.rev+1))):=objAt_set ON5.out 0 _
  have ol6:=objAt_other OL5.out (Ne.symm HLN.out.2.1) 0 (.int .i64 (v.s.rev+1))
  have hr6:=nxRows_set HR5.out ON5.out rowT_st 0 (.int .i64 (v.s.rev+1))
  obtain⟨X6,hX6⟩:∃X,x5.setCell ⟨N,0,none⟩ (.int .i64 (v.s.rev+1))=X:=⟨_,rfl⟩
  rw[hX6] at rd6 on6 ol6 hr6
  have RD6:=Lib.hid rd6
  have ON6:=Lib.hid on6
  have OL6:=Lib.hid ol6
  have HR6:=Lib.hid hr6
  have m0:=objAt_cell ON6.out 0 rfl
  clear rd6 on6 ol6 hr6
  by_cases hrev:v.s.rev=1099511627776
  case pos =>
   have t9:(1099511627776:Int)<v.s.rev+1:=by omega
   have HD:Hid (doR V8 v.s v.now q=(⟨v.s,v.now⟩,2,false)):=doR_full HKK.out HNS.out hrev
   have HTD:Hid (told v.s (⟨v.s,v.now⟩,2,false)=zeroDel):=by show _=_;unfold told;rfl
   have FI:=Lib.hid (fin_same (t:=v.s) (s:=v.s) (aj:=aj) (an:=an) (al:=al) (cj:=cj) (cn:=cn) (cl:=cl) (bj:=aj) (bn:=an) (bl:=al) (dj:=cj) (dn:=cn) (dl:=cl) RD6.out HHW.out (ownD_zero H X6) ⟨Or.inl ⟨rfl,rfl,rfl⟩,Or.inl ⟨rfl,rfl,rfl⟩,Or.inl ⟨rfl,rfl,rfl⟩⟩)
   clear hrev
   have yc:=objAt_cell FI.out.2.2.1 0 rfl
   have ycl:=objAt_lt FI.out.2.2.1
   have l0:=objAt_cell OL6.out 0 rfl
   have l1:=objAt_cell OL6.out 1 rfl
   have l2:=objAt_cell OL6.out 2 rfl
   have l3:=objAt_cell OL6.out 3 rfl
   have l4:=objAt_cell OL6.out 4 rfl
   have l5:=objAt_cell OL6.out 5 rfl
   have l6:=objAt_cell OL6.out 6 rfl
   have l7:=objAt_cell OL6.out 7 rfl
   have ll:=objAt_lt OL6.out
   have z0:=objAt_cell FI.out.1 0 rfl
   have g0:=objAt_free FI.out.1 0
   have z1:=objAt_cell FI.out.1 1 rfl
   have g1:=objAt_free FI.out.1 1
   have w0:=objAt_cell FI.out.2.1 0 rfl
   have h0:=objAt_free FI.out.2.1 0
   have w1:=objAt_cell FI.out.2.1 1 rfl
   have h1:=objAt_free FI.out.2.1 1
   have w2:=objAt_cell FI.out.2.1 2 rfl
   have h2:=objAt_free FI.out.2.1 2
   have w3:=objAt_cell FI.out.2.1 3 rfl
   have h3:=objAt_free FI.out.2.1 3
   have w4:=objAt_cell FI.out.2.1 4 rfl
   have h4:=objAt_free FI.out.2.1 4
   have w5:=objAt_cell FI.out.2.1 5 rfl
   have h5:=objAt_free FI.out.2.1 5
   have w6:=objAt_cell FI.out.2.1 6 rfl
   have h6:=objAt_free FI.out.2.1 6
   have w7:=objAt_cell FI.out.2.1 7 rfl
   have h7:=objAt_free FI.out.2.1 7
   have wl:=objAt_lt FI.out.2.1
   have FA:=Lib.hid (fin_delta (.int .i64 0) (.int .i64 0) (.slice none 0 0) (.slice none 0 0) (.slice none 0 0) (.slice none 0 0) (.slice none 0 0) (.slice none 0 0) (fin_reply (x0:=.int .i64 2) (x1:=.int .i64 v.s.rev) FI.out HC.out HHW.out) HC.out HHW.out)
   obtain⟨YA,hYA⟩:∃Y,(((((((((X6.setCell ⟨H+1,0,none⟩ (.int .i64 2)).setCell ⟨H+1,1,none⟩ (.int .i64 v.s.rev)).setCell ⟨H+1+1,0,none⟩ (.int .i64 0)).setCell ⟨H+1+1,1,none⟩ (.int .i64 0)).setCell ⟨H+1+1,2,none⟩ (.slice none 0 0)).setCell ⟨H+1+1,3,none⟩ (.slice none 0 0)).setCell ⟨H+1+1,4,none⟩ (.slice none 0 0)).setCell ⟨H+1+1,5,none⟩ (.slice none 0 0)).setCell ⟨H+1+1,6,none⟩ (.slice none 0 0)).setCell ⟨H+1+1,7,none⟩ (.slice none 0 0)=Y:=⟨_,rfl⟩
   have HYA:=Lib.hid hYA
   clear hYA
   have HN4:=Lib.hid (show c≠H+1∧L≠H+1∧c≠H+1+1∧L≠H+1+1 from by have:=HC.out;have:=HLN.out;omega)
   have s1:=s9_all FI.out.2.2.1 OL6.out
   have s0:=s9_drew s1
   have S1:=Lib.hid s1
   clear s1
   go_wp2_with fail
   go_region_held3 (fun w'=>((w'.cell? ⟨c,0,none⟩=some (.int .i64 v.s.rev)∧w'.cell? ⟨L,0,none⟩=some (.int .i64 0)∧w'.cell? ⟨L,1,none⟩=some (.int .i64 0)∧w'.cell? ⟨L,2,none⟩=some (.slice none 0 0)∧w'.cell? ⟨L,3,none⟩=some (.slice none 0 0)∧w'.cell? ⟨L,4,none⟩=some (.slice none 0 0)∧w'.cell? ⟨L,5,none⟩=some (.slice none 0 0)∧w'.cell? ⟨L,6,none⟩=some (.slice none 0 0)∧w'.cell? ⟨L,7,none⟩=some (.slice none 0 0))∧ObjAt c #[.int .i64 v.s.rev,.slice aj v.s.jobs.length cj,.slice an v.s.nodes.length cn,.slice al v.s.leases.length cl,.int .i64 v.now] 36 w'∧ObjAt L #[.int .i64 0,.int .i64 0,.slice none 0 0,.slice none 0 0,.slice none 0 0,.slice none 0 0,.slice none 0 0,.slice none 0 0] 49 w')) (first | with_reducible assumption | with_reducible exact s0 | with_reducible exact s9_drew (s9_rep _ _ HN4.out.1 HN4.out.2.1 S1.out) | with_reducible exact s9_drew (s9_del _ _ _ _ _ _ _ _ HN4.out.2.2.1 HN4.out.2.2.2 (s9_rep _ _ HN4.out.1 HN4.out.2.1 S1.out))) (fail)
   rename_i hS
   clear hS s0
   go_wp2
   rw[HYA.out]
   have FF:=fin_drew (show FinAt H c #[.int .i64 2,.int .i64 v.s.rev] #[.int .i64 0,.int .i64 0,.slice none 0 0,.slice none 0 0,.slice none 0 0,.slice none 0 0,.slice none 0 0,.slice none 0 0] #[.int .i64 v.s.rev,.slice aj v.s.jobs.length cj,.slice an v.s.nodes.length cn,.slice al v.s.leases.length cl,.int .i64 v.now] ⟨none,0,none,0,none,0,none,0,none,0,none,0⟩ zeroDel v.s aj an al cj cn cl v.s aj an al cj cn cl w YA from HYA.out ▸ FA.out)
   have r0:=objAt_cell FF.1 0 rfl
   have r1:=objAt_cell FF.1 1 rfl
   have q0:=objAt_cell FF.2.1 0 rfl
   have q1:=objAt_cell FF.2.1 1 rfl
   have q2:=objAt_cell FF.2.1 2 rfl
   have q3:=objAt_cell FF.2.1 3 rfl
   have q4:=objAt_cell FF.2.1 4 rfl
   have q5:=objAt_cell FF.2.1 5 rfl
   have q6:=objAt_cell FF.2.1 6 rfl
   have q7:=objAt_cell FF.2.1 7 rfl
   have FF:=Lib.hid FF
   exact bodyPost_ret (v:=.tuple #[.agg #[.int .i64 2,.int .i64 v.s.rev],.agg #[.int .i64 0,.int .i64 0,.slice none 0 0,.slice none 0 0,.slice none 0 0,.slice none 0 0,.slice none 0 0,.slice none 0 0],.bool false]) (by simp[results,Tryz.results9,go_sem,r0,r1,q0,q1,q2,q3,q4,q5,q6,q7]) rfl ⟨⟨none,0,none,0,none,0,none,0,none,0,none,0⟩,aj,an,al,cj,cn,cl,by rw[HD.out,HTD.out];rfl,by rw[HD.out,HTD.out];exact FF.out.2.2.2.1,by rw[HD.out];exact FF.out.2.2.1,by rw[HD.out];exact FF.out.2.2.2.2.1,FF.out.2.2.2.2.2⟩
  have t9:¬((1099511627776:Int)<v.s.rev+1):=by have:=HV.out.1;omega
  obtain⟨D,hD⟩:∃D,diffS v.s (⟨v.s.rev+1,js,ns,ls⟩:StD)=D:=⟨_,rfl⟩
  have HB:=fun(W':World) (b:Below X6.heap.size X6 W')=>(show Calls Tryz.prog 25 #[.agg #[.int .i64 v.s.rev,.slice aj v.s.jobs.length cj,.slice an v.s.nodes.length cn,.slice al v.s.leases.length cl],.agg #[.int .i64 (v.s.rev+1),.slice bj js.length dj,.slice bn ns.length dn,.slice bl ls.length dl]] W' (fun e w'=>∃M:DlM,e = .returned (.agg #[.int .i64 (diffS v.s (⟨v.s.rev+1,js,ns,ls⟩:StD)).frm,.int .i64 (diffS v.s (⟨v.s.rev+1,js,ns,ls⟩:StD)).til,.slice M.aj (diffS v.s (⟨v.s.rev+1,js,ns,ls⟩:StD)).jobs.length M.cj,.slice M.an (diffS v.s (⟨v.s.rev+1,js,ns,ls⟩:StD)).nodes.length M.cn,.slice M.al (diffS v.s (⟨v.s.rev+1,js,ns,ls⟩:StD)).leases.length M.cl,.slice M.gj (diffS v.s (⟨v.s.rev+1,js,ns,ls⟩:StD)).gj.length M.hj,.slice M.gn (diffS v.s (⟨v.s.rev+1,js,ns,ls⟩:StD)).gn.length M.hn,.slice M.gl (diffS v.s (⟨v.s.rev+1,js,ns,ls⟩:StD)).gl.length M.hl])∧OwnD W'.heap.size M (diffS v.s (⟨v.s.rev+1,js,ns,ls⟩:StD)) w'∧Below W'.heap.size W' w') from between_is v.s (⟨v.s.rev+1,js,ns,ls⟩:StD) aj an al bj bn bl cj cn cl dj dn dl (by have:=HV.out.2.1;omega) (by have:=HVT.out.1.2.1;simp only at this⊢;omega) W' (HMS.out W' (ro_next RD6.out b).2.2.2.2.1) (nxRows_at (nxRows_next HR6.out b) (HMS.out W' (ro_next RD6.out b).2.2.2.2.1)))
  simp only[hD] at HB
  have HB:=Lib.hid HB
  have HD:Hid (doR V8 v.s v.now q=(⟨⟨v.s.rev+1,js,ns,ls⟩,n'⟩,0,true)):=by show _=_;rw[doR_new HKK.out HNS.out hrev,HE.out];rfl
  have HTD:Hid (told v.s (⟨⟨v.s.rev+1,js,ns,ls⟩,n'⟩,0,true)=D):=by show _=_;unfold told;rw[if_pos rfl];exact hD
  have s0:=s8_all (V:=X6.drew) (objAt_drew RD6.out.1) (objAt_drew ON6.out)
  clear hD hrev
  go_wp2_with fail
  go_region_held3 (fun w'=>((w'.cell? ⟨c,0,none⟩=some (.int .i64 v.s.rev)∧w'.cell? ⟨c,1,none⟩=some (.slice aj v.s.jobs.length cj)∧w'.cell? ⟨c,2,none⟩=some (.slice an v.s.nodes.length cn)∧w'.cell? ⟨c,3,none⟩=some (.slice al v.s.leases.length cl)∧w'.cell? ⟨N,0,none⟩=some (.int .i64 (v.s.rev+1))∧w'.cell? ⟨N,1,none⟩=some (.slice bj js.length dj)∧w'.cell? ⟨N,2,none⟩=some (.slice bn ns.length dn)∧w'.cell? ⟨N,3,none⟩=some (.slice bl ls.length dl))∧ObjAt c #[.int .i64 v.s.rev,.slice aj v.s.jobs.length cj,.slice an v.s.nodes.length cn,.slice al v.s.leases.length cl,.int .i64 v.now] 36 w'∧ObjAt N #[.int .i64 (v.s.rev+1),.slice bj js.length dj,.slice bn ns.length dn,.slice bl ls.length dl] 26 w')) (first | with_reducible assumption | with_reducible exact s0 | with_reducible exact s8_put _ _ _ _ _ _ _ _ HCL.out HLN.out.2.1 (by with_reducible assumption))
   (first | (go_at_call 25;(with_reducible refine(HB.out _ (Below.refl _ _).drew).mono ?_);rintro e x7 ⟨MD,rfl,od,b7⟩;have o7:=s8_call b7 s0;have B7:=Lib.hid (below_trans (Below.refl _ _).drew b7 (Nat.le_refl X6.heap.size));have OD7:=Lib.hid od;have Z7:=Lib.hid (objAt_next (objAt_drew OL6.out) b7);have w0:=objAt_cell Z7.out 0 rfl;have h0:=objAt_free Z7.out 0;have w1:=objAt_cell Z7.out 1 rfl;have h1:=objAt_free Z7.out 1;have w2:=objAt_cell Z7.out 2 rfl;have h2:=objAt_free Z7.out 2;have w3:=objAt_cell Z7.out 3 rfl;have h3:=objAt_free Z7.out 3;have w4:=objAt_cell Z7.out 4 rfl;have h4:=objAt_free Z7.out 4;have w5:=objAt_cell Z7.out 5 rfl;have h5:=objAt_free Z7.out 5;have w6:=objAt_cell Z7.out 6 rfl;have h6:=objAt_free Z7.out 6;have w7:=objAt_cell Z7.out 7 rfl;have h7:=objAt_free Z7.out 7))
  rename_i hS
  have od7:OwnD H MD D x7:=by
   have hb:H≤X6.heap.size:=by have:=ro_size RD6.out;omega
   obtain⟨d1,d2,d3,d4,d5,d6⟩:=OD7.out
   exact⟨ownsRow_low d1 hb,ownsRow_low d2 hb,ownsRow_low d3 hb,ownsRow_low d4 hb,ownsRow_low d5 hb,ownsRow_low d6 hb⟩
  have rd8:=ro_put8 (ro_next RD6.out B7.out) HLN.out.1 (.int .i64 D.frm) (.int .i64 D.til) (.slice MD.aj D.jobs.length MD.cj) (.slice MD.an D.nodes.length MD.cn) (.slice MD.al D.leases.length MD.cl) (.slice MD.gj D.gj.length MD.hj) (.slice MD.gn D.gn.length MD.hn) (.slice MD.gl D.gl.length MD.hl)
  have on8:=other_put8 (objAt_next ON6.out B7.out) HLN.out.2.1 (.int .i64 D.frm) (.int .i64 D.til) (.slice MD.aj D.jobs.length MD.cj) (.slice MD.an D.nodes.length MD.cn) (.slice MD.al D.leases.length MD.cl) (.slice MD.gj D.gj.length MD.hj) (.slice MD.gn D.gn.length MD.hn) (.slice MD.gl D.gl.length MD.hl)
  have ol8:=obj_put8 Z7.out (.int .i64 D.frm) (.int .i64 D.til) (.slice MD.aj D.jobs.length MD.cj) (.slice MD.an D.nodes.length MD.cn) (.slice MD.al D.leases.length MD.cl) (.slice MD.gj D.gj.length MD.hj) (.slice MD.gn D.gn.length MD.hn) (.slice MD.gl D.gl.length MD.hl)
  have od8:=ownD_put8 od7 Z7.out (.int .i64 D.frm) (.int .i64 D.til) (.slice MD.aj D.jobs.length MD.cj) (.slice MD.an D.nodes.length MD.cn) (.slice MD.al D.leases.length MD.cl) (.slice MD.gj D.gj.length MD.hj) (.slice MD.gn D.gn.length MD.hn) (.slice MD.gl D.gl.length MD.hl)
  have hr8:=nxRows_put8 (nxRows_next HR6.out B7.out) Z7.out (.int .i64 D.frm) (.int .i64 D.til) (.slice MD.aj D.jobs.length MD.cj) (.slice MD.an D.nodes.length MD.cn) (.slice MD.al D.leases.length MD.cl) (.slice MD.gj D.gj.length MD.hj) (.slice MD.gn D.gn.length MD.hn) (.slice MD.gl D.gl.length MD.hl)
  obtain⟨X8,hX8⟩:∃X,(((((((x7.setCell ⟨L,0,none⟩ (.int .i64 D.frm)).setCell ⟨L,1,none⟩ (.int .i64 D.til)).setCell ⟨L,2,none⟩ (.slice MD.aj D.jobs.length MD.cj)).setCell ⟨L,3,none⟩ (.slice MD.an D.nodes.length MD.cn)).setCell ⟨L,4,none⟩ (.slice MD.al D.leases.length MD.cl)).setCell ⟨L,5,none⟩ (.slice MD.gj D.gj.length MD.hj)).setCell ⟨L,6,none⟩ (.slice MD.gn D.gn.length MD.hn)).setCell ⟨L,7,none⟩ (.slice MD.gl D.gl.length MD.hl)=X:=⟨_,rfl⟩
  have RD8:Hid (RoAt H c #[.int .i64 v.s.rev,.slice aj v.s.jobs.length cj,.slice an v.s.nodes.length cn,.slice al v.s.leases.length cl,.int .i64 v.now] #[.int .i64 q.kind,.string q.job.name,.int .i64 q.job.prio,.int .i64 q.job.need,.int .i64 q.job.tries,.string q.job.tag,.string q.node.name,.int .i64 q.node.room,.string q.node.zone,.string q.lease.job,.string q.lease.node,.int .i64 q.lease.til,.string q.name,.int .i64 q.n] w X8):=hX8 ▸ rd8
  have ON8:Hid (ObjAt N #[.int .i64 (v.s.rev+1),.slice bj js.length dj,.slice bn ns.length dn,.slice bl ls.length dl] 26 X8):=hX8 ▸ on8
  have OL8:Hid (ObjAt L #[.int .i64 D.frm,.int .i64 D.til,.slice MD.aj D.jobs.length MD.cj,.slice MD.an D.nodes.length MD.cn,.slice MD.al D.leases.length MD.cl,.slice MD.gj D.gj.length MD.hj,.slice MD.gn D.gn.length MD.hn,.slice MD.gl D.gl.length MD.hl] 49 X8):=hX8 ▸ ol8
  have OD8:Hid (OwnD H MD D X8):=hX8 ▸ od8
  have HR8:Hid (NxRows H v.s aj an al cj cn cl js ns ls bj bn bl dj dn dl X8):=hX8 ▸ hr8
  clear hS s0 o7 rd8 on8 ol8 od8 hr8 od7 w0 h0 w1 h1 w2 h2 w3 h3 w4 h4 w5 h5 w6 h6 w7 h7 n0 nf nl m0
  have y0:=objAt_cell RD8.out.1 0 rfl
  have e0:=objAt_free RD8.out.1 0
  have y1:=objAt_cell RD8.out.1 1 rfl
  have e1:=objAt_free RD8.out.1 1
  have y2:=objAt_cell RD8.out.1 2 rfl
  have e2:=objAt_free RD8.out.1 2
  have y3:=objAt_cell RD8.out.1 3 rfl
  have e3:=objAt_free RD8.out.1 3
  have y4:=objAt_cell RD8.out.1 4 rfl
  have e4:=objAt_free RD8.out.1 4
  have ycl:=objAt_lt RD8.out.1
  have n0:=objAt_cell ON8.out 0 rfl
  have n1:=objAt_cell ON8.out 1 rfl
  have n2:=objAt_cell ON8.out 2 rfl
  have n3:=objAt_cell ON8.out 3 rfl
  have nl:=objAt_lt ON8.out
  have fi:=fin_server (.int .i64 (v.s.rev+1)) (.slice bj js.length dj) (.slice bn ns.length dn) (.slice bl ls.length dl) (.int .i64 n') (t:=(⟨v.s.rev+1,js,ns,ls⟩:StD)) RD8.out HHW.out OD8.out HR8.out
  have ol:=objAt_other (objAt_other (objAt_other (objAt_other (objAt_other (OL8.out) (Ne.symm HCL.out) 0 (.int .i64 (v.s.rev+1))) (Ne.symm HCL.out) 1 (.slice bj js.length dj)) (Ne.symm HCL.out) 2 (.slice bn ns.length dn)) (Ne.symm HCL.out) 3 (.slice bl ls.length dl)) (Ne.symm HCL.out) 4 (.int .i64 n')
  obtain⟨X9,hX9⟩:∃X,((((X8.setCell ⟨c,0,none⟩ (.int .i64 (v.s.rev+1))).setCell ⟨c,1,none⟩ (.slice bj js.length dj)).setCell ⟨c,2,none⟩ (.slice bn ns.length dn)).setCell ⟨c,3,none⟩ (.slice bl ls.length dl)).setCell ⟨c,4,none⟩ (.int .i64 n')=X:=⟨_,rfl⟩
  rw[hX9] at fi
  have ol:ObjAt L _ 49 X9:=hX9 ▸ ol
  have FI:=Lib.hid fi
  have OLF:=Lib.hid ol
  clear fi ol
  have yc:=objAt_cell FI.out.2.2.1 0 rfl
  have ycl:=objAt_lt FI.out.2.2.1
  have l0:=objAt_cell OLF.out 0 rfl
  have l1:=objAt_cell OLF.out 1 rfl
  have l2:=objAt_cell OLF.out 2 rfl
  have l3:=objAt_cell OLF.out 3 rfl
  have l4:=objAt_cell OLF.out 4 rfl
  have l5:=objAt_cell OLF.out 5 rfl
  have l6:=objAt_cell OLF.out 6 rfl
  have l7:=objAt_cell OLF.out 7 rfl
  have ll:=objAt_lt OLF.out
  have z0:=objAt_cell FI.out.1 0 rfl
  have g0:=objAt_free FI.out.1 0
  have z1:=objAt_cell FI.out.1 1 rfl
  have g1:=objAt_free FI.out.1 1
  have w0:=objAt_cell FI.out.2.1 0 rfl
  have h0:=objAt_free FI.out.2.1 0
  have w1:=objAt_cell FI.out.2.1 1 rfl
  have h1:=objAt_free FI.out.2.1 1
  have w2:=objAt_cell FI.out.2.1 2 rfl
  have h2:=objAt_free FI.out.2.1 2
  have w3:=objAt_cell FI.out.2.1 3 rfl
  have h3:=objAt_free FI.out.2.1 3
  have w4:=objAt_cell FI.out.2.1 4 rfl
  have h4:=objAt_free FI.out.2.1 4
  have w5:=objAt_cell FI.out.2.1 5 rfl
  have h5:=objAt_free FI.out.2.1 5
  have w6:=objAt_cell FI.out.2.1 6 rfl
  have h6:=objAt_free FI.out.2.1 6
  have w7:=objAt_cell FI.out.2.1 7 rfl
  have h7:=objAt_free FI.out.2.1 7
  have wl:=objAt_lt FI.out.2.1
  have FA:=Lib.hid (fin_delta (.int .i64 D.frm) (.int .i64 D.til) (.slice MD.aj D.jobs.length MD.cj) (.slice MD.an D.nodes.length MD.cn) (.slice MD.al D.leases.length MD.cl) (.slice MD.gj D.gj.length MD.hj) (.slice MD.gn D.gn.length MD.hn) (.slice MD.gl D.gl.length MD.hl) (fin_reply (x0:=.int .i64 0) (x1:=.int .i64 (v.s.rev+1)) FI.out HC.out HHW.out) HC.out HHW.out)
  obtain⟨YA,hYA⟩:∃Y,(((((((((X9.setCell ⟨H+1,0,none⟩ (.int .i64 0)).setCell ⟨H+1,1,none⟩ (.int .i64 (v.s.rev+1))).setCell ⟨H+1+1,0,none⟩ (.int .i64 D.frm)).setCell ⟨H+1+1,1,none⟩ (.int .i64 D.til)).setCell ⟨H+1+1,2,none⟩ (.slice MD.aj D.jobs.length MD.cj)).setCell ⟨H+1+1,3,none⟩ (.slice MD.an D.nodes.length MD.cn)).setCell ⟨H+1+1,4,none⟩ (.slice MD.al D.leases.length MD.cl)).setCell ⟨H+1+1,5,none⟩ (.slice MD.gj D.gj.length MD.hj)).setCell ⟨H+1+1,6,none⟩ (.slice MD.gn D.gn.length MD.hn)).setCell ⟨H+1+1,7,none⟩ (.slice MD.gl D.gl.length MD.hl)=Y:=⟨_,rfl⟩
  have HYA:=Lib.hid hYA
  clear hYA
  have HN4:=Lib.hid (show c≠H+1∧L≠H+1∧c≠H+1+1∧L≠H+1+1 from by have:=HC.out;have:=HLN.out;omega)
  have s1:=s9_all FI.out.2.2.1 OLF.out
  have s0:=s9_drew s1
  have S1:=Lib.hid s1
  clear s1
  go_wp2_with fail
  go_region_held3 (fun w'=>((w'.cell? ⟨c,0,none⟩=some (.int .i64 (v.s.rev+1))∧w'.cell? ⟨L,0,none⟩=some (.int .i64 D.frm)∧w'.cell? ⟨L,1,none⟩=some (.int .i64 D.til)∧w'.cell? ⟨L,2,none⟩=some (.slice MD.aj D.jobs.length MD.cj)∧w'.cell? ⟨L,3,none⟩=some (.slice MD.an D.nodes.length MD.cn)∧w'.cell? ⟨L,4,none⟩=some (.slice MD.al D.leases.length MD.cl)∧w'.cell? ⟨L,5,none⟩=some (.slice MD.gj D.gj.length MD.hj)∧w'.cell? ⟨L,6,none⟩=some (.slice MD.gn D.gn.length MD.hn)∧w'.cell? ⟨L,7,none⟩=some (.slice MD.gl D.gl.length MD.hl))∧ObjAt c #[.int .i64 (v.s.rev+1),.slice bj js.length dj,.slice bn ns.length dn,.slice bl ls.length dl,.int .i64 n'] 36 w'∧ObjAt L #[.int .i64 D.frm,.int .i64 D.til,.slice MD.aj D.jobs.length MD.cj,.slice MD.an D.nodes.length MD.cn,.slice MD.al D.leases.length MD.cl,.slice MD.gj D.gj.length MD.hj,.slice MD.gn D.gn.length MD.hn,.slice MD.gl D.gl.length MD.hl] 49 w')) (first | with_reducible assumption | with_reducible exact s0 | with_reducible exact s9_drew (s9_rep _ _ HN4.out.1 HN4.out.2.1 S1.out) | with_reducible exact s9_drew (s9_del _ _ _ _ _ _ _ _ HN4.out.2.2.1 HN4.out.2.2.2 (s9_rep _ _ HN4.out.1 HN4.out.2.1 S1.out))) (fail)
  rename_i hS
  clear hS s0
  go_wp2
  rw[HYA.out]
  have FF:=fin_drew (show FinAt H c #[.int .i64 0,.int .i64 (v.s.rev+1)] #[.int .i64 D.frm,.int .i64 D.til,.slice MD.aj D.jobs.length MD.cj,.slice MD.an D.nodes.length MD.cn,.slice MD.al D.leases.length MD.cl,.slice MD.gj D.gj.length MD.hj,.slice MD.gn D.gn.length MD.hn,.slice MD.gl D.gl.length MD.hl] #[.int .i64 (v.s.rev+1),.slice bj js.length dj,.slice bn ns.length dn,.slice bl ls.length dl,.int .i64 n'] MD D v.s aj an al cj cn cl (⟨v.s.rev+1,js,ns,ls⟩:StD) bj bn bl dj dn dl w YA from HYA.out ▸ FA.out)
  have r0:=objAt_cell FF.1 0 rfl
  have r1:=objAt_cell FF.1 1 rfl
  have q0:=objAt_cell FF.2.1 0 rfl
  have q1:=objAt_cell FF.2.1 1 rfl
  have q2:=objAt_cell FF.2.1 2 rfl
  have q3:=objAt_cell FF.2.1 3 rfl
  have q4:=objAt_cell FF.2.1 4 rfl
  have q5:=objAt_cell FF.2.1 5 rfl
  have q6:=objAt_cell FF.2.1 6 rfl
  have q7:=objAt_cell FF.2.1 7 rfl
  have FF:=Lib.hid FF
  exact bodyPost_ret (v:=.tuple #[.agg #[.int .i64 0,.int .i64 (v.s.rev+1)],.agg #[.int .i64 D.frm,.int .i64 D.til,.slice MD.aj D.jobs.length MD.cj,.slice MD.an D.nodes.length MD.cn,.slice MD.al D.leases.length MD.cl,.slice MD.gj D.gj.length MD.hj,.slice MD.gn D.gn.length MD.hn,.slice MD.gl D.gl.length MD.hl],.bool true]) (by simp[results,Tryz.results9,go_sem,r0,r1,q0,q1,q2,q3,q4,q5,q6,q7]) rfl ⟨MD,bj,bn,bl,dj,dn,dl,by rw[HD.out,HTD.out];rfl,by rw[HD.out,HTD.out];exact FF.out.2.2.2.1,by rw[HD.out];exact FF.out.2.2.1,by rw[HD.out];exact FF.out.2.2.2.2.1,FF.out.2.2.2.2.2⟩
end Go.Proofs.YtiekgafopalfmaaGreatDoor
