import Derived.Test.YtiekgafopalfmaaGreatDoorPSvRCl
import Derived.Test.YtiekgafopalfmaaGreatDoorPPkStR
import Derived.Test.YtiekgafopalfmaaGreatDoorPPkSv1
import Derived.Test.YtiekgafopalfmaaGreatDoorPRqRChk
import Derived.Test.YtiekgafopalfmaaGreatDoorPPkUp4
import Derived.Deep.Cut
import Derived.Deep.RegionHeld3
namespace Go.Proofs.YtiekgafopalfmaaGreatDoor
open Go.RowKit Go.Lib
set_option linter.unusedVariables false
def NxAt (H N K:Nat) (SC QC TC:Array Value) (n':Int) (w V:World):Prop:=ObjAt H SC 36 V∧ObjAt (H+1) QC 44 V∧ObjAt (H+1+1) #[.int .i64 0,.slice none 0 0,.slice none 0 0,.slice none 0 0] 26 V∧ObjAt N TC 26 V∧ObjAt K #[.int .i64 n'] 3 V∧Below H w V∧(H+3≤N∧H+3≤K∧N≠K)
theorem nx_size {H N K:Nat}{SC QC TC:Array Value}{n':Int}{w V:World} (h:NxAt H N K SC QC TC n' w V):H≤V.heap.size:=by have:=objAt_lt h.1;omega
theorem nx_next {H N K:Nat}{SC QC TC:Array Value}{n':Int}{w V V':World} (h:NxAt H N K SC QC TC n' w V) (b:Below V.heap.size V V'):NxAt H N K SC QC TC n' w V' :=
 ⟨objAt_next h.1 b,objAt_next h.2.1 b,objAt_next h.2.2.1 b,objAt_next h.2.2.2.1 b,objAt_next h.2.2.2.2.1 b,below_trans h.2.2.2.2.2.1 b (nx_size h),h.2.2.2.2.2.2⟩
theorem nx_set {H N K:Nat}{SC QC TC:Array Value}{n':Int}{w V:World} (h:NxAt H N K SC QC TC n' w V) (j:Nat) (u:Value):NxAt H N K SC QC (TC.setIfInBounds j u) n' w (V.setCell ⟨N,j,none⟩ u):=by
 obtain⟨h1,h2,h3,h4,h5,h6,h7⟩:=h
 exact⟨objAt_other h1 (by omega) j u,objAt_other h2 (by omega) j u,objAt_other h3 (by omega) j u,objAt_set h4 j u,objAt_other h5 (by omega) j u,h6.setCell (p:=⟨N,j,none⟩) (by show H≤N;omega) u,h7⟩
theorem nx_now {H N K:Nat}{SC QC TC:Array Value}{n':Int} (n2:Int){w V:World} (h:NxAt H N K SC QC TC n' w V):NxAt H N K SC QC TC n2 w (V.setCell ⟨K,0,none⟩ (.int .i64 n2)):=by
 obtain⟨h1,h2,h3,h4,h5,h6,h7⟩:=h
 exact⟨objAt_other h1 (by omega) _ _,objAt_other h2 (by omega) _ _,objAt_other h3 (by omega) _ _,objAt_other h4 (by omega) _ _,objAt_set h5 0 _,h6.setCell (p:=⟨K,0,none⟩) (by show H≤K;omega) _,h7⟩
def NxRows (H:Nat) (s:StD) (aj an al:Option Addr) (cj cn cl:Nat) (js:List JobD) (ns:List NodeD) (ls:List LeaseD) (bj bn bl:Option Addr) (dj dn dl:Nat) (V:World):Prop :=
 ((bj=aj∧dj=cj∧js=s.jobs)∨V.ownsRow H 38 5 (.slice bj js.length dj) js.length (cJobs js))∧((bn=an∧dn=cn∧ns=s.nodes)∨V.ownsRow H 40 3 (.slice bn ns.length dn) ns.length (cNodes ns))∧((bl=al∧dl=cl∧ls=s.leases)∨V.ownsRow H 42 3 (.slice bl ls.length dl) ls.length (cLeases ls))
theorem nxRows_next {H:Nat}{s:StD}{aj an al:Option Addr}{cj cn cl:Nat}{js:List JobD}{ns:List NodeD}{ls:List LeaseD}{bj bn bl:Option Addr}{dj dn dl:Nat}{V V':World} (h:NxRows H s aj an al cj cn cl js ns ls bj bn bl dj dn dl V) (b:Below V.heap.size V V'):NxRows H s aj an al cj cn cl js ns ls bj bn bl dj dn dl V' :=
 ⟨h.1.imp id (fun h=>own_next h b),h.2.1.imp id (fun h=>own_next h b),h.2.2.imp id (fun h=>own_next h b)⟩
theorem nxRows_put {H:Nat}{s:StD}{aj an al:Option Addr}{cj cn cl:Nat}{js:List JobD}{ns:List NodeD}{ls:List LeaseD}{bj bn bl:Option Addr}{dj dn dl:Nat}{V:World}{b:Nat}{vs:Array Value} (h:NxRows H s aj an al cj cn cl js ns ls bj bn bl dj dn dl V) (ho:ObjAt b vs 26 V) (x0 x1 x2 x3:Value):NxRows H s aj an al cj cn cl js ns ls bj bn bl dj dn dl ((((V.setCell ⟨b,0,none⟩ x0).setCell ⟨b,1,none⟩ x1).setCell ⟨b,2,none⟩ x2).setCell ⟨b,3,none⟩ x3) :=
 ⟨h.1.imp id (fun h=>own_put4 h ho (by decide) x0 x1 x2 x3),h.2.1.imp id (fun h=>own_put4 h ho (by decide) x0 x1 x2 x3),h.2.2.imp id (fun h=>own_put4 h ho (by decide) x0 x1 x2 x3)⟩
theorem nxRows_at {H:Nat}{s:StD}{aj an al:Option Addr}{cj cn cl:Nat}{js:List JobD}{ns:List NodeD}{ls:List LeaseD}{bj bn bl:Option Addr}{dj dn dl:Nat}{V:World} (h:NxRows H s aj an al cj cn cl js ns ls bj bn bl dj dn dl V) (hm:JobsAt V aj s.jobs∧NodesAt V an s.nodes∧LeasesAt V al s.leases):JobsAt V bj js∧NodesAt V bn ns∧LeasesAt V bl ls:=by
 obtain⟨h1,h2,h3⟩:=h
 refine⟨?_,?_,?_⟩
 ·rcases h1 with ⟨rfl,rfl,rfl⟩ | h
  ·exact hm.1
  ·exact ownJobs h rfl
 ·rcases h2 with ⟨rfl,rfl,rfl⟩ | h
  ·exact hm.2.1
  ·exact ownNodes h rfl
 ·rcases h3 with ⟨rfl,rfl,rfl⟩ | h
  ·exact hm.2.2
  ·exact ownLeases h rfl
theorem nxR_all {H N K:Nat}{s:StD}{aj an al:Option Addr}{cj cn cl:Nat}{js:List JobD}{ns:List NodeD}{ls:List LeaseD}{bj bn bl:Option Addr}{dj dn dl:Nat}{n':Int}{w V:World}{us:Array Value} (oN:ObjAt N #[.int .i64 s.rev,.slice bj js.length dj,.slice bn ns.length dn,.slice bl ls.length dl] 26 V) (oK:ObjAt K #[.int .i64 n'] 3 V) (hu:us.size=4) (oU:ObjAt (H+1+1) us 26 V) (hb:Below H w V) (hs:H≤V.heap.size) (hr:NxRows H s aj an al cj cn cl js ns ls bj bn bl dj dn dl V):((V.cell? ⟨N,0,none⟩=some (.int .i64 s.rev)∧V.cell? ⟨N,1,none⟩=some (.slice bj js.length dj)∧V.cell? ⟨N,2,none⟩=some (.slice bn ns.length dn)∧V.cell? ⟨N,3,none⟩=some (.slice bl ls.length dl)∧V.cell? ⟨K,0,none⟩=some (.int .i64 n'))∧(V.frozen? ⟨H+1+1,0,none⟩=false∧V.frozen? ⟨H+1+1,1,none⟩=false∧V.frozen? ⟨H+1+1,2,none⟩=false∧V.frozen? ⟨H+1+1,3,none⟩=false)∧ObjAt N #[.int .i64 s.rev,.slice bj js.length dj,.slice bn ns.length dn,.slice bl ls.length dl] 26 V∧ObjAt K #[.int .i64 n'] 3 V∧(∃us:Array Value,us.size=4∧ObjAt (H+1+1) us 26 V)∧Below H w V∧H≤V.heap.size∧NxRows H s aj an al cj cn cl js ns ls bj bn bl dj dn dl V) :=
 ⟨⟨objAt_cell oN 0 rfl,objAt_cell oN 1 rfl,objAt_cell oN 2 rfl,objAt_cell oN 3 rfl,objAt_cell oK 0 rfl⟩,⟨objAt_free oU 0,objAt_free oU 1,objAt_free oU 2,objAt_free oU 3⟩,oN,oK,⟨us,hu,oU⟩,hb,hs,hr⟩
theorem nxR_call {H N K:Nat}{s:StD}{aj an al:Option Addr}{cj cn cl:Nat}{js:List JobD}{ns:List NodeD}{ls:List LeaseD}{bj bn bl:Option Addr}{dj dn dl:Nat}{n':Int}{w V:World}{V':World} (b:Below V.heap.size V V') (h:((V.cell? ⟨N,0,none⟩=some (.int .i64 s.rev)∧V.cell? ⟨N,1,none⟩=some (.slice bj js.length dj)∧V.cell? ⟨N,2,none⟩=some (.slice bn ns.length dn)∧V.cell? ⟨N,3,none⟩=some (.slice bl ls.length dl)∧V.cell? ⟨K,0,none⟩=some (.int .i64 n'))∧(V.frozen? ⟨H+1+1,0,none⟩=false∧V.frozen? ⟨H+1+1,1,none⟩=false∧V.frozen? ⟨H+1+1,2,none⟩=false∧V.frozen? ⟨H+1+1,3,none⟩=false)∧ObjAt N #[.int .i64 s.rev,.slice bj js.length dj,.slice bn ns.length dn,.slice bl ls.length dl] 26 V∧ObjAt K #[.int .i64 n'] 3 V∧(∃us:Array Value,us.size=4∧ObjAt (H+1+1) us 26 V)∧Below H w V∧H≤V.heap.size∧NxRows H s aj an al cj cn cl js ns ls bj bn bl dj dn dl V)):((V'.cell? ⟨N,0,none⟩=some (.int .i64 s.rev)∧V'.cell? ⟨N,1,none⟩=some (.slice bj js.length dj)∧V'.cell? ⟨N,2,none⟩=some (.slice bn ns.length dn)∧V'.cell? ⟨N,3,none⟩=some (.slice bl ls.length dl)∧V'.cell? ⟨K,0,none⟩=some (.int .i64 n'))∧(V'.frozen? ⟨H+1+1,0,none⟩=false∧V'.frozen? ⟨H+1+1,1,none⟩=false∧V'.frozen? ⟨H+1+1,2,none⟩=false∧V'.frozen? ⟨H+1+1,3,none⟩=false)∧ObjAt N #[.int .i64 s.rev,.slice bj js.length dj,.slice bn ns.length dn,.slice bl ls.length dl] 26 V'∧ObjAt K #[.int .i64 n'] 3 V'∧(∃us:Array Value,us.size=4∧ObjAt (H+1+1) us 26 V')∧Below H w V'∧H≤V'.heap.size∧NxRows H s aj an al cj cn cl js ns ls bj bn bl dj dn dl V'):=by
 obtain⟨_,_,h1,h2,⟨us,hu,h3⟩,h4,h5,h6⟩:=h
 exact nxR_all (objAt_next h1 b) (objAt_next h2 b) hu (objAt_next h3 b) (below_trans h4 b h5) (Nat.le_trans h5 b.size) (nxRows_next h6 b)
theorem nxR_put {H N K:Nat}{s:StD}{aj an al:Option Addr}{cj cn cl:Nat}{js:List JobD}{ns:List NodeD}{ls:List LeaseD}{bj bn bl:Option Addr}{dj dn dl:Nat}{n':Int}{w V:World} (v0 v1 v2 v3:Value) (hN:H+3≤N∧H+3≤K∧N≠K) (h:((V.cell? ⟨N,0,none⟩=some (.int .i64 s.rev)∧V.cell? ⟨N,1,none⟩=some (.slice bj js.length dj)∧V.cell? ⟨N,2,none⟩=some (.slice bn ns.length dn)∧V.cell? ⟨N,3,none⟩=some (.slice bl ls.length dl)∧V.cell? ⟨K,0,none⟩=some (.int .i64 n'))∧(V.frozen? ⟨H+1+1,0,none⟩=false∧V.frozen? ⟨H+1+1,1,none⟩=false∧V.frozen? ⟨H+1+1,2,none⟩=false∧V.frozen? ⟨H+1+1,3,none⟩=false)∧ObjAt N #[.int .i64 s.rev,.slice bj js.length dj,.slice bn ns.length dn,.slice bl ls.length dl] 26 V∧ObjAt K #[.int .i64 n'] 3 V∧(∃us:Array Value,us.size=4∧ObjAt (H+1+1) us 26 V)∧Below H w V∧H≤V.heap.size∧NxRows H s aj an al cj cn cl js ns ls bj bn bl dj dn dl V)):((((((V.setCell ⟨H+1+1,0,none⟩ v0).setCell ⟨H+1+1,1,none⟩ v1).setCell ⟨H+1+1,2,none⟩ v2).setCell ⟨H+1+1,3,none⟩ v3).cell? ⟨N,0,none⟩=some (.int .i64 s.rev)∧((((V.setCell ⟨H+1+1,0,none⟩ v0).setCell ⟨H+1+1,1,none⟩ v1).setCell ⟨H+1+1,2,none⟩ v2).setCell ⟨H+1+1,3,none⟩ v3).cell? ⟨N,1,none⟩=some (.slice bj js.length dj)∧((((V.setCell ⟨H+1+1,0,none⟩ v0).setCell ⟨H+1+1,1,none⟩ v1).setCell ⟨H+1+1,2,none⟩ v2).setCell ⟨H+1+1,3,none⟩ v3).cell? ⟨N,2,none⟩=some (.slice bn ns.length dn)∧((((V.setCell ⟨H+1+1,0,none⟩ v0).setCell ⟨H+1+1,1,none⟩ v1).setCell ⟨H+1+1,2,none⟩ v2).setCell ⟨H+1+1,3,none⟩ v3).cell? ⟨N,3,none⟩=some (.slice bl ls.length dl)∧((((V.setCell ⟨H+1+1,0,none⟩ v0).setCell ⟨H+1+1,1,none⟩ v1).setCell ⟨H+1+1,2,none⟩ v2).setCell ⟨H+1+1,3,none⟩ v3).cell? ⟨K,0,none⟩=some (.int .i64 n'))∧(((((V.setCell ⟨H+1+1,0,none⟩ v0).setCell ⟨H+1+1,1,none⟩ v1).setCell ⟨H+1+1,2,none⟩ v2).setCell ⟨H+1+1,3,none⟩ v3).frozen? ⟨H+1+1,0,none⟩=false∧((((V.setCell ⟨H+1+1,0,none⟩ v0).setCell ⟨H+1+1,1,none⟩ v1).setCell ⟨H+1+1,2,none⟩ v2).setCell ⟨H+1+1,3,none⟩ v3).frozen? ⟨H+1+1,1,none⟩=false∧((((V.setCell ⟨H+1+1,0,none⟩ v0).setCell ⟨H+1+1,1,none⟩ v1).setCell ⟨H+1+1,2,none⟩ v2).setCell ⟨H+1+1,3,none⟩ v3).frozen? ⟨H+1+1,2,none⟩=false∧((((V.setCell ⟨H+1+1,0,none⟩ v0).setCell ⟨H+1+1,1,none⟩ v1).setCell ⟨H+1+1,2,none⟩ v2).setCell ⟨H+1+1,3,none⟩ v3).frozen? ⟨H+1+1,3,none⟩=false)∧ObjAt N #[.int .i64 s.rev,.slice bj js.length dj,.slice bn ns.length dn,.slice bl ls.length dl] 26 ((((V.setCell ⟨H+1+1,0,none⟩ v0).setCell ⟨H+1+1,1,none⟩ v1).setCell ⟨H+1+1,2,none⟩ v2).setCell ⟨H+1+1,3,none⟩ v3)∧ObjAt K #[.int .i64 n'] 3 ((((V.setCell ⟨H+1+1,0,none⟩ v0).setCell ⟨H+1+1,1,none⟩ v1).setCell ⟨H+1+1,2,none⟩ v2).setCell ⟨H+1+1,3,none⟩ v3)∧(∃us:Array Value,us.size=4∧ObjAt (H+1+1) us 26 ((((V.setCell ⟨H+1+1,0,none⟩ v0).setCell ⟨H+1+1,1,none⟩ v1).setCell ⟨H+1+1,2,none⟩ v2).setCell ⟨H+1+1,3,none⟩ v3))∧Below H w ((((V.setCell ⟨H+1+1,0,none⟩ v0).setCell ⟨H+1+1,1,none⟩ v1).setCell ⟨H+1+1,2,none⟩ v2).setCell ⟨H+1+1,3,none⟩ v3)∧H≤((((V.setCell ⟨H+1+1,0,none⟩ v0).setCell ⟨H+1+1,1,none⟩ v1).setCell ⟨H+1+1,2,none⟩ v2).setCell ⟨H+1+1,3,none⟩ v3).heap.size∧NxRows H s aj an al cj cn cl js ns ls bj bn bl dj dn dl ((((V.setCell ⟨H+1+1,0,none⟩ v0).setCell ⟨H+1+1,1,none⟩ v1).setCell ⟨H+1+1,2,none⟩ v2).setCell ⟨H+1+1,3,none⟩ v3)):=by
 obtain⟨_,_,h1,h2,⟨us,hu,h3⟩,h4,h5,h6⟩:=h
 have hK:ObjAt K #[.int .i64 n'] 3 ((((V.setCell ⟨H+1+1,0,none⟩ v0).setCell ⟨H+1+1,1,none⟩ v1).setCell ⟨H+1+1,2,none⟩ v2).setCell ⟨H+1+1,3,none⟩ v3):=objAt_other (objAt_other (objAt_other (objAt_other h2 (by omega) _ _) (by omega) _ _) (by omega) _ _) (by omega) _ _
 exact nxR_all (other_put4 h1 (by omega) v0 v1 v2 v3) hK (us:=((((us.setIfInBounds 0 v0).setIfInBounds 1 v1).setIfInBounds 2 v2).setIfInBounds 3 v3)) (by simpa using hu) (objAt_set (objAt_set (objAt_set (objAt_set h3 0 v0) 1 v1) 2 v2) 3 v3) (below_put4 h4 (by omega) v0 v1 v2 v3) (by rw[size_put4];exact h5) (nxRows_put h6 h3 v0 v1 v2 v3)
theorem nxR_putd {H N K:Nat}{s:StD}{aj an al:Option Addr}{cj cn cl:Nat}{js:List JobD}{ns:List NodeD}{ls:List LeaseD}{bj bn bl:Option Addr}{dj dn dl:Nat}{n':Int}{w V:World} (v0 v1 v2 v3:Value) (hN:H+3≤N∧H+3≤K∧N≠K) (h:((V.cell? ⟨N,0,none⟩=some (.int .i64 s.rev)∧V.cell? ⟨N,1,none⟩=some (.slice bj js.length dj)∧V.cell? ⟨N,2,none⟩=some (.slice bn ns.length dn)∧V.cell? ⟨N,3,none⟩=some (.slice bl ls.length dl)∧V.cell? ⟨K,0,none⟩=some (.int .i64 n'))∧(V.frozen? ⟨H+1+1,0,none⟩=false∧V.frozen? ⟨H+1+1,1,none⟩=false∧V.frozen? ⟨H+1+1,2,none⟩=false∧V.frozen? ⟨H+1+1,3,none⟩=false)∧ObjAt N #[.int .i64 s.rev,.slice bj js.length dj,.slice bn ns.length dn,.slice bl ls.length dl] 26 V∧ObjAt K #[.int .i64 n'] 3 V∧(∃us:Array Value,us.size=4∧ObjAt (H+1+1) us 26 V)∧Below H w V∧H≤V.heap.size∧NxRows H s aj an al cj cn cl js ns ls bj bn bl dj dn dl V)):(((((((V.setCell ⟨H+1+1,0,none⟩ v0).setCell ⟨H+1+1,1,none⟩ v1).setCell ⟨H+1+1,2,none⟩ v2).setCell ⟨H+1+1,3,none⟩ v3).drew).cell? ⟨N,0,none⟩=some (.int .i64 s.rev)∧(((((V.setCell ⟨H+1+1,0,none⟩ v0).setCell ⟨H+1+1,1,none⟩ v1).setCell ⟨H+1+1,2,none⟩ v2).setCell ⟨H+1+1,3,none⟩ v3).drew).cell? ⟨N,1,none⟩=some (.slice bj js.length dj)∧(((((V.setCell ⟨H+1+1,0,none⟩ v0).setCell ⟨H+1+1,1,none⟩ v1).setCell ⟨H+1+1,2,none⟩ v2).setCell ⟨H+1+1,3,none⟩ v3).drew).cell? ⟨N,2,none⟩=some (.slice bn ns.length dn)∧(((((V.setCell ⟨H+1+1,0,none⟩ v0).setCell ⟨H+1+1,1,none⟩ v1).setCell ⟨H+1+1,2,none⟩ v2).setCell ⟨H+1+1,3,none⟩ v3).drew).cell? ⟨N,3,none⟩=some (.slice bl ls.length dl)∧(((((V.setCell ⟨H+1+1,0,none⟩ v0).setCell ⟨H+1+1,1,none⟩ v1).setCell ⟨H+1+1,2,none⟩ v2).setCell ⟨H+1+1,3,none⟩ v3).drew).cell? ⟨K,0,none⟩=some (.int .i64 n'))∧((((((V.setCell ⟨H+1+1,0,none⟩ v0).setCell ⟨H+1+1,1,none⟩ v1).setCell ⟨H+1+1,2,none⟩ v2).setCell ⟨H+1+1,3,none⟩ v3).drew).frozen? ⟨H+1+1,0,none⟩=false∧(((((V.setCell ⟨H+1+1,0,none⟩ v0).setCell ⟨H+1+1,1,none⟩ v1).setCell ⟨H+1+1,2,none⟩ v2).setCell ⟨H+1+1,3,none⟩ v3).drew).frozen? ⟨H+1+1,1,none⟩=false∧(((((V.setCell ⟨H+1+1,0,none⟩ v0).setCell ⟨H+1+1,1,none⟩ v1).setCell ⟨H+1+1,2,none⟩ v2).setCell ⟨H+1+1,3,none⟩ v3).drew).frozen? ⟨H+1+1,2,none⟩=false∧(((((V.setCell ⟨H+1+1,0,none⟩ v0).setCell ⟨H+1+1,1,none⟩ v1).setCell ⟨H+1+1,2,none⟩ v2).setCell ⟨H+1+1,3,none⟩ v3).drew).frozen? ⟨H+1+1,3,none⟩=false)∧ObjAt N #[.int .i64 s.rev,.slice bj js.length dj,.slice bn ns.length dn,.slice bl ls.length dl] 26 (((((V.setCell ⟨H+1+1,0,none⟩ v0).setCell ⟨H+1+1,1,none⟩ v1).setCell ⟨H+1+1,2,none⟩ v2).setCell ⟨H+1+1,3,none⟩ v3).drew)∧ObjAt K #[.int .i64 n'] 3 (((((V.setCell ⟨H+1+1,0,none⟩ v0).setCell ⟨H+1+1,1,none⟩ v1).setCell ⟨H+1+1,2,none⟩ v2).setCell ⟨H+1+1,3,none⟩ v3).drew)∧(∃us:Array Value,us.size=4∧ObjAt (H+1+1) us 26 (((((V.setCell ⟨H+1+1,0,none⟩ v0).setCell ⟨H+1+1,1,none⟩ v1).setCell ⟨H+1+1,2,none⟩ v2).setCell ⟨H+1+1,3,none⟩ v3).drew))∧Below H w (((((V.setCell ⟨H+1+1,0,none⟩ v0).setCell ⟨H+1+1,1,none⟩ v1).setCell ⟨H+1+1,2,none⟩ v2).setCell ⟨H+1+1,3,none⟩ v3).drew)∧H≤(((((V.setCell ⟨H+1+1,0,none⟩ v0).setCell ⟨H+1+1,1,none⟩ v1).setCell ⟨H+1+1,2,none⟩ v2).setCell ⟨H+1+1,3,none⟩ v3).drew).heap.size∧NxRows H s aj an al cj cn cl js ns ls bj bn bl dj dn dl (((((V.setCell ⟨H+1+1,0,none⟩ v0).setCell ⟨H+1+1,1,none⟩ v1).setCell ⟨H+1+1,2,none⟩ v2).setCell ⟨H+1+1,3,none⟩ v3).drew)) :=
 nxR_call (V':=((((V.setCell ⟨H+1+1,0,none⟩ v0).setCell ⟨H+1+1,1,none⟩ v1).setCell ⟨H+1+1,2,none⟩ v2).setCell ⟨H+1+1,3,none⟩ v3).drew) (Below.refl _ _).drew (nxR_put v0 v1 v2 v3 hN h)
theorem nxNoJob {l:List JobD}{x:ByteArray} (h:hasJob l x=false):∀y∈l,y.name≠x:=fun y hy e=>by rw[(hasJob_iff _ _).2 ⟨y,hy,e⟩] at h;cases h
theorem nxNoNode {l:List NodeD}{x:ByteArray} (h:hasNode l x=false):∀y∈l,y.name≠x:=fun y hy e=>by rw[(hasNode_iff _ _).2 ⟨y,hy,e⟩] at h;cases h
theorem nxNoLease {l:List LeaseD}{x:ByteArray} (h:hasLease l x=false):∀y∈l,y.job≠x:=fun y hy e=>by rw[(hasLease_iff _ _).2 ⟨y,hy,e⟩] at h;cases h
theorem nxAtNo {α:Type}{key:α→ByteArray}{l:List α}{x:ByteArray}{r:Int} (h:At key l x r) (hm:∀y∈l,key y≠x):r<0:=by
 rcases at_or h with h | ⟨_,y,hy,e⟩
 ·exact h.1
 ·exact absurd e (hm y hy)
theorem nxAtYes {α:Type}{key:α→ByteArray}{l:List α}{x:ByteArray}{r:Int} (h:At key l x r) (hm:∃y∈l,key y=x):∃i,∃hi:i<l.length,r=(i:Int)∧key l[i]=x:=by
 rcases h with ⟨_,h⟩ | ⟨k,hk,e,hx,_⟩
 ·obtain⟨y,hy,e⟩:=hm
  obtain⟨i,hi,rfl⟩:=List.getElem_of_mem hy
  exact absurd e (h i hi)
 ·exact⟨k,hk,e,hx⟩
theorem nx_make1 {H:Nat}{SC QC TC:Array Value}{n':Int}{w W0:World} (h0:ObjAt H SC 36 W0) (h1:ObjAt (H+1) QC 44 W0) (h2:ObjAt (H+1+1) #[.int .i64 0,.slice none 0 0,.slice none 0 0,.slice none 0 0] 26 W0) (bw:Below H w W0) (hz:W0.heap.size=H+3):NxAt H W0.heap.size (W0.heap.size+1) SC QC TC n' w ((W0.alloc (.cells TC 26)).alloc (.cells #[.int .i64 n'] 3)).drew:=by
 have b1:=below_one W0 (.cells TC 26)
 have b2:=below_one (W0.alloc (.cells TC 26)) (.cells #[.int .i64 n'] 3)
 have b3:=below_trans b1 b2 (by simp only[World.size_alloc];omega)
 exact⟨objAt_drew (objAt_next h0 b3),objAt_drew (objAt_next h1 b3),objAt_drew (objAt_next h2 b3),objAt_drew (objAt_next (objAt_new W0 TC 26) b2),objAt_drew (by have h:=objAt_new (W0.alloc (.cells TC 26)) #[.int .i64 n'] 3;simp only[World.size_alloc] at h;exact h),(below_trans bw b3 (by omega)).drew,by omega,by omega,by omega⟩
theorem nx_make2 {H:Nat}{SC QC TC:Array Value}{n':Int}{w W0:World} (h0:ObjAt H SC 36 W0) (h1:ObjAt (H+1) QC 44 W0) (h2:ObjAt (H+1+1) #[.int .i64 0,.slice none 0 0,.slice none 0 0,.slice none 0 0] 26 W0) (bw:Below H w W0) (hz:W0.heap.size=H+3):NxAt H (W0.heap.size+1) W0.heap.size SC QC TC n' w ((W0.alloc (.cells #[.int .i64 n'] 3)).alloc (.cells TC 26)).drew:=by
 have b1:=below_one W0 (.cells #[.int .i64 n'] 3)
 have b2:=below_one (W0.alloc (.cells #[.int .i64 n'] 3)) (.cells TC 26)
 have b3:=below_trans b1 b2 (by simp only[World.size_alloc];omega)
 exact⟨objAt_drew (objAt_next h0 b3),objAt_drew (objAt_next h1 b3),objAt_drew (objAt_next h2 b3),objAt_drew (by have h:=objAt_new (W0.alloc (.cells #[.int .i64 n'] 3)) TC 26;simp only[World.size_alloc] at h;exact h),objAt_drew (objAt_next (objAt_new W0 #[.int .i64 n'] 3) b2),(below_trans bw b3 (by omega)).drew,by omega,by omega,by omega⟩
def NxPost (v:SvD) (aj an al:Option Addr) (cj cn cl:Nat) (q:ReqD) (H:Nat) (w:World) (e:Ending) (w':World):Prop:=∃(js:List JobD) (ns:List NodeD) (ls:List LeaseD) (n':Int) (bj bn bl:Option Addr) (dj dn dl:Nat),e = .returned (.tuple #[.agg #[.int .i64 v.s.rev,.slice bj js.length dj,.slice bn ns.length dn,.slice bl ls.length dl],.int .i64 n',.int .i64 ((runR V8 v.s v.now q).2:Nat)])∧((runR V8 v.s v.now q).2=0→(runR V8 v.s v.now q).1=⟨⟨v.s.rev,js,ns,ls⟩,n'⟩∧NxRows H v.s aj an al cj cn cl js ns ls bj bn bl dj dn dl w')∧Below H w w'
set_option maxRecDepth 100000 in
set_option maxHeartbeats 16000000 in
theorem rnext_is (v:SvD) (hv:checkE V8 v.s=0) (hnow:0≤v.now∧v.now≤1099511627776) (q:ReqD) (aj an al:Option Addr) (cj cn cl:Nat) (w:World) (hm:JobsAt w aj v.s.jobs∧NodesAt w an v.s.nodes∧LeasesAt w al v.s.leases) :
  Calls Tryz.prog 24 #[.agg #[.int .i64 v.s.rev,.slice aj v.s.jobs.length cj,.slice an v.s.nodes.length cn,.slice al v.s.leases.length cl,.int .i64 v.now],.agg #[.int .i64 q.kind,.string q.job.name,.int .i64 q.job.prio,.int .i64 q.job.need,.int .i64 q.job.tries,.string q.job.tag,.string q.node.name,.int .i64 q.node.room,.string q.node.zone,.string q.lease.job,.string q.lease.node,.int .i64 q.lease.til,.string q.name,.int .i64 q.n]] w (NxPost v aj an al cj cn cl q w.heap.size w):=by
 obtain⟨H,hH⟩:∃H,w.heap.size=H:=⟨_,rfl⟩
 have bb0:=below_one w (.cells #[.int .i64 v.s.rev,.slice aj v.s.jobs.length cj,.slice an v.s.nodes.length cn,.slice al v.s.leases.length cl,.int .i64 v.now] 36)
 have o0:=objAt_new w #[.int .i64 v.s.rev,.slice aj v.s.jobs.length cj,.slice an v.s.nodes.length cn,.slice al v.s.leases.length cl,.int .i64 v.now] 36
 have bb1:=below_one (w.alloc (.cells #[.int .i64 v.s.rev,.slice aj v.s.jobs.length cj,.slice an v.s.nodes.length cn,.slice al v.s.leases.length cl,.int .i64 v.now] 36)) (.cells #[.int .i64 q.kind,.string q.job.name,.int .i64 q.job.prio,.int .i64 q.job.need,.int .i64 q.job.tries,.string q.job.tag,.string q.node.name,.int .i64 q.node.room,.string q.node.zone,.string q.lease.job,.string q.lease.node,.int .i64 q.lease.til,.string q.name,.int .i64 q.n] 44)
 have o0:=objAt_next o0 bb1
 have o1:=objAt_new (w.alloc (.cells #[.int .i64 v.s.rev,.slice aj v.s.jobs.length cj,.slice an v.s.nodes.length cn,.slice al v.s.leases.length cl,.int .i64 v.now] 36)) #[.int .i64 q.kind,.string q.job.name,.int .i64 q.job.prio,.int .i64 q.job.need,.int .i64 q.job.tries,.string q.job.tag,.string q.node.name,.int .i64 q.node.room,.string q.node.zone,.string q.lease.job,.string q.lease.node,.int .i64 q.lease.til,.string q.name,.int .i64 q.n] 44
 have bb2:=below_one ((w.alloc (.cells #[.int .i64 v.s.rev,.slice aj v.s.jobs.length cj,.slice an v.s.nodes.length cn,.slice al v.s.leases.length cl,.int .i64 v.now] 36)).alloc (.cells #[.int .i64 q.kind,.string q.job.name,.int .i64 q.job.prio,.int .i64 q.job.need,.int .i64 q.job.tries,.string q.job.tag,.string q.node.name,.int .i64 q.node.room,.string q.node.zone,.string q.lease.job,.string q.lease.node,.int .i64 q.lease.til,.string q.name,.int .i64 q.n] 44)) (.cells #[.int .i64 0,.slice none 0 0,.slice none 0 0,.slice none 0 0] 26)
 have o0:=objAt_next o0 bb2
 have o1:=objAt_next o1 bb2
 have o2:=objAt_new ((w.alloc (.cells #[.int .i64 v.s.rev,.slice aj v.s.jobs.length cj,.slice an v.s.nodes.length cn,.slice al v.s.leases.length cl,.int .i64 v.now] 36)).alloc (.cells #[.int .i64 q.kind,.string q.job.name,.int .i64 q.job.prio,.int .i64 q.job.need,.int .i64 q.job.tries,.string q.job.tag,.string q.node.name,.int .i64 q.node.room,.string q.node.zone,.string q.lease.job,.string q.lease.node,.int .i64 q.lease.til,.string q.name,.int .i64 q.n] 44)) #[.int .i64 0,.slice none 0 0,.slice none 0 0,.slice none 0 0] 26
 have BB:=below_trans (below_trans bb0 bb1 (by simp only[World.size_alloc];omega)) bb2 (by simp only[World.size_alloc];omega)
 simp only[World.size_alloc] at o1 o2
 obtain⟨W0,hW0⟩:∃W0,((w.alloc (.cells #[.int .i64 v.s.rev,.slice aj v.s.jobs.length cj,.slice an v.s.nodes.length cn,.slice al v.s.leases.length cl,.int .i64 v.now] 36)).alloc (.cells #[.int .i64 q.kind,.string q.job.name,.int .i64 q.job.prio,.int .i64 q.job.need,.int .i64 q.job.tries,.string q.job.tag,.string q.node.name,.int .i64 q.node.room,.string q.node.zone,.string q.lease.job,.string q.lease.node,.int .i64 q.lease.til,.string q.name,.int .i64 q.n] 44)).alloc (.cells #[.int .i64 0,.slice none 0 0,.slice none 0 0,.slice none 0 0] 26)=W0:=⟨_,rfl⟩
 have hz:W0.heap.size=H+3:=by rw[←hW0,←hH];simp
 rw[hW0] at o0 o1 o2 BB
 rw[hH] at o0 o1 o2 BB
 have HMS:=Lib.hid (fun(V:World) (b:Below H w V)=>(show JobsAt V aj v.s.jobs∧NodesAt V an v.s.nodes∧LeasesAt V al v.s.leases from⟨jobsAt_next hm.1 (by rw[hH];exact b),nodesAt_next hm.2.1 (by rw[hH];exact b),leasesAt_next hm.2.2 (by rw[hH];exact b)⟩))
 have HV:=Lib.hid ((check_zero V8 _).1 hv)
 have HNW:=Lib.hid hnow
 have HW:=Lib.hid hW0
 have y0:=objAt_cell o0 0 rfl
 have y1:=objAt_cell o0 1 rfl
 have y2:=objAt_cell o0 2 rfl
 have y3:=objAt_cell o0 3 rfl
 have y4:=objAt_cell o0 4 rfl
 have yl:=objAt_lt o0
 have P0:=Lib.hid (And.intro o0 (And.intro o1 (And.intro o2 (And.intro BB hz))))
 rw[hH]
 have HHH:=Lib.hid hH
 clear hm hv hnow o0 o1 o2 BB hz bb0 bb1 bb2 hW0
 go_enter Tryz.func24,Tryz.ntmps24
 go_upto_region 1 with fail
 rw[HW.out]
 go_cut [7,8] from 13 to 16 (fun p k wc=>∃N K,p = .pointer (some ⟨N,0,none⟩)∧k = .pointer (some ⟨K,0,none⟩)∧NxAt H N K #[.int .i64 v.s.rev,.slice aj v.s.jobs.length cj,.slice an v.s.nodes.length cn,.slice al v.s.leases.length cl,.int .i64 v.now] #[.int .i64 q.kind,.string q.job.name,.int .i64 q.job.prio,.int .i64 q.job.need,.int .i64 q.job.tries,.string q.job.tag,.string q.node.name,.int .i64 q.node.room,.string q.node.zone,.string q.lease.job,.string q.lease.node,.int .i64 q.lease.til,.string q.name,.int .i64 q.n] #[.int .i64 v.s.rev,.slice aj v.s.jobs.length cj,.slice an v.s.nodes.length cn,.slice al v.s.leases.length cl] v.now w wc)
 case first =>
  go_region
  all_goals
   go_wp2_with fail
   go_meet
   case rel =>
    first
    | exact⟨_,_,rfl,rfl,nx_make1 P0.out.1 P0.out.2.1 P0.out.2.2.1 P0.out.2.2.2.1 P0.out.2.2.2.2⟩
    | exact⟨_,_,rfl,rfl,nx_make2 P0.out.1 P0.out.2.1 P0.out.2.2.1 P0.out.2.2.2.1 P0.out.2.2.2.2⟩
 case rest =>
  obtain⟨N,K,rfl,rfl,nx⟩:=hcut
  clear y0 y1 y2 y3 y4 yl P0 HW
  have NX:=Lib.hid nx
  have HNK:=Lib.hid nx.2.2.2.2.2.2
  clear nx
  have C:=rqcheck_any q wc
  obtain⟨qe,hqe⟩:∃e,qcheckE V8 q=e:=⟨_,rfl⟩
  rw[hqe] at C
  have HQE:=Lib.hid hqe
  have C:=Lib.hid C
  clear hqe
  have c0:=objAt_cell NX.out.2.1 0 rfl
  have c1:=objAt_cell NX.out.2.1 1 rfl
  have c2:=objAt_cell NX.out.2.1 2 rfl
  have c3:=objAt_cell NX.out.2.1 3 rfl
  have c4:=objAt_cell NX.out.2.1 4 rfl
  have c5:=objAt_cell NX.out.2.1 5 rfl
  have c6:=objAt_cell NX.out.2.1 6 rfl
  have c7:=objAt_cell NX.out.2.1 7 rfl
  have c8:=objAt_cell NX.out.2.1 8 rfl
  have c9:=objAt_cell NX.out.2.1 9 rfl
  have c10:=objAt_cell NX.out.2.1 10 rfl
  have c11:=objAt_cell NX.out.2.1 11 rfl
  have c12:=objAt_cell NX.out.2.1 12 rfl
  have c13:=objAt_cell NX.out.2.1 13 rfl
  have cl':=objAt_lt NX.out.2.1
  go_wp2_with fail
  refine C.out.mono ?_
  clear C cl' c0 c1 c2 c3 c4 c5 c6 c7 c8 c9 c10 c11 c12 c13
  rintro e x1 ⟨rfl,b1⟩
  have NX:=Lib.hid (nx_next NX.out b1)
  clear b1
  by_cases hq0:qe=0
  case neg =>
   have t1:((qe:Int)!=0)=true:=by simp;omega
   have HRC:Hid ((runR V8 v.s v.now q).2=qe):=by show _=_;rw[runR_bad (by rw[HQE.out];exact hq0),HQE.out]
   obtain⟨p0,p1,p2,p3,p4,p5,p6⟩:=NX.out
   have s1:=nxR_all (s:=v.s) (aj:=aj) (an:=an) (al:=al) (cj:=cj) (cn:=cn) (cl:=cl) (V:=x1) p3 p4 rfl p2 p5 (nx_size NX.out) ⟨Or.inl ⟨rfl,rfl,rfl⟩,Or.inl ⟨rfl,rfl,rfl⟩,Or.inl ⟨rfl,rfl,rfl⟩⟩
   have s0:=nxR_call (V':=x1.drew) (Below.refl _ _).drew s1
   have S1:=Lib.hid s1
   have z0:=Lib.hid (objAt_drew p2)
   have e0:=objAt_cell p2 0 rfl
   have e1:=objAt_cell p2 1 rfl
   have e2:=objAt_cell p2 2 rfl
   have e3:=objAt_cell p2 3 rfl
   have f0:=objAt_free p2 0
   have f1:=objAt_free p2 1
   have f2:=objAt_free p2 2
   have f3:=objAt_free p2 3
   have zz:=Lib.hid p2
   clear s1 p0 p1 p2 p3 p4 p5 p6
   go_wp2_with fail
   go_region_held3 (fun w'=>((w'.cell? ⟨N,0,none⟩=some (.int .i64 v.s.rev)∧w'.cell? ⟨N,1,none⟩=some (.slice aj v.s.jobs.length cj)∧w'.cell? ⟨N,2,none⟩=some (.slice an v.s.nodes.length cn)∧w'.cell? ⟨N,3,none⟩=some (.slice al v.s.leases.length cl)∧w'.cell? ⟨K,0,none⟩=some (.int .i64 v.now))∧(w'.frozen? ⟨H+1+1,0,none⟩=false∧w'.frozen? ⟨H+1+1,1,none⟩=false∧w'.frozen? ⟨H+1+1,2,none⟩=false∧w'.frozen? ⟨H+1+1,3,none⟩=false)∧ObjAt N #[.int .i64 v.s.rev,.slice aj v.s.jobs.length cj,.slice an v.s.nodes.length cn,.slice al v.s.leases.length cl] 26 w'∧ObjAt K #[.int .i64 v.now] 3 w'∧(∃us:Array Value,us.size=4∧ObjAt (H+1+1) us 26 w')∧Below H w w'∧H≤w'.heap.size∧NxRows H v.s aj an al cj cn cl v.s.jobs v.s.nodes v.s.leases aj an al cj cn cl w')) (first | with_reducible assumption | with_reducible exact s0 | with_reducible exact nxR_putd _ _ _ _ HNK.out S1.out) (fail)
   rename_i hS
   have hB:=hS.2.2.2.2.2.1
   have oF:=obj_put4 zz.out (.int .i64 v.s.rev) (.slice aj v.s.jobs.length cj) (.slice an v.s.nodes.length cn) (.slice al v.s.leases.length cl)
   obtain⟨xF,hxF⟩:∃X,(((x1.setCell ⟨H+1+1,0,none⟩ (.int .i64 v.s.rev)).setCell ⟨H+1+1,1,none⟩ (.slice aj v.s.jobs.length cj)).setCell ⟨H+1+1,2,none⟩ (.slice an v.s.nodes.length cn)).setCell ⟨H+1+1,3,none⟩ (.slice al v.s.leases.length cl)=X:=⟨_,rfl⟩
   rw[hxF] at oF hB
   have hB:=Lib.hid hB
   have r0:=objAt_cell oF 0 rfl
   have r1:=objAt_cell oF 1 rfl
   have r2:=objAt_cell oF 2 rfl
   have r3:=objAt_cell oF 3 rfl
   clear hS s0 oF z0 e0 e1 e2 e3 f0 f1 f2 f3
   go_wp2_with fail
   rw[hxF]
   exact bodyPost_ret (v:=.tuple #[.agg #[.int .i64 v.s.rev,.slice aj v.s.jobs.length cj,.slice an v.s.nodes.length cn,.slice al v.s.leases.length cl],.int .i64 v.now,.int .i64 ((qe:Nat):Int)]) (by simp[results,Tryz.results24,go_sem,r0,r1,r2,r3]) rfl ⟨v.s.jobs,v.s.nodes,v.s.leases,v.now,aj,an,al,cj,cn,cl,by rw[HRC.out],fun hz=>absurd (HRC.out.symm.trans hz) hq0,hB.out⟩
  obtain rfl:0=qe:=hq0.symm
  have t1:(((0:Nat):Int)!=0)=false:=by simp
  have k0:=objAt_cell NX.out.2.1 0 rfl
  have kl:=objAt_lt NX.out.2.1
  have hmf:∀(fn:Fn) (first cap:Array Value) (w:World),(Instr.makeFunc fn first cap).run Tryz.prog w = .ok (.func fn first cap) w:=fun _ _ _ _=>rfl
  by_cases h1:q.kind=1
  case pos =>
   have d1:(q.kind==1)=true:=by simpa using h1
   have HK:=Lib.hid h1
   clear h1
   obtain⟨l1,hl1⟩:∃l,putL (·.name) q.job v.s.jobs=l:=⟨_,rfl⟩
   have C:=putJob_is v.s.jobs aj cj (by have:=HV.out.2.1;omega) HV.out.2.2.1.2 q.job x1 (HMS.out x1 NX.out.2.2.2.2.2.1).1
   rw[hl1] at C
   have HL1:=Lib.hid hl1
   have C:=Lib.hid C
   clear hl1
   have y1:=objAt_cell NX.out.1 1 rfl
   have yl:=objAt_lt NX.out.1
   have c1:=objAt_cell NX.out.2.1 1 rfl
   have c2:=objAt_cell NX.out.2.1 2 rfl
   have c3:=objAt_cell NX.out.2.1 3 rfl
   have c4:=objAt_cell NX.out.2.1 4 rfl
   have c5:=objAt_cell NX.out.2.1 5 rfl
   go_wp2_with fail
   refine C.out.mono ?_
   clear C y1 yl c1 c2 c3 c4 c5
   rintro e x2 ⟨ad,cp,rfl,o,b⟩
   have OW:=Lib.hid (ownsRow_low (B':=H) o (nx_size NX.out))
   have NX:=Lib.hid (nx_next NX.out b)
   clear o b
   have m1:=objAt_cell NX.out.2.2.2.1 1 rfl
   have g1:=objAt_free NX.out.2.2.2.1 1
   have NZ:=nx_set NX.out 1 (.slice ad l1.length cp)
   have OW:=own_box OW.out NX.out.2.2.2.1 (by decide) 1 (.slice ad l1.length cp)
   obtain⟨x3,hx3⟩:∃X,x2.setCell ⟨N,1,none⟩ (.slice ad l1.length cp)=X:=⟨_,rfl⟩
   rw[hx3] at NZ OW
   have NX:Hid (NxAt H N K #[.int .i64 v.s.rev,.slice aj v.s.jobs.length cj,.slice an v.s.nodes.length cn,.slice al v.s.leases.length cl,.int .i64 v.now] #[.int .i64 q.kind,.string q.job.name,.int .i64 q.job.prio,.int .i64 q.job.need,.int .i64 q.job.tries,.string q.job.tag,.string q.node.name,.int .i64 q.node.room,.string q.node.zone,.string q.lease.job,.string q.lease.node,.int .i64 q.lease.til,.string q.name,.int .i64 q.n] #[.int .i64 v.s.rev,.slice ad l1.length cp,.slice an v.s.nodes.length cn,.slice al v.s.leases.length cl] v.now w x3):=NZ
   clear NZ
   have OW:=Lib.hid OW
   have hrr:runR V8 v.s v.now q=(⟨⟨v.s.rev,l1,v.s.nodes,v.s.leases⟩,v.now⟩,checkE V8 ⟨v.s.rev,l1,v.s.nodes,v.s.leases⟩):=by rw[runR_op HQE.out,opR_1 HK.out];unfold putJ;rw[HL1.out]
   have HCK:=fun(V:World) (h:((V.cell? ⟨N,0,none⟩=some (.int .i64 v.s.rev)∧V.cell? ⟨N,1,none⟩=some (.slice ad l1.length cp)∧V.cell? ⟨N,2,none⟩=some (.slice an v.s.nodes.length cn)∧V.cell? ⟨N,3,none⟩=some (.slice al v.s.leases.length cl)∧V.cell? ⟨K,0,none⟩=some (.int .i64 v.now))∧(V.frozen? ⟨H+1+1,0,none⟩=false∧V.frozen? ⟨H+1+1,1,none⟩=false∧V.frozen? ⟨H+1+1,2,none⟩=false∧V.frozen? ⟨H+1+1,3,none⟩=false)∧ObjAt N #[.int .i64 v.s.rev,.slice ad l1.length cp,.slice an v.s.nodes.length cn,.slice al v.s.leases.length cl] 26 V∧ObjAt K #[.int .i64 v.now] 3 V∧(∃us:Array Value,us.size=4∧ObjAt (H+1+1) us 26 V)∧Below H w V∧H≤V.heap.size∧NxRows H v.s aj an al cj cn cl l1 v.s.nodes v.s.leases ad an al cp cn cl V))=>rcheck_any v.s.rev ad an al cp cn cl l1 v.s.nodes v.s.leases V (nxRows_at h.2.2.2.2.2.2.2 (HMS.out V h.2.2.2.2.2.1)).1 (nxRows_at h.2.2.2.2.2.2.2 (HMS.out V h.2.2.2.2.2.1)).2.1 (nxRows_at h.2.2.2.2.2.2.2 (HMS.out V h.2.2.2.2.2.1)).2.2
   obtain⟨ce,hce⟩:∃c,checkE V8 ⟨v.s.rev,l1,v.s.nodes,v.s.leases⟩=c:=⟨_,rfl⟩
   rw[hce] at hrr
   simp only[hce] at HCK
   have HRC:=Lib.hid hrr
   have HCK:=Lib.hid HCK
   clear hrr hce
   obtain⟨p0,p1,p2,p3,p4,p5,p6⟩:=NX.out
   have s0:=nxR_all (s:=v.s) (aj:=aj) (an:=an) (al:=al) (cj:=cj) (cn:=cn) (cl:=cl) (V:=x3.drew) (objAt_drew p3) (objAt_drew p4) rfl (objAt_drew p2) p5.drew (show H≤x3.heap.size from nx_size NX.out) (nxRows_next ⟨Or.inr OW.out,Or.inl ⟨rfl,rfl,rfl⟩,Or.inl ⟨rfl,rfl,rfl⟩⟩ (Below.refl _ _).drew)
   have z0:=Lib.hid (objAt_drew p2)
   clear p0 p1 p2 p3 p4 p5 p6
   go_wp2_with fail
   go_region_held3 (fun w'=>((w'.cell? ⟨N,0,none⟩=some (.int .i64 v.s.rev)∧w'.cell? ⟨N,1,none⟩=some (.slice ad l1.length cp)∧w'.cell? ⟨N,2,none⟩=some (.slice an v.s.nodes.length cn)∧w'.cell? ⟨N,3,none⟩=some (.slice al v.s.leases.length cl)∧w'.cell? ⟨K,0,none⟩=some (.int .i64 v.now))∧(w'.frozen? ⟨H+1+1,0,none⟩=false∧w'.frozen? ⟨H+1+1,1,none⟩=false∧w'.frozen? ⟨H+1+1,2,none⟩=false∧w'.frozen? ⟨H+1+1,3,none⟩=false)∧ObjAt N #[.int .i64 v.s.rev,.slice ad l1.length cp,.slice an v.s.nodes.length cn,.slice al v.s.leases.length cl] 26 w'∧ObjAt K #[.int .i64 v.now] 3 w'∧(∃us:Array Value,us.size=4∧ObjAt (H+1+1) us 26 w')∧Below H w w'∧H≤w'.heap.size∧NxRows H v.s aj an al cj cn cl l1 v.s.nodes v.s.leases ad an al cp cn cl w')) (first | with_reducible assumption | with_reducible exact s0 | with_reducible exact nxR_put _ _ _ _ HNK.out (by with_reducible assumption))
    (first | (go_at_call 6;(with_reducible refine(HCK.out _ (by assumption)).mono ?_);rintro e xC ⟨rfl,b9⟩;have o9:=nxR_call b9 (by assumption);have z9:=Lib.hid (objAt_next z0.out b9);have e0:=objAt_cell z9.out 0 rfl;have e1:=objAt_cell z9.out 1 rfl;have e2:=objAt_cell z9.out 2 rfl;have e3:=objAt_cell z9.out 3 rfl))
   rename_i hS
   have hB:=And.intro hS.2.2.2.2.2.1 hS.2.2.2.2.2.2.2
   have oF:=obj_put4 z9.out (.int .i64 v.s.rev) (.slice ad l1.length cp) (.slice an v.s.nodes.length cn) (.slice al v.s.leases.length cl)
   obtain⟨xF,hxF⟩:∃X,(((xC.setCell ⟨H+1+1,0,none⟩ (.int .i64 v.s.rev)).setCell ⟨H+1+1,1,none⟩ (.slice ad l1.length cp)).setCell ⟨H+1+1,2,none⟩ (.slice an v.s.nodes.length cn)).setCell ⟨H+1+1,3,none⟩ (.slice al v.s.leases.length cl)=X:=⟨_,rfl⟩
   rw[hxF] at oF hB
   have hB:=Lib.hid hB
   have r0:=objAt_cell oF 0 rfl
   have r1:=objAt_cell oF 1 rfl
   have r2:=objAt_cell oF 2 rfl
   have r3:=objAt_cell oF 3 rfl
   clear hS s0 oF z0 o9 z9 e0 e1 e2 e3
   go_wp2_with fail
   rw[hxF]
   exact bodyPost_ret (v:=.tuple #[.agg #[.int .i64 v.s.rev,.slice ad l1.length cp,.slice an v.s.nodes.length cn,.slice al v.s.leases.length cl],.int .i64 v.now,.int .i64 (ce:Int)]) (by simp[results,Tryz.results24,go_sem,r0,r1,r2,r3]) rfl ⟨l1,v.s.nodes,v.s.leases,v.now,ad,an,al,cp,cn,cl,by rw[HRC.out],fun _=>⟨by rw[HRC.out],hB.out.2⟩,hB.out.1⟩
  have d1:(q.kind==1)=false:=by simpa using h1
  have HK1:=Lib.hid h1
  clear h1
  by_cases h2:q.kind=2
  case pos =>
   have d2:(q.kind==2)=true:=by simpa using h2
   have HK:=Lib.hid h2
   clear h2
   obtain⟨l1,hl1⟩:∃l,putL (·.name) q.node v.s.nodes=l:=⟨_,rfl⟩
   have C:=putNode_is v.s.nodes an cn (by have:=HV.out.2.1;omega) HV.out.2.2.2.1.2 q.node x1 (HMS.out x1 NX.out.2.2.2.2.2.1).2.1
   rw[hl1] at C
   have HL1:=Lib.hid hl1
   have C:=Lib.hid C
   clear hl1
   have y2:=objAt_cell NX.out.1 2 rfl
   have yl:=objAt_lt NX.out.1
   have c6:=objAt_cell NX.out.2.1 6 rfl
   have c7:=objAt_cell NX.out.2.1 7 rfl
   have c8:=objAt_cell NX.out.2.1 8 rfl
   go_wp2_with fail
   refine C.out.mono ?_
   clear C y2 yl c6 c7 c8
   rintro e x2 ⟨ad,cp,rfl,o,b⟩
   have OW:=Lib.hid (ownsRow_low (B':=H) o (nx_size NX.out))
   have NX:=Lib.hid (nx_next NX.out b)
   clear o b
   have m2:=objAt_cell NX.out.2.2.2.1 2 rfl
   have g2:=objAt_free NX.out.2.2.2.1 2
   have NZ:=nx_set NX.out 2 (.slice ad l1.length cp)
   have OW:=own_box OW.out NX.out.2.2.2.1 (by decide) 2 (.slice ad l1.length cp)
   obtain⟨x3,hx3⟩:∃X,x2.setCell ⟨N,2,none⟩ (.slice ad l1.length cp)=X:=⟨_,rfl⟩
   rw[hx3] at NZ OW
   have NX:Hid (NxAt H N K #[.int .i64 v.s.rev,.slice aj v.s.jobs.length cj,.slice an v.s.nodes.length cn,.slice al v.s.leases.length cl,.int .i64 v.now] #[.int .i64 q.kind,.string q.job.name,.int .i64 q.job.prio,.int .i64 q.job.need,.int .i64 q.job.tries,.string q.job.tag,.string q.node.name,.int .i64 q.node.room,.string q.node.zone,.string q.lease.job,.string q.lease.node,.int .i64 q.lease.til,.string q.name,.int .i64 q.n] #[.int .i64 v.s.rev,.slice aj v.s.jobs.length cj,.slice ad l1.length cp,.slice al v.s.leases.length cl] v.now w x3):=NZ
   clear NZ
   have OW:=Lib.hid OW
   have hrr:runR V8 v.s v.now q=(⟨⟨v.s.rev,v.s.jobs,l1,v.s.leases⟩,v.now⟩,checkE V8 ⟨v.s.rev,v.s.jobs,l1,v.s.leases⟩):=by rw[runR_op HQE.out,opR_2 HK.out];unfold putN;rw[HL1.out]
   have HCK:=fun(V:World) (h:((V.cell? ⟨N,0,none⟩=some (.int .i64 v.s.rev)∧V.cell? ⟨N,1,none⟩=some (.slice aj v.s.jobs.length cj)∧V.cell? ⟨N,2,none⟩=some (.slice ad l1.length cp)∧V.cell? ⟨N,3,none⟩=some (.slice al v.s.leases.length cl)∧V.cell? ⟨K,0,none⟩=some (.int .i64 v.now))∧(V.frozen? ⟨H+1+1,0,none⟩=false∧V.frozen? ⟨H+1+1,1,none⟩=false∧V.frozen? ⟨H+1+1,2,none⟩=false∧V.frozen? ⟨H+1+1,3,none⟩=false)∧ObjAt N #[.int .i64 v.s.rev,.slice aj v.s.jobs.length cj,.slice ad l1.length cp,.slice al v.s.leases.length cl] 26 V∧ObjAt K #[.int .i64 v.now] 3 V∧(∃us:Array Value,us.size=4∧ObjAt (H+1+1) us 26 V)∧Below H w V∧H≤V.heap.size∧NxRows H v.s aj an al cj cn cl v.s.jobs l1 v.s.leases aj ad al cj cp cl V))=>rcheck_any v.s.rev aj ad al cj cp cl v.s.jobs l1 v.s.leases V (nxRows_at h.2.2.2.2.2.2.2 (HMS.out V h.2.2.2.2.2.1)).1 (nxRows_at h.2.2.2.2.2.2.2 (HMS.out V h.2.2.2.2.2.1)).2.1 (nxRows_at h.2.2.2.2.2.2.2 (HMS.out V h.2.2.2.2.2.1)).2.2
   obtain⟨ce,hce⟩:∃c,checkE V8 ⟨v.s.rev,v.s.jobs,l1,v.s.leases⟩=c:=⟨_,rfl⟩
   rw[hce] at hrr
   simp only[hce] at HCK
   have HRC:=Lib.hid hrr
   have HCK:=Lib.hid HCK
   clear hrr hce
   obtain⟨p0,p1,p2,p3,p4,p5,p6⟩:=NX.out
   have s0:=nxR_all (s:=v.s) (aj:=aj) (an:=an) (al:=al) (cj:=cj) (cn:=cn) (cl:=cl) (V:=x3.drew) (objAt_drew p3) (objAt_drew p4) rfl (objAt_drew p2) p5.drew (show H≤x3.heap.size from nx_size NX.out) (nxRows_next ⟨Or.inl ⟨rfl,rfl,rfl⟩,Or.inr OW.out,Or.inl ⟨rfl,rfl,rfl⟩⟩ (Below.refl _ _).drew)
   have z0:=Lib.hid (objAt_drew p2)
   clear p0 p1 p2 p3 p4 p5 p6
   go_wp2_with fail
   go_region_held3 (fun w'=>((w'.cell? ⟨N,0,none⟩=some (.int .i64 v.s.rev)∧w'.cell? ⟨N,1,none⟩=some (.slice aj v.s.jobs.length cj)∧w'.cell? ⟨N,2,none⟩=some (.slice ad l1.length cp)∧w'.cell? ⟨N,3,none⟩=some (.slice al v.s.leases.length cl)∧w'.cell? ⟨K,0,none⟩=some (.int .i64 v.now))∧(w'.frozen? ⟨H+1+1,0,none⟩=false∧w'.frozen? ⟨H+1+1,1,none⟩=false∧w'.frozen? ⟨H+1+1,2,none⟩=false∧w'.frozen? ⟨H+1+1,3,none⟩=false)∧ObjAt N #[.int .i64 v.s.rev,.slice aj v.s.jobs.length cj,.slice ad l1.length cp,.slice al v.s.leases.length cl] 26 w'∧ObjAt K #[.int .i64 v.now] 3 w'∧(∃us:Array Value,us.size=4∧ObjAt (H+1+1) us 26 w')∧Below H w w'∧H≤w'.heap.size∧NxRows H v.s aj an al cj cn cl v.s.jobs l1 v.s.leases aj ad al cj cp cl w')) (first | with_reducible assumption | with_reducible exact s0 | with_reducible exact nxR_put _ _ _ _ HNK.out (by with_reducible assumption))
    (first | (go_at_call 6;(with_reducible refine(HCK.out _ (by assumption)).mono ?_);rintro e xC ⟨rfl,b9⟩;have o9:=nxR_call b9 (by assumption);have z9:=Lib.hid (objAt_next z0.out b9);have e0:=objAt_cell z9.out 0 rfl;have e1:=objAt_cell z9.out 1 rfl;have e2:=objAt_cell z9.out 2 rfl;have e3:=objAt_cell z9.out 3 rfl))
   rename_i hS
   have hB:=And.intro hS.2.2.2.2.2.1 hS.2.2.2.2.2.2.2
   have oF:=obj_put4 z9.out (.int .i64 v.s.rev) (.slice aj v.s.jobs.length cj) (.slice ad l1.length cp) (.slice al v.s.leases.length cl)
   obtain⟨xF,hxF⟩:∃X,(((xC.setCell ⟨H+1+1,0,none⟩ (.int .i64 v.s.rev)).setCell ⟨H+1+1,1,none⟩ (.slice aj v.s.jobs.length cj)).setCell ⟨H+1+1,2,none⟩ (.slice ad l1.length cp)).setCell ⟨H+1+1,3,none⟩ (.slice al v.s.leases.length cl)=X:=⟨_,rfl⟩
   rw[hxF] at oF hB
   have hB:=Lib.hid hB
   have r0:=objAt_cell oF 0 rfl
   have r1:=objAt_cell oF 1 rfl
   have r2:=objAt_cell oF 2 rfl
   have r3:=objAt_cell oF 3 rfl
   clear hS s0 oF z0 o9 z9 e0 e1 e2 e3
   go_wp2_with fail
   rw[hxF]
   exact bodyPost_ret (v:=.tuple #[.agg #[.int .i64 v.s.rev,.slice aj v.s.jobs.length cj,.slice ad l1.length cp,.slice al v.s.leases.length cl],.int .i64 v.now,.int .i64 (ce:Int)]) (by simp[results,Tryz.results24,go_sem,r0,r1,r2,r3]) rfl ⟨v.s.jobs,l1,v.s.leases,v.now,aj,ad,al,cj,cp,cl,by rw[HRC.out],fun _=>⟨by rw[HRC.out],hB.out.2⟩,hB.out.1⟩
  have d2:(q.kind==2)=false:=by simpa using h2
  have HK2:=Lib.hid h2
  clear h2
  by_cases h3:q.kind=3
  case pos =>
   have d3:(q.kind==3)=true:=by simpa using h3
   have HK:=Lib.hid h3
   clear h3
   have C:=Lib.hid (jobAt_is v.s.jobs aj cj (by have:=HV.out.2.1;omega) q.name x1 (HMS.out x1 NX.out.2.2.2.2.2.1).1)
   have y1:=objAt_cell NX.out.1 1 rfl
   have yl:=objAt_lt NX.out.1
   have c12:=objAt_cell NX.out.2.1 12 rfl
   have cl':=objAt_lt NX.out.2.1
   go_wp2_with fail
   refine C.out.mono ?_
   clear C y1 yl c12 cl'
   rintro e x2 ⟨r,rfl,hr,b⟩
   have NX:=Lib.hid (nx_next NX.out b)
   have HR:=Lib.hid hr
   clear hr b
   by_cases hh:hasJob v.s.jobs q.name=true
   case neg =>
    have r0:r<0:=nxAtNo HR.out (nxNoJob (by simpa using hh))
    have HRC:Hid ((runR V8 v.s v.now q).2=6):=by show _=_;rw[runR_op HQE.out,opR_3 HK.out,if_neg hh]
    obtain⟨p0,p1,p2,p3,p4,p5,p6⟩:=NX.out
    have s1:=nxR_all (s:=v.s) (aj:=aj) (an:=an) (al:=al) (cj:=cj) (cn:=cn) (cl:=cl) (V:=x2) p3 p4 rfl p2 p5 (nx_size NX.out) ⟨Or.inl ⟨rfl,rfl,rfl⟩,Or.inl ⟨rfl,rfl,rfl⟩,Or.inl ⟨rfl,rfl,rfl⟩⟩
    have s0:=nxR_call (V':=x2.drew) (Below.refl _ _).drew s1
    have S1:=Lib.hid s1
    have z0:=Lib.hid (objAt_drew p2)
    have e0:=objAt_cell p2 0 rfl
    have e1:=objAt_cell p2 1 rfl
    have e2:=objAt_cell p2 2 rfl
    have e3:=objAt_cell p2 3 rfl
    have f0:=objAt_free p2 0
    have f1:=objAt_free p2 1
    have f2:=objAt_free p2 2
    have f3:=objAt_free p2 3
    have zz:=Lib.hid p2
    clear s1 p0 p1 p2 p3 p4 p5 p6
    go_wp2_with fail
    go_region_held3 (fun w'=>((w'.cell? ⟨N,0,none⟩=some (.int .i64 v.s.rev)∧w'.cell? ⟨N,1,none⟩=some (.slice aj v.s.jobs.length cj)∧w'.cell? ⟨N,2,none⟩=some (.slice an v.s.nodes.length cn)∧w'.cell? ⟨N,3,none⟩=some (.slice al v.s.leases.length cl)∧w'.cell? ⟨K,0,none⟩=some (.int .i64 v.now))∧(w'.frozen? ⟨H+1+1,0,none⟩=false∧w'.frozen? ⟨H+1+1,1,none⟩=false∧w'.frozen? ⟨H+1+1,2,none⟩=false∧w'.frozen? ⟨H+1+1,3,none⟩=false)∧ObjAt N #[.int .i64 v.s.rev,.slice aj v.s.jobs.length cj,.slice an v.s.nodes.length cn,.slice al v.s.leases.length cl] 26 w'∧ObjAt K #[.int .i64 v.now] 3 w'∧(∃us:Array Value,us.size=4∧ObjAt (H+1+1) us 26 w')∧Below H w w'∧H≤w'.heap.size∧NxRows H v.s aj an al cj cn cl v.s.jobs v.s.nodes v.s.leases aj an al cj cn cl w')) (first | with_reducible assumption | with_reducible exact s0 | with_reducible exact nxR_putd _ _ _ _ HNK.out S1.out) (fail)
    rename_i hS
    have hB:=hS.2.2.2.2.2.1
    have oF:=obj_put4 zz.out (.int .i64 v.s.rev) (.slice aj v.s.jobs.length cj) (.slice an v.s.nodes.length cn) (.slice al v.s.leases.length cl)
    obtain⟨xF,hxF⟩:∃X,(((x2.setCell ⟨H+1+1,0,none⟩ (.int .i64 v.s.rev)).setCell ⟨H+1+1,1,none⟩ (.slice aj v.s.jobs.length cj)).setCell ⟨H+1+1,2,none⟩ (.slice an v.s.nodes.length cn)).setCell ⟨H+1+1,3,none⟩ (.slice al v.s.leases.length cl)=X:=⟨_,rfl⟩
    rw[hxF] at oF hB
    have hB:=Lib.hid hB
    have r0:=objAt_cell oF 0 rfl
    have r1:=objAt_cell oF 1 rfl
    have r2:=objAt_cell oF 2 rfl
    have r3:=objAt_cell oF 3 rfl
    clear hS s0 oF z0 e0 e1 e2 e3 f0 f1 f2 f3
    go_wp2_with fail
    rw[hxF]
    exact bodyPost_ret (v:=.tuple #[.agg #[.int .i64 v.s.rev,.slice aj v.s.jobs.length cj,.slice an v.s.nodes.length cn,.slice al v.s.leases.length cl],.int .i64 v.now,.int .i64 ((6:Nat):Int)]) (by simp[results,Tryz.results24,go_sem,r0,r1,r2,r3]) rfl ⟨v.s.jobs,v.s.nodes,v.s.leases,v.now,aj,an,al,cj,cn,cl,by rw[HRC.out],fun hz=>absurd (HRC.out.symm.trans hz) (by decide),hB.out⟩
   obtain⟨i,hi,rfl,_⟩:=nxAtYes HR.out ((hasJob_iff _ _).1 hh)
   have r0:¬((i:Int)<0):=by omega
   obtain⟨l1,hl1⟩:∃l,(v.s.jobs.filter fun x => !decide (x.name=q.name))=l:=⟨_,rfl⟩
   have C:=rwithoutJob_is 61 #[.pointer (some ⟨H+1,0,none⟩)] (fun _ _=>rfl) (fun x=>decide (x.name=q.name)) v.s.jobs aj cj (by have:=HV.out.2.1;omega) x2 (fun x W hb=>nxBy2_is x q (H+1) W (objAt_next NX.out.2.1 hb)) (HMS.out x2 NX.out.2.2.2.2.2.1).1
   simp only[hl1] at C
   have HL1:=Lib.hid hl1
   have C:=Lib.hid C
   clear hl1
   have y1:=objAt_cell NX.out.1 1 rfl
   have yl:=objAt_lt NX.out.1
   go_wp2_with fail
   refine C.out.mono ?_
   clear C y1 yl
   rintro e x3 ⟨ad,cp,rfl,o,b⟩
   have OW:=Lib.hid (ownsRow_low (B':=H) o (nx_size NX.out))
   have NX:=Lib.hid (nx_next NX.out b)
   clear o b
   have m1:=objAt_cell NX.out.2.2.2.1 1 rfl
   have g1:=objAt_free NX.out.2.2.2.1 1
   have NZ:=nx_set NX.out 1 (.slice ad l1.length cp)
   have OW:=own_box OW.out NX.out.2.2.2.1 (by decide) 1 (.slice ad l1.length cp)
   obtain⟨x4,hx4⟩:∃X,x3.setCell ⟨N,1,none⟩ (.slice ad l1.length cp)=X:=⟨_,rfl⟩
   rw[hx4] at NZ OW
   have NX:Hid (NxAt H N K #[.int .i64 v.s.rev,.slice aj v.s.jobs.length cj,.slice an v.s.nodes.length cn,.slice al v.s.leases.length cl,.int .i64 v.now] #[.int .i64 q.kind,.string q.job.name,.int .i64 q.job.prio,.int .i64 q.job.need,.int .i64 q.job.tries,.string q.job.tag,.string q.node.name,.int .i64 q.node.room,.string q.node.zone,.string q.lease.job,.string q.lease.node,.int .i64 q.lease.til,.string q.name,.int .i64 q.n] #[.int .i64 v.s.rev,.slice ad l1.length cp,.slice an v.s.nodes.length cn,.slice al v.s.leases.length cl] v.now w x4):=NZ
   clear NZ
   have OW:=Lib.hid OW
   obtain⟨l2,hl2⟩:∃l,(v.s.leases.filter fun x => !decide (x.job=q.name))=l:=⟨_,rfl⟩
   have C:=nxLeases_is 62 #[.pointer (some ⟨H+1,0,none⟩)] (fun _ _=>rfl) (fun x=>decide (x.job=q.name)) v.s.leases al cl (by have:=HV.out.2.1;omega) H N _ _ _ _ _ _ _ _ x4 (fun x W hb=>nxBy3_is x q (H+1) W (objAt_next NX.out.2.1 hb)) (HMS.out x4 NX.out.2.2.2.2.2.1).2.2 NX.out.1 NX.out.2.2.2.1
   simp only[hl2] at C
   have HL2:=Lib.hid hl2
   have C:=Lib.hid C
   clear hl2
   go_wp2_with fail
   refine C.out.mono ?_
   clear C
   rintro e x5 ⟨WL,adl,cpl,rfl,o,b,hw⟩
   have OL:=Lib.hid (ownsRow_low (B':=H) o (nx_size NX.out))
   have NX:=Lib.hid (nx_next NX.out b)
   have OW:=Lib.hid (own_next OW.out b)
   clear o b
   have NZ:=nx_set NX.out 3 (.slice adl l2.length cpl)
   have OW:=own_box OW.out NX.out.2.2.2.1 (by decide) 3 (.slice adl l2.length cpl)
   have OL:=own_box OL.out NX.out.2.2.2.1 (by decide) 3 (.slice adl l2.length cpl)
   rw[←hw] at NZ OW OL
   have NX:Hid (NxAt H N K #[.int .i64 v.s.rev,.slice aj v.s.jobs.length cj,.slice an v.s.nodes.length cn,.slice al v.s.leases.length cl,.int .i64 v.now] #[.int .i64 q.kind,.string q.job.name,.int .i64 q.job.prio,.int .i64 q.job.need,.int .i64 q.job.tries,.string q.job.tag,.string q.node.name,.int .i64 q.node.room,.string q.node.zone,.string q.lease.job,.string q.lease.node,.int .i64 q.lease.til,.string q.name,.int .i64 q.n] #[.int .i64 v.s.rev,.slice ad l1.length cp,.slice an v.s.nodes.length cn,.slice adl l2.length cpl] v.now w x5):=NZ
   clear NZ hw
   have OW:=Lib.hid OW
   have OL:=Lib.hid OL
   have hrr:runR V8 v.s v.now q=(⟨⟨v.s.rev,l1,v.s.nodes,l2⟩,v.now⟩,checkE V8 ⟨v.s.rev,l1,v.s.nodes,l2⟩):=by rw[runR_op HQE.out,opR_3 HK.out,if_pos hh,show checkE V8 ⟨v.s.rev,l1,v.s.nodes,l2⟩=0 from by rw[←HL1.out,←HL2.out];exact(check_zero V8 _).2 (valid_delJ HV.out q.name),←HL1.out,←HL2.out];rfl
   have HCK:=fun(V:World) (h:((V.cell? ⟨N,0,none⟩=some (.int .i64 v.s.rev)∧V.cell? ⟨N,1,none⟩=some (.slice ad l1.length cp)∧V.cell? ⟨N,2,none⟩=some (.slice an v.s.nodes.length cn)∧V.cell? ⟨N,3,none⟩=some (.slice adl l2.length cpl)∧V.cell? ⟨K,0,none⟩=some (.int .i64 v.now))∧(V.frozen? ⟨H+1+1,0,none⟩=false∧V.frozen? ⟨H+1+1,1,none⟩=false∧V.frozen? ⟨H+1+1,2,none⟩=false∧V.frozen? ⟨H+1+1,3,none⟩=false)∧ObjAt N #[.int .i64 v.s.rev,.slice ad l1.length cp,.slice an v.s.nodes.length cn,.slice adl l2.length cpl] 26 V∧ObjAt K #[.int .i64 v.now] 3 V∧(∃us:Array Value,us.size=4∧ObjAt (H+1+1) us 26 V)∧Below H w V∧H≤V.heap.size∧NxRows H v.s aj an al cj cn cl l1 v.s.nodes l2 ad an adl cp cn cpl V))=>rcheck_any v.s.rev ad an adl cp cn cpl l1 v.s.nodes l2 V (nxRows_at h.2.2.2.2.2.2.2 (HMS.out V h.2.2.2.2.2.1)).1 (nxRows_at h.2.2.2.2.2.2.2 (HMS.out V h.2.2.2.2.2.1)).2.1 (nxRows_at h.2.2.2.2.2.2.2 (HMS.out V h.2.2.2.2.2.1)).2.2
   obtain⟨ce,hce⟩:∃c,checkE V8 ⟨v.s.rev,l1,v.s.nodes,l2⟩=c:=⟨_,rfl⟩
   rw[hce] at hrr
   simp only[hce] at HCK
   have HRC:=Lib.hid hrr
   have HCK:=Lib.hid HCK
   clear hrr hce
   obtain⟨p0,p1,p2,p3,p4,p5,p6⟩:=NX.out
   have s0:=nxR_all (s:=v.s) (aj:=aj) (an:=an) (al:=al) (cj:=cj) (cn:=cn) (cl:=cl) (V:=x5.drew) (objAt_drew p3) (objAt_drew p4) rfl (objAt_drew p2) p5.drew (show H≤x5.heap.size from nx_size NX.out) (nxRows_next ⟨Or.inr OW.out,Or.inl ⟨rfl,rfl,rfl⟩,Or.inr OL.out⟩ (Below.refl _ _).drew)
   have z0:=Lib.hid (objAt_drew p2)
   clear p0 p1 p2 p3 p4 p5 p6
   go_wp2_with fail
   go_region_held3 (fun w'=>((w'.cell? ⟨N,0,none⟩=some (.int .i64 v.s.rev)∧w'.cell? ⟨N,1,none⟩=some (.slice ad l1.length cp)∧w'.cell? ⟨N,2,none⟩=some (.slice an v.s.nodes.length cn)∧w'.cell? ⟨N,3,none⟩=some (.slice adl l2.length cpl)∧w'.cell? ⟨K,0,none⟩=some (.int .i64 v.now))∧(w'.frozen? ⟨H+1+1,0,none⟩=false∧w'.frozen? ⟨H+1+1,1,none⟩=false∧w'.frozen? ⟨H+1+1,2,none⟩=false∧w'.frozen? ⟨H+1+1,3,none⟩=false)∧ObjAt N #[.int .i64 v.s.rev,.slice ad l1.length cp,.slice an v.s.nodes.length cn,.slice adl l2.length cpl] 26 w'∧ObjAt K #[.int .i64 v.now] 3 w'∧(∃us:Array Value,us.size=4∧ObjAt (H+1+1) us 26 w')∧Below H w w'∧H≤w'.heap.size∧NxRows H v.s aj an al cj cn cl l1 v.s.nodes l2 ad an adl cp cn cpl w')) (first | with_reducible assumption | with_reducible exact s0 | with_reducible exact nxR_put _ _ _ _ HNK.out (by with_reducible assumption))
    (first | (go_at_call 6;(with_reducible refine(HCK.out _ (by assumption)).mono ?_);rintro e xC ⟨rfl,b9⟩;have o9:=nxR_call b9 (by assumption);have z9:=Lib.hid (objAt_next z0.out b9);have e0:=objAt_cell z9.out 0 rfl;have e1:=objAt_cell z9.out 1 rfl;have e2:=objAt_cell z9.out 2 rfl;have e3:=objAt_cell z9.out 3 rfl))
   rename_i hS
   have hB:=And.intro hS.2.2.2.2.2.1 hS.2.2.2.2.2.2.2
   have oF:=obj_put4 z9.out (.int .i64 v.s.rev) (.slice ad l1.length cp) (.slice an v.s.nodes.length cn) (.slice adl l2.length cpl)
   obtain⟨xF,hxF⟩:∃X,(((xC.setCell ⟨H+1+1,0,none⟩ (.int .i64 v.s.rev)).setCell ⟨H+1+1,1,none⟩ (.slice ad l1.length cp)).setCell ⟨H+1+1,2,none⟩ (.slice an v.s.nodes.length cn)).setCell ⟨H+1+1,3,none⟩ (.slice adl l2.length cpl)=X:=⟨_,rfl⟩
   rw[hxF] at oF hB
   have hB:=Lib.hid hB
   have r0:=objAt_cell oF 0 rfl
   have r1:=objAt_cell oF 1 rfl
   have r2:=objAt_cell oF 2 rfl
   have r3:=objAt_cell oF 3 rfl
   clear hS s0 oF z0 o9 z9 e0 e1 e2 e3
   go_wp2_with fail
   rw[hxF]
   exact bodyPost_ret (v:=.tuple #[.agg #[.int .i64 v.s.rev,.slice ad l1.length cp,.slice an v.s.nodes.length cn,.slice adl l2.length cpl],.int .i64 v.now,.int .i64 (ce:Int)]) (by simp[results,Tryz.results24,go_sem,r0,r1,r2,r3]) rfl ⟨l1,v.s.nodes,l2,v.now,ad,an,adl,cp,cn,cpl,by rw[HRC.out],fun _=>⟨by rw[HRC.out],hB.out.2⟩,hB.out.1⟩
  have d3:(q.kind==3)=false:=by simpa using h3
  have HK3:=Lib.hid h3
  clear h3
  by_cases h4:q.kind=4
  case pos =>
   have d4:(q.kind==4)=true:=by simpa using h4
   have HK:=Lib.hid h4
   clear h4
   have C:=Lib.hid (nodeAt_is v.s.nodes an cn (by have:=HV.out.2.1;omega) q.name x1 (HMS.out x1 NX.out.2.2.2.2.2.1).2.1)
   have y2:=objAt_cell NX.out.1 2 rfl
   have yl:=objAt_lt NX.out.1
   have c12:=objAt_cell NX.out.2.1 12 rfl
   have cl':=objAt_lt NX.out.2.1
   go_wp2_with fail
   refine C.out.mono ?_
   clear C y2 yl c12 cl'
   rintro e x2 ⟨r,rfl,hr,b⟩
   have NX:=Lib.hid (nx_next NX.out b)
   have HR:=Lib.hid hr
   clear hr b
   by_cases hh:hasNode v.s.nodes q.name=true
   case neg =>
    have r0:r<0:=nxAtNo HR.out (nxNoNode (by simpa using hh))
    have HRC:Hid ((runR V8 v.s v.now q).2=6):=by show _=_;rw[runR_op HQE.out,opR_4 HK.out,if_neg hh]
    obtain⟨p0,p1,p2,p3,p4,p5,p6⟩:=NX.out
    have s1:=nxR_all (s:=v.s) (aj:=aj) (an:=an) (al:=al) (cj:=cj) (cn:=cn) (cl:=cl) (V:=x2) p3 p4 rfl p2 p5 (nx_size NX.out) ⟨Or.inl ⟨rfl,rfl,rfl⟩,Or.inl ⟨rfl,rfl,rfl⟩,Or.inl ⟨rfl,rfl,rfl⟩⟩
    have s0:=nxR_call (V':=x2.drew) (Below.refl _ _).drew s1
    have S1:=Lib.hid s1
    have z0:=Lib.hid (objAt_drew p2)
    have e0:=objAt_cell p2 0 rfl
    have e1:=objAt_cell p2 1 rfl
    have e2:=objAt_cell p2 2 rfl
    have e3:=objAt_cell p2 3 rfl
    have f0:=objAt_free p2 0
    have f1:=objAt_free p2 1
    have f2:=objAt_free p2 2
    have f3:=objAt_free p2 3
    have zz:=Lib.hid p2
    clear s1 p0 p1 p2 p3 p4 p5 p6
    go_wp2_with fail
    go_region_held3 (fun w'=>((w'.cell? ⟨N,0,none⟩=some (.int .i64 v.s.rev)∧w'.cell? ⟨N,1,none⟩=some (.slice aj v.s.jobs.length cj)∧w'.cell? ⟨N,2,none⟩=some (.slice an v.s.nodes.length cn)∧w'.cell? ⟨N,3,none⟩=some (.slice al v.s.leases.length cl)∧w'.cell? ⟨K,0,none⟩=some (.int .i64 v.now))∧(w'.frozen? ⟨H+1+1,0,none⟩=false∧w'.frozen? ⟨H+1+1,1,none⟩=false∧w'.frozen? ⟨H+1+1,2,none⟩=false∧w'.frozen? ⟨H+1+1,3,none⟩=false)∧ObjAt N #[.int .i64 v.s.rev,.slice aj v.s.jobs.length cj,.slice an v.s.nodes.length cn,.slice al v.s.leases.length cl] 26 w'∧ObjAt K #[.int .i64 v.now] 3 w'∧(∃us:Array Value,us.size=4∧ObjAt (H+1+1) us 26 w')∧Below H w w'∧H≤w'.heap.size∧NxRows H v.s aj an al cj cn cl v.s.jobs v.s.nodes v.s.leases aj an al cj cn cl w')) (first | with_reducible assumption | with_reducible exact s0 | with_reducible exact nxR_putd _ _ _ _ HNK.out S1.out) (fail)
    rename_i hS
    have hB:=hS.2.2.2.2.2.1
    have oF:=obj_put4 zz.out (.int .i64 v.s.rev) (.slice aj v.s.jobs.length cj) (.slice an v.s.nodes.length cn) (.slice al v.s.leases.length cl)
    obtain⟨xF,hxF⟩:∃X,(((x2.setCell ⟨H+1+1,0,none⟩ (.int .i64 v.s.rev)).setCell ⟨H+1+1,1,none⟩ (.slice aj v.s.jobs.length cj)).setCell ⟨H+1+1,2,none⟩ (.slice an v.s.nodes.length cn)).setCell ⟨H+1+1,3,none⟩ (.slice al v.s.leases.length cl)=X:=⟨_,rfl⟩
    rw[hxF] at oF hB
    have hB:=Lib.hid hB
    have r0:=objAt_cell oF 0 rfl
    have r1:=objAt_cell oF 1 rfl
    have r2:=objAt_cell oF 2 rfl
    have r3:=objAt_cell oF 3 rfl
    clear hS s0 oF z0 e0 e1 e2 e3 f0 f1 f2 f3
    go_wp2_with fail
    rw[hxF]
    exact bodyPost_ret (v:=.tuple #[.agg #[.int .i64 v.s.rev,.slice aj v.s.jobs.length cj,.slice an v.s.nodes.length cn,.slice al v.s.leases.length cl],.int .i64 v.now,.int .i64 ((6:Nat):Int)]) (by simp[results,Tryz.results24,go_sem,r0,r1,r2,r3]) rfl ⟨v.s.jobs,v.s.nodes,v.s.leases,v.now,aj,an,al,cj,cn,cl,by rw[HRC.out],fun hz=>absurd (HRC.out.symm.trans hz) (by decide),hB.out⟩
   obtain⟨i,hi,rfl,_⟩:=nxAtYes HR.out ((hasNode_iff _ _).1 hh)
   have r0:¬((i:Int)<0):=by omega
   obtain⟨l1,hl1⟩:∃l,(v.s.nodes.filter fun x => !decide (x.name=q.name))=l:=⟨_,rfl⟩
   have C:=rwithoutNode_is 64 #[.pointer (some ⟨H+1,0,none⟩)] (fun _ _=>rfl) (fun x=>decide (x.name=q.name)) v.s.nodes an cn (by have:=HV.out.2.1;omega) x2 (fun x W hb=>nxBy4_is x q (H+1) W (objAt_next NX.out.2.1 hb)) (HMS.out x2 NX.out.2.2.2.2.2.1).2.1
   simp only[hl1] at C
   have HL1:=Lib.hid hl1
   have C:=Lib.hid C
   clear hl1
   have y2:=objAt_cell NX.out.1 2 rfl
   have yl:=objAt_lt NX.out.1
   go_wp2_with fail
   refine C.out.mono ?_
   clear C y2 yl
   rintro e x3 ⟨ad,cp,rfl,o,b⟩
   have OW:=Lib.hid (ownsRow_low (B':=H) o (nx_size NX.out))
   have NX:=Lib.hid (nx_next NX.out b)
   clear o b
   have m2:=objAt_cell NX.out.2.2.2.1 2 rfl
   have g2:=objAt_free NX.out.2.2.2.1 2
   have NZ:=nx_set NX.out 2 (.slice ad l1.length cp)
   have OW:=own_box OW.out NX.out.2.2.2.1 (by decide) 2 (.slice ad l1.length cp)
   obtain⟨x4,hx4⟩:∃X,x3.setCell ⟨N,2,none⟩ (.slice ad l1.length cp)=X:=⟨_,rfl⟩
   rw[hx4] at NZ OW
   have NX:Hid (NxAt H N K #[.int .i64 v.s.rev,.slice aj v.s.jobs.length cj,.slice an v.s.nodes.length cn,.slice al v.s.leases.length cl,.int .i64 v.now] #[.int .i64 q.kind,.string q.job.name,.int .i64 q.job.prio,.int .i64 q.job.need,.int .i64 q.job.tries,.string q.job.tag,.string q.node.name,.int .i64 q.node.room,.string q.node.zone,.string q.lease.job,.string q.lease.node,.int .i64 q.lease.til,.string q.name,.int .i64 q.n] #[.int .i64 v.s.rev,.slice aj v.s.jobs.length cj,.slice ad l1.length cp,.slice al v.s.leases.length cl] v.now w x4):=NZ
   clear NZ
   have OW:=Lib.hid OW
   obtain⟨l2,hl2⟩:∃l,(v.s.leases.filter fun x => !decide (x.node=q.name))=l:=⟨_,rfl⟩
   have C:=nxLeases_is 65 #[.pointer (some ⟨H+1,0,none⟩)] (fun _ _=>rfl) (fun x=>decide (x.node=q.name)) v.s.leases al cl (by have:=HV.out.2.1;omega) H N _ _ _ _ _ _ _ _ x4 (fun x W hb=>nxBy5_is x q (H+1) W (objAt_next NX.out.2.1 hb)) (HMS.out x4 NX.out.2.2.2.2.2.1).2.2 NX.out.1 NX.out.2.2.2.1
   simp only[hl2] at C
   have HL2:=Lib.hid hl2
   have C:=Lib.hid C
   clear hl2
   go_wp2_with fail
   refine C.out.mono ?_
   clear C
   rintro e x5 ⟨WL,adl,cpl,rfl,o,b,hw⟩
   have OL:=Lib.hid (ownsRow_low (B':=H) o (nx_size NX.out))
   have NX:=Lib.hid (nx_next NX.out b)
   have OW:=Lib.hid (own_next OW.out b)
   clear o b
   have NZ:=nx_set NX.out 3 (.slice adl l2.length cpl)
   have OW:=own_box OW.out NX.out.2.2.2.1 (by decide) 3 (.slice adl l2.length cpl)
   have OL:=own_box OL.out NX.out.2.2.2.1 (by decide) 3 (.slice adl l2.length cpl)
   rw[←hw] at NZ OW OL
   have NX:Hid (NxAt H N K #[.int .i64 v.s.rev,.slice aj v.s.jobs.length cj,.slice an v.s.nodes.length cn,.slice al v.s.leases.length cl,.int .i64 v.now] #[.int .i64 q.kind,.string q.job.name,.int .i64 q.job.prio,.int .i64 q.job.need,.int .i64 q.job.tries,.string q.job.tag,.string q.node.name,.int .i64 q.node.room,.string q.node.zone,.string q.lease.job,.string q.lease.node,.int .i64 q.lease.til,.string q.name,.int .i64 q.n] #[.int .i64 v.s.rev,.slice aj v.s.jobs.length cj,.slice ad l1.length cp,.slice adl l2.length cpl] v.now w x5):=NZ
   clear NZ hw
   have OW:=Lib.hid OW
   have OL:=Lib.hid OL
   have hrr:runR V8 v.s v.now q=(⟨⟨v.s.rev,v.s.jobs,l1,l2⟩,v.now⟩,checkE V8 ⟨v.s.rev,v.s.jobs,l1,l2⟩):=by rw[runR_op HQE.out,opR_4 HK.out,if_pos hh,show checkE V8 ⟨v.s.rev,v.s.jobs,l1,l2⟩=0 from by rw[←HL1.out,←HL2.out];exact(check_zero V8 _).2 (valid_delN HV.out q.name),←HL1.out,←HL2.out];rfl
   have HCK:=fun(V:World) (h:((V.cell? ⟨N,0,none⟩=some (.int .i64 v.s.rev)∧V.cell? ⟨N,1,none⟩=some (.slice aj v.s.jobs.length cj)∧V.cell? ⟨N,2,none⟩=some (.slice ad l1.length cp)∧V.cell? ⟨N,3,none⟩=some (.slice adl l2.length cpl)∧V.cell? ⟨K,0,none⟩=some (.int .i64 v.now))∧(V.frozen? ⟨H+1+1,0,none⟩=false∧V.frozen? ⟨H+1+1,1,none⟩=false∧V.frozen? ⟨H+1+1,2,none⟩=false∧V.frozen? ⟨H+1+1,3,none⟩=false)∧ObjAt N #[.int .i64 v.s.rev,.slice aj v.s.jobs.length cj,.slice ad l1.length cp,.slice adl l2.length cpl] 26 V∧ObjAt K #[.int .i64 v.now] 3 V∧(∃us:Array Value,us.size=4∧ObjAt (H+1+1) us 26 V)∧Below H w V∧H≤V.heap.size∧NxRows H v.s aj an al cj cn cl v.s.jobs l1 l2 aj ad adl cj cp cpl V))=>rcheck_any v.s.rev aj ad adl cj cp cpl v.s.jobs l1 l2 V (nxRows_at h.2.2.2.2.2.2.2 (HMS.out V h.2.2.2.2.2.1)).1 (nxRows_at h.2.2.2.2.2.2.2 (HMS.out V h.2.2.2.2.2.1)).2.1 (nxRows_at h.2.2.2.2.2.2.2 (HMS.out V h.2.2.2.2.2.1)).2.2
   obtain⟨ce,hce⟩:∃c,checkE V8 ⟨v.s.rev,v.s.jobs,l1,l2⟩=c:=⟨_,rfl⟩
   rw[hce] at hrr
   simp only[hce] at HCK
   have HRC:=Lib.hid hrr
   have HCK:=Lib.hid HCK
   clear hrr hce
   obtain⟨p0,p1,p2,p3,p4,p5,p6⟩:=NX.out
   have s0:=nxR_all (s:=v.s) (aj:=aj) (an:=an) (al:=al) (cj:=cj) (cn:=cn) (cl:=cl) (V:=x5.drew) (objAt_drew p3) (objAt_drew p4) rfl (objAt_drew p2) p5.drew (show H≤x5.heap.size from nx_size NX.out) (nxRows_next ⟨Or.inl ⟨rfl,rfl,rfl⟩,Or.inr OW.out,Or.inr OL.out⟩ (Below.refl _ _).drew)
   have z0:=Lib.hid (objAt_drew p2)
   clear p0 p1 p2 p3 p4 p5 p6
   go_wp2_with fail
   go_region_held3 (fun w'=>((w'.cell? ⟨N,0,none⟩=some (.int .i64 v.s.rev)∧w'.cell? ⟨N,1,none⟩=some (.slice aj v.s.jobs.length cj)∧w'.cell? ⟨N,2,none⟩=some (.slice ad l1.length cp)∧w'.cell? ⟨N,3,none⟩=some (.slice adl l2.length cpl)∧w'.cell? ⟨K,0,none⟩=some (.int .i64 v.now))∧(w'.frozen? ⟨H+1+1,0,none⟩=false∧w'.frozen? ⟨H+1+1,1,none⟩=false∧w'.frozen? ⟨H+1+1,2,none⟩=false∧w'.frozen? ⟨H+1+1,3,none⟩=false)∧ObjAt N #[.int .i64 v.s.rev,.slice aj v.s.jobs.length cj,.slice ad l1.length cp,.slice adl l2.length cpl] 26 w'∧ObjAt K #[.int .i64 v.now] 3 w'∧(∃us:Array Value,us.size=4∧ObjAt (H+1+1) us 26 w')∧Below H w w'∧H≤w'.heap.size∧NxRows H v.s aj an al cj cn cl v.s.jobs l1 l2 aj ad adl cj cp cpl w')) (first | with_reducible assumption | with_reducible exact s0 | with_reducible exact nxR_put _ _ _ _ HNK.out (by with_reducible assumption))
    (first | (go_at_call 6;(with_reducible refine(HCK.out _ (by assumption)).mono ?_);rintro e xC ⟨rfl,b9⟩;have o9:=nxR_call b9 (by assumption);have z9:=Lib.hid (objAt_next z0.out b9);have e0:=objAt_cell z9.out 0 rfl;have e1:=objAt_cell z9.out 1 rfl;have e2:=objAt_cell z9.out 2 rfl;have e3:=objAt_cell z9.out 3 rfl))
   rename_i hS
   have hB:=And.intro hS.2.2.2.2.2.1 hS.2.2.2.2.2.2.2
   have oF:=obj_put4 z9.out (.int .i64 v.s.rev) (.slice aj v.s.jobs.length cj) (.slice ad l1.length cp) (.slice adl l2.length cpl)
   obtain⟨xF,hxF⟩:∃X,(((xC.setCell ⟨H+1+1,0,none⟩ (.int .i64 v.s.rev)).setCell ⟨H+1+1,1,none⟩ (.slice aj v.s.jobs.length cj)).setCell ⟨H+1+1,2,none⟩ (.slice ad l1.length cp)).setCell ⟨H+1+1,3,none⟩ (.slice adl l2.length cpl)=X:=⟨_,rfl⟩
   rw[hxF] at oF hB
   have hB:=Lib.hid hB
   have r0:=objAt_cell oF 0 rfl
   have r1:=objAt_cell oF 1 rfl
   have r2:=objAt_cell oF 2 rfl
   have r3:=objAt_cell oF 3 rfl
   clear hS s0 oF z0 o9 z9 e0 e1 e2 e3
   go_wp2_with fail
   rw[hxF]
   exact bodyPost_ret (v:=.tuple #[.agg #[.int .i64 v.s.rev,.slice aj v.s.jobs.length cj,.slice ad l1.length cp,.slice adl l2.length cpl],.int .i64 v.now,.int .i64 (ce:Int)]) (by simp[results,Tryz.results24,go_sem,r0,r1,r2,r3]) rfl ⟨v.s.jobs,l1,l2,v.now,aj,ad,adl,cj,cp,cpl,by rw[HRC.out],fun _=>⟨by rw[HRC.out],hB.out.2⟩,hB.out.1⟩
  have d4:(q.kind==4)=false:=by simpa using h4
  have HK4:=Lib.hid h4
  clear h4
  by_cases h5:q.kind=5
  case pos =>
   have d5:(q.kind==5)=true:=by simpa using h5
   have HK:=Lib.hid h5
   clear h5
   have C:=Lib.hid (jobAt_is v.s.jobs aj cj (by have:=HV.out.2.1;omega) q.lease.job x1 (HMS.out x1 NX.out.2.2.2.2.2.1).1)
   have y1:=objAt_cell NX.out.1 1 rfl
   have yl:=objAt_lt NX.out.1
   have c9:=objAt_cell NX.out.2.1 9 rfl
   have cl':=objAt_lt NX.out.2.1
   go_wp2_with fail
   refine C.out.mono ?_
   clear C y1 yl c9 cl'
   rintro e x2 ⟨r,rfl,hr,b⟩
   have NX:=Lib.hid (nx_next NX.out b)
   have HR:=Lib.hid hr
   clear hr b
   by_cases hh:hasJob v.s.jobs q.lease.job=true
   case neg =>
    have r0:r<0:=nxAtNo HR.out (nxNoJob (by simpa using hh))
    have HRC:Hid ((runR V8 v.s v.now q).2=6):=by show _=_;rw[runR_op HQE.out,opR_5 HK.out,if_neg (by simp[hh])]
    obtain⟨p0,p1,p2,p3,p4,p5,p6⟩:=NX.out
    have s1:=nxR_all (s:=v.s) (aj:=aj) (an:=an) (al:=al) (cj:=cj) (cn:=cn) (cl:=cl) (V:=x2) p3 p4 rfl p2 p5 (nx_size NX.out) ⟨Or.inl ⟨rfl,rfl,rfl⟩,Or.inl ⟨rfl,rfl,rfl⟩,Or.inl ⟨rfl,rfl,rfl⟩⟩
    have s0:=nxR_call (V':=x2.drew) (Below.refl _ _).drew s1
    have S1:=Lib.hid s1
    have z0:=Lib.hid (objAt_drew p2)
    have e0:=objAt_cell p2 0 rfl
    have e1:=objAt_cell p2 1 rfl
    have e2:=objAt_cell p2 2 rfl
    have e3:=objAt_cell p2 3 rfl
    have f0:=objAt_free p2 0
    have f1:=objAt_free p2 1
    have f2:=objAt_free p2 2
    have f3:=objAt_free p2 3
    have zz:=Lib.hid p2
    clear s1 p0 p1 p2 p3 p4 p5 p6
    go_wp2_with fail
    go_region_held3 (fun w'=>((w'.cell? ⟨N,0,none⟩=some (.int .i64 v.s.rev)∧w'.cell? ⟨N,1,none⟩=some (.slice aj v.s.jobs.length cj)∧w'.cell? ⟨N,2,none⟩=some (.slice an v.s.nodes.length cn)∧w'.cell? ⟨N,3,none⟩=some (.slice al v.s.leases.length cl)∧w'.cell? ⟨K,0,none⟩=some (.int .i64 v.now))∧(w'.frozen? ⟨H+1+1,0,none⟩=false∧w'.frozen? ⟨H+1+1,1,none⟩=false∧w'.frozen? ⟨H+1+1,2,none⟩=false∧w'.frozen? ⟨H+1+1,3,none⟩=false)∧ObjAt N #[.int .i64 v.s.rev,.slice aj v.s.jobs.length cj,.slice an v.s.nodes.length cn,.slice al v.s.leases.length cl] 26 w'∧ObjAt K #[.int .i64 v.now] 3 w'∧(∃us:Array Value,us.size=4∧ObjAt (H+1+1) us 26 w')∧Below H w w'∧H≤w'.heap.size∧NxRows H v.s aj an al cj cn cl v.s.jobs v.s.nodes v.s.leases aj an al cj cn cl w')) (first | with_reducible assumption | with_reducible exact s0 | with_reducible exact nxR_putd _ _ _ _ HNK.out S1.out) (fail)
    rename_i hS
    have hB:=hS.2.2.2.2.2.1
    have oF:=obj_put4 zz.out (.int .i64 v.s.rev) (.slice aj v.s.jobs.length cj) (.slice an v.s.nodes.length cn) (.slice al v.s.leases.length cl)
    obtain⟨xF,hxF⟩:∃X,(((x2.setCell ⟨H+1+1,0,none⟩ (.int .i64 v.s.rev)).setCell ⟨H+1+1,1,none⟩ (.slice aj v.s.jobs.length cj)).setCell ⟨H+1+1,2,none⟩ (.slice an v.s.nodes.length cn)).setCell ⟨H+1+1,3,none⟩ (.slice al v.s.leases.length cl)=X:=⟨_,rfl⟩
    rw[hxF] at oF hB
    have hB:=Lib.hid hB
    have r0:=objAt_cell oF 0 rfl
    have r1:=objAt_cell oF 1 rfl
    have r2:=objAt_cell oF 2 rfl
    have r3:=objAt_cell oF 3 rfl
    clear hS s0 oF z0 e0 e1 e2 e3 f0 f1 f2 f3
    go_wp2_with fail
    rw[hxF]
    exact bodyPost_ret (v:=.tuple #[.agg #[.int .i64 v.s.rev,.slice aj v.s.jobs.length cj,.slice an v.s.nodes.length cn,.slice al v.s.leases.length cl],.int .i64 v.now,.int .i64 ((6:Nat):Int)]) (by simp[results,Tryz.results24,go_sem,r0,r1,r2,r3]) rfl ⟨v.s.jobs,v.s.nodes,v.s.leases,v.now,aj,an,al,cj,cn,cl,by rw[HRC.out],fun hz=>absurd (HRC.out.symm.trans hz) (by decide),hB.out⟩
   obtain⟨i,hi,rfl,hik⟩:=nxAtYes HR.out ((hasJob_iff _ _).1 hh)
   have r0:¬((i:Int)<0):=by omega
   have HIK:=Lib.hid hik
   have HI:=Lib.hid hi
   have HH1:=Lib.hid hh
   clear hik hh HR
   have C:=Lib.hid (nodeAt_is v.s.nodes an cn (by have:=HV.out.2.1;omega) q.lease.node x2 (HMS.out x2 NX.out.2.2.2.2.2.1).2.1)
   have y2:=objAt_cell NX.out.1 2 rfl
   have yl:=objAt_lt NX.out.1
   have c10:=objAt_cell NX.out.2.1 10 rfl
   have cl':=objAt_lt NX.out.2.1
   go_wp2_with fail
   refine C.out.mono ?_
   clear C y2 yl c10 cl'
   rintro e x3 ⟨r,rfl,hr,b⟩
   have NX:=Lib.hid (nx_next NX.out b)
   have HR:=Lib.hid hr
   clear hr b
   by_cases hh:hasNode v.s.nodes q.lease.node=true
   case neg =>
    have r1:r<0:=nxAtNo HR.out (nxNoNode (by simpa using hh))
    have HRC:Hid ((runR V8 v.s v.now q).2=6):=by show _=_;rw[runR_op HQE.out,opR_5 HK.out,if_neg (by simp[hh])]
    obtain⟨p0,p1,p2,p3,p4,p5,p6⟩:=NX.out
    have s1:=nxR_all (s:=v.s) (aj:=aj) (an:=an) (al:=al) (cj:=cj) (cn:=cn) (cl:=cl) (V:=x3) p3 p4 rfl p2 p5 (nx_size NX.out) ⟨Or.inl ⟨rfl,rfl,rfl⟩,Or.inl ⟨rfl,rfl,rfl⟩,Or.inl ⟨rfl,rfl,rfl⟩⟩
    have s0:=nxR_call (V':=x3.drew) (Below.refl _ _).drew s1
    have S1:=Lib.hid s1
    have z0:=Lib.hid (objAt_drew p2)
    have e0:=objAt_cell p2 0 rfl
    have e1:=objAt_cell p2 1 rfl
    have e2:=objAt_cell p2 2 rfl
    have e3:=objAt_cell p2 3 rfl
    have f0:=objAt_free p2 0
    have f1:=objAt_free p2 1
    have f2:=objAt_free p2 2
    have f3:=objAt_free p2 3
    have zz:=Lib.hid p2
    clear s1 p0 p1 p2 p3 p4 p5 p6
    go_wp2_with fail
    go_region_held3 (fun w'=>((w'.cell? ⟨N,0,none⟩=some (.int .i64 v.s.rev)∧w'.cell? ⟨N,1,none⟩=some (.slice aj v.s.jobs.length cj)∧w'.cell? ⟨N,2,none⟩=some (.slice an v.s.nodes.length cn)∧w'.cell? ⟨N,3,none⟩=some (.slice al v.s.leases.length cl)∧w'.cell? ⟨K,0,none⟩=some (.int .i64 v.now))∧(w'.frozen? ⟨H+1+1,0,none⟩=false∧w'.frozen? ⟨H+1+1,1,none⟩=false∧w'.frozen? ⟨H+1+1,2,none⟩=false∧w'.frozen? ⟨H+1+1,3,none⟩=false)∧ObjAt N #[.int .i64 v.s.rev,.slice aj v.s.jobs.length cj,.slice an v.s.nodes.length cn,.slice al v.s.leases.length cl] 26 w'∧ObjAt K #[.int .i64 v.now] 3 w'∧(∃us:Array Value,us.size=4∧ObjAt (H+1+1) us 26 w')∧Below H w w'∧H≤w'.heap.size∧NxRows H v.s aj an al cj cn cl v.s.jobs v.s.nodes v.s.leases aj an al cj cn cl w')) (first | with_reducible assumption | with_reducible exact s0 | with_reducible exact nxR_putd _ _ _ _ HNK.out S1.out) (fail)
    rename_i hS
    have hB:=hS.2.2.2.2.2.1
    have oF:=obj_put4 zz.out (.int .i64 v.s.rev) (.slice aj v.s.jobs.length cj) (.slice an v.s.nodes.length cn) (.slice al v.s.leases.length cl)
    obtain⟨xF,hxF⟩:∃X,(((x3.setCell ⟨H+1+1,0,none⟩ (.int .i64 v.s.rev)).setCell ⟨H+1+1,1,none⟩ (.slice aj v.s.jobs.length cj)).setCell ⟨H+1+1,2,none⟩ (.slice an v.s.nodes.length cn)).setCell ⟨H+1+1,3,none⟩ (.slice al v.s.leases.length cl)=X:=⟨_,rfl⟩
    rw[hxF] at oF hB
    have hB:=Lib.hid hB
    have r0:=objAt_cell oF 0 rfl
    have r1:=objAt_cell oF 1 rfl
    have r2:=objAt_cell oF 2 rfl
    have r3:=objAt_cell oF 3 rfl
    clear hS s0 oF z0 e0 e1 e2 e3 f0 f1 f2 f3
    go_wp2_with fail
    rw[hxF]
    exact bodyPost_ret (v:=.tuple #[.agg #[.int .i64 v.s.rev,.slice aj v.s.jobs.length cj,.slice an v.s.nodes.length cn,.slice al v.s.leases.length cl],.int .i64 v.now,.int .i64 ((6:Nat):Int)]) (by simp[results,Tryz.results24,go_sem,r0,r1,r2,r3]) rfl ⟨v.s.jobs,v.s.nodes,v.s.leases,v.now,aj,an,al,cj,cn,cl,by rw[HRC.out],fun hz=>absurd (HRC.out.symm.trans hz) (by decide),hB.out⟩
   obtain⟨i2,hi2,rfl,_⟩:=nxAtYes HR.out ((hasNode_iff _ _).1 hh)
   have r1:¬((i2:Int)<0):=by omega
   have HH2:=Lib.hid hh
   clear hh HR
   have C:=Lib.hid (leaseAt_is v.s.leases al cl (by have:=HV.out.2.1;omega) q.lease.job x3 (HMS.out x3 NX.out.2.2.2.2.2.1).2.2)
   have y3:=objAt_cell NX.out.1 3 rfl
   have yl:=objAt_lt NX.out.1
   have c9:=objAt_cell NX.out.2.1 9 rfl
   have cl':=objAt_lt NX.out.2.1
   go_wp2_with fail
   refine C.out.mono ?_
   clear C y3 yl c9 cl'
   rintro e x4 ⟨r,rfl,hr,b⟩
   have NX:=Lib.hid (nx_next NX.out b)
   have HR:=Lib.hid hr
   clear hr b
   by_cases hh:hasLease v.s.leases q.lease.job=true
   case pos =>
    obtain⟨i3,hi3,rfl,_⟩:=nxAtYes HR.out ((hasLease_iff _ _).1 hh)
    have r2:(0:Int)≤(i3:Int):=by omega
    have HRC:Hid ((runR V8 v.s v.now q).2=7):=by show _=_;rw[runR_op HQE.out,opR_5 HK.out,if_pos (by rw[HH1.out,HH2.out];rfl),if_pos hh]
    obtain⟨p0,p1,p2,p3,p4,p5,p6⟩:=NX.out
    have s1:=nxR_all (s:=v.s) (aj:=aj) (an:=an) (al:=al) (cj:=cj) (cn:=cn) (cl:=cl) (V:=x4) p3 p4 rfl p2 p5 (nx_size NX.out) ⟨Or.inl ⟨rfl,rfl,rfl⟩,Or.inl ⟨rfl,rfl,rfl⟩,Or.inl ⟨rfl,rfl,rfl⟩⟩
    have s0:=nxR_call (V':=x4.drew) (Below.refl _ _).drew s1
    have S1:=Lib.hid s1
    have z0:=Lib.hid (objAt_drew p2)
    have e0:=objAt_cell p2 0 rfl
    have e1:=objAt_cell p2 1 rfl
    have e2:=objAt_cell p2 2 rfl
    have e3:=objAt_cell p2 3 rfl
    have f0:=objAt_free p2 0
    have f1:=objAt_free p2 1
    have f2:=objAt_free p2 2
    have f3:=objAt_free p2 3
    have zz:=Lib.hid p2
    clear s1 p0 p1 p2 p3 p4 p5 p6
    go_wp2_with fail
    go_region_held3 (fun w'=>((w'.cell? ⟨N,0,none⟩=some (.int .i64 v.s.rev)∧w'.cell? ⟨N,1,none⟩=some (.slice aj v.s.jobs.length cj)∧w'.cell? ⟨N,2,none⟩=some (.slice an v.s.nodes.length cn)∧w'.cell? ⟨N,3,none⟩=some (.slice al v.s.leases.length cl)∧w'.cell? ⟨K,0,none⟩=some (.int .i64 v.now))∧(w'.frozen? ⟨H+1+1,0,none⟩=false∧w'.frozen? ⟨H+1+1,1,none⟩=false∧w'.frozen? ⟨H+1+1,2,none⟩=false∧w'.frozen? ⟨H+1+1,3,none⟩=false)∧ObjAt N #[.int .i64 v.s.rev,.slice aj v.s.jobs.length cj,.slice an v.s.nodes.length cn,.slice al v.s.leases.length cl] 26 w'∧ObjAt K #[.int .i64 v.now] 3 w'∧(∃us:Array Value,us.size=4∧ObjAt (H+1+1) us 26 w')∧Below H w w'∧H≤w'.heap.size∧NxRows H v.s aj an al cj cn cl v.s.jobs v.s.nodes v.s.leases aj an al cj cn cl w')) (first | with_reducible assumption | with_reducible exact s0 | with_reducible exact nxR_putd _ _ _ _ HNK.out S1.out) (fail)
    rename_i hS
    have hB:=hS.2.2.2.2.2.1
    have oF:=obj_put4 zz.out (.int .i64 v.s.rev) (.slice aj v.s.jobs.length cj) (.slice an v.s.nodes.length cn) (.slice al v.s.leases.length cl)
    obtain⟨xF,hxF⟩:∃X,(((x4.setCell ⟨H+1+1,0,none⟩ (.int .i64 v.s.rev)).setCell ⟨H+1+1,1,none⟩ (.slice aj v.s.jobs.length cj)).setCell ⟨H+1+1,2,none⟩ (.slice an v.s.nodes.length cn)).setCell ⟨H+1+1,3,none⟩ (.slice al v.s.leases.length cl)=X:=⟨_,rfl⟩
    rw[hxF] at oF hB
    have hB:=Lib.hid hB
    have r0:=objAt_cell oF 0 rfl
    have r1:=objAt_cell oF 1 rfl
    have r2:=objAt_cell oF 2 rfl
    have r3:=objAt_cell oF 3 rfl
    clear hS s0 oF z0 e0 e1 e2 e3 f0 f1 f2 f3
    go_wp2_with fail
    rw[hxF]
    exact bodyPost_ret (v:=.tuple #[.agg #[.int .i64 v.s.rev,.slice aj v.s.jobs.length cj,.slice an v.s.nodes.length cn,.slice al v.s.leases.length cl],.int .i64 v.now,.int .i64 ((7:Nat):Int)]) (by simp[results,Tryz.results24,go_sem,r0,r1,r2,r3]) rfl ⟨v.s.jobs,v.s.nodes,v.s.leases,v.now,aj,an,al,cj,cn,cl,by rw[HRC.out],fun hz=>absurd (HRC.out.symm.trans hz) (by decide),hB.out⟩
   have r2:¬((0:Int)≤r):=by have:=nxAtNo HR.out (nxNoLease (by simpa using hh));omega
   have HH3:=Lib.hid hh
   clear hh HR
   have c11:=objAt_cell NX.out.2.1 11 rfl
   have cl':=objAt_lt NX.out.2.1
   have nk:=objAt_cell NX.out.2.2.2.2.1 0 rfl
   by_cases ht:q.lease.til≤v.now
   case pos =>
    have HRC:Hid ((runR V8 v.s v.now q).2=1):=by show _=_;rw[runR_op HQE.out,opR_5 HK.out,if_pos (by rw[HH1.out,HH2.out];rfl),if_neg HH3.out,if_pos ht]
    obtain⟨p0,p1,p2,p3,p4,p5,p6⟩:=NX.out
    have s1:=nxR_all (s:=v.s) (aj:=aj) (an:=an) (al:=al) (cj:=cj) (cn:=cn) (cl:=cl) (V:=x4) p3 p4 rfl p2 p5 (nx_size NX.out) ⟨Or.inl ⟨rfl,rfl,rfl⟩,Or.inl ⟨rfl,rfl,rfl⟩,Or.inl ⟨rfl,rfl,rfl⟩⟩
    have s0:=nxR_call (V':=x4.drew) (Below.refl _ _).drew s1
    have S1:=Lib.hid s1
    have z0:=Lib.hid (objAt_drew p2)
    have e0:=objAt_cell p2 0 rfl
    have e1:=objAt_cell p2 1 rfl
    have e2:=objAt_cell p2 2 rfl
    have e3:=objAt_cell p2 3 rfl
    have f0:=objAt_free p2 0
    have f1:=objAt_free p2 1
    have f2:=objAt_free p2 2
    have f3:=objAt_free p2 3
    have zz:=Lib.hid p2
    clear s1 p0 p1 p2 p3 p4 p5 p6
    go_wp2_with fail
    go_region_held3 (fun w'=>((w'.cell? ⟨N,0,none⟩=some (.int .i64 v.s.rev)∧w'.cell? ⟨N,1,none⟩=some (.slice aj v.s.jobs.length cj)∧w'.cell? ⟨N,2,none⟩=some (.slice an v.s.nodes.length cn)∧w'.cell? ⟨N,3,none⟩=some (.slice al v.s.leases.length cl)∧w'.cell? ⟨K,0,none⟩=some (.int .i64 v.now))∧(w'.frozen? ⟨H+1+1,0,none⟩=false∧w'.frozen? ⟨H+1+1,1,none⟩=false∧w'.frozen? ⟨H+1+1,2,none⟩=false∧w'.frozen? ⟨H+1+1,3,none⟩=false)∧ObjAt N #[.int .i64 v.s.rev,.slice aj v.s.jobs.length cj,.slice an v.s.nodes.length cn,.slice al v.s.leases.length cl] 26 w'∧ObjAt K #[.int .i64 v.now] 3 w'∧(∃us:Array Value,us.size=4∧ObjAt (H+1+1) us 26 w')∧Below H w w'∧H≤w'.heap.size∧NxRows H v.s aj an al cj cn cl v.s.jobs v.s.nodes v.s.leases aj an al cj cn cl w')) (first | with_reducible assumption | with_reducible exact s0 | with_reducible exact nxR_putd _ _ _ _ HNK.out S1.out) (fail)
    rename_i hS
    have hB:=hS.2.2.2.2.2.1
    have oF:=obj_put4 zz.out (.int .i64 v.s.rev) (.slice aj v.s.jobs.length cj) (.slice an v.s.nodes.length cn) (.slice al v.s.leases.length cl)
    obtain⟨xF,hxF⟩:∃X,(((x4.setCell ⟨H+1+1,0,none⟩ (.int .i64 v.s.rev)).setCell ⟨H+1+1,1,none⟩ (.slice aj v.s.jobs.length cj)).setCell ⟨H+1+1,2,none⟩ (.slice an v.s.nodes.length cn)).setCell ⟨H+1+1,3,none⟩ (.slice al v.s.leases.length cl)=X:=⟨_,rfl⟩
    rw[hxF] at oF hB
    have hB:=Lib.hid hB
    have r0:=objAt_cell oF 0 rfl
    have r1:=objAt_cell oF 1 rfl
    have r2:=objAt_cell oF 2 rfl
    have r3:=objAt_cell oF 3 rfl
    clear hS s0 oF z0 e0 e1 e2 e3 f0 f1 f2 f3
    go_wp2_with fail
    rw[hxF]
    exact bodyPost_ret (v:=.tuple #[.agg #[.int .i64 v.s.rev,.slice aj v.s.jobs.length cj,.slice an v.s.nodes.length cn,.slice al v.s.leases.length cl],.int .i64 v.now,.int .i64 ((1:Nat):Int)]) (by simp[results,Tryz.results24,go_sem,r0,r1,r2,r3]) rfl ⟨v.s.jobs,v.s.nodes,v.s.leases,v.now,aj,an,al,cj,cn,cl,by rw[HRC.out],fun hz=>absurd (HRC.out.symm.trans hz) (by decide),hB.out⟩
   have HH4:=Lib.hid ht
   obtain⟨a1,ha1,al1,k0',k1',k2',k3',k4'⟩:=(HMS.out x4 NX.out.2.2.2.2.2.1).1 i HI.out
   obtain⟨jb,hjb⟩:∃j,v.s.jobs[i]'HI.out=j:=⟨_,rfl⟩
   rw[hjb] at k0' k1' k2' k3' k4'
   have hjo:jobOf v.s.jobs q.lease.job=jb:=by
    have m:=jobOf_mem HH1.out
    rw[←hjb]
    exact asc_one HV.out.2.2.1.2 m.1 (List.getElem_mem HI.out) (by rw[m.2,HIK.out])
   have htr:=((jobE_zero V8 jb).1 (by rw[←hjb];exact HV.out.2.2.1.1 _ (List.getElem_mem HI.out))).2.2.2
   have HJO:=Lib.hid hjo
   have HTR:=Lib.hid htr
   have HA1:=Lib.hid ha1
   have hm0:(0:Int)≤(i:Int):=by omega
   have hm1:(i:Int)<(v.s.jobs.length:Int):=by have:=HI.out;omega
   have hwr:IntKind.i64.wrap (jb.tries+1)=jb.tries+1:=IntWalk.i64_in _ (by omega)
   have y1:=objAt_cell NX.out.1 1 rfl
   have yl:=objAt_lt NX.out.1
   rw[ha1] at y1
   clear hjb hjo ha1
   have oJ:=objAt_new x4 #[.string jb.name,.int .i64 jb.prio,.int .i64 jb.need,.int .i64 jb.tries,.string jb.tag] 38
   have bJ:=below_one x4 (.cells #[.string jb.name,.int .i64 jb.prio,.int .i64 jb.need,.int .i64 jb.tries,.string jb.tag] 38)
   obtain⟨x5,hx5⟩:∃X,x4.alloc (.cells #[.string jb.name,.int .i64 jb.prio,.int .i64 jb.need,.int .i64 jb.tries,.string jb.tag] 38)=X:=⟨_,rfl⟩
   rw[hx5] at oJ bJ
   have z3:=objAt_cell oJ 3 rfl
   have zf:=objAt_free oJ 3
   have zl:=objAt_lt oJ
   have oJ2:ObjAt x4.heap.size #[.string jb.name,.int .i64 jb.prio,.int .i64 jb.need,.int .i64 (jb.tries+1),.string jb.tag] 38 (x5.setCell ⟨x4.heap.size,3,none⟩ (.int .i64 (jb.tries+1))):=objAt_set oJ 3 _
   have bJ2:=bJ.setCell (p:=⟨x4.heap.size,3,none⟩) (Nat.le_refl _) (.int .i64 (jb.tries+1))
   obtain⟨x6,hx6⟩:∃X,x5.setCell ⟨x4.heap.size,3,none⟩ (.int .i64 (jb.tries+1))=X:=⟨_,rfl⟩
   rw[hx6] at oJ2 bJ2
   have NX:=Lib.hid (nx_next NX.out bJ2)
   have OJ:=Lib.hid oJ2
   have j3:=objAt_cell OJ.out 3 rfl
   clear oJ bJ oJ2 bJ2
   by_cases hx:jb.tries=100
   case pos =>
    have t9:(100:Int)<jb.tries+1:=by omega
    have HRC:Hid ((runR V8 v.s v.now q).2=2):=by show _=_;rw[runR_op HQE.out,opR_5 HK.out,if_pos (by rw[HH1.out,HH2.out];rfl),if_neg HH3.out,if_neg (by have:=HH4.out;omega),if_pos (by rw[HJO.out];exact hx)]
    obtain⟨p0,p1,p2,p3,p4,p5,p6⟩:=NX.out
    have s1:=nxR_all (s:=v.s) (aj:=aj) (an:=an) (al:=al) (cj:=cj) (cn:=cn) (cl:=cl) (V:=x6) p3 p4 rfl p2 p5 (nx_size NX.out) ⟨Or.inl ⟨rfl,rfl,rfl⟩,Or.inl ⟨rfl,rfl,rfl⟩,Or.inl ⟨rfl,rfl,rfl⟩⟩
    have s0:=nxR_call (V':=x6.drew) (Below.refl _ _).drew s1
    have S1:=Lib.hid s1
    have z0:=Lib.hid (objAt_drew p2)
    have e0:=objAt_cell p2 0 rfl
    have e1:=objAt_cell p2 1 rfl
    have e2:=objAt_cell p2 2 rfl
    have e3:=objAt_cell p2 3 rfl
    have f0:=objAt_free p2 0
    have f1:=objAt_free p2 1
    have f2:=objAt_free p2 2
    have f3:=objAt_free p2 3
    have zz:=Lib.hid p2
    clear s1 p0 p1 p2 p3 p4 p5 p6 hx
    go_wp2_with fail
    go_region_held3 (fun w'=>((w'.cell? ⟨N,0,none⟩=some (.int .i64 v.s.rev)∧w'.cell? ⟨N,1,none⟩=some (.slice aj v.s.jobs.length cj)∧w'.cell? ⟨N,2,none⟩=some (.slice an v.s.nodes.length cn)∧w'.cell? ⟨N,3,none⟩=some (.slice al v.s.leases.length cl)∧w'.cell? ⟨K,0,none⟩=some (.int .i64 v.now))∧(w'.frozen? ⟨H+1+1,0,none⟩=false∧w'.frozen? ⟨H+1+1,1,none⟩=false∧w'.frozen? ⟨H+1+1,2,none⟩=false∧w'.frozen? ⟨H+1+1,3,none⟩=false)∧ObjAt N #[.int .i64 v.s.rev,.slice aj v.s.jobs.length cj,.slice an v.s.nodes.length cn,.slice al v.s.leases.length cl] 26 w'∧ObjAt K #[.int .i64 v.now] 3 w'∧(∃us:Array Value,us.size=4∧ObjAt (H+1+1) us 26 w')∧Below H w w'∧H≤w'.heap.size∧NxRows H v.s aj an al cj cn cl v.s.jobs v.s.nodes v.s.leases aj an al cj cn cl w')) (first | with_reducible assumption | with_reducible exact s0 | with_reducible exact nxR_putd _ _ _ _ HNK.out S1.out) (fail)
    rename_i hS
    have hB:=hS.2.2.2.2.2.1
    have oF:=obj_put4 zz.out (.int .i64 v.s.rev) (.slice aj v.s.jobs.length cj) (.slice an v.s.nodes.length cn) (.slice al v.s.leases.length cl)
    obtain⟨xF,hxF⟩:∃X,(((x6.setCell ⟨H+1+1,0,none⟩ (.int .i64 v.s.rev)).setCell ⟨H+1+1,1,none⟩ (.slice aj v.s.jobs.length cj)).setCell ⟨H+1+1,2,none⟩ (.slice an v.s.nodes.length cn)).setCell ⟨H+1+1,3,none⟩ (.slice al v.s.leases.length cl)=X:=⟨_,rfl⟩
    rw[hxF] at oF hB
    have hB:=Lib.hid hB
    have r0:=objAt_cell oF 0 rfl
    have r1:=objAt_cell oF 1 rfl
    have r2:=objAt_cell oF 2 rfl
    have r3:=objAt_cell oF 3 rfl
    clear hS s0 oF z0 e0 e1 e2 e3 f0 f1 f2 f3
    go_wp2_with fail
    rw[hxF]
    exact bodyPost_ret (v:=.tuple #[.agg #[.int .i64 v.s.rev,.slice aj v.s.jobs.length cj,.slice an v.s.nodes.length cn,.slice al v.s.leases.length cl],.int .i64 v.now,.int .i64 ((2:Nat):Int)]) (by simp[results,Tryz.results24,go_sem,r0,r1,r2,r3]) rfl ⟨v.s.jobs,v.s.nodes,v.s.leases,v.now,aj,an,al,cj,cn,cl,by rw[HRC.out],fun hz=>absurd (HRC.out.symm.trans hz) (by decide),hB.out⟩
   have t9:¬((100:Int)<jb.tries+1):=by have:=HTR.out;omega
   have HX:=Lib.hid hx
   clear hx htr
   obtain⟨l1,hl1⟩:∃l,putL (·.name) (triedJ jb) v.s.jobs=l:=⟨_,rfl⟩
   have C:=putJob_is v.s.jobs aj cj (by have:=HV.out.2.1;omega) HV.out.2.2.1.2 (triedJ jb) x6 (HMS.out x6 NX.out.2.2.2.2.2.1).1
   rw[hl1] at C
   have C:Hid (Calls Tryz.prog 56 #[.slice aj v.s.jobs.length cj,.agg #[.string jb.name,.int .i64 jb.prio,.int .i64 jb.need,.int .i64 (jb.tries+1),.string jb.tag],.func (.func 57) #[] #[]] x6 _):=C
   have HL1:=Lib.hid hl1
   clear hl1
   have y1':=objAt_cell NX.out.1 1 rfl
   have j0:=objAt_cell OJ.out 0 rfl
   have j1:=objAt_cell OJ.out 1 rfl
   have j2:=objAt_cell OJ.out 2 rfl
   have j4:=objAt_cell OJ.out 4 rfl
   go_wp2_with fail
   refine C.out.mono ?_
   clear C y1 y1' yl j0 j1 j2 j4 j3 k0' k1' k2' k3' k4' c11 cl' nk z3 zf zl
   rintro e x7 ⟨ad,cp,rfl,o,b⟩
   have OW:=Lib.hid (ownsRow_low (B':=H) o (nx_size NX.out))
   have NX:=Lib.hid (nx_next NX.out b)
   clear o b
   have m1:=objAt_cell NX.out.2.2.2.1 1 rfl
   have g1:=objAt_free NX.out.2.2.2.1 1
   have NZ:=nx_set NX.out 1 (.slice ad l1.length cp)
   have OW:=own_box OW.out NX.out.2.2.2.1 (by decide) 1 (.slice ad l1.length cp)
   obtain⟨x8,hx8⟩:∃X,x7.setCell ⟨N,1,none⟩ (.slice ad l1.length cp)=X:=⟨_,rfl⟩
   rw[hx8] at NZ OW
   have NX:Hid (NxAt H N K #[.int .i64 v.s.rev,.slice aj v.s.jobs.length cj,.slice an v.s.nodes.length cn,.slice al v.s.leases.length cl,.int .i64 v.now] #[.int .i64 q.kind,.string q.job.name,.int .i64 q.job.prio,.int .i64 q.job.need,.int .i64 q.job.tries,.string q.job.tag,.string q.node.name,.int .i64 q.node.room,.string q.node.zone,.string q.lease.job,.string q.lease.node,.int .i64 q.lease.til,.string q.name,.int .i64 q.n] #[.int .i64 v.s.rev,.slice ad l1.length cp,.slice an v.s.nodes.length cn,.slice al v.s.leases.length cl] v.now w x8):=NZ
   clear NZ
   have OW:=Lib.hid OW
   obtain⟨l2,hl2⟩:∃l,putL (·.job) q.lease v.s.leases=l:=⟨_,rfl⟩
   have C:=putLease_is v.s.leases al cl (by have:=HV.out.2.1;omega) HV.out.2.2.2.2.1.2 q.lease x8 (HMS.out x8 NX.out.2.2.2.2.2.1).2.2
   rw[hl2] at C
   have HL2:=Lib.hid hl2
   have C:=Lib.hid C
   clear hl2
   have y3:=objAt_cell NX.out.1 3 rfl
   have yl:=objAt_lt NX.out.1
   have c9:=objAt_cell NX.out.2.1 9 rfl
   have c10:=objAt_cell NX.out.2.1 10 rfl
   have c11:=objAt_cell NX.out.2.1 11 rfl
   go_wp2_with fail
   refine C.out.mono ?_
   clear C y3 yl c9 c10 c11
   rintro e x9 ⟨ad2,cp2,rfl,o,b⟩
   have OL:=Lib.hid (ownsRow_low (B':=H) o (nx_size NX.out))
   have NX:=Lib.hid (nx_next NX.out b)
   have OW:=Lib.hid (own_next OW.out b)
   clear o b
   have m3:=objAt_cell NX.out.2.2.2.1 3 rfl
   have g3:=objAt_free NX.out.2.2.2.1 3
   have NZ:=nx_set NX.out 3 (.slice ad2 l2.length cp2)
   have OW:=own_box OW.out NX.out.2.2.2.1 (by decide) 3 (.slice ad2 l2.length cp2)
   have OL:=own_box OL.out NX.out.2.2.2.1 (by decide) 3 (.slice ad2 l2.length cp2)
   obtain⟨xA,hxA⟩:∃X,x9.setCell ⟨N,3,none⟩ (.slice ad2 l2.length cp2)=X:=⟨_,rfl⟩
   rw[hxA] at NZ OW OL
   have NX:Hid (NxAt H N K #[.int .i64 v.s.rev,.slice aj v.s.jobs.length cj,.slice an v.s.nodes.length cn,.slice al v.s.leases.length cl,.int .i64 v.now] #[.int .i64 q.kind,.string q.job.name,.int .i64 q.job.prio,.int .i64 q.job.need,.int .i64 q.job.tries,.string q.job.tag,.string q.node.name,.int .i64 q.node.room,.string q.node.zone,.string q.lease.job,.string q.lease.node,.int .i64 q.lease.til,.string q.name,.int .i64 q.n] #[.int .i64 v.s.rev,.slice ad l1.length cp,.slice an v.s.nodes.length cn,.slice ad2 l2.length cp2] v.now w xA):=NZ
   clear NZ
   have OW:=Lib.hid OW
   have OL:=Lib.hid OL
   have hrr:runR V8 v.s v.now q=(⟨⟨v.s.rev,l1,v.s.nodes,l2⟩,v.now⟩,checkE V8 ⟨v.s.rev,l1,v.s.nodes,l2⟩):=by rw[runR_op HQE.out,opR_5 HK.out,if_pos (by rw[HH1.out,HH2.out];rfl),if_neg HH3.out,if_neg (by have:=HH4.out;omega),if_neg (by rw[HJO.out];exact HX.out)];unfold grantS;rw[HJO.out,HL1.out,HL2.out]
   have HCK:=fun(V:World) (h:((V.cell? ⟨N,0,none⟩=some (.int .i64 v.s.rev)∧V.cell? ⟨N,1,none⟩=some (.slice ad l1.length cp)∧V.cell? ⟨N,2,none⟩=some (.slice an v.s.nodes.length cn)∧V.cell? ⟨N,3,none⟩=some (.slice ad2 l2.length cp2)∧V.cell? ⟨K,0,none⟩=some (.int .i64 v.now))∧(V.frozen? ⟨H+1+1,0,none⟩=false∧V.frozen? ⟨H+1+1,1,none⟩=false∧V.frozen? ⟨H+1+1,2,none⟩=false∧V.frozen? ⟨H+1+1,3,none⟩=false)∧ObjAt N #[.int .i64 v.s.rev,.slice ad l1.length cp,.slice an v.s.nodes.length cn,.slice ad2 l2.length cp2] 26 V∧ObjAt K #[.int .i64 v.now] 3 V∧(∃us:Array Value,us.size=4∧ObjAt (H+1+1) us 26 V)∧Below H w V∧H≤V.heap.size∧NxRows H v.s aj an al cj cn cl l1 v.s.nodes l2 ad an ad2 cp cn cp2 V))=>rcheck_any v.s.rev ad an ad2 cp cn cp2 l1 v.s.nodes l2 V (nxRows_at h.2.2.2.2.2.2.2 (HMS.out V h.2.2.2.2.2.1)).1 (nxRows_at h.2.2.2.2.2.2.2 (HMS.out V h.2.2.2.2.2.1)).2.1 (nxRows_at h.2.2.2.2.2.2.2 (HMS.out V h.2.2.2.2.2.1)).2.2
   obtain⟨ce,hce⟩:∃c,checkE V8 ⟨v.s.rev,l1,v.s.nodes,l2⟩=c:=⟨_,rfl⟩
   rw[hce] at hrr
   simp only[hce] at HCK
   have HRC:=Lib.hid hrr
   have HCK:=Lib.hid HCK
   clear hrr hce
   obtain⟨p0,p1,p2,p3,p4,p5,p6⟩:=NX.out
   have s0:=nxR_all (s:=v.s) (aj:=aj) (an:=an) (al:=al) (cj:=cj) (cn:=cn) (cl:=cl) (V:=xA.drew) (objAt_drew p3) (objAt_drew p4) rfl (objAt_drew p2) p5.drew (show H≤xA.heap.size from nx_size NX.out) (nxRows_next ⟨Or.inr OW.out,Or.inl ⟨rfl,rfl,rfl⟩,Or.inr OL.out⟩ (Below.refl _ _).drew)
   have z0:=Lib.hid (objAt_drew p2)
   clear p0 p1 p2 p3 p4 p5 p6
   go_wp2_with fail
   go_region_held3 (fun w'=>((w'.cell? ⟨N,0,none⟩=some (.int .i64 v.s.rev)∧w'.cell? ⟨N,1,none⟩=some (.slice ad l1.length cp)∧w'.cell? ⟨N,2,none⟩=some (.slice an v.s.nodes.length cn)∧w'.cell? ⟨N,3,none⟩=some (.slice ad2 l2.length cp2)∧w'.cell? ⟨K,0,none⟩=some (.int .i64 v.now))∧(w'.frozen? ⟨H+1+1,0,none⟩=false∧w'.frozen? ⟨H+1+1,1,none⟩=false∧w'.frozen? ⟨H+1+1,2,none⟩=false∧w'.frozen? ⟨H+1+1,3,none⟩=false)∧ObjAt N #[.int .i64 v.s.rev,.slice ad l1.length cp,.slice an v.s.nodes.length cn,.slice ad2 l2.length cp2] 26 w'∧ObjAt K #[.int .i64 v.now] 3 w'∧(∃us:Array Value,us.size=4∧ObjAt (H+1+1) us 26 w')∧Below H w w'∧H≤w'.heap.size∧NxRows H v.s aj an al cj cn cl l1 v.s.nodes l2 ad an ad2 cp cn cp2 w')) (first | with_reducible assumption | with_reducible exact s0 | with_reducible exact nxR_put _ _ _ _ HNK.out (by with_reducible assumption))
    (first | (go_at_call 6;(with_reducible refine(HCK.out _ (by assumption)).mono ?_);rintro e xC ⟨rfl,b9⟩;have o9:=nxR_call b9 (by assumption);have z9:=Lib.hid (objAt_next z0.out b9);have e0:=objAt_cell z9.out 0 rfl;have e1:=objAt_cell z9.out 1 rfl;have e2:=objAt_cell z9.out 2 rfl;have e3:=objAt_cell z9.out 3 rfl))
   rename_i hS
   have hB:=And.intro hS.2.2.2.2.2.1 hS.2.2.2.2.2.2.2
   have oF:=obj_put4 z9.out (.int .i64 v.s.rev) (.slice ad l1.length cp) (.slice an v.s.nodes.length cn) (.slice ad2 l2.length cp2)
   obtain⟨xF,hxF⟩:∃X,(((xC.setCell ⟨H+1+1,0,none⟩ (.int .i64 v.s.rev)).setCell ⟨H+1+1,1,none⟩ (.slice ad l1.length cp)).setCell ⟨H+1+1,2,none⟩ (.slice an v.s.nodes.length cn)).setCell ⟨H+1+1,3,none⟩ (.slice ad2 l2.length cp2)=X:=⟨_,rfl⟩
   rw[hxF] at oF hB
   have hB:=Lib.hid hB
   have r0:=objAt_cell oF 0 rfl
   have r1:=objAt_cell oF 1 rfl
   have r2:=objAt_cell oF 2 rfl
   have r3:=objAt_cell oF 3 rfl
   clear hS s0 oF z0 o9 z9 e0 e1 e2 e3
   go_wp2_with fail
   rw[hxF]
   exact bodyPost_ret (v:=.tuple #[.agg #[.int .i64 v.s.rev,.slice ad l1.length cp,.slice an v.s.nodes.length cn,.slice ad2 l2.length cp2],.int .i64 v.now,.int .i64 (ce:Int)]) (by simp[results,Tryz.results24,go_sem,r0,r1,r2,r3]) rfl ⟨l1,v.s.nodes,l2,v.now,ad,an,ad2,cp,cn,cp2,by rw[HRC.out],fun _=>⟨by rw[HRC.out],hB.out.2⟩,hB.out.1⟩
  have d5:(q.kind==5)=false:=by simpa using h5
  have HK5:=Lib.hid h5
  clear h5
  by_cases h6:q.kind=6
  case pos =>
   have d6:(q.kind==6)=true:=by simpa using h6
   have HK:=Lib.hid h6
   clear h6
   have C:=Lib.hid (leaseAt_is v.s.leases al cl (by have:=HV.out.2.1;omega) q.name x1 (HMS.out x1 NX.out.2.2.2.2.2.1).2.2)
   have y3:=objAt_cell NX.out.1 3 rfl
   have yl:=objAt_lt NX.out.1
   have c12:=objAt_cell NX.out.2.1 12 rfl
   have cl':=objAt_lt NX.out.2.1
   go_wp2_with fail
   refine C.out.mono ?_
   clear C y3 yl c12 cl'
   rintro e x2 ⟨r,rfl,hr,b⟩
   have NX:=Lib.hid (nx_next NX.out b)
   have HR:=Lib.hid hr
   clear hr b
   by_cases hh:hasLease v.s.leases q.name=true
   case neg =>
    have r0:r<0:=nxAtNo HR.out (nxNoLease (by simpa using hh))
    have HRC:Hid ((runR V8 v.s v.now q).2=6):=by show _=_;rw[runR_op HQE.out,opR_6 HK.out,if_neg hh]
    obtain⟨p0,p1,p2,p3,p4,p5,p6⟩:=NX.out
    have s1:=nxR_all (s:=v.s) (aj:=aj) (an:=an) (al:=al) (cj:=cj) (cn:=cn) (cl:=cl) (V:=x2) p3 p4 rfl p2 p5 (nx_size NX.out) ⟨Or.inl ⟨rfl,rfl,rfl⟩,Or.inl ⟨rfl,rfl,rfl⟩,Or.inl ⟨rfl,rfl,rfl⟩⟩
    have s0:=nxR_call (V':=x2.drew) (Below.refl _ _).drew s1
    have S1:=Lib.hid s1
    have z0:=Lib.hid (objAt_drew p2)
    have e0:=objAt_cell p2 0 rfl
    have e1:=objAt_cell p2 1 rfl
    have e2:=objAt_cell p2 2 rfl
    have e3:=objAt_cell p2 3 rfl
    have f0:=objAt_free p2 0
    have f1:=objAt_free p2 1
    have f2:=objAt_free p2 2
    have f3:=objAt_free p2 3
    have zz:=Lib.hid p2
    clear s1 p0 p1 p2 p3 p4 p5 p6
    go_wp2_with fail
    go_region_held3 (fun w'=>((w'.cell? ⟨N,0,none⟩=some (.int .i64 v.s.rev)∧w'.cell? ⟨N,1,none⟩=some (.slice aj v.s.jobs.length cj)∧w'.cell? ⟨N,2,none⟩=some (.slice an v.s.nodes.length cn)∧w'.cell? ⟨N,3,none⟩=some (.slice al v.s.leases.length cl)∧w'.cell? ⟨K,0,none⟩=some (.int .i64 v.now))∧(w'.frozen? ⟨H+1+1,0,none⟩=false∧w'.frozen? ⟨H+1+1,1,none⟩=false∧w'.frozen? ⟨H+1+1,2,none⟩=false∧w'.frozen? ⟨H+1+1,3,none⟩=false)∧ObjAt N #[.int .i64 v.s.rev,.slice aj v.s.jobs.length cj,.slice an v.s.nodes.length cn,.slice al v.s.leases.length cl] 26 w'∧ObjAt K #[.int .i64 v.now] 3 w'∧(∃us:Array Value,us.size=4∧ObjAt (H+1+1) us 26 w')∧Below H w w'∧H≤w'.heap.size∧NxRows H v.s aj an al cj cn cl v.s.jobs v.s.nodes v.s.leases aj an al cj cn cl w')) (first | with_reducible assumption | with_reducible exact s0 | with_reducible exact nxR_putd _ _ _ _ HNK.out S1.out) (fail)
    rename_i hS
    have hB:=hS.2.2.2.2.2.1
    have oF:=obj_put4 zz.out (.int .i64 v.s.rev) (.slice aj v.s.jobs.length cj) (.slice an v.s.nodes.length cn) (.slice al v.s.leases.length cl)
    obtain⟨xF,hxF⟩:∃X,(((x2.setCell ⟨H+1+1,0,none⟩ (.int .i64 v.s.rev)).setCell ⟨H+1+1,1,none⟩ (.slice aj v.s.jobs.length cj)).setCell ⟨H+1+1,2,none⟩ (.slice an v.s.nodes.length cn)).setCell ⟨H+1+1,3,none⟩ (.slice al v.s.leases.length cl)=X:=⟨_,rfl⟩
    rw[hxF] at oF hB
    have hB:=Lib.hid hB
    have r0:=objAt_cell oF 0 rfl
    have r1:=objAt_cell oF 1 rfl
    have r2:=objAt_cell oF 2 rfl
    have r3:=objAt_cell oF 3 rfl
    clear hS s0 oF z0 e0 e1 e2 e3 f0 f1 f2 f3
    go_wp2_with fail
    rw[hxF]
    exact bodyPost_ret (v:=.tuple #[.agg #[.int .i64 v.s.rev,.slice aj v.s.jobs.length cj,.slice an v.s.nodes.length cn,.slice al v.s.leases.length cl],.int .i64 v.now,.int .i64 ((6:Nat):Int)]) (by simp[results,Tryz.results24,go_sem,r0,r1,r2,r3]) rfl ⟨v.s.jobs,v.s.nodes,v.s.leases,v.now,aj,an,al,cj,cn,cl,by rw[HRC.out],fun hz=>absurd (HRC.out.symm.trans hz) (by decide),hB.out⟩
   obtain⟨i,hi,rfl,_⟩:=nxAtYes HR.out ((hasLease_iff _ _).1 hh)
   have r0:¬((i:Int)<0):=by omega
   obtain⟨l2,hl2⟩:∃l,(v.s.leases.filter fun x => !decide (x.job=q.name))=l:=⟨_,rfl⟩
   have C:=nxLeases_is 69 #[.pointer (some ⟨H+1,0,none⟩)] (fun _ _=>rfl) (fun x=>decide (x.job=q.name)) v.s.leases al cl (by have:=HV.out.2.1;omega) H N _ _ _ _ _ _ _ _ x2 (fun x W hb=>nxBy6_is x q (H+1) W (objAt_next NX.out.2.1 hb)) (HMS.out x2 NX.out.2.2.2.2.2.1).2.2 NX.out.1 NX.out.2.2.2.1
   simp only[hl2] at C
   have HL2:=Lib.hid hl2
   have C:=Lib.hid C
   clear hl2
   go_wp2_with fail
   refine C.out.mono ?_
   clear C
   rintro e x5 ⟨WL,adl,cpl,rfl,o,b,hw⟩
   have OL:=Lib.hid (ownsRow_low (B':=H) o (nx_size NX.out))
   have NX:=Lib.hid (nx_next NX.out b)
   clear o b
   have NZ:=nx_set NX.out 3 (.slice adl l2.length cpl)
   have OL:=own_box OL.out NX.out.2.2.2.1 (by decide) 3 (.slice adl l2.length cpl)
   rw[←hw] at NZ OL
   have NX:Hid (NxAt H N K #[.int .i64 v.s.rev,.slice aj v.s.jobs.length cj,.slice an v.s.nodes.length cn,.slice al v.s.leases.length cl,.int .i64 v.now] #[.int .i64 q.kind,.string q.job.name,.int .i64 q.job.prio,.int .i64 q.job.need,.int .i64 q.job.tries,.string q.job.tag,.string q.node.name,.int .i64 q.node.room,.string q.node.zone,.string q.lease.job,.string q.lease.node,.int .i64 q.lease.til,.string q.name,.int .i64 q.n] #[.int .i64 v.s.rev,.slice aj v.s.jobs.length cj,.slice an v.s.nodes.length cn,.slice adl l2.length cpl] v.now w x5):=NZ
   clear NZ hw
   have OL:=Lib.hid OL
   have hrr:runR V8 v.s v.now q=(⟨⟨v.s.rev,v.s.jobs,v.s.nodes,l2⟩,v.now⟩,checkE V8 ⟨v.s.rev,v.s.jobs,v.s.nodes,l2⟩):=by rw[runR_op HQE.out,opR_6 HK.out,if_pos hh,show checkE V8 ⟨v.s.rev,v.s.jobs,v.s.nodes,l2⟩=0 from by rw[←HL2.out];exact(check_zero V8 _).2 (valid_free HV.out q.name),←HL2.out];rfl
   have HCK:=fun(V:World) (h:((V.cell? ⟨N,0,none⟩=some (.int .i64 v.s.rev)∧V.cell? ⟨N,1,none⟩=some (.slice aj v.s.jobs.length cj)∧V.cell? ⟨N,2,none⟩=some (.slice an v.s.nodes.length cn)∧V.cell? ⟨N,3,none⟩=some (.slice adl l2.length cpl)∧V.cell? ⟨K,0,none⟩=some (.int .i64 v.now))∧(V.frozen? ⟨H+1+1,0,none⟩=false∧V.frozen? ⟨H+1+1,1,none⟩=false∧V.frozen? ⟨H+1+1,2,none⟩=false∧V.frozen? ⟨H+1+1,3,none⟩=false)∧ObjAt N #[.int .i64 v.s.rev,.slice aj v.s.jobs.length cj,.slice an v.s.nodes.length cn,.slice adl l2.length cpl] 26 V∧ObjAt K #[.int .i64 v.now] 3 V∧(∃us:Array Value,us.size=4∧ObjAt (H+1+1) us 26 V)∧Below H w V∧H≤V.heap.size∧NxRows H v.s aj an al cj cn cl v.s.jobs v.s.nodes l2 aj an adl cj cn cpl V))=>rcheck_any v.s.rev aj an adl cj cn cpl v.s.jobs v.s.nodes l2 V (nxRows_at h.2.2.2.2.2.2.2 (HMS.out V h.2.2.2.2.2.1)).1 (nxRows_at h.2.2.2.2.2.2.2 (HMS.out V h.2.2.2.2.2.1)).2.1 (nxRows_at h.2.2.2.2.2.2.2 (HMS.out V h.2.2.2.2.2.1)).2.2
   obtain⟨ce,hce⟩:∃c,checkE V8 ⟨v.s.rev,v.s.jobs,v.s.nodes,l2⟩=c:=⟨_,rfl⟩
   rw[hce] at hrr
   simp only[hce] at HCK
   have HRC:=Lib.hid hrr
   have HCK:=Lib.hid HCK
   clear hrr hce
   obtain⟨p0,p1,p2,p3,p4,p5,p6⟩:=NX.out
   have s0:=nxR_all (s:=v.s) (aj:=aj) (an:=an) (al:=al) (cj:=cj) (cn:=cn) (cl:=cl) (V:=x5.drew) (objAt_drew p3) (objAt_drew p4) rfl (objAt_drew p2) p5.drew (show H≤x5.heap.size from nx_size NX.out) (nxRows_next ⟨Or.inl ⟨rfl,rfl,rfl⟩,Or.inl ⟨rfl,rfl,rfl⟩,Or.inr OL.out⟩ (Below.refl _ _).drew)
   have z0:=Lib.hid (objAt_drew p2)
   clear p0 p1 p2 p3 p4 p5 p6
   go_wp2_with fail
   go_region_held3 (fun w'=>((w'.cell? ⟨N,0,none⟩=some (.int .i64 v.s.rev)∧w'.cell? ⟨N,1,none⟩=some (.slice aj v.s.jobs.length cj)∧w'.cell? ⟨N,2,none⟩=some (.slice an v.s.nodes.length cn)∧w'.cell? ⟨N,3,none⟩=some (.slice adl l2.length cpl)∧w'.cell? ⟨K,0,none⟩=some (.int .i64 v.now))∧(w'.frozen? ⟨H+1+1,0,none⟩=false∧w'.frozen? ⟨H+1+1,1,none⟩=false∧w'.frozen? ⟨H+1+1,2,none⟩=false∧w'.frozen? ⟨H+1+1,3,none⟩=false)∧ObjAt N #[.int .i64 v.s.rev,.slice aj v.s.jobs.length cj,.slice an v.s.nodes.length cn,.slice adl l2.length cpl] 26 w'∧ObjAt K #[.int .i64 v.now] 3 w'∧(∃us:Array Value,us.size=4∧ObjAt (H+1+1) us 26 w')∧Below H w w'∧H≤w'.heap.size∧NxRows H v.s aj an al cj cn cl v.s.jobs v.s.nodes l2 aj an adl cj cn cpl w')) (first | with_reducible assumption | with_reducible exact s0 | with_reducible exact nxR_put _ _ _ _ HNK.out (by with_reducible assumption))
    (first | (go_at_call 6;(with_reducible refine(HCK.out _ (by assumption)).mono ?_);rintro e xC ⟨rfl,b9⟩;have o9:=nxR_call b9 (by assumption);have z9:=Lib.hid (objAt_next z0.out b9);have e0:=objAt_cell z9.out 0 rfl;have e1:=objAt_cell z9.out 1 rfl;have e2:=objAt_cell z9.out 2 rfl;have e3:=objAt_cell z9.out 3 rfl))
   rename_i hS
   have hB:=And.intro hS.2.2.2.2.2.1 hS.2.2.2.2.2.2.2
   have oF:=obj_put4 z9.out (.int .i64 v.s.rev) (.slice aj v.s.jobs.length cj) (.slice an v.s.nodes.length cn) (.slice adl l2.length cpl)
   obtain⟨xF,hxF⟩:∃X,(((xC.setCell ⟨H+1+1,0,none⟩ (.int .i64 v.s.rev)).setCell ⟨H+1+1,1,none⟩ (.slice aj v.s.jobs.length cj)).setCell ⟨H+1+1,2,none⟩ (.slice an v.s.nodes.length cn)).setCell ⟨H+1+1,3,none⟩ (.slice adl l2.length cpl)=X:=⟨_,rfl⟩
   rw[hxF] at oF hB
   have hB:=Lib.hid hB
   have r0:=objAt_cell oF 0 rfl
   have r1:=objAt_cell oF 1 rfl
   have r2:=objAt_cell oF 2 rfl
   have r3:=objAt_cell oF 3 rfl
   clear hS s0 oF z0 o9 z9 e0 e1 e2 e3
   go_wp2_with fail
   rw[hxF]
   exact bodyPost_ret (v:=.tuple #[.agg #[.int .i64 v.s.rev,.slice aj v.s.jobs.length cj,.slice an v.s.nodes.length cn,.slice adl l2.length cpl],.int .i64 v.now,.int .i64 (ce:Int)]) (by simp[results,Tryz.results24,go_sem,r0,r1,r2,r3]) rfl ⟨v.s.jobs,v.s.nodes,l2,v.now,aj,an,adl,cj,cn,cpl,by rw[HRC.out],fun _=>⟨by rw[HRC.out],hB.out.2⟩,hB.out.1⟩
  have d6:(q.kind==6)=false:=by simpa using h6
  have HK6:=Lib.hid h6
  clear h6
  by_cases h7:q.kind=7
  case pos =>
   have d7:(q.kind==7)=true:=by simpa using h7
   have HK:=Lib.hid h7
   clear h7
   have hqn:=((qcheck_zero V8 q).1 HQE.out).2.2
   unfold partE at hqn
   rw[if_neg (by have:=HK.out;omega),if_neg (by have:=HK.out;omega),if_neg (by have:=HK.out;omega),if_pos HK.out] at hqn
   have hn7:0≤q.n∧q.n≤1099511627776:=by
    by_cases z:inR q.n 0 1099511627776=true
    ·exact(inR_iff _ _ _).1 z
    ·rw[if_neg z] at hqn;simp at hqn
   have hwr:IntKind.i64.wrap (v.now+q.n)=v.now+q.n:=IntWalk.i64_in _ (by have:=HNW.out;omega)
   clear hqn hn7
   have nk:=objAt_cell NX.out.2.2.2.2.1 0 rfl
   have nf:=objAt_free NX.out.2.2.2.2.1 0
   have nl:=objAt_lt NX.out.2.2.2.2.1
   have c13:=objAt_cell NX.out.2.1 13 rfl
   have NZ:=nx_now (v.now+q.n) NX.out
   obtain⟨x2,hx2⟩:∃X,x1.setCell ⟨K,0,none⟩ (.int .i64 (v.now+q.n))=X:=⟨_,rfl⟩
   rw[hx2] at NZ
   have NX:=Lib.hid NZ
   have nk2:=objAt_cell NX.out.2.2.2.2.1 0 rfl
   clear NZ
   by_cases ht:1099511627776<v.now+q.n
   case pos =>
    have HRC:Hid ((runR V8 v.s v.now q).2=1):=by show _=_;rw[runR_op HQE.out,opR_7 HK.out,if_pos ht]
    obtain⟨p0,p1,p2,p3,p4,p5,p6⟩:=NX.out
    have s1:=nxR_all (s:=v.s) (aj:=aj) (an:=an) (al:=al) (cj:=cj) (cn:=cn) (cl:=cl) (V:=x2) p3 p4 rfl p2 p5 (nx_size NX.out) ⟨Or.inl ⟨rfl,rfl,rfl⟩,Or.inl ⟨rfl,rfl,rfl⟩,Or.inl ⟨rfl,rfl,rfl⟩⟩
    have s0:=nxR_call (V':=x2.drew) (Below.refl _ _).drew s1
    have S1:=Lib.hid s1
    have z0:=Lib.hid (objAt_drew p2)
    have e0:=objAt_cell p2 0 rfl
    have e1:=objAt_cell p2 1 rfl
    have e2:=objAt_cell p2 2 rfl
    have e3:=objAt_cell p2 3 rfl
    have f0:=objAt_free p2 0
    have f1:=objAt_free p2 1
    have f2:=objAt_free p2 2
    have f3:=objAt_free p2 3
    have zz:=Lib.hid p2
    clear s1 p0 p1 p2 p3 p4 p5 p6
    go_wp2_with fail
    go_region_held3 (fun w'=>((w'.cell? ⟨N,0,none⟩=some (.int .i64 v.s.rev)∧w'.cell? ⟨N,1,none⟩=some (.slice aj v.s.jobs.length cj)∧w'.cell? ⟨N,2,none⟩=some (.slice an v.s.nodes.length cn)∧w'.cell? ⟨N,3,none⟩=some (.slice al v.s.leases.length cl)∧w'.cell? ⟨K,0,none⟩=some (.int .i64 (v.now+q.n)))∧(w'.frozen? ⟨H+1+1,0,none⟩=false∧w'.frozen? ⟨H+1+1,1,none⟩=false∧w'.frozen? ⟨H+1+1,2,none⟩=false∧w'.frozen? ⟨H+1+1,3,none⟩=false)∧ObjAt N #[.int .i64 v.s.rev,.slice aj v.s.jobs.length cj,.slice an v.s.nodes.length cn,.slice al v.s.leases.length cl] 26 w'∧ObjAt K #[.int .i64 (v.now+q.n)] 3 w'∧(∃us:Array Value,us.size=4∧ObjAt (H+1+1) us 26 w')∧Below H w w'∧H≤w'.heap.size∧NxRows H v.s aj an al cj cn cl v.s.jobs v.s.nodes v.s.leases aj an al cj cn cl w')) (first | with_reducible assumption | with_reducible exact s0 | with_reducible exact nxR_putd _ _ _ _ HNK.out S1.out) (fail)
    rename_i hS
    have hB:=hS.2.2.2.2.2.1
    have oF:=obj_put4 zz.out (.int .i64 v.s.rev) (.slice aj v.s.jobs.length cj) (.slice an v.s.nodes.length cn) (.slice al v.s.leases.length cl)
    obtain⟨xF,hxF⟩:∃X,(((x2.setCell ⟨H+1+1,0,none⟩ (.int .i64 v.s.rev)).setCell ⟨H+1+1,1,none⟩ (.slice aj v.s.jobs.length cj)).setCell ⟨H+1+1,2,none⟩ (.slice an v.s.nodes.length cn)).setCell ⟨H+1+1,3,none⟩ (.slice al v.s.leases.length cl)=X:=⟨_,rfl⟩
    rw[hxF] at oF hB
    have hB:=Lib.hid hB
    have r0:=objAt_cell oF 0 rfl
    have r1:=objAt_cell oF 1 rfl
    have r2:=objAt_cell oF 2 rfl
    have r3:=objAt_cell oF 3 rfl
    clear hS s0 oF z0 e0 e1 e2 e3 f0 f1 f2 f3
    go_wp2_with fail
    rw[hxF]
    exact bodyPost_ret (v:=.tuple #[.agg #[.int .i64 v.s.rev,.slice aj v.s.jobs.length cj,.slice an v.s.nodes.length cn,.slice al v.s.leases.length cl],.int .i64 (v.now+q.n),.int .i64 ((1:Nat):Int)]) (by simp[results,Tryz.results24,go_sem,r0,r1,r2,r3]) rfl ⟨v.s.jobs,v.s.nodes,v.s.leases,(v.now+q.n),aj,an,al,cj,cn,cl,by rw[HRC.out],fun hz=>absurd (HRC.out.symm.trans hz) (by decide),hB.out⟩
   have HT7:=Lib.hid ht
   obtain⟨l2,hl2⟩:∃l,(v.s.leases.filter fun x => !decide (x.til≤v.now+q.n))=l:=⟨_,rfl⟩
   have C:=nxLeases_is 70 #[.pointer (some ⟨K,0,none⟩)] (fun _ _=>rfl) (fun x=>decide (x.til≤v.now+q.n)) v.s.leases al cl (by have:=HV.out.2.1;omega) H N _ _ _ _ _ _ _ _ x2 (fun x W hb=>nxBy7_is x (v.now+q.n) K W (objAt_next NX.out.2.2.2.2.1 hb)) (HMS.out x2 NX.out.2.2.2.2.2.1).2.2 NX.out.1 NX.out.2.2.2.1
   simp only[hl2] at C
   have HL2:=Lib.hid hl2
   have C:=Lib.hid C
   clear hl2
   go_wp2_with fail
   refine C.out.mono ?_
   clear C
   rintro e x5 ⟨WL,adl,cpl,rfl,o,b,hw⟩
   have OL:=Lib.hid (ownsRow_low (B':=H) o (nx_size NX.out))
   have NX:=Lib.hid (nx_next NX.out b)
   clear o b
   have NZ:=nx_set NX.out 3 (.slice adl l2.length cpl)
   have OL:=own_box OL.out NX.out.2.2.2.1 (by decide) 3 (.slice adl l2.length cpl)
   rw[←hw] at NZ OL
   have NX:Hid (NxAt H N K #[.int .i64 v.s.rev,.slice aj v.s.jobs.length cj,.slice an v.s.nodes.length cn,.slice al v.s.leases.length cl,.int .i64 v.now] #[.int .i64 q.kind,.string q.job.name,.int .i64 q.job.prio,.int .i64 q.job.need,.int .i64 q.job.tries,.string q.job.tag,.string q.node.name,.int .i64 q.node.room,.string q.node.zone,.string q.lease.job,.string q.lease.node,.int .i64 q.lease.til,.string q.name,.int .i64 q.n] #[.int .i64 v.s.rev,.slice aj v.s.jobs.length cj,.slice an v.s.nodes.length cn,.slice adl l2.length cpl] (v.now+q.n) w x5):=NZ
   clear NZ hw
   have OL:=Lib.hid OL
   have hrr:runR V8 v.s v.now q=(⟨⟨v.s.rev,v.s.jobs,v.s.nodes,l2⟩,(v.now+q.n)⟩,checkE V8 ⟨v.s.rev,v.s.jobs,v.s.nodes,l2⟩):=by rw[runR_op HQE.out,opR_7 HK.out,if_neg (by have:=HT7.out;omega),show checkE V8 ⟨v.s.rev,v.s.jobs,v.s.nodes,l2⟩=0 from by rw[←HL2.out];exact(check_zero V8 _).2 (valid_tick HV.out (v.now+q.n)),←HL2.out];rfl
   have HCK:=fun(V:World) (h:((V.cell? ⟨N,0,none⟩=some (.int .i64 v.s.rev)∧V.cell? ⟨N,1,none⟩=some (.slice aj v.s.jobs.length cj)∧V.cell? ⟨N,2,none⟩=some (.slice an v.s.nodes.length cn)∧V.cell? ⟨N,3,none⟩=some (.slice adl l2.length cpl)∧V.cell? ⟨K,0,none⟩=some (.int .i64 (v.now+q.n)))∧(V.frozen? ⟨H+1+1,0,none⟩=false∧V.frozen? ⟨H+1+1,1,none⟩=false∧V.frozen? ⟨H+1+1,2,none⟩=false∧V.frozen? ⟨H+1+1,3,none⟩=false)∧ObjAt N #[.int .i64 v.s.rev,.slice aj v.s.jobs.length cj,.slice an v.s.nodes.length cn,.slice adl l2.length cpl] 26 V∧ObjAt K #[.int .i64 (v.now+q.n)] 3 V∧(∃us:Array Value,us.size=4∧ObjAt (H+1+1) us 26 V)∧Below H w V∧H≤V.heap.size∧NxRows H v.s aj an al cj cn cl v.s.jobs v.s.nodes l2 aj an adl cj cn cpl V))=>rcheck_any v.s.rev aj an adl cj cn cpl v.s.jobs v.s.nodes l2 V (nxRows_at h.2.2.2.2.2.2.2 (HMS.out V h.2.2.2.2.2.1)).1 (nxRows_at h.2.2.2.2.2.2.2 (HMS.out V h.2.2.2.2.2.1)).2.1 (nxRows_at h.2.2.2.2.2.2.2 (HMS.out V h.2.2.2.2.2.1)).2.2
   obtain⟨ce,hce⟩:∃c,checkE V8 ⟨v.s.rev,v.s.jobs,v.s.nodes,l2⟩=c:=⟨_,rfl⟩
   rw[hce] at hrr
   simp only[hce] at HCK
   have HRC:=Lib.hid hrr
   have HCK:=Lib.hid HCK
   clear hrr hce
   obtain⟨p0,p1,p2,p3,p4,p5,p6⟩:=NX.out
   have s0:=nxR_all (s:=v.s) (aj:=aj) (an:=an) (al:=al) (cj:=cj) (cn:=cn) (cl:=cl) (V:=x5.drew) (objAt_drew p3) (objAt_drew p4) rfl (objAt_drew p2) p5.drew (show H≤x5.heap.size from nx_size NX.out) (nxRows_next ⟨Or.inl ⟨rfl,rfl,rfl⟩,Or.inl ⟨rfl,rfl,rfl⟩,Or.inr OL.out⟩ (Below.refl _ _).drew)
   have z0:=Lib.hid (objAt_drew p2)
   clear p0 p1 p2 p3 p4 p5 p6 nk nf nl c13 nk2 ht
   go_wp2_with fail
   go_region_held3 (fun w'=>((w'.cell? ⟨N,0,none⟩=some (.int .i64 v.s.rev)∧w'.cell? ⟨N,1,none⟩=some (.slice aj v.s.jobs.length cj)∧w'.cell? ⟨N,2,none⟩=some (.slice an v.s.nodes.length cn)∧w'.cell? ⟨N,3,none⟩=some (.slice adl l2.length cpl)∧w'.cell? ⟨K,0,none⟩=some (.int .i64 (v.now+q.n)))∧(w'.frozen? ⟨H+1+1,0,none⟩=false∧w'.frozen? ⟨H+1+1,1,none⟩=false∧w'.frozen? ⟨H+1+1,2,none⟩=false∧w'.frozen? ⟨H+1+1,3,none⟩=false)∧ObjAt N #[.int .i64 v.s.rev,.slice aj v.s.jobs.length cj,.slice an v.s.nodes.length cn,.slice adl l2.length cpl] 26 w'∧ObjAt K #[.int .i64 (v.now+q.n)] 3 w'∧(∃us:Array Value,us.size=4∧ObjAt (H+1+1) us 26 w')∧Below H w w'∧H≤w'.heap.size∧NxRows H v.s aj an al cj cn cl v.s.jobs v.s.nodes l2 aj an adl cj cn cpl w')) (first | with_reducible assumption | with_reducible exact s0 | with_reducible exact nxR_put _ _ _ _ HNK.out (by with_reducible assumption))
    (first | (go_at_call 6;(with_reducible refine(HCK.out _ (by assumption)).mono ?_);rintro e xC ⟨rfl,b9⟩;have o9:=nxR_call b9 (by assumption);have z9:=Lib.hid (objAt_next z0.out b9);have e0:=objAt_cell z9.out 0 rfl;have e1:=objAt_cell z9.out 1 rfl;have e2:=objAt_cell z9.out 2 rfl;have e3:=objAt_cell z9.out 3 rfl))
   rename_i hS
   have hB:=And.intro hS.2.2.2.2.2.1 hS.2.2.2.2.2.2.2
   have oF:=obj_put4 z9.out (.int .i64 v.s.rev) (.slice aj v.s.jobs.length cj) (.slice an v.s.nodes.length cn) (.slice adl l2.length cpl)
   obtain⟨xF,hxF⟩:∃X,(((xC.setCell ⟨H+1+1,0,none⟩ (.int .i64 v.s.rev)).setCell ⟨H+1+1,1,none⟩ (.slice aj v.s.jobs.length cj)).setCell ⟨H+1+1,2,none⟩ (.slice an v.s.nodes.length cn)).setCell ⟨H+1+1,3,none⟩ (.slice adl l2.length cpl)=X:=⟨_,rfl⟩
   rw[hxF] at oF hB
   have hB:=Lib.hid hB
   have r0:=objAt_cell oF 0 rfl
   have r1:=objAt_cell oF 1 rfl
   have r2:=objAt_cell oF 2 rfl
   have r3:=objAt_cell oF 3 rfl
   clear hS s0 oF z0 o9 z9 e0 e1 e2 e3
   go_wp2_with fail
   rw[hxF]
   exact bodyPost_ret (v:=.tuple #[.agg #[.int .i64 v.s.rev,.slice aj v.s.jobs.length cj,.slice an v.s.nodes.length cn,.slice adl l2.length cpl],.int .i64 (v.now+q.n),.int .i64 (ce:Int)]) (by simp[results,Tryz.results24,go_sem,r0,r1,r2,r3]) rfl ⟨v.s.jobs,v.s.nodes,l2,(v.now+q.n),aj,an,adl,cj,cn,cpl,by rw[HRC.out],fun _=>⟨by rw[HRC.out],hB.out.2⟩,hB.out.1⟩
  have d7:(q.kind==7)=false:=by simpa using h7
  have HK7:=Lib.hid h7
  clear h7
  have hk8:8≤q.kind:=by have:=((qcheck_zero V8 q).1 HQE.out).1;have:=HK1.out;have:=HK2.out;have:=HK3.out;have:=HK4.out;have:=HK5.out;have:=HK6.out;have:=HK7.out;omega
  have HK8:=Lib.hid hk8
  clear hk8
  have hrr:runR V8 v.s v.now q=(⟨⟨v.s.rev,v.s.jobs,v.s.nodes,v.s.leases⟩,v.now⟩,checkE V8 ⟨v.s.rev,v.s.jobs,v.s.nodes,v.s.leases⟩):=by rw[runR_op HQE.out,opR_8 HK8.out,show checkE V8 ⟨v.s.rev,v.s.jobs,v.s.nodes,v.s.leases⟩=0 from(check_zero V8 _).2 HV.out]
  have HCK:=fun(V:World) (h:((V.cell? ⟨N,0,none⟩=some (.int .i64 v.s.rev)∧V.cell? ⟨N,1,none⟩=some (.slice aj v.s.jobs.length cj)∧V.cell? ⟨N,2,none⟩=some (.slice an v.s.nodes.length cn)∧V.cell? ⟨N,3,none⟩=some (.slice al v.s.leases.length cl)∧V.cell? ⟨K,0,none⟩=some (.int .i64 v.now))∧(V.frozen? ⟨H+1+1,0,none⟩=false∧V.frozen? ⟨H+1+1,1,none⟩=false∧V.frozen? ⟨H+1+1,2,none⟩=false∧V.frozen? ⟨H+1+1,3,none⟩=false)∧ObjAt N #[.int .i64 v.s.rev,.slice aj v.s.jobs.length cj,.slice an v.s.nodes.length cn,.slice al v.s.leases.length cl] 26 V∧ObjAt K #[.int .i64 v.now] 3 V∧(∃us:Array Value,us.size=4∧ObjAt (H+1+1) us 26 V)∧Below H w V∧H≤V.heap.size∧NxRows H v.s aj an al cj cn cl v.s.jobs v.s.nodes v.s.leases aj an al cj cn cl V))=>rcheck_any v.s.rev aj an al cj cn cl v.s.jobs v.s.nodes v.s.leases V (nxRows_at h.2.2.2.2.2.2.2 (HMS.out V h.2.2.2.2.2.1)).1 (nxRows_at h.2.2.2.2.2.2.2 (HMS.out V h.2.2.2.2.2.1)).2.1 (nxRows_at h.2.2.2.2.2.2.2 (HMS.out V h.2.2.2.2.2.1)).2.2
  obtain⟨ce,hce⟩:∃c,checkE V8 ⟨v.s.rev,v.s.jobs,v.s.nodes,v.s.leases⟩=c:=⟨_,rfl⟩
  rw[hce] at hrr
  simp only[hce] at HCK
  have HRC:=Lib.hid hrr
  have HCK:=Lib.hid HCK
  clear hrr hce
  obtain⟨p0,p1,p2,p3,p4,p5,p6⟩:=NX.out
  have s0:=nxR_all (s:=v.s) (aj:=aj) (an:=an) (al:=al) (cj:=cj) (cn:=cn) (cl:=cl) (V:=x1.drew) (objAt_drew p3) (objAt_drew p4) rfl (objAt_drew p2) p5.drew (show H≤x1.heap.size from nx_size NX.out) (nxRows_next ⟨Or.inl ⟨rfl,rfl,rfl⟩,Or.inl ⟨rfl,rfl,rfl⟩,Or.inl ⟨rfl,rfl,rfl⟩⟩ (Below.refl _ _).drew)
  have z0:=Lib.hid (objAt_drew p2)
  clear p0 p1 p2 p3 p4 p5 p6
  go_wp2_with fail
  go_region_held3 (fun w'=>((w'.cell? ⟨N,0,none⟩=some (.int .i64 v.s.rev)∧w'.cell? ⟨N,1,none⟩=some (.slice aj v.s.jobs.length cj)∧w'.cell? ⟨N,2,none⟩=some (.slice an v.s.nodes.length cn)∧w'.cell? ⟨N,3,none⟩=some (.slice al v.s.leases.length cl)∧w'.cell? ⟨K,0,none⟩=some (.int .i64 v.now))∧(w'.frozen? ⟨H+1+1,0,none⟩=false∧w'.frozen? ⟨H+1+1,1,none⟩=false∧w'.frozen? ⟨H+1+1,2,none⟩=false∧w'.frozen? ⟨H+1+1,3,none⟩=false)∧ObjAt N #[.int .i64 v.s.rev,.slice aj v.s.jobs.length cj,.slice an v.s.nodes.length cn,.slice al v.s.leases.length cl] 26 w'∧ObjAt K #[.int .i64 v.now] 3 w'∧(∃us:Array Value,us.size=4∧ObjAt (H+1+1) us 26 w')∧Below H w w'∧H≤w'.heap.size∧NxRows H v.s aj an al cj cn cl v.s.jobs v.s.nodes v.s.leases aj an al cj cn cl w')) (first | with_reducible assumption | with_reducible exact s0 | with_reducible exact nxR_put _ _ _ _ HNK.out (by with_reducible assumption))
   (first | (go_at_call 6;(with_reducible refine(HCK.out _ (by assumption)).mono ?_);rintro e xC ⟨rfl,b9⟩;have o9:=nxR_call b9 (by assumption);have z9:=Lib.hid (objAt_next z0.out b9);have e0:=objAt_cell z9.out 0 rfl;have e1:=objAt_cell z9.out 1 rfl;have e2:=objAt_cell z9.out 2 rfl;have e3:=objAt_cell z9.out 3 rfl))
  rename_i hS
  have hB:=And.intro hS.2.2.2.2.2.1 hS.2.2.2.2.2.2.2
  have oF:=obj_put4 z9.out (.int .i64 v.s.rev) (.slice aj v.s.jobs.length cj) (.slice an v.s.nodes.length cn) (.slice al v.s.leases.length cl)
  obtain⟨xF,hxF⟩:∃X,(((xC.setCell ⟨H+1+1,0,none⟩ (.int .i64 v.s.rev)).setCell ⟨H+1+1,1,none⟩ (.slice aj v.s.jobs.length cj)).setCell ⟨H+1+1,2,none⟩ (.slice an v.s.nodes.length cn)).setCell ⟨H+1+1,3,none⟩ (.slice al v.s.leases.length cl)=X:=⟨_,rfl⟩
  rw[hxF] at oF hB
  have hB:=Lib.hid hB
  have r0:=objAt_cell oF 0 rfl
  have r1:=objAt_cell oF 1 rfl
  have r2:=objAt_cell oF 2 rfl
  have r3:=objAt_cell oF 3 rfl
  clear hS s0 oF z0 o9 z9 e0 e1 e2 e3
  go_wp2_with fail
  rw[hxF]
  exact bodyPost_ret (v:=.tuple #[.agg #[.int .i64 v.s.rev,.slice aj v.s.jobs.length cj,.slice an v.s.nodes.length cn,.slice al v.s.leases.length cl],.int .i64 v.now,.int .i64 (ce:Int)]) (by simp[results,Tryz.results24,go_sem,r0,r1,r2,r3]) rfl ⟨v.s.jobs,v.s.nodes,v.s.leases,v.now,aj,an,al,cj,cn,cl,by rw[HRC.out],fun _=>⟨by rw[HRC.out],hB.out.2⟩,hB.out.1⟩
end Go.Proofs.YtiekgafopalfmaaGreatDoor
