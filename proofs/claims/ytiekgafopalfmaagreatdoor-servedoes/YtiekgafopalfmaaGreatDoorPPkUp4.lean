import Derived.Test.YtiekgafopalfmaaGreatDoorPPkUp3
import Derived.Test.YtiekgafopalfmaaGreatDoorPPkWi5
import Derived.Test.YtiekgafopalfmaaGreatDoorPUpEq
import Derived.Test.YtiekgafopalfmaaGreatDoorPPkWi4
import Derived.Test.YtiekgafopalfmaaGreatDoorPPkDl1
namespace Go.Proofs.YtiekgafopalfmaaGreatDoor
open Go.RowKit
end Go.Proofs.YtiekgafopalfmaaGreatDoor
namespace Go.Proofs.YtiekgafopalfmaaGreatDoor
open Go.RowKit
theorem own_box {w:World}{B e sz n L:Nat}{v:Value}{xs:List Value}{vs:Array Value}{t:TypeId} (h:w.ownsRow B e sz v n xs) (ho:ObjAt L vs t w) (ht:t≠e) (j:Nat) (u:Value):(w.setCell ⟨L,j,none⟩ u).ownsRow B e sz v n xs:=by
 refine⟨h.1,?_⟩
 rcases h.2 with h0 | ⟨g,cap,cur,hv,hbg,hg,r⟩
 ·exact .inl h0
 ·refine .inr ⟨g,cap,cur,hv,hbg,?_,r⟩
  have ne:g≠L:=by
   rintro rfl
   unfold ObjAt at ho
   rw[ho] at hg
   simp only[Option.some.injEq,Obj.cells.injEq] at hg
   exact ht hg.2.1
  rw[Below.heap_setCell _ ⟨L,j,none⟩ u g ne]
  exact hg
theorem obj_put4 {w:World}{b:Nat}{a0 a1 a2 a3:Value}{t:TypeId} (h:ObjAt b #[a0,a1,a2,a3] t w) (x0 x1 x2 x3:Value):ObjAt b #[x0,x1,x2,x3] t ((((w.setCell ⟨b,0,none⟩ x0).setCell ⟨b,1,none⟩ x1).setCell ⟨b,2,none⟩ x2).setCell ⟨b,3,none⟩ x3):=by
 have h1:ObjAt b #[x0,a1,a2,a3] t _:=objAt_set h 0 x0
 have h2:ObjAt b #[x0,x1,a2,a3] t _:=objAt_set h1 1 x1
 have h3:ObjAt b #[x0,x1,x2,a3] t _:=objAt_set h2 2 x2
 exact objAt_set h3 3 x3
theorem own_put4 {w:World}{B e sz n b:Nat}{v:Value}{xs:List Value}{vs:Array Value}{t:TypeId} (h:w.ownsRow B e sz v n xs) (ho:ObjAt b vs t w) (ht:t≠e) (x0 x1 x2 x3:Value) :
  ((((w.setCell ⟨b,0,none⟩ x0).setCell ⟨b,1,none⟩ x1).setCell ⟨b,2,none⟩ x2).setCell ⟨b,3,none⟩ x3).ownsRow B e sz v n xs :=
 own_box (own_box (own_box (own_box h ho ht 0 x0) (objAt_set ho 0 x0) ht 1 x1) (objAt_set (objAt_set ho 0 x0) 1 x1) ht 2 x2) (objAt_set (objAt_set (objAt_set ho 0 x0) 1 x1) 2 x2) ht 3 x3
theorem other_put4 {w:World}{b c:Nat}{vs:Array Value}{t:TypeId} (h:ObjAt c vs t w) (hne:c≠b) (x0 x1 x2 x3:Value):ObjAt c vs t ((((w.setCell ⟨b,0,none⟩ x0).setCell ⟨b,1,none⟩ x1).setCell ⟨b,2,none⟩ x2).setCell ⟨b,3,none⟩ x3) :=
 objAt_other (objAt_other (objAt_other (objAt_other h hne 0 x0) hne 1 x1) hne 2 x2) hne 3 x3
theorem below_put4 {B b:Nat}{w0 w:World} (h:Below B w0 w) (hb:B≤b) (x0 x1 x2 x3:Value):Below B w0 ((((w.setCell ⟨b,0,none⟩ x0).setCell ⟨b,1,none⟩ x1).setCell ⟨b,2,none⟩ x2).setCell ⟨b,3,none⟩ x3) :=
 (((h.setCell (p:=⟨b,0,none⟩) hb x0).setCell (p:=⟨b,1,none⟩) hb x1).setCell (p:=⟨b,2,none⟩) hb x2).setCell (p:=⟨b,3,none⟩) hb x3
theorem size_put4 (w:World) (b:Nat) (x0 x1 x2 x3:Value):((((w.setCell ⟨b,0,none⟩ x0).setCell ⟨b,1,none⟩ x1).setCell ⟨b,2,none⟩ x2).setCell ⟨b,3,none⟩ x3).heap.size=w.heap.size:=by simp[World.setCell]
theorem two_new (w:World) (a0 a1 a2 a3:Value) (t:TypeId) (W0:World) (hW:(w.alloc (.cells #[a0,a1,a2,a3] t)).alloc (.cells #[.int .i64 0,.slice none 0 0,.slice none 0 0,.slice none 0 0] t)=W0) :
  ObjAt w.heap.size #[a0,a1,a2,a3] t W0∧ObjAt (w.heap.size+1) #[.int .i64 0,.slice none 0 0,.slice none 0 0,.slice none 0 0] t W0∧Below w.heap.size w W0∧W0.heap.size=w.heap.size+2:=by
 rw[←hW]
 refine⟨objAt_next (objAt_new w _ _) (below_one _ _),?_,below_trans (below_one _ _) (below_one _ _) (by simp),by simp⟩
 have:=objAt_new (w.alloc (.cells #[a0,a1,a2,a3] t)) #[.int .i64 0,.slice none 0 0,.slice none 0 0,.slice none 0 0] t
 rwa [World.size_alloc] at this
end Go.Proofs.YtiekgafopalfmaaGreatDoor
namespace Go.Proofs.YtiekgafopalfmaaGreatDoor
open Go.RowKit
theorem cpS_all {s:StD}{aj an al:Option Addr}{cj cn cl:Nat}{H:Nat}{W w:World} (h:ObjAt H #[.int .i64 s.rev,.slice aj s.jobs.length cj,.slice an s.nodes.length cn,.slice al s.leases.length cl] 26 w){us:Array Value} (hu:us.size=4) (k:ObjAt (H+1) us 26 w) (hb:Below H W w):(w.cell? ⟨H,0,none⟩=some (.int .i64 s.rev)∧w.cell? ⟨H,1,none⟩=some (.slice aj s.jobs.length cj)∧w.cell? ⟨H,2,none⟩=some (.slice an s.nodes.length cn)∧w.cell? ⟨H,3,none⟩=some (.slice al s.leases.length cl))∧(w.frozen? ⟨H+1,0,none⟩=false∧w.frozen? ⟨H+1,1,none⟩=false∧w.frozen? ⟨H+1,2,none⟩=false∧w.frozen? ⟨H+1,3,none⟩=false)∧ObjAt H #[.int .i64 s.rev,.slice aj s.jobs.length cj,.slice an s.nodes.length cn,.slice al s.leases.length cl] 26 w∧(∃us:Array Value,us.size=4∧ObjAt (H+1) us 26 w)∧(H<w.heap.size∧H+1<w.heap.size)∧Below H W w :=
 ⟨⟨objAt_cell h 0 rfl,objAt_cell h 1 rfl,objAt_cell h 2 rfl,objAt_cell h 3 rfl⟩,⟨objAt_free k 0,objAt_free k 1,objAt_free k 2,objAt_free k 3⟩,h,⟨us,hu,k⟩,⟨objAt_lt h,objAt_lt k⟩,hb⟩
theorem cpS_call {s:StD}{aj an al:Option Addr}{cj cn cl:Nat}{H:Nat}{W w:World}{w':World} (b:Below w.heap.size w w') (h:(w.cell? ⟨H,0,none⟩=some (.int .i64 s.rev)∧w.cell? ⟨H,1,none⟩=some (.slice aj s.jobs.length cj)∧w.cell? ⟨H,2,none⟩=some (.slice an s.nodes.length cn)∧w.cell? ⟨H,3,none⟩=some (.slice al s.leases.length cl))∧(w.frozen? ⟨H+1,0,none⟩=false∧w.frozen? ⟨H+1,1,none⟩=false∧w.frozen? ⟨H+1,2,none⟩=false∧w.frozen? ⟨H+1,3,none⟩=false)∧ObjAt H #[.int .i64 s.rev,.slice aj s.jobs.length cj,.slice an s.nodes.length cn,.slice al s.leases.length cl] 26 w∧(∃us:Array Value,us.size=4∧ObjAt (H+1) us 26 w)∧(H<w.heap.size∧H+1<w.heap.size)∧Below H W w):(w'.cell? ⟨H,0,none⟩=some (.int .i64 s.rev)∧w'.cell? ⟨H,1,none⟩=some (.slice aj s.jobs.length cj)∧w'.cell? ⟨H,2,none⟩=some (.slice an s.nodes.length cn)∧w'.cell? ⟨H,3,none⟩=some (.slice al s.leases.length cl))∧(w'.frozen? ⟨H+1,0,none⟩=false∧w'.frozen? ⟨H+1,1,none⟩=false∧w'.frozen? ⟨H+1,2,none⟩=false∧w'.frozen? ⟨H+1,3,none⟩=false)∧ObjAt H #[.int .i64 s.rev,.slice aj s.jobs.length cj,.slice an s.nodes.length cn,.slice al s.leases.length cl] 26 w'∧(∃us:Array Value,us.size=4∧ObjAt (H+1) us 26 w')∧(H<w'.heap.size∧H+1<w'.heap.size)∧Below H W w':=by
 obtain⟨_,_,h1,⟨us,hu,k⟩,_,hb⟩:=h
 exact cpS_all (objAt_next h1 b) hu (objAt_next k b) (below_trans hb b (Nat.le_of_lt (objAt_lt h1)))
theorem cpS_put {s:StD}{aj an al:Option Addr}{cj cn cl:Nat}{H:Nat}{W w:World} (v0 v1 v2 v3:Value) (h:(w.cell? ⟨H,0,none⟩=some (.int .i64 s.rev)∧w.cell? ⟨H,1,none⟩=some (.slice aj s.jobs.length cj)∧w.cell? ⟨H,2,none⟩=some (.slice an s.nodes.length cn)∧w.cell? ⟨H,3,none⟩=some (.slice al s.leases.length cl))∧(w.frozen? ⟨H+1,0,none⟩=false∧w.frozen? ⟨H+1,1,none⟩=false∧w.frozen? ⟨H+1,2,none⟩=false∧w.frozen? ⟨H+1,3,none⟩=false)∧ObjAt H #[.int .i64 s.rev,.slice aj s.jobs.length cj,.slice an s.nodes.length cn,.slice al s.leases.length cl] 26 w∧(∃us:Array Value,us.size=4∧ObjAt (H+1) us 26 w)∧(H<w.heap.size∧H+1<w.heap.size)∧Below H W w):(((((w.setCell ⟨H+1,0,none⟩ v0).setCell ⟨H+1,1,none⟩ v1).setCell ⟨H+1,2,none⟩ v2).setCell ⟨H+1,3,none⟩ v3).cell? ⟨H,0,none⟩=some (.int .i64 s.rev)∧((((w.setCell ⟨H+1,0,none⟩ v0).setCell ⟨H+1,1,none⟩ v1).setCell ⟨H+1,2,none⟩ v2).setCell ⟨H+1,3,none⟩ v3).cell? ⟨H,1,none⟩=some (.slice aj s.jobs.length cj)∧((((w.setCell ⟨H+1,0,none⟩ v0).setCell ⟨H+1,1,none⟩ v1).setCell ⟨H+1,2,none⟩ v2).setCell ⟨H+1,3,none⟩ v3).cell? ⟨H,2,none⟩=some (.slice an s.nodes.length cn)∧((((w.setCell ⟨H+1,0,none⟩ v0).setCell ⟨H+1,1,none⟩ v1).setCell ⟨H+1,2,none⟩ v2).setCell ⟨H+1,3,none⟩ v3).cell? ⟨H,3,none⟩=some (.slice al s.leases.length cl))∧(((((w.setCell ⟨H+1,0,none⟩ v0).setCell ⟨H+1,1,none⟩ v1).setCell ⟨H+1,2,none⟩ v2).setCell ⟨H+1,3,none⟩ v3).frozen? ⟨H+1,0,none⟩=false∧((((w.setCell ⟨H+1,0,none⟩ v0).setCell ⟨H+1,1,none⟩ v1).setCell ⟨H+1,2,none⟩ v2).setCell ⟨H+1,3,none⟩ v3).frozen? ⟨H+1,1,none⟩=false∧((((w.setCell ⟨H+1,0,none⟩ v0).setCell ⟨H+1,1,none⟩ v1).setCell ⟨H+1,2,none⟩ v2).setCell ⟨H+1,3,none⟩ v3).frozen? ⟨H+1,2,none⟩=false∧((((w.setCell ⟨H+1,0,none⟩ v0).setCell ⟨H+1,1,none⟩ v1).setCell ⟨H+1,2,none⟩ v2).setCell ⟨H+1,3,none⟩ v3).frozen? ⟨H+1,3,none⟩=false)∧ObjAt H #[.int .i64 s.rev,.slice aj s.jobs.length cj,.slice an s.nodes.length cn,.slice al s.leases.length cl] 26 ((((w.setCell ⟨H+1,0,none⟩ v0).setCell ⟨H+1,1,none⟩ v1).setCell ⟨H+1,2,none⟩ v2).setCell ⟨H+1,3,none⟩ v3)∧(∃us:Array Value,us.size=4∧ObjAt (H+1) us 26 ((((w.setCell ⟨H+1,0,none⟩ v0).setCell ⟨H+1,1,none⟩ v1).setCell ⟨H+1,2,none⟩ v2).setCell ⟨H+1,3,none⟩ v3))∧(H<((((w.setCell ⟨H+1,0,none⟩ v0).setCell ⟨H+1,1,none⟩ v1).setCell ⟨H+1,2,none⟩ v2).setCell ⟨H+1,3,none⟩ v3).heap.size∧H+1<((((w.setCell ⟨H+1,0,none⟩ v0).setCell ⟨H+1,1,none⟩ v1).setCell ⟨H+1,2,none⟩ v2).setCell ⟨H+1,3,none⟩ v3).heap.size)∧Below H W ((((w.setCell ⟨H+1,0,none⟩ v0).setCell ⟨H+1,1,none⟩ v1).setCell ⟨H+1,2,none⟩ v2).setCell ⟨H+1,3,none⟩ v3):=by
 obtain⟨_,_,h1,⟨us,hu,k⟩,_,hb⟩:=h
 exact cpS_all (other_put4 h1 (by omega) v0 v1 v2 v3) (us:=((((us.setIfInBounds 0 v0).setIfInBounds 1 v1).setIfInBounds 2 v2).setIfInBounds 3 v3)) (by simpa using hu) (objAt_set (objAt_set (objAt_set (objAt_set k 0 v0) 1 v1) 2 v2) 3 v3) (below_put4 hb (by omega) v0 v1 v2 v3)
set_option maxRecDepth 100000 in
set_option maxHeartbeats 4000000 in
theorem copy_is (s:StD) (aj an al:Option Addr) (cj cn cl:Nat) (hl:s.jobs.length≤40∧s.nodes.length≤40∧s.leases.length≤40) (hz:(∀x∈s.jobs,x.name.size≤140737488355328∧x.tag.size≤140737488355328)∧(∀x∈s.nodes,x.name.size≤140737488355328∧x.zone.size≤140737488355328)∧∀x∈s.leases,x.job.size≤140737488355328∧x.node.size≤140737488355328) (w:World) (hmj:JobsAt w aj s.jobs) (hmn:NodesAt w an s.nodes) (hml:LeasesAt w al s.leases) :
  Calls Tryz.prog 16 #[.agg #[.int .i64 s.rev,.slice aj s.jobs.length cj,.slice an s.nodes.length cn,.slice al s.leases.length cl]] w fun e w'=>∃aj' cj' an' cn' al' cl',e = .returned (.agg #[.int .i64 s.rev,.slice aj' s.jobs.length cj',.slice an' s.nodes.length cn',.slice al' s.leases.length cl'])∧w'.ownsRow w.heap.size 38 5 (.slice aj' s.jobs.length cj') s.jobs.length (cJobs s.jobs)∧w'.ownsRow w.heap.size 40 3 (.slice an' s.nodes.length cn') s.nodes.length (cNodes s.nodes)∧w'.ownsRow w.heap.size 42 3 (.slice al' s.leases.length cl') s.leases.length (cLeases s.leases)∧Below w.heap.size w w':=by
 obtain⟨H,hH⟩:∃H,w.heap.size=H:=⟨_,rfl⟩
 obtain⟨W0,hW0⟩:∃W0,(w.alloc (.cells #[.int .i64 s.rev,.slice aj s.jobs.length cj,.slice an s.nodes.length cn,.slice al s.leases.length cl] 26)).alloc (.cells #[.int .i64 0,.slice none 0 0,.slice none 0 0,.slice none 0 0] 26)=W0:=⟨_,rfl⟩
 obtain⟨p0,r0,B0,sz0⟩:=two_new w _ _ _ _ _ W0 hW0
 rw[hH] at p0 r0 B0 sz0
 have HJ:=Lib.hid (fun v (hv:(v.cell? ⟨H,0,none⟩=some (.int .i64 s.rev)∧v.cell? ⟨H,1,none⟩=some (.slice aj s.jobs.length cj)∧v.cell? ⟨H,2,none⟩=some (.slice an s.nodes.length cn)∧v.cell? ⟨H,3,none⟩=some (.slice al s.leases.length cl))∧(v.frozen? ⟨H+1,0,none⟩=false∧v.frozen? ⟨H+1,1,none⟩=false∧v.frozen? ⟨H+1,2,none⟩=false∧v.frozen? ⟨H+1,3,none⟩=false)∧ObjAt H #[.int .i64 s.rev,.slice aj s.jobs.length cj,.slice an s.nodes.length cn,.slice al s.leases.length cl] 26 v∧(∃us:Array Value,us.size=4∧ObjAt (H+1) us 26 v)∧(H<v.heap.size∧H+1<v.heap.size)∧Below H w v)=>eachJ_sep s.jobs aj cj hl.1 v (jobsAt_next hmj (by rw[hH];exact hv.2.2.2.2.2)) (fun x hx w1 _=>sepJob_is x (hz.1 x hx).1 (hz.1 x hx).2 w1))
 have HN:=Lib.hid (fun v (hv:(v.cell? ⟨H,0,none⟩=some (.int .i64 s.rev)∧v.cell? ⟨H,1,none⟩=some (.slice aj s.jobs.length cj)∧v.cell? ⟨H,2,none⟩=some (.slice an s.nodes.length cn)∧v.cell? ⟨H,3,none⟩=some (.slice al s.leases.length cl))∧(v.frozen? ⟨H+1,0,none⟩=false∧v.frozen? ⟨H+1,1,none⟩=false∧v.frozen? ⟨H+1,2,none⟩=false∧v.frozen? ⟨H+1,3,none⟩=false)∧ObjAt H #[.int .i64 s.rev,.slice aj s.jobs.length cj,.slice an s.nodes.length cn,.slice al s.leases.length cl] 26 v∧(∃us:Array Value,us.size=4∧ObjAt (H+1) us 26 v)∧(H<v.heap.size∧H+1<v.heap.size)∧Below H w v)=>eachN_sep s.nodes an cn hl.2.1 v (nodesAt_next hmn (by rw[hH];exact hv.2.2.2.2.2)) (fun x hx w1 _=>sepNode_is x (hz.2.1 x hx).1 (hz.2.1 x hx).2 w1))
 have HL:=Lib.hid (fun v (hv:(v.cell? ⟨H,0,none⟩=some (.int .i64 s.rev)∧v.cell? ⟨H,1,none⟩=some (.slice aj s.jobs.length cj)∧v.cell? ⟨H,2,none⟩=some (.slice an s.nodes.length cn)∧v.cell? ⟨H,3,none⟩=some (.slice al s.leases.length cl))∧(v.frozen? ⟨H+1,0,none⟩=false∧v.frozen? ⟨H+1,1,none⟩=false∧v.frozen? ⟨H+1,2,none⟩=false∧v.frozen? ⟨H+1,3,none⟩=false)∧ObjAt H #[.int .i64 s.rev,.slice aj s.jobs.length cj,.slice an s.nodes.length cn,.slice al s.leases.length cl] 26 v∧(∃us:Array Value,us.size=4∧ObjAt (H+1) us 26 v)∧(H<v.heap.size∧H+1<v.heap.size)∧Below H w v)=>eachL_sep s.leases al cl hl.2.2 v (leasesAt_next hml (by rw[hH];exact hv.2.2.2.2.2)) (fun x hx w1 _=>sepLease_is x (hz.2.2 x hx).1 (hz.2.2 x hx).2 w1))
 have o1:=cpS_all (W:=w) (w:=W0.drew) (objAt_drew p0) rfl (objAt_drew r0) B0.drew
 have z0:=Lib.hid (show ObjAt (H+1) #[.int .i64 0,.slice none 0 0,.slice none 0 0,.slice none 0 0] 26 W0.drew from r0)
 have HW:=Lib.hid hW0
 have hs0:Hid (H+2≤W0.drew.heap.size):=by show H+2≤W0.heap.size;omega
 rw[hH]
 clear hmj hmn hml hz hl p0 r0 B0 sz0 hW0
 go_enter Tryz.func16,Tryz.ntmps16
 go_wp2_with fail
 rw[HW.out]
 go_region_held3 (fun w'=>(w'.cell? ⟨H,0,none⟩=some (.int .i64 s.rev)∧w'.cell? ⟨H,1,none⟩=some (.slice aj s.jobs.length cj)∧w'.cell? ⟨H,2,none⟩=some (.slice an s.nodes.length cn)∧w'.cell? ⟨H,3,none⟩=some (.slice al s.leases.length cl))∧(w'.frozen? ⟨H+1,0,none⟩=false∧w'.frozen? ⟨H+1,1,none⟩=false∧w'.frozen? ⟨H+1,2,none⟩=false∧w'.frozen? ⟨H+1,3,none⟩=false)∧ObjAt H #[.int .i64 s.rev,.slice aj s.jobs.length cj,.slice an s.nodes.length cn,.slice al s.leases.length cl] 26 w'∧(∃us:Array Value,us.size=4∧ObjAt (H+1) us 26 w')∧(H<w'.heap.size∧H+1<w'.heap.size)∧Below H w w')
  (first | assumption | exact o1 | exact cpS_put _ _ _ _ (by assumption))
  (first
   | (go_at_call 43;(with_reducible refine(HJ.out _ (by assumption)).mono ?_);rintro e x1 ⟨j1,j2,rfl,R1,b1⟩;have o2:=cpS_call (W:=w) b1 (by assumption);have z1:=Lib.hid (objAt_next z0.out b1);have K1:=Lib.hid (ownsRow_low (B':=H) R1 (by have:=hs0.out;omega));have hs1:Hid (H+2≤x1.heap.size):=(by show H+2≤x1.heap.size;have:=b1.size;have:=hs0.out;omega);clear R1)
   | (go_at_call 45;(with_reducible refine(HN.out _ (by assumption)).mono ?_);rintro e x2 ⟨n1,n2,rfl,R2,b2⟩;have o3:=cpS_call (W:=w) b2 (by assumption);have z2:=Lib.hid (objAt_next z1.out b2);have K2:=Lib.hid (And.intro (own_next K1.out b2) (ownsRow_low (B':=H) R2 (by have:=hs1.out;omega)));have hs2:Hid (H+2≤x2.heap.size):=(by show H+2≤x2.heap.size;have:=b2.size;have:=hs1.out;omega);clear R2)
   | (go_at_call 47;(with_reducible refine(HL.out _ (by assumption)).mono ?_);rintro e x3 ⟨l1,l2,rfl,R3,b3⟩;have o4:=cpS_call (W:=w) b3 (by assumption);have z3:=Lib.hid (objAt_next z2.out b3);have K3:=Lib.hid (And.intro (own_next K2.out.1 b3) (And.intro (own_next K2.out.2 b3) (ownsRow_low (B':=H) R3 (by have:=hs2.out;omega))));have t0:=objAt_cell z3.out 0 rfl;have t1:=objAt_cell z3.out 1 rfl;have t2:=objAt_cell z3.out 2 rfl;have t3:=objAt_cell z3.out 3 rfl;clear R3))
 all_goals
  rename_i hS
  have hB:=Lib.hid hS.2.2.2.2.2
  have oF:=obj_put4 z3.out (.int .i64 s.rev) (.slice j1 s.jobs.length j2) (.slice n1 s.nodes.length n2) (.slice l1 s.leases.length l2)
  have r0:=objAt_cell oF 0 rfl
  have r1:=objAt_cell oF 1 rfl
  have r2:=objAt_cell oF 2 rfl
  have r3:=objAt_cell oF 3 rfl
  have k:=K3.out
  rw[List.map_id,List.map_id,List.map_id] at k
  have KK:=Lib.hid (And.intro (own_put4 k.1 z3.out (by decide) (.int .i64 s.rev) (.slice j1 s.jobs.length j2) (.slice n1 s.nodes.length n2) (.slice l1 s.leases.length l2)) (And.intro (own_put4 k.2.1 z3.out (by decide) (.int .i64 s.rev) (.slice j1 s.jobs.length j2) (.slice n1 s.nodes.length n2) (.slice l1 s.leases.length l2)) (own_put4 k.2.2 z3.out (by decide) (.int .i64 s.rev) (.slice j1 s.jobs.length j2) (.slice n1 s.nodes.length n2) (.slice l1 s.leases.length l2))))
  clear hS oF k o1 o2 o3 o4 t0 t1 t2 t3 HJ HN HL K1 K2 K3 z0 z1 z2 z3
  go_wp2_with fail
  exact bodyPost_ret (v:=.agg #[.int .i64 s.rev,.slice j1 s.jobs.length j2,.slice n1 s.nodes.length n2,.slice l1 s.leases.length l2]) (by simp[results,Tryz.results16,go_sem,r0,r1,r2,r3]) rfl ⟨j1,j2,n1,n2,l1,l2,rfl,KK.out.1,KK.out.2.1,KK.out.2.2,hB.out⟩
end Go.Proofs.YtiekgafopalfmaaGreatDoor
namespace Go.Proofs.YtiekgafopalfmaaGreatDoor
open Go.RowKit
end Go.Proofs.YtiekgafopalfmaaGreatDoor
namespace Go.Proofs.YtiekgafopalfmaaGreatDoor
open Go.RowKit
theorem small_valid {s:StD} (h:checkE V8 s=0):(s.jobs.length≤40∧s.nodes.length≤40∧s.leases.length≤40)∧(∀x∈s.jobs,x.name.size≤140737488355328∧x.tag.size≤140737488355328)∧(∀x∈s.nodes,x.name.size≤140737488355328∧x.zone.size≤140737488355328)∧∀x∈s.leases,x.job.size≤140737488355328∧x.node.size≤140737488355328:=by
 obtain⟨_,⟨l1,h1⟩,⟨l2,h2⟩,⟨l3,h3⟩⟩:=ok_of_valid (v:=3) ((check_zero V8 s).1 h) (fits_three s)
 refine⟨⟨l1,by omega,l3⟩,fun x hx=>?_,fun x hx=>?_,fun x hx=>?_⟩
 ·obtain⟨a,_,_,_,b⟩:=h1 x hx
  rw[if_pos (by decide)] at b
  have:=note_size a;have:=note_size b;omega
 ·obtain⟨a,_,b⟩:=h2 x hx
  rw[if_pos (by decide)] at b
  have:=note_size a;have:=note_size b;omega
 ·obtain⟨a,b,_⟩:=h3 x hx
  have:=note_size a;have:=note_size b;omega
def OwnS (B:Nat) (aj an al:Option Addr) (cj cn cl:Nat) (t:StD) (w:World):Prop :=
 w.ownsRow B 38 5 (.slice aj t.jobs.length cj) t.jobs.length (cJobs t.jobs)∧w.ownsRow B 40 3 (.slice an t.nodes.length cn) t.nodes.length (cNodes t.nodes)∧w.ownsRow B 42 3 (.slice al t.leases.length cl) t.leases.length (cLeases t.leases)
theorem ownS_next {B:Nat}{aj an al:Option Addr}{cj cn cl:Nat}{t:StD}{w w':World} (h:OwnS B aj an al cj cn cl t w) (hb:Below w.heap.size w w'):OwnS B aj an al cj cn cl t w':=⟨own_next h.1 hb,own_next h.2.1 hb,own_next h.2.2 hb⟩
theorem ownS_low {B B':Nat}{aj an al:Option Addr}{cj cn cl:Nat}{t:StD}{w:World} (h:OwnS B aj an al cj cn cl t w) (hb:B'≤B):OwnS B' aj an al cj cn cl t w:=⟨ownsRow_low h.1 hb,ownsRow_low h.2.1 hb,ownsRow_low h.2.2 hb⟩
theorem ownS_put4 {B b:Nat}{aj an al:Option Addr}{cj cn cl:Nat}{t:StD}{w:World}{vs:Array Value} (h:OwnS B aj an al cj cn cl t w) (ho:ObjAt b vs 26 w) (x0 x1 x2 x3:Value):OwnS B aj an al cj cn cl t ((((w.setCell ⟨b,0,none⟩ x0).setCell ⟨b,1,none⟩ x1).setCell ⟨b,2,none⟩ x2).setCell ⟨b,3,none⟩ x3) :=
 ⟨own_put4 h.1 ho (by decide) x0 x1 x2 x3,own_put4 h.2.1 ho (by decide) x0 x1 x2 x3,own_put4 h.2.2 ho (by decide) x0 x1 x2 x3⟩
theorem ownS_at {B:Nat}{aj an al:Option Addr}{cj cn cl:Nat}{t:StD}{w:World} (h:OwnS B aj an al cj cn cl t w):JobsAt w aj t.jobs∧NodesAt w an t.nodes∧LeasesAt w al t.leases:=⟨ownJobs h.1 rfl,ownNodes h.2.1 rfl,ownLeases h.2.2 rfl⟩
theorem sep_any (s:StD) (aj an al:Option Addr) (cj cn cl:Nat) (h:checkE V8 s=0) (w:World) (hmj:JobsAt w aj s.jobs) (hmn:NodesAt w an s.nodes) (hml:LeasesAt w al s.leases) :
  Calls Tryz.prog 16 #[.agg #[.int .i64 s.rev,.slice aj s.jobs.length cj,.slice an s.nodes.length cn,.slice al s.leases.length cl]] w fun e w'=>∃aj' an' al' cj' cn' cl',e = .returned (.agg #[.int .i64 s.rev,.slice aj' s.jobs.length cj',.slice an' s.nodes.length cn',.slice al' s.leases.length cl'])∧OwnS w.heap.size aj' an' al' cj' cn' cl' s w'∧Below w.heap.size w w':=by
 obtain⟨hl,hz⟩:=small_valid h
 refine(copy_is s aj an al cj cn cl hl hz w hmj hmn hml).mono ?_
 rintro e w' ⟨aj',cj',an',cn',al',cl',rfl,o1,o2,o3,hb⟩
 exact⟨aj',an',al',cj',cn',cl',rfl,⟨o1,o2,o3⟩,hb⟩
end Go.Proofs.YtiekgafopalfmaaGreatDoor
namespace Go.Proofs.YtiekgafopalfmaaGreatDoor
open Go.RowKit
def OwnD (B:Nat) (M:DlM) (d:DelD) (w:World):Prop:=w.ownsRow B 38 5 (.slice M.aj d.jobs.length M.cj) d.jobs.length (cJobs d.jobs)∧w.ownsRow B 40 3 (.slice M.an d.nodes.length M.cn) d.nodes.length (cNodes d.nodes)∧w.ownsRow B 42 3 (.slice M.al d.leases.length M.cl) d.leases.length (cLeases d.leases)∧w.ownsRow B 9 1 (.slice M.gj d.gj.length M.hj) d.gj.length (cNms d.gj)∧w.ownsRow B 9 1 (.slice M.gn d.gn.length M.hn) d.gn.length (cNms d.gn)∧w.ownsRow B 9 1 (.slice M.gl d.gl.length M.hl) d.gl.length (cNms d.gl)
theorem ownD_next {B:Nat}{M:DlM}{d:DelD}{w w':World} (h:OwnD B M d w) (hb:Below w.heap.size w w'):OwnD B M d w':=⟨own_next h.1 hb,own_next h.2.1 hb,own_next h.2.2.1 hb,own_next h.2.2.2.1 hb,own_next h.2.2.2.2.1 hb,own_next h.2.2.2.2.2 hb⟩
theorem ownD_low {B B':Nat}{M:DlM}{d:DelD}{w:World} (h:OwnD B M d w) (hb:B'≤B):OwnD B' M d w:=⟨ownsRow_low h.1 hb,ownsRow_low h.2.1 hb,ownsRow_low h.2.2.1 hb,ownsRow_low h.2.2.2.1 hb,ownsRow_low h.2.2.2.2.1 hb,ownsRow_low h.2.2.2.2.2 hb⟩
theorem ownD_at {B:Nat}{M:DlM}{d:DelD}{w:World} (h:OwnD B M d w):DeltaAt w M d:=⟨⟨ownJobs h.1 rfl,ownNodes h.2.1 rfl,ownLeases h.2.2.1 rfl⟩,ownNms h.2.2.2.1 rfl,ownNms h.2.2.2.2.1 rfl,ownNms h.2.2.2.2.2 rfl⟩
theorem ownD_zero (B:Nat) (w:World):OwnD B ⟨none,0,none,0,none,0,none,0,none,0,none,0⟩ zeroDel w:=⟨World.ownsRow_nil _ _ _ _,World.ownsRow_nil _ _ _ _,World.ownsRow_nil _ _ _ _,World.ownsRow_nil _ _ _ _,World.ownsRow_nil _ _ _ _,World.ownsRow_nil _ _ _ _⟩
theorem obj_put8 {w:World}{b:Nat}{a0 a1 a2 a3 a4 a5 a6 a7:Value}{t:TypeId} (h:ObjAt b #[a0,a1,a2,a3,a4,a5,a6,a7] t w) (x0 x1 x2 x3 x4 x5 x6 x7:Value):ObjAt b #[x0,x1,x2,x3,x4,x5,x6,x7] t ((((((((w.setCell ⟨b,0,none⟩ x0).setCell ⟨b,1,none⟩ x1).setCell ⟨b,2,none⟩ x2).setCell ⟨b,3,none⟩ x3).setCell ⟨b,4,none⟩ x4).setCell ⟨b,5,none⟩ x5).setCell ⟨b,6,none⟩ x6).setCell ⟨b,7,none⟩ x7):=by
 have h0:ObjAt b #[x0,a1,a2,a3,a4,a5,a6,a7] t _:=objAt_set h 0 x0
 have h1:ObjAt b #[x0,x1,a2,a3,a4,a5,a6,a7] t _:=objAt_set h0 1 x1
 have h2:ObjAt b #[x0,x1,x2,a3,a4,a5,a6,a7] t _:=objAt_set h1 2 x2
 have h3:ObjAt b #[x0,x1,x2,x3,a4,a5,a6,a7] t _:=objAt_set h2 3 x3
 have h4:ObjAt b #[x0,x1,x2,x3,x4,a5,a6,a7] t _:=objAt_set h3 4 x4
 have h5:ObjAt b #[x0,x1,x2,x3,x4,x5,a6,a7] t _:=objAt_set h4 5 x5
 have h6:ObjAt b #[x0,x1,x2,x3,x4,x5,x6,a7] t _:=objAt_set h5 6 x6
 exact objAt_set h6 7 x7
theorem own_put8 {w:World}{B e sz n b:Nat}{v:Value}{xs:List Value}{a0 a1 a2 a3 a4 a5 a6 a7:Value}{t:TypeId} (h:w.ownsRow B e sz v n xs) (ho:ObjAt b #[a0,a1,a2,a3,a4,a5,a6,a7] t w) (ht:t≠e) (x0 x1 x2 x3 x4 x5 x6 x7:Value):((((((((w.setCell ⟨b,0,none⟩ x0).setCell ⟨b,1,none⟩ x1).setCell ⟨b,2,none⟩ x2).setCell ⟨b,3,none⟩ x3).setCell ⟨b,4,none⟩ x4).setCell ⟨b,5,none⟩ x5).setCell ⟨b,6,none⟩ x6).setCell ⟨b,7,none⟩ x7).ownsRow B e sz v n xs:=by
 have k0:=own_box h ho ht 0 x0
 have h0:=objAt_set ho 0 x0
 have k1:=own_box k0 h0 ht 1 x1
 have h1:=objAt_set h0 1 x1
 have k2:=own_box k1 h1 ht 2 x2
 have h2:=objAt_set h1 2 x2
 have k3:=own_box k2 h2 ht 3 x3
 have h3:=objAt_set h2 3 x3
 have k4:=own_box k3 h3 ht 4 x4
 have h4:=objAt_set h3 4 x4
 have k5:=own_box k4 h4 ht 5 x5
 have h5:=objAt_set h4 5 x5
 have k6:=own_box k5 h5 ht 6 x6
 have h6:=objAt_set h5 6 x6
 exact own_box k6 h6 ht 7 x7
theorem ownD_put8 {w:World}{B b:Nat}{M:DlM}{d:DelD}{a0 a1 a2 a3 a4 a5 a6 a7:Value} (h:OwnD B M d w) (ho:ObjAt b #[a0,a1,a2,a3,a4,a5,a6,a7] 49 w) (x0 x1 x2 x3 x4 x5 x6 x7:Value):OwnD B M d ((((((((w.setCell ⟨b,0,none⟩ x0).setCell ⟨b,1,none⟩ x1).setCell ⟨b,2,none⟩ x2).setCell ⟨b,3,none⟩ x3).setCell ⟨b,4,none⟩ x4).setCell ⟨b,5,none⟩ x5).setCell ⟨b,6,none⟩ x6).setCell ⟨b,7,none⟩ x7) :=
 ⟨own_put8 h.1 ho (by decide) x0 x1 x2 x3 x4 x5 x6 x7,own_put8 h.2.1 ho (by decide) x0 x1 x2 x3 x4 x5 x6 x7,own_put8 h.2.2.1 ho (by decide) x0 x1 x2 x3 x4 x5 x6 x7,own_put8 h.2.2.2.1 ho (by decide) x0 x1 x2 x3 x4 x5 x6 x7,own_put8 h.2.2.2.2.1 ho (by decide) x0 x1 x2 x3 x4 x5 x6 x7,own_put8 h.2.2.2.2.2 ho (by decide) x0 x1 x2 x3 x4 x5 x6 x7⟩
theorem below_put8 {B b:Nat}{w0 w:World} (h:Below B w0 w) (hb:B≤b) (x0 x1 x2 x3 x4 x5 x6 x7:Value):Below B w0 ((((((((w.setCell ⟨b,0,none⟩ x0).setCell ⟨b,1,none⟩ x1).setCell ⟨b,2,none⟩ x2).setCell ⟨b,3,none⟩ x3).setCell ⟨b,4,none⟩ x4).setCell ⟨b,5,none⟩ x5).setCell ⟨b,6,none⟩ x6).setCell ⟨b,7,none⟩ x7) :=
 ((((((((h.setCell (p:=⟨b,0,none⟩) hb x0).setCell (p:=⟨b,1,none⟩) hb x1).setCell (p:=⟨b,2,none⟩) hb x2).setCell (p:=⟨b,3,none⟩) hb x3).setCell (p:=⟨b,4,none⟩) hb x4).setCell (p:=⟨b,5,none⟩) hb x5).setCell (p:=⟨b,6,none⟩) hb x6).setCell (p:=⟨b,7,none⟩) hb x7)
theorem dl_two {w U:World}{N:Nat}{cs:Array Value} (oD:ObjAt N cs 49 w) (j k:Nat) (u v:Value) (hU:(w.setCell ⟨N,j,none⟩ u).setCell ⟨N,k,none⟩ v=U) :
  ObjAt N ((cs.setIfInBounds j u).setIfInBounds k v) 49 U∧(∀(b:Nat) (vs:Array Value) (t:TypeId),b≠N→ObjAt b vs t w→ObjAt b vs t U)∧(∀(B e sz:Nat) (x:Value) (n:Nat) (xs:List Value),e≠49→w.ownsRow B e sz x n xs→U.ownsRow B e sz x n xs)∧(∀(B:Nat) (w0:World),B≤N→Below B w0 w→Below B w0 U)∧U.heap.size=w.heap.size:=by
 subst hU
 have h1:=objAt_set oD j u
 exact⟨objAt_set h1 k v,fun b vs t hb h=>objAt_other (objAt_other h hb j u) hb k v,fun B e sz x n xs he h=>own_box (own_box h oD (Ne.symm he) j u) h1 (Ne.symm he) k v,fun B w0 hB h=>(h.setCell (p:=⟨N,j,none⟩) hB u).setCell (p:=⟨N,k,none⟩) hB v,by simp[World.setCell]⟩
theorem three_blocks (w:World) (a0 a1 a2 a3 b0 b1 b2 b3:Value) (W0:World) (hW:((w.alloc (.cells #[a0,a1,a2,a3] 26)).alloc (.cells #[b0,b1,b2,b3] 26)).alloc (.cells #[.int .i64 0,.int .i64 0,.slice none 0 0,.slice none 0 0,.slice none 0 0,.slice none 0 0,.slice none 0 0,.slice none 0 0] 49)=W0) :
  ObjAt w.heap.size #[a0,a1,a2,a3] 26 W0∧ObjAt (w.heap.size+1) #[b0,b1,b2,b3] 26 W0∧ObjAt (w.heap.size+2) #[.int .i64 0,.int .i64 0,.slice none 0 0,.slice none 0 0,.slice none 0 0,.slice none 0 0,.slice none 0 0,.slice none 0 0] 49 W0∧Below w.heap.size w W0∧W0.heap.size=w.heap.size+3:=by
 rw[←hW]
 have p1:=objAt_new (w.alloc (.cells #[a0,a1,a2,a3] 26)) #[b0,b1,b2,b3] 26
 have p2:=objAt_new ((w.alloc (.cells #[a0,a1,a2,a3] 26)).alloc (.cells #[b0,b1,b2,b3] 26)) #[.int .i64 0,.int .i64 0,.slice none 0 0,.slice none 0 0,.slice none 0 0,.slice none 0 0,.slice none 0 0,.slice none 0 0] 49
 rw[World.size_alloc] at p1
 rw[World.size_alloc,World.size_alloc] at p2
 exact⟨objAt_next (objAt_next (objAt_new w _ _) (below_one _ _)) (below_one _ _),objAt_next p1 (below_one _ _),p2,below_trans (below_trans (below_one _ _) (below_one _ _) (by simp)) (below_one _ _) (by simp;omega),by simp⟩
end Go.Proofs.YtiekgafopalfmaaGreatDoor
