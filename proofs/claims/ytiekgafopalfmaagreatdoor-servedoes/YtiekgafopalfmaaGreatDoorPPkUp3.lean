import Derived.Test.YtiekgafopalfmaaGreatDoorPPkUp1
import Derived.Deep.RegionHeld3
set_option maxRecDepth 100000
set_option maxHeartbeats 4000000
namespace Go.Proofs.YtiekgafopalfmaaGreatDoor
open Go.RowKit
def SepJob (H:Nat) (x:JobD) (W w:World):Prop:=ObjAt H #[.string x.name,.int .i64 x.prio,.int .i64 x.need,.int .i64 x.tries,.string x.tag] 38 w∧ObjAt (H+1) #[.string ⟨#[]⟩,.int .i64 0,.int .i64 0,.int .i64 0,.string ⟨#[]⟩] 38 w∧Below H W w
theorem sepJob_all {H:Nat}{x:JobD}{W w:World} (h:SepJob H x W w):(w.cell? ⟨H,0,none⟩=some (.string x.name)∧w.cell? ⟨H,4,none⟩=some (.string x.tag)∧w.frozen? ⟨H,0,none⟩=false∧w.frozen? ⟨H,4,none⟩=false)∧SepJob H x W w :=
 ⟨⟨objAt_cell h.1 0 rfl,objAt_cell h.1 4 rfl,objAt_free h.1 0,objAt_free h.1 4⟩,h⟩
theorem sepJob_call {H:Nat}{x:JobD}{W w w':World} (hb:Below w.heap.size w w') (h:(w.cell? ⟨H,0,none⟩=some (.string x.name)∧w.cell? ⟨H,4,none⟩=some (.string x.tag)∧w.frozen? ⟨H,0,none⟩=false∧w.frozen? ⟨H,4,none⟩=false)∧SepJob H x W w):(w'.cell? ⟨H,0,none⟩=some (.string x.name)∧w'.cell? ⟨H,4,none⟩=some (.string x.tag)∧w'.frozen? ⟨H,0,none⟩=false∧w'.frozen? ⟨H,4,none⟩=false)∧SepJob H x W w' :=
 sepJob_all ⟨objAt_next h.2.1 hb,objAt_next h.2.2.1 hb,below_trans h.2.2.2 hb (Nat.le_of_lt (objAt_lt h.2.1))⟩
theorem sepJob_set0 {H:Nat}{x:JobD}{W w:World} (h:(w.cell? ⟨H,0,none⟩=some (.string x.name)∧w.cell? ⟨H,4,none⟩=some (.string x.tag)∧w.frozen? ⟨H,0,none⟩=false∧w.frozen? ⟨H,4,none⟩=false)∧SepJob H x W w):((w.setCell ⟨H,0,none⟩ (.string x.name)).cell? ⟨H,0,none⟩=some (.string x.name)∧(w.setCell ⟨H,0,none⟩ (.string x.name)).cell? ⟨H,4,none⟩=some (.string x.tag)∧(w.setCell ⟨H,0,none⟩ (.string x.name)).frozen? ⟨H,0,none⟩=false∧(w.setCell ⟨H,0,none⟩ (.string x.name)).frozen? ⟨H,4,none⟩=false)∧SepJob H x W (w.setCell ⟨H,0,none⟩ (.string x.name)) :=
 sepJob_all ⟨objAt_set h.2.1 0 (.string x.name),objAt_other h.2.2.1 (by omega) 0 _,h.2.2.2.setCell (p:=⟨H,0,none⟩) (Nat.le_refl _) _⟩
theorem sepJob_set4 {H:Nat}{x:JobD}{W w:World} (h:(w.cell? ⟨H,0,none⟩=some (.string x.name)∧w.cell? ⟨H,4,none⟩=some (.string x.tag)∧w.frozen? ⟨H,0,none⟩=false∧w.frozen? ⟨H,4,none⟩=false)∧SepJob H x W w):((w.setCell ⟨H,4,none⟩ (.string x.tag)).cell? ⟨H,0,none⟩=some (.string x.name)∧(w.setCell ⟨H,4,none⟩ (.string x.tag)).cell? ⟨H,4,none⟩=some (.string x.tag)∧(w.setCell ⟨H,4,none⟩ (.string x.tag)).frozen? ⟨H,0,none⟩=false∧(w.setCell ⟨H,4,none⟩ (.string x.tag)).frozen? ⟨H,4,none⟩=false)∧SepJob H x W (w.setCell ⟨H,4,none⟩ (.string x.tag)) :=
 sepJob_all ⟨objAt_set h.2.1 4 (.string x.tag),objAt_other h.2.2.1 (by omega) 4 _,h.2.2.2.setCell (p:=⟨H,4,none⟩) (Nat.le_refl _) _⟩
theorem sepJob_is (x:JobD) (h1:x.name.size≤140737488355328) (h2:x.tag.size≤140737488355328) (w:World):Calls Tryz.prog 44 #[.agg #[.string x.name,.int .i64 x.prio,.int .i64 x.need,.int .i64 x.tries,.string x.tag]] w fun e w'=>e = .returned (.agg #[.string x.name,.int .i64 x.prio,.int .i64 x.need,.int .i64 x.tries,.string x.tag])∧Below w.heap.size w w':=by
 obtain⟨H,hH⟩:∃H,w.heap.size=H:=⟨_,rfl⟩
 obtain⟨W0,hW0⟩:∃W0,(w.alloc (.cells #[.string x.name,.int .i64 x.prio,.int .i64 x.need,.int .i64 x.tries,.string x.tag] 38)).alloc (.cells #[.string ⟨#[]⟩,.int .i64 0,.int .i64 0,.int .i64 0,.string ⟨#[]⟩] 38)=W0:=⟨_,rfl⟩
 have s0:SepJob H x w W0:=by
  rw[←hW0,←hH]
  refine⟨objAt_next (objAt_new w _ _) (below_one _ _),?_,below_trans (below_one _ _) (below_one _ _) (by simp)⟩
  have:=objAt_new (w.alloc (.cells #[.string x.name,.int .i64 x.prio,.int .i64 x.need,.int .i64 x.tries,.string x.tag] 38)) #[.string ⟨#[]⟩,.int .i64 0,.int .i64 0,.int .i64 0,.string ⟨#[]⟩] 38
  rwa [World.size_alloc] at this
 have q0:=sepJob_all (w:=W0.drew) ⟨objAt_drew s0.1,objAt_drew s0.2.1,s0.2.2.drew⟩
 have HC1:=Lib.hid (fun w=>clone_is x.name h1 w)
 have HC2:=Lib.hid (fun w=>clone_is x.tag h2 w)
 clear h1 h2 s0
 rw[hH]
 go_enter Tryz.func44,Tryz.ntmps44
 go_wp2_with fail
 go_region_held3 (fun w'=>(w'.cell? ⟨H,0,none⟩=some (.string x.name)∧w'.cell? ⟨H,4,none⟩=some (.string x.tag)∧w'.frozen? ⟨H,0,none⟩=false∧w'.frozen? ⟨H,4,none⟩=false)∧SepJob H x w w')
  (first | assumption | exact q0 | exact sepJob_set0 (by assumption) | exact sepJob_set4 (by assumption))
  (first
   | (go_at_call 78;(with_reducible refine(HC1.out _).mono ?_);rintro e x1 ⟨rfl,c1⟩;have s1:=sepJob_call (H:=H) (x:=x) (W:=w) c1 (by assumption))
   | (go_at_call 78;(with_reducible refine(HC2.out _).mono ?_);rintro e x2 ⟨rfl,c2⟩;have s2:=sepJob_call (H:=H) (x:=x) (W:=w) c2 (by assumption)))
 all_goals
  rename_i hS
  obtain⟨_,o1,o2,hB⟩:=hS
  have c0:=objAt_cell o1 0 rfl
  have f0:=objAt_free o2 0
  have k0:=objAt_cell o2 0 rfl
  have c1:=objAt_cell o1 1 rfl
  have f1:=objAt_free o2 1
  have k1:=objAt_cell o2 1 rfl
  have c2:=objAt_cell o1 2 rfl
  have f2:=objAt_free o2 2
  have k2:=objAt_cell o2 2 rfl
  have c3:=objAt_cell o1 3 rfl
  have f3:=objAt_free o2 3
  have k3:=objAt_cell o2 3 rfl
  have c4:=objAt_cell o1 4 rfl
  have f4:=objAt_free o2 4
  have k4:=objAt_cell o2 4 rfl
  have oF:ObjAt (H+1) #[.string x.name,.int .i64 x.prio,.int .i64 x.need,.int .i64 x.tries,.string x.tag] 38 _:=(objAt_set (objAt_set (objAt_set (objAt_set (objAt_set o2 0 (.string x.name)) 1 (.int .i64 x.prio)) 2 (.int .i64 x.need)) 3 (.int .i64 x.tries)) 4 (.string x.tag))
  have BB:=Lib.hid (((((hB.setCell (p:=⟨H+1,0,none⟩) (Nat.le_succ H) (.string x.name)).setCell (p:=⟨H+1,1,none⟩) (Nat.le_succ H) (.int .i64 x.prio)).setCell (p:=⟨H+1,2,none⟩) (Nat.le_succ H) (.int .i64 x.need)).setCell (p:=⟨H+1,3,none⟩) (Nat.le_succ H) (.int .i64 x.tries)).setCell (p:=⟨H+1,4,none⟩) (Nat.le_succ H) (.string x.tag))
  have t0:=objAt_cell oF 0 rfl
  have t1:=objAt_cell oF 1 rfl
  have t2:=objAt_cell oF 2 rfl
  have t3:=objAt_cell oF 3 rfl
  have t4:=objAt_cell oF 4 rfl
  have TT:=Lib.hid (And.intro t0 (And.intro t1 (And.intro t2 (And.intro t3 t4))))
  clear oF hB o1 o2 t0 t1 t2 t3 t4
  go_wp2
  obtain⟨t0,t1,t2,t3,t4⟩:=TT.out
  exact bodyPost_ret (v:=.agg #[.string x.name,.int .i64 x.prio,.int .i64 x.need,.int .i64 x.tries,.string x.tag]) (by simp[results,Tryz.results44,go_sem,t0,t1,t2,t3,t4]) rfl ⟨rfl,BB.out⟩
def SepNode (H:Nat) (x:NodeD) (W w:World):Prop:=ObjAt H #[.string x.name,.int .i64 x.room,.string x.zone] 40 w∧ObjAt (H+1) #[.string ⟨#[]⟩,.int .i64 0,.string ⟨#[]⟩] 40 w∧Below H W w
theorem sepNode_all {H:Nat}{x:NodeD}{W w:World} (h:SepNode H x W w):(w.cell? ⟨H,0,none⟩=some (.string x.name)∧w.cell? ⟨H,2,none⟩=some (.string x.zone)∧w.frozen? ⟨H,0,none⟩=false∧w.frozen? ⟨H,2,none⟩=false)∧SepNode H x W w :=
 ⟨⟨objAt_cell h.1 0 rfl,objAt_cell h.1 2 rfl,objAt_free h.1 0,objAt_free h.1 2⟩,h⟩
theorem sepNode_call {H:Nat}{x:NodeD}{W w w':World} (hb:Below w.heap.size w w') (h:(w.cell? ⟨H,0,none⟩=some (.string x.name)∧w.cell? ⟨H,2,none⟩=some (.string x.zone)∧w.frozen? ⟨H,0,none⟩=false∧w.frozen? ⟨H,2,none⟩=false)∧SepNode H x W w):(w'.cell? ⟨H,0,none⟩=some (.string x.name)∧w'.cell? ⟨H,2,none⟩=some (.string x.zone)∧w'.frozen? ⟨H,0,none⟩=false∧w'.frozen? ⟨H,2,none⟩=false)∧SepNode H x W w' :=
 sepNode_all ⟨objAt_next h.2.1 hb,objAt_next h.2.2.1 hb,below_trans h.2.2.2 hb (Nat.le_of_lt (objAt_lt h.2.1))⟩
theorem sepNode_set0 {H:Nat}{x:NodeD}{W w:World} (h:(w.cell? ⟨H,0,none⟩=some (.string x.name)∧w.cell? ⟨H,2,none⟩=some (.string x.zone)∧w.frozen? ⟨H,0,none⟩=false∧w.frozen? ⟨H,2,none⟩=false)∧SepNode H x W w):((w.setCell ⟨H,0,none⟩ (.string x.name)).cell? ⟨H,0,none⟩=some (.string x.name)∧(w.setCell ⟨H,0,none⟩ (.string x.name)).cell? ⟨H,2,none⟩=some (.string x.zone)∧(w.setCell ⟨H,0,none⟩ (.string x.name)).frozen? ⟨H,0,none⟩=false∧(w.setCell ⟨H,0,none⟩ (.string x.name)).frozen? ⟨H,2,none⟩=false)∧SepNode H x W (w.setCell ⟨H,0,none⟩ (.string x.name)) :=
 sepNode_all ⟨objAt_set h.2.1 0 (.string x.name),objAt_other h.2.2.1 (by omega) 0 _,h.2.2.2.setCell (p:=⟨H,0,none⟩) (Nat.le_refl _) _⟩
theorem sepNode_set2 {H:Nat}{x:NodeD}{W w:World} (h:(w.cell? ⟨H,0,none⟩=some (.string x.name)∧w.cell? ⟨H,2,none⟩=some (.string x.zone)∧w.frozen? ⟨H,0,none⟩=false∧w.frozen? ⟨H,2,none⟩=false)∧SepNode H x W w):((w.setCell ⟨H,2,none⟩ (.string x.zone)).cell? ⟨H,0,none⟩=some (.string x.name)∧(w.setCell ⟨H,2,none⟩ (.string x.zone)).cell? ⟨H,2,none⟩=some (.string x.zone)∧(w.setCell ⟨H,2,none⟩ (.string x.zone)).frozen? ⟨H,0,none⟩=false∧(w.setCell ⟨H,2,none⟩ (.string x.zone)).frozen? ⟨H,2,none⟩=false)∧SepNode H x W (w.setCell ⟨H,2,none⟩ (.string x.zone)) :=
 sepNode_all ⟨objAt_set h.2.1 2 (.string x.zone),objAt_other h.2.2.1 (by omega) 2 _,h.2.2.2.setCell (p:=⟨H,2,none⟩) (Nat.le_refl _) _⟩
theorem sepNode_is (x:NodeD) (h1:x.name.size≤140737488355328) (h2:x.zone.size≤140737488355328) (w:World):Calls Tryz.prog 46 #[.agg #[.string x.name,.int .i64 x.room,.string x.zone]] w fun e w'=>e = .returned (.agg #[.string x.name,.int .i64 x.room,.string x.zone])∧Below w.heap.size w w':=by
 obtain⟨H,hH⟩:∃H,w.heap.size=H:=⟨_,rfl⟩
 obtain⟨W0,hW0⟩:∃W0,(w.alloc (.cells #[.string x.name,.int .i64 x.room,.string x.zone] 40)).alloc (.cells #[.string ⟨#[]⟩,.int .i64 0,.string ⟨#[]⟩] 40)=W0:=⟨_,rfl⟩
 have s0:SepNode H x w W0:=by
  rw[←hW0,←hH]
  refine⟨objAt_next (objAt_new w _ _) (below_one _ _),?_,below_trans (below_one _ _) (below_one _ _) (by simp)⟩
  have:=objAt_new (w.alloc (.cells #[.string x.name,.int .i64 x.room,.string x.zone] 40)) #[.string ⟨#[]⟩,.int .i64 0,.string ⟨#[]⟩] 40
  rwa [World.size_alloc] at this
 have q0:=sepNode_all (w:=W0.drew) ⟨objAt_drew s0.1,objAt_drew s0.2.1,s0.2.2.drew⟩
 have HC1:=Lib.hid (fun w=>clone_is x.name h1 w)
 have HC2:=Lib.hid (fun w=>clone_is x.zone h2 w)
 clear h1 h2 s0
 rw[hH]
 go_enter Tryz.func46,Tryz.ntmps46
 go_wp2_with fail
 go_region_held3 (fun w'=>(w'.cell? ⟨H,0,none⟩=some (.string x.name)∧w'.cell? ⟨H,2,none⟩=some (.string x.zone)∧w'.frozen? ⟨H,0,none⟩=false∧w'.frozen? ⟨H,2,none⟩=false)∧SepNode H x w w')
  (first | assumption | exact q0 | exact sepNode_set0 (by assumption) | exact sepNode_set2 (by assumption))
  (first
   | (go_at_call 78;(with_reducible refine(HC1.out _).mono ?_);rintro e x1 ⟨rfl,c1⟩;have s1:=sepNode_call (H:=H) (x:=x) (W:=w) c1 (by assumption))
   | (go_at_call 78;(with_reducible refine(HC2.out _).mono ?_);rintro e x2 ⟨rfl,c2⟩;have s2:=sepNode_call (H:=H) (x:=x) (W:=w) c2 (by assumption)))
 all_goals
  rename_i hS
  obtain⟨_,o1,o2,hB⟩:=hS
  have c0:=objAt_cell o1 0 rfl
  have f0:=objAt_free o2 0
  have k0:=objAt_cell o2 0 rfl
  have c1:=objAt_cell o1 1 rfl
  have f1:=objAt_free o2 1
  have k1:=objAt_cell o2 1 rfl
  have c2:=objAt_cell o1 2 rfl
  have f2:=objAt_free o2 2
  have k2:=objAt_cell o2 2 rfl
  have oF:ObjAt (H+1) #[.string x.name,.int .i64 x.room,.string x.zone] 40 _:=(objAt_set (objAt_set (objAt_set o2 0 (.string x.name)) 1 (.int .i64 x.room)) 2 (.string x.zone))
  have BB:=Lib.hid (((hB.setCell (p:=⟨H+1,0,none⟩) (Nat.le_succ H) (.string x.name)).setCell (p:=⟨H+1,1,none⟩) (Nat.le_succ H) (.int .i64 x.room)).setCell (p:=⟨H+1,2,none⟩) (Nat.le_succ H) (.string x.zone))
  have t0:=objAt_cell oF 0 rfl
  have t1:=objAt_cell oF 1 rfl
  have t2:=objAt_cell oF 2 rfl
  have TT:=Lib.hid (And.intro t0 (And.intro t1 t2))
  clear oF hB o1 o2 t0 t1 t2
  go_wp2
  obtain⟨t0,t1,t2⟩:=TT.out
  exact bodyPost_ret (v:=.agg #[.string x.name,.int .i64 x.room,.string x.zone]) (by simp[results,Tryz.results46,go_sem,t0,t1,t2]) rfl ⟨rfl,BB.out⟩
def SepLease (H:Nat) (x:LeaseD) (W w:World):Prop:=ObjAt H #[.string x.job,.string x.node,.int .i64 x.til] 42 w∧ObjAt (H+1) #[.string ⟨#[]⟩,.string ⟨#[]⟩,.int .i64 0] 42 w∧Below H W w
theorem sepLease_all {H:Nat}{x:LeaseD}{W w:World} (h:SepLease H x W w):(w.cell? ⟨H,0,none⟩=some (.string x.job)∧w.cell? ⟨H,1,none⟩=some (.string x.node)∧w.frozen? ⟨H,0,none⟩=false∧w.frozen? ⟨H,1,none⟩=false)∧SepLease H x W w :=
 ⟨⟨objAt_cell h.1 0 rfl,objAt_cell h.1 1 rfl,objAt_free h.1 0,objAt_free h.1 1⟩,h⟩
theorem sepLease_call {H:Nat}{x:LeaseD}{W w w':World} (hb:Below w.heap.size w w') (h:(w.cell? ⟨H,0,none⟩=some (.string x.job)∧w.cell? ⟨H,1,none⟩=some (.string x.node)∧w.frozen? ⟨H,0,none⟩=false∧w.frozen? ⟨H,1,none⟩=false)∧SepLease H x W w):(w'.cell? ⟨H,0,none⟩=some (.string x.job)∧w'.cell? ⟨H,1,none⟩=some (.string x.node)∧w'.frozen? ⟨H,0,none⟩=false∧w'.frozen? ⟨H,1,none⟩=false)∧SepLease H x W w' :=
 sepLease_all ⟨objAt_next h.2.1 hb,objAt_next h.2.2.1 hb,below_trans h.2.2.2 hb (Nat.le_of_lt (objAt_lt h.2.1))⟩
theorem sepLease_set0 {H:Nat}{x:LeaseD}{W w:World} (h:(w.cell? ⟨H,0,none⟩=some (.string x.job)∧w.cell? ⟨H,1,none⟩=some (.string x.node)∧w.frozen? ⟨H,0,none⟩=false∧w.frozen? ⟨H,1,none⟩=false)∧SepLease H x W w):((w.setCell ⟨H,0,none⟩ (.string x.job)).cell? ⟨H,0,none⟩=some (.string x.job)∧(w.setCell ⟨H,0,none⟩ (.string x.job)).cell? ⟨H,1,none⟩=some (.string x.node)∧(w.setCell ⟨H,0,none⟩ (.string x.job)).frozen? ⟨H,0,none⟩=false∧(w.setCell ⟨H,0,none⟩ (.string x.job)).frozen? ⟨H,1,none⟩=false)∧SepLease H x W (w.setCell ⟨H,0,none⟩ (.string x.job)) :=
 sepLease_all ⟨objAt_set h.2.1 0 (.string x.job),objAt_other h.2.2.1 (by omega) 0 _,h.2.2.2.setCell (p:=⟨H,0,none⟩) (Nat.le_refl _) _⟩
theorem sepLease_set1 {H:Nat}{x:LeaseD}{W w:World} (h:(w.cell? ⟨H,0,none⟩=some (.string x.job)∧w.cell? ⟨H,1,none⟩=some (.string x.node)∧w.frozen? ⟨H,0,none⟩=false∧w.frozen? ⟨H,1,none⟩=false)∧SepLease H x W w):((w.setCell ⟨H,1,none⟩ (.string x.node)).cell? ⟨H,0,none⟩=some (.string x.job)∧(w.setCell ⟨H,1,none⟩ (.string x.node)).cell? ⟨H,1,none⟩=some (.string x.node)∧(w.setCell ⟨H,1,none⟩ (.string x.node)).frozen? ⟨H,0,none⟩=false∧(w.setCell ⟨H,1,none⟩ (.string x.node)).frozen? ⟨H,1,none⟩=false)∧SepLease H x W (w.setCell ⟨H,1,none⟩ (.string x.node)) :=
 sepLease_all ⟨objAt_set h.2.1 1 (.string x.node),objAt_other h.2.2.1 (by omega) 1 _,h.2.2.2.setCell (p:=⟨H,1,none⟩) (Nat.le_refl _) _⟩
theorem sepLease_is (x:LeaseD) (h1:x.job.size≤140737488355328) (h2:x.node.size≤140737488355328) (w:World):Calls Tryz.prog 48 #[.agg #[.string x.job,.string x.node,.int .i64 x.til]] w fun e w'=>e = .returned (.agg #[.string x.job,.string x.node,.int .i64 x.til])∧Below w.heap.size w w':=by
 obtain⟨H,hH⟩:∃H,w.heap.size=H:=⟨_,rfl⟩
 obtain⟨W0,hW0⟩:∃W0,(w.alloc (.cells #[.string x.job,.string x.node,.int .i64 x.til] 42)).alloc (.cells #[.string ⟨#[]⟩,.string ⟨#[]⟩,.int .i64 0] 42)=W0:=⟨_,rfl⟩
 have s0:SepLease H x w W0:=by
  rw[←hW0,←hH]
  refine⟨objAt_next (objAt_new w _ _) (below_one _ _),?_,below_trans (below_one _ _) (below_one _ _) (by simp)⟩
  have:=objAt_new (w.alloc (.cells #[.string x.job,.string x.node,.int .i64 x.til] 42)) #[.string ⟨#[]⟩,.string ⟨#[]⟩,.int .i64 0] 42
  rwa [World.size_alloc] at this
 have q0:=sepLease_all (w:=W0.drew) ⟨objAt_drew s0.1,objAt_drew s0.2.1,s0.2.2.drew⟩
 have HC1:=Lib.hid (fun w=>clone_is x.job h1 w)
 have HC2:=Lib.hid (fun w=>clone_is x.node h2 w)
 clear h1 h2 s0
 rw[hH]
 go_enter Tryz.func48,Tryz.ntmps48
 go_wp2_with fail
 go_region_held3 (fun w'=>(w'.cell? ⟨H,0,none⟩=some (.string x.job)∧w'.cell? ⟨H,1,none⟩=some (.string x.node)∧w'.frozen? ⟨H,0,none⟩=false∧w'.frozen? ⟨H,1,none⟩=false)∧SepLease H x w w')
  (first | assumption | exact q0 | exact sepLease_set0 (by assumption) | exact sepLease_set1 (by assumption))
  (first
   | (go_at_call 78;(with_reducible refine(HC1.out _).mono ?_);rintro e x1 ⟨rfl,c1⟩;have s1:=sepLease_call (H:=H) (x:=x) (W:=w) c1 (by assumption))
   | (go_at_call 78;(with_reducible refine(HC2.out _).mono ?_);rintro e x2 ⟨rfl,c2⟩;have s2:=sepLease_call (H:=H) (x:=x) (W:=w) c2 (by assumption)))
 all_goals
  rename_i hS
  obtain⟨_,o1,o2,hB⟩:=hS
  have c0:=objAt_cell o1 0 rfl
  have f0:=objAt_free o2 0
  have k0:=objAt_cell o2 0 rfl
  have c1:=objAt_cell o1 1 rfl
  have f1:=objAt_free o2 1
  have k1:=objAt_cell o2 1 rfl
  have c2:=objAt_cell o1 2 rfl
  have f2:=objAt_free o2 2
  have k2:=objAt_cell o2 2 rfl
  have oF:ObjAt (H+1) #[.string x.job,.string x.node,.int .i64 x.til] 42 _:=(objAt_set (objAt_set (objAt_set o2 0 (.string x.job)) 1 (.string x.node)) 2 (.int .i64 x.til))
  have BB:=Lib.hid (((hB.setCell (p:=⟨H+1,0,none⟩) (Nat.le_succ H) (.string x.job)).setCell (p:=⟨H+1,1,none⟩) (Nat.le_succ H) (.string x.node)).setCell (p:=⟨H+1,2,none⟩) (Nat.le_succ H) (.int .i64 x.til))
  have t0:=objAt_cell oF 0 rfl
  have t1:=objAt_cell oF 1 rfl
  have t2:=objAt_cell oF 2 rfl
  have TT:=Lib.hid (And.intro t0 (And.intro t1 t2))
  clear oF hB o1 o2 t0 t1 t2
  go_wp2
  obtain⟨t0,t1,t2⟩:=TT.out
  exact bodyPost_ret (v:=.agg #[.string x.job,.string x.node,.int .i64 x.til]) (by simp[results,Tryz.results48,go_sem,t0,t1,t2]) rfl ⟨rfl,BB.out⟩
end Go.Proofs.YtiekgafopalfmaaGreatDoor
namespace Go.Proofs.YtiekgafopalfmaaGreatDoor
open Go.RowKit
end Go.Proofs.YtiekgafopalfmaaGreatDoor
namespace Go.Proofs.YtiekgafopalfmaaGreatDoor
open Go.RowKit
theorem map_take {α β:Type} (g:α→β) (xs:List α) (i:Nat) (h:i<xs.length):(xs.take (i+1)).map g=(xs.take i).map g ++ [g xs[i]]:=by rw[List.take_add_one,List.map_append,List.getElem?_eq_getElem h];rfl
theorem eachJ_sep (xs:List JobD) (ad:Option Addr) (cap:Nat) (hlen:xs.length≤40) (w:World) (hx:JobsAt w ad xs)
  (hF:∀x∈xs,∀w1,Below w.heap.size w w1→Calls Tryz.prog 44 #[.agg #[.string x.name,.int .i64 x.prio,.int .i64 x.need,.int .i64 x.tries,.string x.tag]] w1 fun e w2=>e = .returned (.agg #[.string x.name,.int .i64 x.prio,.int .i64 x.need,.int .i64 x.tries,.string x.tag])∧Below w1.heap.size w1 w2) :
  Calls Tryz.prog 43 #[.slice ad xs.length cap,.func (.func 44) #[] #[]] w fun e w'=>∃ad' cap',e = .returned (.slice ad' xs.length cap')∧w'.ownsRow w.heap.size 38 5 (.slice ad' xs.length cap') xs.length (cJobs (xs.map id))∧Below w.heap.size w w':=by
 obtain⟨i0,qi,qz0,qz1,qz2⟩:=info_parts' Tryz.info_job
 have Hi:=Lib.hid qi
 have Hz0:=Lib.hid qz0
 have Hz1:=Lib.hid qz1
 have Hz2:=Lib.hid qz2
 have HX:=Lib.hid hx
 have HF:=Lib.hid hF
 clear hx hF qi qz0 qz1 qz2
 go_enter Tryz.func43,Tryz.ntmps43
 go_wp2
 go_loopw [5,10] (fun pv iv wr=>∃(i:Nat),iv = .int .i64 (i:Int)∧i≤xs.length∧wr.ownsRow w.heap.size 38 5 pv i (cJobs ((xs.take i).map id))∧Below w.heap.size w wr) (fun _ iv _=>xs.length - (intOf iv).toNat)
 case atStart=>exact⟨0,rfl,Nat.zero_le _,World.ownsRow_nil _ _ _ _,Below.refl _ _⟩
 case round =>
  obtain⟨i,rfl,hi,hown,hbr⟩:=hrel
  by_cases h:(i:Int)<(xs.length:Int)
  ·have hil:i<xs.length:=by omega
   obtain⟨a,rfl,hal,k0,k1,k2,k3,k4⟩:=jobsAt_next HX.out hbr i hil
   obtain⟨x,hxi⟩:∃x,xs[i]=x:=⟨_,rfl⟩
   rw[hxi] at k0 k1 k2 k3 k4
   have bA:=below_one wr (.cells #[.string x.name,.int .i64 x.prio,.int .i64 x.need,.int .i64 x.tries,.string x.tag] 38)
   have BA:=below_trans hbr bA hbr.size
   have HC:=Lib.hid (HF.out x (hxi ▸ List.getElem_mem hil) _ BA)
   have HM:=Lib.hid (map_take id xs i hil)
   rw[hxi] at HM
   have hown1:=own_next hown bA
   have HB:=Lib.hid BA
   clear bA BA hxi
   go_wp2_with fail
   refine HC.out.mono ?_
   rintro r w2 ⟨rfl,b2⟩
   have hown2:=own_next hown1 b2
   have B2:=below_trans HB.out b2 HB.out.size
   have s2:=B2.size
   clear HC hown hown1 hbr HB b2 hal k0 k1 k2 k3 k4
   go_wp2_with (at_builtin;refine wpList_append_own _ rfl _ _ 22 rfl w.heap.size 38 i0 _ 5 56 Tryz.underlying22 Hi.out Hz0.out Hz1.out Hz2.out rfl (by decide) _ _ _ rfl (hown2.alloc _) ⟨w2.heap.size,0,none⟩ 1 1 (cJob x) rfl rfl ?c1 ?c2 ?c3 ?c4 ?c5 ?_)
   case c1=>exact job_new w2 x _
   case c2=>exact job_ones x
   case c3=>unfold maxLen;omega
   case c4=>omega
   case c5=>simp;omega
   ·intro v3 w3 own3 hg3 _
    have hb3:=(below_trans B2 (below_one w2 _) B2.size).grown hg3 (by simp;omega) (fun k hk'=>(hown2.lt k hk').1)
    rw[←cJobs_one,←cJobs_append] at own3
    have own4:w3.ownsRow w.heap.size 38 5 v3 (i+1) (cJobs ((xs.take (i+1)).map id)):=by rw[HM.out];simpa using own3
    clear hown2 B2 s2 own3 hg3
    go_wp2
    go_roundw
    case rel=>exact⟨i+1,by simp,by omega,own4,hb3⟩
    case measure=>simp[intOf];omega
  ·obtain rfl:i=xs.length:=by omega
   rw[List.take_length] at hown
   have hl:(xs.map id).length=xs.length:=List.length_map _
   have hown':=hown
   rw[←hl] at hown'
   obtain⟨ad',cap',rfl,_⟩:=own_jobs hown'
   rw[hl] at hown⊢
   clear hown'
   go_wp2
   go_ret
   exact⟨_,_,rfl,(by first | exact hown | simpa using hown),hbr⟩
theorem eachN_sep (xs:List NodeD) (ad:Option Addr) (cap:Nat) (hlen:xs.length≤40) (w:World) (hx:NodesAt w ad xs)
  (hF:∀x∈xs,∀w1,Below w.heap.size w w1→Calls Tryz.prog 46 #[.agg #[.string x.name,.int .i64 x.room,.string x.zone]] w1 fun e w2=>e = .returned (.agg #[.string x.name,.int .i64 x.room,.string x.zone])∧Below w1.heap.size w1 w2) :
  Calls Tryz.prog 45 #[.slice ad xs.length cap,.func (.func 46) #[] #[]] w fun e w'=>∃ad' cap',e = .returned (.slice ad' xs.length cap')∧w'.ownsRow w.heap.size 40 3 (.slice ad' xs.length cap') xs.length (cNodes (xs.map id))∧Below w.heap.size w w':=by
 obtain⟨i0,qi,qz0,qz1,qz2⟩:=info_parts' Tryz.info_node
 have Hi:=Lib.hid qi
 have Hz0:=Lib.hid qz0
 have Hz1:=Lib.hid qz1
 have Hz2:=Lib.hid qz2
 have HX:=Lib.hid hx
 have HF:=Lib.hid hF
 clear hx hF qi qz0 qz1 qz2
 go_enter Tryz.func45,Tryz.ntmps45
 go_wp2
 go_loopw [5,10] (fun pv iv wr=>∃(i:Nat),iv = .int .i64 (i:Int)∧i≤xs.length∧wr.ownsRow w.heap.size 40 3 pv i (cNodes ((xs.take i).map id))∧Below w.heap.size w wr) (fun _ iv _=>xs.length - (intOf iv).toNat)
 case atStart=>exact⟨0,rfl,Nat.zero_le _,World.ownsRow_nil _ _ _ _,Below.refl _ _⟩
 case round =>
  obtain⟨i,rfl,hi,hown,hbr⟩:=hrel
  by_cases h:(i:Int)<(xs.length:Int)
  ·have hil:i<xs.length:=by omega
   obtain⟨a,rfl,hal,k0,k1,k2⟩:=nodesAt_next HX.out hbr i hil
   obtain⟨x,hxi⟩:∃x,xs[i]=x:=⟨_,rfl⟩
   rw[hxi] at k0 k1 k2
   have bA:=below_one wr (.cells #[.string x.name,.int .i64 x.room,.string x.zone] 40)
   have BA:=below_trans hbr bA hbr.size
   have HC:=Lib.hid (HF.out x (hxi ▸ List.getElem_mem hil) _ BA)
   have HM:=Lib.hid (map_take id xs i hil)
   rw[hxi] at HM
   have hown1:=own_next hown bA
   have HB:=Lib.hid BA
   clear bA BA hxi
   go_wp2_with fail
   refine HC.out.mono ?_
   rintro r w2 ⟨rfl,b2⟩
   have hown2:=own_next hown1 b2
   have B2:=below_trans HB.out b2 HB.out.size
   have s2:=B2.size
   clear HC hown hown1 hbr HB b2 hal k0 k1 k2
   go_wp2_with (at_builtin;refine wpList_append_own _ rfl _ _ 23 rfl w.heap.size 40 i0 _ 3 40 Tryz.underlying23 Hi.out Hz0.out Hz1.out Hz2.out rfl (by decide) _ _ _ rfl (hown2.alloc _) ⟨w2.heap.size,0,none⟩ 1 1 (cNode x) rfl rfl ?c1 ?c2 ?c3 ?c4 ?c5 ?_)
   case c1=>exact node_new w2 x _
   case c2=>exact node_ones x
   case c3=>unfold maxLen;omega
   case c4=>omega
   case c5=>simp;omega
   ·intro v3 w3 own3 hg3 _
    have hb3:=(below_trans B2 (below_one w2 _) B2.size).grown hg3 (by simp;omega) (fun k hk'=>(hown2.lt k hk').1)
    rw[←cNodes_one,←cNodes_append] at own3
    have own4:w3.ownsRow w.heap.size 40 3 v3 (i+1) (cNodes ((xs.take (i+1)).map id)):=by rw[HM.out];simpa using own3
    clear hown2 B2 s2 own3 hg3
    go_wp2
    go_roundw
    case rel=>exact⟨i+1,by simp,by omega,own4,hb3⟩
    case measure=>simp[intOf];omega
  ·obtain rfl:i=xs.length:=by omega
   rw[List.take_length] at hown
   have hl:(xs.map id).length=xs.length:=List.length_map _
   have hown':=hown
   rw[←hl] at hown'
   obtain⟨ad',cap',rfl,_⟩:=own_nodes hown'
   rw[hl] at hown⊢
   clear hown'
   go_wp2
   go_ret
   exact⟨_,_,rfl,(by first | exact hown | simpa using hown),hbr⟩
theorem eachL_sep (xs:List LeaseD) (ad:Option Addr) (cap:Nat) (hlen:xs.length≤40) (w:World) (hx:LeasesAt w ad xs)
  (hF:∀x∈xs,∀w1,Below w.heap.size w w1→Calls Tryz.prog 48 #[.agg #[.string x.job,.string x.node,.int .i64 x.til]] w1 fun e w2=>e = .returned (.agg #[.string x.job,.string x.node,.int .i64 x.til])∧Below w1.heap.size w1 w2) :
  Calls Tryz.prog 47 #[.slice ad xs.length cap,.func (.func 48) #[] #[]] w fun e w'=>∃ad' cap',e = .returned (.slice ad' xs.length cap')∧w'.ownsRow w.heap.size 42 3 (.slice ad' xs.length cap') xs.length (cLeases (xs.map id))∧Below w.heap.size w w':=by
 obtain⟨i0,qi,qz0,qz1,qz2⟩:=info_parts' Tryz.info_lease
 have Hi:=Lib.hid qi
 have Hz0:=Lib.hid qz0
 have Hz1:=Lib.hid qz1
 have Hz2:=Lib.hid qz2
 have HX:=Lib.hid hx
 have HF:=Lib.hid hF
 clear hx hF qi qz0 qz1 qz2
 go_enter Tryz.func47,Tryz.ntmps47
 go_wp2
 go_loopw [5,10] (fun pv iv wr=>∃(i:Nat),iv = .int .i64 (i:Int)∧i≤xs.length∧wr.ownsRow w.heap.size 42 3 pv i (cLeases ((xs.take i).map id))∧Below w.heap.size w wr) (fun _ iv _=>xs.length - (intOf iv).toNat)
 case atStart=>exact⟨0,rfl,Nat.zero_le _,World.ownsRow_nil _ _ _ _,Below.refl _ _⟩
 case round =>
  obtain⟨i,rfl,hi,hown,hbr⟩:=hrel
  by_cases h:(i:Int)<(xs.length:Int)
  ·have hil:i<xs.length:=by omega
   obtain⟨a,rfl,hal,k0,k1,k2⟩:=leasesAt_next HX.out hbr i hil
   obtain⟨x,hxi⟩:∃x,xs[i]=x:=⟨_,rfl⟩
   rw[hxi] at k0 k1 k2
   have bA:=below_one wr (.cells #[.string x.job,.string x.node,.int .i64 x.til] 42)
   have BA:=below_trans hbr bA hbr.size
   have HC:=Lib.hid (HF.out x (hxi ▸ List.getElem_mem hil) _ BA)
   have HM:=Lib.hid (map_take id xs i hil)
   rw[hxi] at HM
   have hown1:=own_next hown bA
   have HB:=Lib.hid BA
   clear bA BA hxi
   go_wp2_with fail
   refine HC.out.mono ?_
   rintro r w2 ⟨rfl,b2⟩
   have hown2:=own_next hown1 b2
   have B2:=below_trans HB.out b2 HB.out.size
   have s2:=B2.size
   clear HC hown hown1 hbr HB b2 hal k0 k1 k2
   go_wp2_with (at_builtin;refine wpList_append_own _ rfl _ _ 24 rfl w.heap.size 42 i0 _ 3 40 Tryz.underlying24 Hi.out Hz0.out Hz1.out Hz2.out rfl (by decide) _ _ _ rfl (hown2.alloc _) ⟨w2.heap.size,0,none⟩ 1 1 (cLease x) rfl rfl ?c1 ?c2 ?c3 ?c4 ?c5 ?_)
   case c1=>exact lease_new w2 x _
   case c2=>exact lease_ones x
   case c3=>unfold maxLen;omega
   case c4=>omega
   case c5=>simp;omega
   ·intro v3 w3 own3 hg3 _
    have hb3:=(below_trans B2 (below_one w2 _) B2.size).grown hg3 (by simp;omega) (fun k hk'=>(hown2.lt k hk').1)
    rw[←cLeases_one,←cLeases_append] at own3
    have own4:w3.ownsRow w.heap.size 42 3 v3 (i+1) (cLeases ((xs.take (i+1)).map id)):=by rw[HM.out];simpa using own3
    clear hown2 B2 s2 own3 hg3
    go_wp2
    go_roundw
    case rel=>exact⟨i+1,by simp,by omega,own4,hb3⟩
    case measure=>simp[intOf];omega
  ·obtain rfl:i=xs.length:=by omega
   rw[List.take_length] at hown
   have hl:(xs.map id).length=xs.length:=List.length_map _
   have hown':=hown
   rw[←hl] at hown'
   obtain⟨ad',cap',rfl,_⟩:=own_leases hown'
   rw[hl] at hown⊢
   clear hown'
   go_wp2
   go_ret
   exact⟨_,_,rfl,(by first | exact hown | simpa using hown),hbr⟩
end Go.Proofs.YtiekgafopalfmaaGreatDoor
