import Derived.Test.YtiekgafopalfmaaGreatDoorPPkRq1
namespace Go.Proofs.YtiekgafopalfmaaGreatDoor
def jobsBut (x:ByteArray) (l:List JobD):List JobD:=l.filter fun j => !decide (j.name=x)
def nodesBut (x:ByteArray) (l:List NodeD):List NodeD:=l.filter fun j => !decide (j.name=x)
def leasesJ (x:ByteArray) (l:List LeaseD):List LeaseD:=l.filter fun j => !decide (j.job=x)
def leasesN (x:ByteArray) (l:List LeaseD):List LeaseD:=l.filter fun j => !decide (j.node=x)
def leasesT (t:Int) (l:List LeaseD):List LeaseD:=l.filter fun j => !decide (j.til≤t)
def jobOf:List JobD→ByteArray→JobD
 | [],_=>zJob
 | j :: r,x=>if j.name=x then j else jobOf r x
def triedJ (j:JobD):JobD:={ j with tries:=j.tries+1 }
def SameRows (s t:StD):Prop:=s.jobs=t.jobs∧s.nodes=t.nodes∧s.leases=t.leases
structure SvD where
 s:StD
 now:Int
def delJ (x:ByteArray) (s:StD):StD:=⟨s.rev,jobsBut x s.jobs,s.nodes,leasesJ x s.leases⟩
def delN (x:ByteArray) (s:StD):StD:=⟨s.rev,s.jobs,nodesBut x s.nodes,leasesN x s.leases⟩
def freeS (x:ByteArray) (s:StD):StD:=⟨s.rev,s.jobs,s.nodes,leasesJ x s.leases⟩
def tickS (t:Int) (s:StD):StD:=⟨s.rev,s.jobs,s.nodes,leasesT t s.leases⟩
noncomputable def putJ (j:JobD) (s:StD):StD:=⟨s.rev,putL (·.name) j s.jobs,s.nodes,s.leases⟩
noncomputable def putN (n:NodeD) (s:StD):StD:=⟨s.rev,s.jobs,putL (·.name) n s.nodes,s.leases⟩
noncomputable def grantS (l:LeaseD) (s:StD):StD:=⟨s.rev,putL (·.name) (triedJ (jobOf s.jobs l.job)) s.jobs,s.nodes,putL (·.job) l s.leases⟩
def bump (s:StD):StD:=⟨s.rev+1,s.jobs,s.nodes,s.leases⟩
section
variable (U : ByteArray → Bool)
noncomputable def opR (s:StD) (now:Int) (q:ReqD):SvD×Nat :=
 if q.kind=1 then(⟨putJ q.job s,now⟩,checkE U (putJ q.job s))
 else if q.kind=2 then(⟨putN q.node s,now⟩,checkE U (putN q.node s))
 else if q.kind=3 then(if hasJob s.jobs q.name=true then(⟨delJ q.name s,now⟩,0) else(⟨s,now⟩,6))
 else if q.kind=4 then(if hasNode s.nodes q.name=true then(⟨delN q.name s,now⟩,0) else(⟨s,now⟩,6))
 else if q.kind=5 then(if (hasJob s.jobs q.lease.job&&hasNode s.nodes q.lease.node)=true then(if hasLease s.leases q.lease.job=true then(⟨s,now⟩,7) else if q.lease.til≤now then(⟨s,now⟩,1) else if (jobOf s.jobs q.lease.job).tries=100 then(⟨s,now⟩,2) else(⟨grantS q.lease s,now⟩,checkE U (grantS q.lease s))) else(⟨s,now⟩,6))
 else if q.kind=6 then(if hasLease s.leases q.name=true then(⟨freeS q.name s,now⟩,0) else(⟨s,now⟩,6))
 else if q.kind=7 then(if 1099511627776<now+q.n then(⟨s,now⟩,1) else(⟨tickS (now+q.n) s,now+q.n⟩,0))
 else(⟨s,now⟩,0)
noncomputable def runR (s:StD) (now:Int) (q:ReqD):SvD×Nat:=if qcheckE U q≠0 then(⟨s,now⟩,qcheckE U q) else opR U s now q
open Classical in
noncomputable def doR (s:StD) (now:Int) (q:ReqD):SvD×Nat×Bool :=
 if (runR U s now q).2≠0 then(⟨s,now⟩,(runR U s now q).2,false)
 else if SameRows s (runR U s now q).1.s then(⟨s,(runR U s now q).1.now⟩,0,false)
 else if s.rev=1099511627776 then(⟨s,now⟩,2,false)
 else(⟨bump (runR U s now q).1.s,(runR U s now q).1.now⟩,0,true)
noncomputable def told (s:StD) (r:SvD×Nat×Bool):DelD:=if r.2.2=true then diffS s r.1.s else zeroDel
end
section
variable {U : ByteArray → Bool}
theorem doR_err {s:StD}{now:Int}{q:ReqD} (h:(runR U s now q).2≠0):doR U s now q=(⟨s,now⟩,(runR U s now q).2,false):=by unfold doR;rw[if_pos h]
theorem doR_same {s:StD}{now:Int}{q:ReqD} (h:(runR U s now q).2=0) (k:SameRows s (runR U s now q).1.s):doR U s now q=(⟨s,(runR U s now q).1.now⟩,0,false):=by unfold doR;rw[if_neg (by simp[h]),if_pos k]
theorem doR_full {s:StD}{now:Int}{q:ReqD} (h:(runR U s now q).2=0) (k:¬SameRows s (runR U s now q).1.s) (hr:s.rev=1099511627776):doR U s now q=(⟨s,now⟩,2,false):=by unfold doR;rw[if_neg (by simp[h]),if_neg k,if_pos hr]
theorem doR_new {s:StD}{now:Int}{q:ReqD} (h:(runR U s now q).2=0) (k:¬SameRows s (runR U s now q).1.s) (hr:s.rev≠1099511627776):doR U s now q=(⟨bump (runR U s now q).1.s,(runR U s now q).1.now⟩,0,true):=by unfold doR;rw[if_neg (by simp[h]),if_neg k,if_neg hr]
theorem runR_bad {s:StD}{now:Int}{q:ReqD} (h:qcheckE U q≠0):runR U s now q=(⟨s,now⟩,qcheckE U q):=by unfold runR;rw[if_pos h]
theorem runR_op {s:StD}{now:Int}{q:ReqD} (h:qcheckE U q=0):runR U s now q=opR U s now q:=by unfold runR;rw[if_neg (by simp[h])]
theorem opR_1 {s:StD}{now:Int}{q:ReqD} (h:q.kind=1):opR U s now q=(⟨putJ q.job s,now⟩,checkE U (putJ q.job s)):=by unfold opR;rw[if_pos h]
theorem opR_2 {s:StD}{now:Int}{q:ReqD} (h:q.kind=2):opR U s now q=(⟨putN q.node s,now⟩,checkE U (putN q.node s)):=by unfold opR;rw[if_neg (by omega),if_pos h]
theorem opR_3 {s:StD}{now:Int}{q:ReqD} (h:q.kind=3):opR U s now q=if hasJob s.jobs q.name=true then(⟨delJ q.name s,now⟩,0) else(⟨s,now⟩,6):=by unfold opR;rw[if_neg (by omega),if_neg (by omega),if_pos h]
theorem opR_4 {s:StD}{now:Int}{q:ReqD} (h:q.kind=4):opR U s now q=if hasNode s.nodes q.name=true then(⟨delN q.name s,now⟩,0) else(⟨s,now⟩,6):=by unfold opR;rw[if_neg (by omega),if_neg (by omega),if_neg (by omega),if_pos h]
theorem opR_5 {s:StD}{now:Int}{q:ReqD} (h:q.kind=5):opR U s now q=(if (hasJob s.jobs q.lease.job&&hasNode s.nodes q.lease.node)=true then(if hasLease s.leases q.lease.job=true then(⟨s,now⟩,7) else if q.lease.til≤now then(⟨s,now⟩,1) else if (jobOf s.jobs q.lease.job).tries=100 then(⟨s,now⟩,2) else(⟨grantS q.lease s,now⟩,checkE U (grantS q.lease s))) else(⟨s,now⟩,6)):=by unfold opR;rw[if_neg (by omega),if_neg (by omega),if_neg (by omega),if_neg (by omega),if_pos h]
theorem opR_6 {s:StD}{now:Int}{q:ReqD} (h:q.kind=6):opR U s now q=if hasLease s.leases q.name=true then(⟨freeS q.name s,now⟩,0) else(⟨s,now⟩,6):=by unfold opR;rw[if_neg (by omega),if_neg (by omega),if_neg (by omega),if_neg (by omega),if_neg (by omega),if_pos h]
theorem opR_7 {s:StD}{now:Int}{q:ReqD} (h:q.kind=7):opR U s now q=if 1099511627776<now+q.n then(⟨s,now⟩,1) else(⟨tickS (now+q.n) s,now+q.n⟩,0):=by unfold opR;rw[if_neg (by omega),if_neg (by omega),if_neg (by omega),if_neg (by omega),if_neg (by omega),if_neg (by omega),if_pos h]
theorem opR_8 {s:StD}{now:Int}{q:ReqD} (h:8≤q.kind):opR U s now q=(⟨s,now⟩,0):=by unfold opR;rw[if_neg (by omega),if_neg (by omega),if_neg (by omega),if_neg (by omega),if_neg (by omega),if_neg (by omega),if_neg (by omega)]
theorem valid_sub {s:StD} (h:Valid U s){J:List JobD}{N:List NodeD}{L:List LeaseD} (hJ:J.Sublist s.jobs) (hN:N.Sublist s.nodes) (hL:L.Sublist s.leases) (hl:∀l∈L,hasJob J l.job=true∧hasNode N l.node=true):Valid U ⟨s.rev,J,N,L⟩:=by
 obtain⟨hr,⟨l1,l2,l3⟩,⟨aj,aj'⟩,⟨an,an'⟩,⟨al,al'⟩,room⟩:=h
 have k1:=hJ.length_le
 have k2:=hN.length_le
 have k3:=hL.length_le
 refine⟨hr,⟨by simp only;omega,by simp only;omega,by simp only;omega⟩,⟨fun j hj=>aj j (hJ.subset hj),asc_sub aj' hJ⟩,⟨fun j hj=>an j (hN.subset hj),asc_sub an' hN⟩,⟨fun l hx=>?_,asc_sub al' hL⟩,fun n hn=>?_⟩
 ·have z:=(leaseE_zero _ _ _).1 (al l (hL.subset hx))
  exact(leaseE_zero _ _ _).2 ⟨(hl l hx).1,(hl l hx).2,z.2.2⟩
 ·have e:usedD J L n.name=usedD s.jobs L n.name:=by
   refine sumZ_congr (fun l hx=>?_)
   unfold useOf
   obtain⟨j,hj,ej⟩:=(hasJob_iff _ _).1 (hl l hx).1
   rw[←ej,needOf_mem (asc_sub aj' hJ) hj,needOf_mem aj' (hJ.subset hj)]
  show usedD J L n.name≤n.room
  rw[e]
  exact Int.le_trans (sumZ_sub hL (fun x _=>(useOf_bd (U:=U) aj n.name x).1)) (room n (hN.subset hn))
theorem lease_has {s:StD} (h:Valid U s){l:LeaseD} (hl:l∈s.leases):hasJob s.jobs l.job=true∧hasNode s.nodes l.node=true:=by
 have z:=(leaseE_zero _ _ _).1 (h.2.2.2.2.1.1 l hl);exact⟨z.1,z.2.1⟩
theorem valid_delJ {s:StD} (h:Valid U s) (x:ByteArray):Valid U (delJ x s):=by
 refine valid_sub h List.filter_sublist (List.Sublist.refl _) List.filter_sublist (fun l hl=>?_)
 have hl':=List.mem_filter.1 hl
 have z:=lease_has h hl'.1
 refine⟨?_,z.2⟩
 obtain⟨j,hj,e⟩:=(hasJob_iff _ _).1 z.1
 refine(hasJob_iff _ _).2 ⟨j,List.mem_filter.2 ⟨hj,?_⟩,e⟩
 have:=hl'.2
 simp only[Bool.not_eq_true',decide_eq_false_iff_not] at this⊢
 rw[e];exact this
theorem valid_delN {s:StD} (h:Valid U s) (x:ByteArray):Valid U (delN x s):=by
 refine valid_sub h (List.Sublist.refl _) List.filter_sublist List.filter_sublist (fun l hl=>?_)
 have hl':=List.mem_filter.1 hl
 have z:=lease_has h hl'.1
 refine⟨z.1,?_⟩
 obtain⟨j,hj,e⟩:=(hasNode_iff _ _).1 z.2
 refine(hasNode_iff _ _).2 ⟨j,List.mem_filter.2 ⟨hj,?_⟩,e⟩
 have:=hl'.2
 simp only[Bool.not_eq_true',decide_eq_false_iff_not] at this⊢
 rw[e];exact this
theorem valid_free {s:StD} (h:Valid U s) (x:ByteArray):Valid U (freeS x s) :=
 valid_sub h (List.Sublist.refl _) (List.Sublist.refl _) List.filter_sublist (fun _ hl=>lease_has h (List.mem_filter.1 hl).1)
theorem valid_tick {s:StD} (h:Valid U s) (t:Int):Valid U (tickS t s) :=
 valid_sub h (List.Sublist.refl _) (List.Sublist.refl _) List.filter_sublist (fun _ hl=>lease_has h (List.mem_filter.1 hl).1)
theorem opR_valid {s:StD} (h:Valid U s) (now:Int) (q:ReqD) (hz:(opR U s now q).2=0):Valid U (opR U s now q).1.s∧(opR U s now q).1.s.rev=s.rev:=by
 by_cases k1:q.kind=1
 ·rw[opR_1 k1] at hz⊢;exact⟨(check_zero U _).1 hz,rfl⟩
 by_cases k2:q.kind=2
 ·rw[opR_2 k2] at hz⊢;exact⟨(check_zero U _).1 hz,rfl⟩
 by_cases k3:q.kind=3
 ·rw[opR_3 k3] at hz⊢
  split at hz
  ·rename_i c;rw[if_pos c];exact⟨valid_delJ h _,rfl⟩
  ·simp at hz
 by_cases k4:q.kind=4
 ·rw[opR_4 k4] at hz⊢
  split at hz
  ·rename_i c;rw[if_pos c];exact⟨valid_delN h _,rfl⟩
  ·simp at hz
 by_cases k5:q.kind=5
 ·rw[opR_5 k5] at hz⊢
  split at hz
  ·rename_i c
   rw[if_pos c]
   split at hz
   ·simp at hz
   ·rename_i c2
    rw[if_neg c2]
    split at hz
    ·simp at hz
    ·rename_i c3
     rw[if_neg c3]
     split at hz
     ·simp at hz
     ·rename_i c4
      rw[if_neg c4]
      exact⟨(check_zero U _).1 hz,rfl⟩
  ·simp at hz
 by_cases k6:q.kind=6
 ·rw[opR_6 k6] at hz⊢
  split at hz
  ·rename_i c;rw[if_pos c];exact⟨valid_free h _,rfl⟩
  ·simp at hz
 by_cases k7:q.kind=7
 ·rw[opR_7 k7] at hz⊢
  split at hz
  ·simp at hz
  ·rename_i c;rw[if_neg c];exact⟨valid_tick h _,rfl⟩
 ·have e:opR U s now q=(⟨s,now⟩,0):=by unfold opR;rw[if_neg k1,if_neg k2,if_neg k3,if_neg k4,if_neg k5,if_neg k6,if_neg k7]
  rw[e];exact⟨h,rfl⟩
theorem runR_valid {s:StD} (h:Valid U s) (now:Int) (q:ReqD) (hz:(runR U s now q).2=0):Valid U (runR U s now q).1.s∧(runR U s now q).1.s.rev=s.rev:=by
 by_cases c:qcheckE U q=0
 ·rw[runR_op c] at hz⊢;exact opR_valid h now q hz
 ·rw[runR_bad c] at hz;exact absurd hz c
theorem valid_bump {s:StD} (h:Valid U s) (hr:s.rev≠1099511627776):Valid U (bump s):=by
 obtain⟨hr1,r⟩:=h
 exact⟨⟨by show 0≤s.rev+1;omega,by show s.rev+1≤_;omega⟩,r⟩
theorem doR_valid {s:StD} (h:Valid U s) (now:Int) (q:ReqD):Valid U (doR U s now q).1.s:=by
 by_cases c:(runR U s now q).2=0
 ·have v:=runR_valid h now q c
  by_cases k:SameRows s (runR U s now q).1.s
  ·rw[doR_same c k];exact h
  ·by_cases hr:s.rev=1099511627776
   ·rw[doR_full c k hr];exact h
   ·rw[doR_new c k hr];exact valid_bump v.1 (by rw[v.2];exact hr)
 ·rw[doR_err c];exact h
theorem runR_now {s:StD} (now:Int) (q:ReqD) (hz:(runR U s now q).2=0):(runR U s now q).1.now=now∨(q.kind=7∧(runR U s now q).1.now=now+q.n∧0≤q.n∧now+q.n≤1099511627776):=by
 by_cases c:qcheckE U q=0
 ·rw[runR_op c] at hz⊢
  by_cases k1:q.kind=1
  ·rw[opR_1 k1];exact .inl rfl
  by_cases k2:q.kind=2
  ·rw[opR_2 k2];exact .inl rfl
  by_cases k3:q.kind=3
  ·rw[opR_3 k3];split <;> exact .inl rfl
  by_cases k4:q.kind=4
  ·rw[opR_4 k4];split <;> exact .inl rfl
  by_cases k5:q.kind=5
  ·rw[opR_5 k5];(repeat' split) <;> exact .inl rfl
  by_cases k6:q.kind=6
  ·rw[opR_6 k6];split <;> exact .inl rfl
  by_cases k7:q.kind=7
  ·rw[opR_7 k7] at hz⊢
   split at hz
   ·simp at hz
   ·rename_i c2
    rw[if_neg c2]
    have hn:=((qcheck_zero U q).1 c).2.2
    unfold partE at hn
    rw[if_neg k1,if_neg k2,if_neg k5,if_pos k7] at hn
    have:0≤q.n:=by
     by_cases z:inR q.n 0 1099511627776=true
     ·exact((inR_iff _ _ _).1 z).1
     ·rw[if_neg z] at hn;simp at hn
    exact .inr ⟨k7,rfl,this,by omega⟩
  ·have e:opR U s now q=(⟨s,now⟩,0):=by unfold opR;rw[if_neg k1,if_neg k2,if_neg k3,if_neg k4,if_neg k5,if_neg k6,if_neg k7]
   rw[e];exact .inl rfl
 ·rw[runR_bad c] at hz;exact absurd hz c
theorem doR_now {s:StD} (now:Int) (q:ReqD) (h:0≤now∧now≤1099511627776):now≤(doR U s now q).1.now∧(doR U s now q).1.now≤1099511627776:=by
 by_cases c:(runR U s now q).2=0
 ·have v:=runR_now now q c
  by_cases k:SameRows s (runR U s now q).1.s
  ·rw[doR_same c k];simp only;omega
  ·by_cases hr:s.rev=1099511627776
   ·rw[doR_full c k hr];simp only;omega
   ·rw[doR_new c k hr];simp only;omega
 ·rw[doR_err c];simp only;omega
end
end Go.Proofs.YtiekgafopalfmaaGreatDoor
namespace Go.Proofs.YtiekgafopalfmaaGreatDoor
section
variable {α : Type} {key : α → ByteArray}
end
theorem jobOf_mem:∀ {l:List JobD}{x:ByteArray},hasJob l x=true→jobOf l x∈l∧(jobOf l x).name=x
 | [],x,h=>by simp[hasJob] at h
 | j :: l,x,h=>by
  unfold jobOf
  by_cases e:j.name=x
  ·rw[if_pos e];exact⟨List.mem_cons_self,e⟩
  ·rw[if_neg e]
   have:hasJob l x=true:=by
    obtain⟨k,hk,ek⟩:=(hasJob_iff _ _).1 h
    rcases List.mem_cons.1 hk with rfl | hk
    ·exact absurd ek e
    ·exact(hasJob_iff _ _).2 ⟨k,hk,ek⟩
   exact⟨List.mem_cons_of_mem _ (jobOf_mem this).1,(jobOf_mem this).2⟩
section
variable {U : ByteArray → Bool}
end
end Go.Proofs.YtiekgafopalfmaaGreatDoor
