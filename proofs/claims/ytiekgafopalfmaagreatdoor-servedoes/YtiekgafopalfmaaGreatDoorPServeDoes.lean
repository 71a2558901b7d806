/- For every state and all requests the law ServeDoes of the package brackenlaw returns true, as a tied card: a server returns the results of the reference. -/
import Derived.Test.YtiekgafopalfmaaGreatDoorPSvLaw2
import Derived.Test.YtiekgafopalfmaaGreatDoorPSvRDo
import Derived.Test.YtiekgafopalfmaaGreatDoorPStBad
import Derived.Test.YtiekgafopalfmaaGreatDoorPPkStR
set_option maxRecDepth 100000
set_option maxHeartbeats 16000000
namespace Go.Proofs.YtiekgafopalfmaaGreatDoor.serveDoes
open Go.ChangeShapes Go.WideShapes Go.ChangeAt Go.RowKit Go.Lib
set_option linter.unusedVariables false
theorem obj_ne {X:World}{N c:Nat}{vs us:Array Value}{t t':TypeId} (o:ObjAt N vs t X) (k:ObjAt c us t' X) (ht:t≠t'):N≠c:=by
 rintro rfl
 have:=o.symm.trans k
 simp at this
 exact ht this.2
theorem lenD_told (s:StD) (r:SvD×Nat×Bool) (hs:checkE V8 s=0) (hr:checkE V8 r.1.s=0):LenD (told s r):=by
 have a:=(small_sv hs).1
 have b:=(small_sv hr).1
 unfold told
 split
 ·unfold LenD diffS newL goneL
  simp only[List.length_map]
  refine⟨⟨Nat.le_trans (List.length_filter_le _ _) (by omega),Nat.le_trans (List.length_filter_le _ _) (by omega),Nat.le_trans (List.length_filter_le _ _) (by omega)⟩,Nat.le_trans (List.length_filter_le _ _) (by omega),Nat.le_trans (List.length_filter_le _ _) (by omega),Nat.le_trans (List.length_filter_le _ _) (by omega)⟩
 ·exact lenD_zero
theorem ownD_ref {B N:Nat}{MM:DlM}{d:DelD}{w w':World}{vs:Array Value} (h:OwnD B MM d w) (ho:ObjAt N vs 36 w) (g:w.grownBy w' (some N)):OwnD B MM d w':=⟨own_gN h.1 ho (by decide) g,own_gN h.2.1 ho (by decide) g,own_gN h.2.2.1 ho (by decide) g,own_gN h.2.2.2.1 ho (by decide) g,own_gN h.2.2.2.2.1 ho (by decide) g,own_gN h.2.2.2.2.2 ho (by decide) g⟩
theorem svIn_ref {w0 w w':World}{b c:Nat}{v:SvD}{r:Int}{a1 a2 a3 a4:Value} (h:SvIn w0 b v w) (ho:ObjAt c #[.int .i64 r,a1,a2,a3,a4] 36 w) (hn:b≠c) (hc:w0.heap.size≤c) (g:w.grownBy w' (some c)):SvIn w0 b v w' :=
 ⟨svAt_gN h.1 hn ho rowT_rs g,h.2.1,h.2.2.1,gN_below h.2.2.2.1 h.2.2.2.2.2.1 hc g,h.2.2.2.2.1,Nat.le_trans h.2.2.2.2.2.1 g.size,tabs_gN h.2.2.2.2.2.2 ho rfl g⟩
def SdRows (w0:World) (s:StD) (bj bn bl:Option Addr) (dj dn dl:Nat) (V:World):Prop :=
 (JobsAt w0 bj s.jobs∨V.ownsRow 0 38 5 (.slice bj s.jobs.length dj) s.jobs.length (cJobs s.jobs))∧(NodesAt w0 bn s.nodes∨V.ownsRow 0 40 3 (.slice bn s.nodes.length dn) s.nodes.length (cNodes s.nodes))∧(LeasesAt w0 bl s.leases∨V.ownsRow 0 42 3 (.slice bl s.leases.length dl) s.leases.length (cLeases s.leases))
theorem sd_at {w0:World}{s:StD}{bj bn bl:Option Addr}{dj dn dl:Nat}{V:World} (h:SdRows w0 s bj bn bl dj dn dl V) (b:Below w0.heap.size w0 V):JobsAt V bj s.jobs∧NodesAt V bn s.nodes∧LeasesAt V bl s.leases :=
 ⟨h.1.elim (fun h=>jobsAt_next h b) (fun h=>ownJobs h rfl),h.2.1.elim (fun h=>nodesAt_next h b) (fun h=>ownNodes h rfl),h.2.2.elim (fun h=>leasesAt_next h b) (fun h=>ownLeases h rfl)⟩
theorem sd_next {w0:World}{s:StD}{bj bn bl:Option Addr}{dj dn dl:Nat}{V V':World} (h:SdRows w0 s bj bn bl dj dn dl V) (b:Below V.heap.size V V'):SdRows w0 s bj bn bl dj dn dl V' :=
 ⟨h.1.imp id (fun h=>own_next h b),h.2.1.imp id (fun h=>own_next h b),h.2.2.imp id (fun h=>own_next h b)⟩
theorem sd_gN {w0:World}{s:StD}{bj bn bl:Option Addr}{dj dn dl N:Nat}{V V':World}{vs:Array Value}{t:TypeId} (h:SdRows w0 s bj bn bl dj dn dl V) (ho:ObjAt N vs t V) (ht:RowT t) (g:V.grownBy V' (some N)):SdRows w0 s bj bn bl dj dn dl V' :=
 ⟨h.1.imp id (fun h=>own_gN h ho ht.1 g),h.2.1.imp id (fun h=>own_gN h ho ht.2.1 g),h.2.2.imp id (fun h=>own_gN h ho ht.2.2 g)⟩
theorem sd_do {w0:World}{s:StD}{bj bn bl:Option Addr}{dj dn dl b:Nat}{X X':World} (h:SdRows w0 s bj bn bl dj dn dl X) (d:DoTo b X X'):SdRows w0 s bj bn bl dj dn dl X':=by
 obtain⟨v,w5,⟨_,_,_,_,_,_,o,_⟩,g,k⟩:=d
 exact sd_next (sd_gN h o rowT_sv g) k
theorem sd_new {w0:World}{s t:StD}{aj an al bj bn bl:Option Addr}{cj cn cl dj dn dl H:Nat}{V V':World}{N:Nat}{vs:Array Value}{ty:TypeId} (h:SdRows w0 s aj an al cj cn cl V) (ho:ObjAt N vs ty V) (ht:RowT ty) (g:V.grownBy V' (some N)) (k:NxRows H s aj an al cj cn cl t.jobs t.nodes t.leases bj bn bl dj dn dl V'):SdRows w0 t bj bn bl dj dn dl V':=by
 have h:=sd_gN h ho ht g
 obtain⟨k1,k2,k3⟩:=k
 obtain⟨h1,h2,h3⟩:=h
 obtain⟨tr,tj,tn,tl⟩:=t
 simp only at k1 k2 k3
 refine⟨?_,?_,?_⟩
 ·rcases k1 with ⟨rfl,rfl,rfl⟩ | k
  ·exact h1
  ·exact .inr (ownsRow_low k (Nat.zero_le _))
 ·rcases k2 with ⟨rfl,rfl,rfl⟩ | k
  ·exact h2
  ·exact .inr (ownsRow_low k (Nat.zero_le _))
 ·rcases k3 with ⟨rfl,rfl,rfl⟩ | k
  ·exact h3
  ·exact .inr (ownsRow_low k (Nat.zero_le _))
theorem do_full {w0 X w5:World}{b:Nat}{v:SvD}{q:ReqD}{MM:DlM}{d:DelD} (h:SvIn w0 b v X) (s5:SvAt b (doR V8 v.s v.now q).1 w5) (g:X.grownBy w5 (some b)) (od:OwnD X.heap.size MM d w5) (rc dc:Array Value) :
  SvIn w0 b (doR V8 v.s v.now q).1 ((w5.alloc (.cells rc 46)).alloc (.cells dc 49))∧DoTo b X ((w5.alloc (.cells rc 46)).alloc (.cells dc 49))∧ObjAt w5.heap.size rc 46 ((w5.alloc (.cells rc 46)).alloc (.cells dc 49))∧ObjAt (w5.heap.size+1) dc 49 ((w5.alloc (.cells rc 46)).alloc (.cells dc 49))∧OwnD X.heap.size MM d ((w5.alloc (.cells rc 46)).alloc (.cells dc 49)):=by
 have p:=do_done h s5 g rc dc
 have b1:=below_one w5 (.cells rc 46)
 have b2:=below_one (w5.alloc (.cells rc 46)) (.cells dc 49)
 have o:=objAt_new (w5.alloc (.cells rc 46)) dc 49
 simp only[World.size_alloc] at o
 exact⟨p.1,p.2.1,p.2.2,o,ownD_next (ownD_next od b1) b2⟩
theorem walk (M:StM) (s:StD) (ad:Option Addr) (cap:Nat) (xs:List ReqD) (hws:wState s) (hwx:∀x∈xs,wReq x) (hzs:SzState s) (hzx:xs.length≤140737488351232) (w:World) (hm:StateAt w M s) (hx:ReqsAt w ad xs) (hT:Tabs w) :
  Calls Tryz.prog 3 #[stV M s,.slice ad xs.length cap] w fun e w'=>e = .returned (.bool true)∧Below w.heap.size w w':=by
 obtain⟨aj,cj,an,cn,al,cl⟩:=M
 have hm:JobsAt w aj s.jobs∧NodesAt w an s.nodes∧LeasesAt w al s.leases:=hm
 show Calls _ _ #[.agg #[.int .i64 s.rev,.slice aj s.jobs.length cj,.slice an s.nodes.length cn,.slice al s.leases.length cl],.slice ad xs.length cap] _ _
 have B0:=below_one w (.cells #[.int .i64 s.rev,.slice aj s.jobs.length cj,.slice an s.nodes.length cn,.slice al s.leases.length cl] 26)
 have I0:=bxS_new (cj:=cj) (cn:=cn) (cl:=cl) (w:=w) hm
 obtain⟨W0,hW0⟩:∃W0,w.alloc (.cells #[.int .i64 s.rev,.slice aj s.jobs.length cj,.slice an s.nodes.length cn,.slice al s.leases.length cl] 26)=W0:=⟨_,rfl⟩
 rw[hW0] at B0 I0
 have HS:=Lib.hid hws
 have HT:=Lib.hid hT
 have HM0:=Lib.hid hm
 have I0:=Lib.hid I0
 have B0:=Lib.hid B0
 have HX:=Lib.hid hx
 have HWX:=Lib.hid hwx
 clear hx hwx hzs
 clear hws hT hm
 go_enter Tryz.func3,Tryz.ntmps3
 have I1:=I0
 have B1:=B0
 by_cases hv:checkE V8 s=0
 case neg =>
  have hv':((checkE V8 s:Int)!=0)=true:=by simp;omega
  have C:=Lib.hid (svNew_bad s aj an al cj cn cl HS.out hv W0 (HT.out.below B1.out) I1.out.2)
  obtain⟨k,hk⟩:∃k,checkE V8 s=k:=⟨_,rfl⟩
  rw[hk] at hv' C
  have HK:=Lib.hid hk
  clear hv hk
  obtain⟨z0,z1,z2,z3⟩:=bxS_cells I1.out
  go_wp2_with fail
  refine C.out.mono ?_
  rintro e w2 ⟨rfl,b2⟩
  have B2:=Lib.hid (below_trans B1.out b2 B1.out.size)
  have b2':=b2
  clear b2 C z0 z1 z2 z3
  have I2:=Lib.hid (bxS_next I1.out b2')
  have C:=rcheck_any s.rev aj an al cj cn cl s.jobs s.nodes s.leases w2 (bxS_next I1.out b2').2.1 (bxS_next I1.out b2').2.2.1 (bxS_next I1.out b2').2.2.2
  rw[show(⟨s.rev,s.jobs,s.nodes,s.leases⟩:StD)=s from rfl,HK.out] at C
  have C:=Lib.hid C
  obtain⟨z0,z1,z2,z3⟩:=bxS_cells I2.out
  clear b2'
  go_wp2_with fail
  refine C.out.mono ?_
  clear C z0 z1 z2 z3
  rintro e w3 ⟨rfl,b3⟩
  have B3:=Lib.hid (below_trans B2.out b3 B2.out.size)
  clear b3
  go_wp2_with fail
  refine(bad_is w3).mono ?_
  rintro e w4 ⟨rfl,b4⟩
  have B4:=Lib.hid (below_trans B3.out b4 B3.out.size)
  clear b4
  have C:=svNew_bad ⟨-1,[],[],[]⟩ none none none 0 0 0 bad_w (by rw[show checkE V8 ⟨-1,[],[],[]⟩=1 from rfl];decide) w4 (HT.out.below B4.out) ⟨badAt_j w4,badAt_n w4,badAt_l w4⟩
  rw[show checkE V8 ⟨-1,[],[],[]⟩=1 from rfl] at C
  have C:=Lib.hid C
  go_wp2_with fail
  refine C.out.mono ?_
  rintro e w5 ⟨rfl,b5⟩
  have B5:=Lib.hid (below_trans B4.out b5 B4.out.size)
  clear b5 C
  go_wp2
  go_ret
  exact⟨rfl,B5.out⟩
 have C:=Lib.hid (svNew_ok s aj an al cj cn cl hv W0 (HT.out.below B1.out) I1.out.2)
 have HV:=Lib.hid hv
 clear hv
 obtain⟨z0,z1,z2,z3⟩:=bxS_cells I1.out
 go_wp2_with fail
 refine C.out.mono ?_
 rintro e w2 ⟨b,rfl,hb,sv,b2⟩
 have I2:=Lib.hid (bxS_next I1.out b2)
 have hwb:w.heap.size≤b:=Nat.le_trans B1.out.size hb
 have sv2:=svIn_new HV.out sv (below_trans B1.out b2 B1.out.size) HT.out hwb
 clear b2 C z0 z1 z2 z3 sv hb B1 I1 hwb
 have C:=rcheck_any s.rev aj an al cj cn cl s.jobs s.nodes s.leases w2 I2.out.2.1 I2.out.2.2.1 I2.out.2.2.2
 rw[show(⟨s.rev,s.jobs,s.nodes,s.leases⟩:StD)=s from rfl,HV.out] at C
 have C:=Lib.hid C
 have SV2:=Lib.hid sv2
 obtain⟨z0,z1,z2,z3⟩:=bxS_cells I2.out
 clear sv2
 go_wp2_with fail
 refine C.out.mono ?_
 clear C z0 z1 z2 z3
 rintro e w3 ⟨rfl,b3⟩
 have I3:=Lib.hid (bxS_next I2.out b3)
 have sv3:=svIn_next SV2.out b3
 obtain⟨z0,z1,z2,z3⟩:=bxS_cells I3.out
 have bA:=below_one w3 (.cells #[.int .i64 s.rev,.slice aj s.jobs.length cj,.slice an s.nodes.length cn,.slice al s.leases.length cl,.int .i64 0] 36)
 have oA:=objAt_new w3 #[.int .i64 s.rev,.slice aj s.jobs.length cj,.slice an s.nodes.length cn,.slice al s.leases.length cl,.int .i64 0] 36
 have hc3:=sv3.2.2.2.2.2.1
 have hbc:=svAt_lt sv3.1
 obtain⟨c,hc⟩:∃n,w3.heap.size=n:=⟨_,rfl⟩
 have sv4:=svIn_next sv3 bA
 obtain⟨X0,hX0⟩:∃X,w3.alloc (.cells #[.int .i64 s.rev,.slice aj s.jobs.length cj,.slice an s.nodes.length cn,.slice al s.leases.length cl,.int .i64 0] 36)=X:=⟨_,rfl⟩
 rw[hX0] at bA oA sv4
 rw[hc] at oA hc3 hbc
 have HNE:=Lib.hid (show b≠c∧w.heap.size≤c from⟨Nat.ne_of_lt hbc,hc3⟩)
 clear b3 sv3 bA hc3 hbc
 go_wp2_with fail
 clear z0 z1 z2 z3
 go_loopw [55] (fun iv wr=>∃(i:Nat) (v:SvD) (bj bn bl:Option Addr) (dj dn dl:Nat),iv = .int .i64 (i:Int)∧i≤xs.length∧SvIn w b v wr∧ObjAt c #[.int .i64 v.s.rev,.slice bj v.s.jobs.length dj,.slice bn v.s.nodes.length dn,.slice bl v.s.leases.length dl,.int .i64 v.now] 36 wr∧SdRows w v.s bj bn bl dj dn dl wr) (fun iv _=>xs.length - (intOf iv).toNat)
 case atStart=>exact⟨0,⟨s,0⟩,aj,an,al,cj,cn,cl,rfl,by omega,sv4,oA,Or.inl HM0.out.1,Or.inl HM0.out.2.1,Or.inl HM0.out.2.2⟩
 case round =>
  clear sv4 oA
  obtain⟨i,v,bj,bn,bl,dj,dn,dl,rfl,hi,svr,oc,hR⟩:=hrel
  by_cases hlt:(i:Int)<(xs.length:Int)
  case neg =>
   have SR:=Lib.hid svr
   have OCR:=Lib.hid oc
   have HRR:=Lib.hid hR
   clear svr oc hR
   go_wp2_with fail
   refine wp_region_held_drew (S:=fun x=>Below wr.heap.size wr x) (by kernel_rfl) (Below.refl _ _).drew (fun hHeld=>?_)
   generalize wr.drew=V at hHeld⊢
   refine wpAnyH_take (i:=0) (oi:=⟨_,_,_,_,_,_⟩) (v:=.pointer (some ⟨b,0,none⟩)) rfl (by kernel_rfl) (by kernel_rfl) (by kernel_rfl) (fun _ _ _ h=>h) (Or.inl ⟨by rfl,?_⟩) hHeld ?_
   ·intro x hx
    go_simp
   simp only[Act.put,List.setIfInBounds_toArray,List.set_cons_zero,List.set_cons_succ]
   refine wpAnyH_take (i:=2) (oi:=⟨_,_,_,_,_,_⟩) (v:=.pointer (some ⟨c,0,none⟩)) rfl (by kernel_rfl) (by kernel_rfl) (by kernel_rfl) (fun _ _ _ h=>h) (Or.inl ⟨by rfl,?_⟩) hHeld ?_
   ·intro x hx
    go_simp
   simp only[Act.put,List.setIfInBounds_toArray,List.set_cons_zero,List.set_cons_succ]
   refine wpAnyH_take (i:=3) (oi:=⟨_,_,_,_,_,_⟩) (v:=.pointer (some ⟨c,0,none⟩)) rfl (by kernel_rfl) (by kernel_rfl) (by kernel_rfl) (fun _ _ _ h=>h) (Or.inl ⟨by rfl,?_⟩) hHeld ?_
   ·intro x hx
    go_simp
   simp only[Act.put,List.setIfInBounds_toArray,List.set_cons_zero,List.set_cons_succ]
   refine wpAnyH_take (i:=4) (oi:=⟨_,_,_,_,_,_⟩) (v:=.pointer (some ⟨c,0,none⟩)) rfl (by kernel_rfl) (by kernel_rfl) (by kernel_rfl) (fun _ _ _ h=>h) (Or.inl ⟨by rfl,?_⟩) hHeld ?_
   ·intro x hx
    go_simp
   simp only[Act.put,List.setIfInBounds_toArray,List.set_cons_zero,List.set_cons_succ]
   refine wpAnyH_take (i:=5) (oi:=⟨_,_,_,_,_,_⟩) (v:=.agg #[.int .i64 v.s.rev,.slice bj v.s.jobs.length dj,.slice bn v.s.nodes.length dn,.slice bl v.s.leases.length dl]) rfl (by kernel_rfl) (by kernel_rfl) (by kernel_rfl) (fun _ _ _ h=>h) (Or.inl ⟨by rfl,?_⟩) hHeld ?_
   ·intro x hx
    have c0:=objAt_cell (objAt_next OCR.out hx) 0 rfl
    have c1:=objAt_cell (objAt_next OCR.out hx) 1 rfl
    have c2:=objAt_cell (objAt_next OCR.out hx) 2 rfl
    have c3:=objAt_cell (objAt_next OCR.out hx) 3 rfl
    go_simp
   simp only[Act.put,List.setIfInBounds_toArray,List.set_cons_zero,List.set_cons_succ]
   refine wpAnyH_ready (rs:=[1]) (by kernel_rfl) (by simp) ?_
   refine AllReadyH.cons (o:=⟨_,_,_,_,_,_⟩) rfl (fun K hK=>?_) ?_
   ·go_simp
    refine(svState_in (svIn_next SR.out hHeld)).mono ?_
    rintro e x1 ⟨gj,gn,gl,qj,qn,ql,rfl,os,b⟩
    have hN:=below_trans hHeld b hHeld.size
    have OS:=Lib.hid os
    clear os
    clear b
    go_wp2_with fail
    refine hK.out _ _ hN (fun hHeld=>?_)
    clear hK K hN
    try simp only[Act.put,List.setIfInBounds_toArray,List.set_cons_zero,List.set_cons_succ]
    refine wpAnyH_ready (rs:=[6]) (by kernel_rfl) (by simp) ?_
    refine AllReadyH.cons (o:=⟨_,_,_,_,_,_⟩) rfl (fun K hK=>?_) ?_
    ·go_simp
     refine(same_is v.s v.s gj gn gl bj bn bl qj qn ql dj dn dl (small4 SR.out.2.1) _ (ownS_at OS.out).1 (ownS_at OS.out).2.1 (ownS_at OS.out).2.2 (sd_at (sd_next HRR.out hHeld) (svIn_next SR.out hHeld).2.2.2.1).1 (sd_at (sd_next HRR.out hHeld) (svIn_next SR.out hHeld).2.2.2.1).2.1 (sd_at (sd_next HRR.out hHeld) (svIn_next SR.out hHeld).2.2.2.1).2.2).mono ?_
     rintro e x6 ⟨c7,rfl,hc7,b⟩
     have hN:=below_trans hHeld b hHeld.size
     obtain rfl:c7=true:=hc7.2 rfl
     clear hc7
     clear b
     go_wp2_with fail
     refine hK.out _ _ hN (fun hHeld=>?_)
     clear hK K hN
     try simp only[Act.put,List.setIfInBounds_toArray,List.set_cons_zero,List.set_cons_succ]
     refine wpAnyH_take (i:=7) (oi:=⟨_,_,_,_,_,_⟩) (v:=.bool true) rfl (by kernel_rfl) (by kernel_rfl) (by kernel_rfl) (fun _ _ _ h=>h) (Or.inl ⟨by rfl,?_⟩) hHeld ?_
     ·intro x hx
      go_simp
     simp only[Act.put,List.setIfInBounds_toArray,List.set_cons_zero,List.set_cons_succ]
     refine wpAnyH_done (by kernel_rfl) ?_ _
     have B9:=Lib.hid (svIn_next SR.out hHeld).2.2.2.1
     clear hHeld
     go_wp2
     go_ret
     exact⟨rfl,B9.out⟩
    exact AllReadyH.nil
   exact AllReadyH.nil
  have hin:i<xs.length:=by omega
  obtain⟨a,rfl,hal,k0,k1,k2,k3,k4,k5,k6,k7,k8,k9,k10,k11,k12,k13⟩:=reqsAt_next HX.out svr.2.2.2.1 i hin
  have hwq:=HWX.out _ (List.getElem_mem hin)
  obtain⟨q,hq⟩:∃q,xs[i]=q:=⟨_,rfl⟩
  rw[hq] at k0 k1 k2 k3 k4 k5 k6 k7 k8 k9 k10 k11 k12 k13 hwq
  have HQ:=Lib.hid hwq
  have hix:a.block<wr.heap.size:=hal
  clear hq hwq
  have bq:=below_one wr (.cells #[.int .i64 q.kind,.string q.job.name,.int .i64 q.job.prio,.int .i64 q.job.need,.int .i64 q.job.tries,.string q.job.tag,.string q.node.name,.int .i64 q.node.room,.string q.node.zone,.string q.lease.job,.string q.lease.node,.int .i64 q.lease.til,.string q.name,.int .i64 q.n] 44)
  have oq:=objAt_new wr #[.int .i64 q.kind,.string q.job.name,.int .i64 q.job.prio,.int .i64 q.job.need,.int .i64 q.job.tries,.string q.job.tag,.string q.node.name,.int .i64 q.node.room,.string q.node.zone,.string q.lease.job,.string q.lease.node,.int .i64 q.lease.til,.string q.name,.int .i64 q.n] 44
  have svq:=svIn_next svr bq
  have ocq:=objAt_next oc bq
  have hRq:=sd_next hR bq
  obtain⟨X0',hX0'⟩:∃X,wr.alloc (.cells #[.int .i64 q.kind,.string q.job.name,.int .i64 q.job.prio,.int .i64 q.job.need,.int .i64 q.job.tries,.string q.job.tag,.string q.node.name,.int .i64 q.node.room,.string q.node.zone,.string q.lease.job,.string q.lease.node,.int .i64 q.lease.til,.string q.name,.int .i64 q.n] 44)=X:=⟨_,rfl⟩
  rw[hX0'] at bq oq svq ocq hRq
  have C3:=Lib.hid (do_is v svq.2.1 svq.2.2.1 q HQ.out b X0' svq.2.2.2.2.2.2 svq.1)
  have c0:=objAt_cell oq 0 rfl
  have c1:=objAt_cell oq 1 rfl
  have c2:=objAt_cell oq 2 rfl
  have c3:=objAt_cell oq 3 rfl
  have c4:=objAt_cell oq 4 rfl
  have c5:=objAt_cell oq 5 rfl
  have c6:=objAt_cell oq 6 rfl
  have c7:=objAt_cell oq 7 rfl
  have c8:=objAt_cell oq 8 rfl
  have c9:=objAt_cell oq 9 rfl
  have c10:=objAt_cell oq 10 rfl
  have c11:=objAt_cell oq 11 rfl
  have c12:=objAt_cell oq 12 rfl
  have c13:=objAt_cell oq 13 rfl
  have SQ:=Lib.hid svq
  have OQ:=Lib.hid oq
  have OC:=Lib.hid ocq
  have RQ:=Lib.hid hRq
  clear svr bq oq oc hR svq ocq hRq
  go_wp2_with fail
  refine C3.out.mono ?_
  clear C3 c0 c1 c2 c3 c4 c5 c6 c7 c8 c9 c10 c11 c12 c13
  rintro e w5 ⟨MD,rfl,sv5,od5,g5⟩
  have P5:=do_full SQ.out sv5 g5 od5 #[.int .i64 ((doR V8 v.s v.now q).2.1:Nat),.int .i64 (doR V8 v.s v.now q).1.s.rev] #[.int .i64 (told v.s (doR V8 v.s v.now q)).frm,.int .i64 (told v.s (doR V8 v.s v.now q)).til,.slice MD.aj (told v.s (doR V8 v.s v.now q)).jobs.length MD.cj,.slice MD.an (told v.s (doR V8 v.s v.now q)).nodes.length MD.cn,.slice MD.al (told v.s (doR V8 v.s v.now q)).leases.length MD.cl,.slice MD.gj (told v.s (doR V8 v.s v.now q)).gj.length MD.hj,.slice MD.gn (told v.s (doR V8 v.s v.now q)).gn.length MD.hn,.slice MD.gl (told v.s (doR V8 v.s v.now q)).gl.length MD.hl]
  have LD:=Lib.hid (lenD_told v.s (doR V8 v.s v.now q) SQ.out.2.1 (svIn_do SQ.out sv5 g5).2.1)
  obtain⟨r,hr⟩:∃r,doR V8 v.s v.now q=r:=⟨_,rfl⟩
  rw[hr] at P5 LD⊢
  obtain⟨D,hD⟩:∃D,told v.s r=D:=⟨_,rfl⟩
  rw[hD] at P5 LD⊢
  clear sv5 g5 od5
  obtain⟨va,ca,ba⟩:=r
  simp only at P5
  have HR:=Lib.hid hr
  have HD:=Lib.hid hD
  clear hr hD
  obtain⟨X1,hX1⟩:∃X,(w5.alloc (.cells #[.int .i64 (ca:Nat),.int .i64 va.s.rev] 46)).alloc (.cells #[.int .i64 D.frm,.int .i64 D.til,.slice MD.aj D.jobs.length MD.cj,.slice MD.an D.nodes.length MD.cn,.slice MD.al D.leases.length MD.cl,.slice MD.gj D.gj.length MD.hj,.slice MD.gn D.gn.length MD.hn,.slice MD.gl D.gl.length MD.hl] 49)=X:=⟨_,rfl⟩
  rw[hX1] at P5
  have S1:=Lib.hid P5.1
  have P1:=Lib.hid (And.intro P5.2.2.1 (And.intro P5.2.2.2.1 P5.2.2.2.2))
  have OQ1:=Lib.hid (doTo_obj P5.2.1 OQ.out (by decide))
  have OC1:=Lib.hid (doTo_obj P5.2.1 OC.out (by decide))
  have RQ1:=Lib.hid (sd_do RQ.out P5.2.1)
  clear P5 OQ OC RQ
  have C4:=rdo_is v SQ.out.2.1 SQ.out.2.2.1 q c bj bn bl dj dn dl X1 OC1.out (sd_at RQ1.out S1.out.2.2.2.1)
  rw[HR.out] at C4
  unfold RoPost at C4
  simp only[HD.out] at C4
  have C4:=Lib.hid C4
  have c0:=objAt_cell OQ1.out 0 rfl
  have c1:=objAt_cell OQ1.out 1 rfl
  have c2:=objAt_cell OQ1.out 2 rfl
  have c3:=objAt_cell OQ1.out 3 rfl
  have c4:=objAt_cell OQ1.out 4 rfl
  have c5:=objAt_cell OQ1.out 5 rfl
  have c6:=objAt_cell OQ1.out 6 rfl
  have c7:=objAt_cell OQ1.out 7 rfl
  have c8:=objAt_cell OQ1.out 8 rfl
  have c9:=objAt_cell OQ1.out 9 rfl
  have c10:=objAt_cell OQ1.out 10 rfl
  have c11:=objAt_cell OQ1.out 11 rfl
  have c12:=objAt_cell OQ1.out 12 rfl
  have c13:=objAt_cell OQ1.out 13 rfl
  go_wp2_with fail
  refine C4.out.mono ?_
  clear C4 c0 c1 c2 c3 c4 c5 c6 c7 c8 c9 c10 c11 c12 c13
  rintro e w6 ⟨ME,ej,en,el,fj,fn,fl,rfl,od6,oc6,nr6,g6⟩
  have S6:=svIn_ref S1.out OC1.out HNE.out.1 HNE.out.2 g6
  have pa6:=objAt_gN P1.out.1 (obj_ne P1.out.1 OC1.out (by decide)) g6
  have pb6:=objAt_gN P1.out.2.1 (obj_ne P1.out.2.1 OC1.out (by decide)) g6
  have pd6:=ownD_ref P1.out.2.2 OC1.out g6
  have R6:=sd_new (t:=va.s) RQ1.out OC1.out rowT_rs g6 nr6
  have bx1:=below_one w6 (.cells #[.int .i64 (ca:Nat),.int .i64 va.s.rev] 46)
  have bx2:=below_one (w6.alloc (.cells #[.int .i64 (ca:Nat),.int .i64 va.s.rev] 46)) (.cells #[.int .i64 D.frm,.int .i64 D.til,.slice ME.aj D.jobs.length ME.cj,.slice ME.an D.nodes.length ME.cn,.slice ME.al D.leases.length ME.cl,.slice ME.gj D.gj.length ME.hj,.slice ME.gn D.gn.length ME.hn,.slice ME.gl D.gl.length ME.hl] 49)
  have bx:=below_trans bx1 bx2 (by simp only[World.size_alloc];omega)
  have oR:=objAt_next (objAt_new w6 #[.int .i64 (ca:Nat),.int .i64 va.s.rev] 46) bx2
  have oD:=objAt_new (w6.alloc (.cells #[.int .i64 (ca:Nat),.int .i64 va.s.rev] 46)) #[.int .i64 D.frm,.int .i64 D.til,.slice ME.aj D.jobs.length ME.cj,.slice ME.an D.nodes.length ME.cn,.slice ME.al D.leases.length ME.cl,.slice ME.gj D.gj.length ME.hj,.slice ME.gn D.gn.length ME.hn,.slice ME.gl D.gl.length ME.hl] 49
  simp only[World.size_alloc] at oD
  obtain⟨X2,hX2⟩:∃X,(w6.alloc (.cells #[.int .i64 (ca:Nat),.int .i64 va.s.rev] 46)).alloc (.cells #[.int .i64 D.frm,.int .i64 D.til,.slice ME.aj D.jobs.length ME.cj,.slice ME.an D.nodes.length ME.cn,.slice ME.al D.leases.length ME.cl,.slice ME.gj D.gj.length ME.hj,.slice ME.gn D.gn.length ME.hn,.slice ME.gl D.gl.length ME.hl] 49)=X:=⟨_,rfl⟩
  rw[hX2] at bx oR oD
  have S2:=Lib.hid (svIn_next S6 bx)
  have Q2:=Lib.hid (And.intro (objAt_next pa6 bx) (And.intro (objAt_next pb6 bx) (And.intro oR (And.intro oD (objAt_next oc6 bx)))))
  have E2:=Lib.hid (And.intro (ownD_next pd6 bx) (And.intro (ownD_next od6 bx) (sd_next R6 bx)))
  clear S6 pa6 pb6 pd6 R6 bx1 bx2 bx oR oD oc6 od6 nr6 g6 P1 OC1 RQ1 OQ1 S1
  have QA:Hid (ObjAt w5.heap.size #[.int .i64 (ca:Nat),.int .i64 va.s.rev] 46 X2):=Q2.out.1
  have QD:Hid (ObjAt (w5.heap.size+1) #[.int .i64 D.frm,.int .i64 D.til,.slice MD.aj D.jobs.length MD.cj,.slice MD.an D.nodes.length MD.cn,.slice MD.al D.leases.length MD.cl,.slice MD.gj D.gj.length MD.hj,.slice MD.gn D.gn.length MD.hn,.slice MD.gl D.gl.length MD.hl] 49 X2):=Q2.out.2.1
  have QB:Hid (ObjAt w6.heap.size #[.int .i64 (ca:Nat),.int .i64 va.s.rev] 46 X2):=Q2.out.2.2.1
  have QE:Hid (ObjAt (w6.heap.size+1) #[.int .i64 D.frm,.int .i64 D.til,.slice ME.aj D.jobs.length ME.cj,.slice ME.an D.nodes.length ME.cn,.slice ME.al D.leases.length ME.cl,.slice ME.gj D.gj.length ME.hj,.slice ME.gn D.gn.length ME.hn,.slice ME.gl D.gl.length ME.hl] 49 X2):=Q2.out.2.2.2.1
  have OC2:Hid (ObjAt c #[.int .i64 va.s.rev,.slice ej va.s.jobs.length fj,.slice en va.s.nodes.length fn,.slice el va.s.leases.length fl,.int .i64 va.now] 36 X2):=Q2.out.2.2.2.2
  have HRD:=Lib.hid HR.out
  clear Q2
  go_wp2_with fail
  refine wp_region_held_drew (S:=fun x=>Below X2.heap.size X2 x) (by kernel_rfl) (Below.refl _ _).drew (fun hHeld=>?_)
  generalize X2.drew=V at hHeld⊢
  refine wpAnyH_take (i:=0) (oi:=⟨_,_,_,_,_,_⟩) (v:=.agg #[.int .i64 (ca:Nat),.int .i64 va.s.rev]) rfl (by kernel_rfl) (by kernel_rfl) (by kernel_rfl) (fun _ _ _ h=>h) (Or.inl ⟨by rfl,?_⟩) hHeld ?_
  ·intro x hx
   have c0:=objAt_cell (objAt_next QA.out hx) 0 rfl
   have c1:=objAt_cell (objAt_next QA.out hx) 1 rfl
   go_simp
  simp only[Act.put,List.setIfInBounds_toArray,List.set_cons_zero,List.set_cons_succ]
  refine wpAnyH_take (i:=1) (oi:=⟨_,_,_,_,_,_⟩) (v:=.agg #[.int .i64 (ca:Nat),.int .i64 va.s.rev]) rfl (by kernel_rfl) (by kernel_rfl) (by kernel_rfl) (fun _ _ _ h=>h) (Or.inl ⟨by rfl,?_⟩) hHeld ?_
  ·intro x hx
   have c0:=objAt_cell (objAt_next QB.out hx) 0 rfl
   have c1:=objAt_cell (objAt_next QB.out hx) 1 rfl
   go_simp
  simp only[Act.put,List.setIfInBounds_toArray,List.set_cons_zero,List.set_cons_succ]
  refine wpAnyH_take (i:=2) (oi:=⟨_,_,_,_,_,_⟩) (v:=.bool false) rfl (by kernel_rfl) (by kernel_rfl) (by kernel_rfl) (fun _ _ _ h=>h) (Or.inl ⟨by rfl,?_⟩) hHeld ?_
  ·intro x hx
   go_simp
  simp only[Act.put,List.setIfInBounds_toArray,List.set_cons_zero,List.set_cons_succ]
  refine wpAnyH_take (i:=3) (oi:=⟨_,_,_,_,_,_⟩) (v:=.bool false) rfl (by kernel_rfl) (by kernel_rfl) (by kernel_rfl) (fun _ _ _ h=>h) (Or.inl ⟨by rfl,?_⟩) hHeld ?_
  ·intro x hx
   go_simp
  simp only[Act.put,List.setIfInBounds_toArray,List.set_cons_zero,List.set_cons_succ]
  refine wpAnyH_take (i:=4) (oi:=⟨_,_,_,_,_,_⟩) (v:=.agg #[.int .i64 D.frm,.int .i64 D.til,.slice MD.aj D.jobs.length MD.cj,.slice MD.an D.nodes.length MD.cn,.slice MD.al D.leases.length MD.cl,.slice MD.gj D.gj.length MD.hj,.slice MD.gn D.gn.length MD.hn,.slice MD.gl D.gl.length MD.hl]) rfl (by kernel_rfl) (by kernel_rfl) (by kernel_rfl) (fun _ _ _ h=>h) (Or.inl ⟨by rfl,?_⟩) hHeld ?_
  ·intro x hx
   have c0:=objAt_cell (objAt_next QD.out hx) 0 rfl
   have c1:=objAt_cell (objAt_next QD.out hx) 1 rfl
   have c2:=objAt_cell (objAt_next QD.out hx) 2 rfl
   have c3:=objAt_cell (objAt_next QD.out hx) 3 rfl
   have c4:=objAt_cell (objAt_next QD.out hx) 4 rfl
   have c5:=objAt_cell (objAt_next QD.out hx) 5 rfl
   have c6:=objAt_cell (objAt_next QD.out hx) 6 rfl
   have c7:=objAt_cell (objAt_next QD.out hx) 7 rfl
   go_simp
  simp only[Act.put,List.setIfInBounds_toArray,List.set_cons_zero,List.set_cons_succ]
  refine wpAnyH_take (i:=5) (oi:=⟨_,_,_,_,_,_⟩) (v:=.agg #[.int .i64 D.frm,.int .i64 D.til,.slice ME.aj D.jobs.length ME.cj,.slice ME.an D.nodes.length ME.cn,.slice ME.al D.leases.length ME.cl,.slice ME.gj D.gj.length ME.hj,.slice ME.gn D.gn.length ME.hn,.slice ME.gl D.gl.length ME.hl]) rfl (by kernel_rfl) (by kernel_rfl) (by kernel_rfl) (fun _ _ _ h=>h) (Or.inl ⟨by rfl,?_⟩) hHeld ?_
  ·intro x hx
   have c0:=objAt_cell (objAt_next QE.out hx) 0 rfl
   have c1:=objAt_cell (objAt_next QE.out hx) 1 rfl
   have c2:=objAt_cell (objAt_next QE.out hx) 2 rfl
   have c3:=objAt_cell (objAt_next QE.out hx) 3 rfl
   have c4:=objAt_cell (objAt_next QE.out hx) 4 rfl
   have c5:=objAt_cell (objAt_next QE.out hx) 5 rfl
   have c6:=objAt_cell (objAt_next QE.out hx) 6 rfl
   have c7:=objAt_cell (objAt_next QE.out hx) 7 rfl
   go_simp
  simp only[Act.put,List.setIfInBounds_toArray,List.set_cons_zero,List.set_cons_succ]
  refine wpAnyH_ready (rs:=[6]) (by kernel_rfl) (by simp) ?_
  refine AllReadyH.cons (o:=⟨_,_,_,_,_,_⟩) rfl (fun K hK=>?_) ?_
  ·go_simp
   refine(deltaEq_at LD.out (ownD_at (ownD_next E2.out.1 hHeld)) (ownD_at (ownD_next E2.out.2.1 hHeld))).mono ?_
   rintro e x6 ⟨c6,rfl,hc6,b⟩
   have hN:=below_trans hHeld b hHeld.size
   obtain rfl:c6=true:=hc6.2 rfl
   clear hc6
   clear b
   go_wp2_with fail
   refine hK.out _ _ hN (fun hHeld=>?_)
   clear hK K hN
   try simp only[Act.put,List.setIfInBounds_toArray,List.set_cons_zero,List.set_cons_succ]
   refine wpAnyH_take (i:=7) (oi:=⟨_,_,_,_,_,_⟩) (v:=.bool false) rfl (by kernel_rfl) (by kernel_rfl) (by kernel_rfl) (fun _ _ _ h=>h) (Or.inl ⟨by rfl,?_⟩) hHeld ?_
   ·intro x hx
    go_simp
   simp only[Act.put,List.setIfInBounds_toArray,List.set_cons_zero,List.set_cons_succ]
   refine wpAnyH_take (i:=8) (oi:=⟨_,_,_,_,_,_⟩) (v:=.bool false) rfl (by kernel_rfl) (by kernel_rfl) (by kernel_rfl) (fun _ _ _ h=>h) (Or.inl ⟨by rfl,?_⟩) hHeld ?_
   ·intro x hx
    go_simp
   simp only[Act.put,List.setIfInBounds_toArray,List.set_cons_zero,List.set_cons_succ]
   refine wpAnyH_take (i:=9) (oi:=⟨_,_,_,_,_,_⟩) (v:=.bool false) rfl (by kernel_rfl) (by kernel_rfl) (by kernel_rfl) (fun _ _ _ h=>h) (Or.inl ⟨by rfl,?_⟩) hHeld ?_
   ·intro x hx
    go_simp
   simp only[Act.put,List.setIfInBounds_toArray,List.set_cons_zero,List.set_cons_succ]
   refine wpAnyH_take (i:=10) (oi:=⟨_,_,_,_,_,_⟩) (v:=.bool ba) rfl (by kernel_rfl) (by kernel_rfl) (by kernel_rfl) (fun _ _ _ h=>h) (Or.inl ⟨by rfl,?_⟩) hHeld ?_
   ·intro x hx
    go_simp
   simp only[Act.put,List.setIfInBounds_toArray,List.set_cons_zero,List.set_cons_succ]
   refine wpAnyH_take (i:=11) (oi:=⟨_,_,_,_,_,_⟩) (v:=.bool ba) rfl (by kernel_rfl) (by kernel_rfl) (by kernel_rfl) (fun _ _ _ h=>h) (Or.inl ⟨by rfl,?_⟩) hHeld ?_
   ·intro x hx
    go_simp
   simp only[Act.put,List.setIfInBounds_toArray,List.set_cons_zero,List.set_cons_succ]
   refine wpAnyH_take (i:=12) (oi:=⟨_,_,_,_,_,_⟩) (v:=.bool false) rfl (by kernel_rfl) (by kernel_rfl) (by kernel_rfl) (fun _ _ _ h=>h) (Or.inl ⟨by rfl,?_⟩) hHeld ?_
   ·intro x hx
    go_simp
   simp only[Act.put,List.setIfInBounds_toArray,List.set_cons_zero,List.set_cons_succ]
   refine wpAnyH_take (i:=13) (oi:=⟨_,_,_,_,_,_⟩) (v:=.bool false) rfl (by kernel_rfl) (by kernel_rfl) (by kernel_rfl) (fun _ _ _ h=>h) (Or.inl ⟨by rfl,?_⟩) hHeld ?_
   ·intro x hx
    go_simp
   simp only[Act.put,List.setIfInBounds_toArray,List.set_cons_zero,List.set_cons_succ]
   refine wpAnyH_take (i:=14) (oi:=⟨_,_,_,_,_,_⟩) (v:=.bool false) rfl (by kernel_rfl) (by kernel_rfl) (by kernel_rfl) (fun _ _ _ h=>h) (Or.inl ⟨by rfl,?_⟩) hHeld ?_
   ·intro x hx
    go_simp
   simp only[Act.put,List.setIfInBounds_toArray,List.set_cons_zero,List.set_cons_succ]
   refine wpAnyH_take (i:=15) (oi:=⟨_,_,_,_,_,_⟩) (v:=.pointer (some ⟨b,0,none⟩)) rfl (by kernel_rfl) (by kernel_rfl) (by kernel_rfl) (fun _ _ _ h=>h) (Or.inl ⟨by rfl,?_⟩) hHeld ?_
   ·intro x hx
    go_simp
   simp only[Act.put,List.setIfInBounds_toArray,List.set_cons_zero,List.set_cons_succ]
   refine wpAnyH_take (i:=17) (oi:=⟨_,_,_,_,_,_⟩) (v:=.pointer (some ⟨c,0,none⟩)) rfl (by kernel_rfl) (by kernel_rfl) (by kernel_rfl) (fun _ _ _ h=>h) (Or.inl ⟨by rfl,?_⟩) hHeld ?_
   ·intro x hx
    go_simp
   simp only[Act.put,List.setIfInBounds_toArray,List.set_cons_zero,List.set_cons_succ]
   refine wpAnyH_take (i:=18) (oi:=⟨_,_,_,_,_,_⟩) (v:=.pointer (some ⟨c,0,none⟩)) rfl (by kernel_rfl) (by kernel_rfl) (by kernel_rfl) (fun _ _ _ h=>h) (Or.inl ⟨by rfl,?_⟩) hHeld ?_
   ·intro x hx
    go_simp
   simp only[Act.put,List.setIfInBounds_toArray,List.set_cons_zero,List.set_cons_succ]
   refine wpAnyH_take (i:=19) (oi:=⟨_,_,_,_,_,_⟩) (v:=.pointer (some ⟨c,0,none⟩)) rfl (by kernel_rfl) (by kernel_rfl) (by kernel_rfl) (fun _ _ _ h=>h) (Or.inl ⟨by rfl,?_⟩) hHeld ?_
   ·intro x hx
    go_simp
   simp only[Act.put,List.setIfInBounds_toArray,List.set_cons_zero,List.set_cons_succ]
   refine wpAnyH_take (i:=20) (oi:=⟨_,_,_,_,_,_⟩) (v:=.agg #[.int .i64 va.s.rev,.slice ej va.s.jobs.length fj,.slice en va.s.nodes.length fn,.slice el va.s.leases.length fl]) rfl (by kernel_rfl) (by kernel_rfl) (by kernel_rfl) (fun _ _ _ h=>h) (Or.inl ⟨by rfl,?_⟩) hHeld ?_
   ·intro x hx
    have c0:=objAt_cell (objAt_next OC2.out hx) 0 rfl
    have c1:=objAt_cell (objAt_next OC2.out hx) 1 rfl
    have c2:=objAt_cell (objAt_next OC2.out hx) 2 rfl
    have c3:=objAt_cell (objAt_next OC2.out hx) 3 rfl
    go_simp
   simp only[Act.put,List.setIfInBounds_toArray,List.set_cons_zero,List.set_cons_succ]
   refine wpAnyH_ready (rs:=[16]) (by kernel_rfl) (by simp) ?_
   refine AllReadyH.cons (o:=⟨_,_,_,_,_,_⟩) rfl (fun K hK=>?_) ?_
   ·go_simp
    refine(svState_in (svIn_next S2.out hHeld)).mono ?_
    rintro e x16 ⟨gj,gn,gl,qj,qn,ql,rfl,os,b⟩
    have hN:=below_trans hHeld b hHeld.size
    have OS:=Lib.hid os
    clear os
    clear b
    go_wp2_with fail
    refine hK.out _ _ hN (fun hHeld=>?_)
    clear hK K hN
    try simp only[Act.put,List.setIfInBounds_toArray,List.set_cons_zero,List.set_cons_succ]
    refine wpAnyH_ready (rs:=[21]) (by kernel_rfl) (by simp) ?_
    refine AllReadyH.cons (o:=⟨_,_,_,_,_,_⟩) rfl (fun K hK=>?_) ?_
    ·go_simp
     refine(same_is va.s va.s gj gn gl ej en el qj qn ql fj fn fl (small4 S2.out.2.1) _ (ownS_at OS.out).1 (ownS_at OS.out).2.1 (ownS_at OS.out).2.2 (sd_at (sd_next E2.out.2.2 hHeld) (svIn_next S2.out hHeld).2.2.2.1).1 (sd_at (sd_next E2.out.2.2 hHeld) (svIn_next S2.out hHeld).2.2.2.1).2.1 (sd_at (sd_next E2.out.2.2 hHeld) (svIn_next S2.out hHeld).2.2.2.1).2.2).mono ?_
     rintro e x21 ⟨c7,rfl,hc7,b⟩
     have hN:=below_trans hHeld b hHeld.size
     obtain rfl:c7=true:=hc7.2 rfl
     clear hc7
     clear b
     go_wp2_with fail
     refine hK.out _ _ hN (fun hHeld=>?_)
     clear hK K hN
     try simp only[Act.put,List.setIfInBounds_toArray,List.set_cons_zero,List.set_cons_succ]
     refine wpAnyH_take (i:=22) (oi:=⟨_,_,_,_,_,_⟩) (v:=.bool false) rfl (by kernel_rfl) (by kernel_rfl) (by kernel_rfl) (fun _ _ _ h=>h) (Or.inl ⟨by rfl,?_⟩) hHeld ?_
     ·intro x hx
      go_simp
     simp only[Act.put,List.setIfInBounds_toArray,List.set_cons_zero,List.set_cons_succ]
     refine wpAnyH_take (i:=23) (oi:=⟨_,_,_,_,_,_⟩) (v:=.bool false) rfl (by kernel_rfl) (by kernel_rfl) (by kernel_rfl) (fun _ _ _ h=>h) (Or.inl ⟨by rfl,?_⟩) hHeld ?_
     ·intro x hx
      go_simp
     simp only[Act.put,List.setIfInBounds_toArray,List.set_cons_zero,List.set_cons_succ]
     refine wpAnyH_take (i:=24) (oi:=⟨_,_,_,_,_,_⟩) (v:=.bool false) rfl (by kernel_rfl) (by kernel_rfl) (by kernel_rfl) (fun _ _ _ h=>h) (Or.inl ⟨by rfl,?_⟩) hHeld ?_
     ·intro x hx
      go_simp
     simp only[Act.put,List.setIfInBounds_toArray,List.set_cons_zero,List.set_cons_succ]
     refine wpAnyH_take (i:=25) (oi:=⟨_,_,_,_,_,_⟩) (v:=.pointer (some ⟨b,0,none⟩)) rfl (by kernel_rfl) (by kernel_rfl) (by kernel_rfl) (fun _ _ _ h=>h) (Or.inl ⟨by rfl,?_⟩) hHeld ?_
     ·intro x hx
      go_simp
     simp only[Act.put,List.setIfInBounds_toArray,List.set_cons_zero,List.set_cons_succ]
     refine wpAnyH_take (i:=27) (oi:=⟨_,_,_,_,_,_⟩) (v:=.pointer (some ⟨c,0,none⟩)) rfl (by kernel_rfl) (by kernel_rfl) (by kernel_rfl) (fun _ _ _ h=>h) (Or.inl ⟨by rfl,?_⟩) hHeld ?_
     ·intro x hx
      go_simp
     simp only[Act.put,List.setIfInBounds_toArray,List.set_cons_zero,List.set_cons_succ]
     refine wpAnyH_take (i:=28) (oi:=⟨_,_,_,_,_,_⟩) (v:=.pointer (some ⟨c,0,none⟩)) rfl (by kernel_rfl) (by kernel_rfl) (by kernel_rfl) (fun _ _ _ h=>h) (Or.inl ⟨by rfl,?_⟩) hHeld ?_
     ·intro x hx
      go_simp
     simp only[Act.put,List.setIfInBounds_toArray,List.set_cons_zero,List.set_cons_succ]
     refine wpAnyH_take (i:=29) (oi:=⟨_,_,_,_,_,_⟩) (v:=.pointer (some ⟨c,4,none⟩)) rfl (by kernel_rfl) (by kernel_rfl) (by kernel_rfl) (fun _ _ _ h=>h) (Or.inl ⟨by rfl,?_⟩) hHeld ?_
     ·intro x hx
      go_simp
     simp only[Act.put,List.setIfInBounds_toArray,List.set_cons_zero,List.set_cons_succ]
     refine wpAnyH_take (i:=30) (oi:=⟨_,_,_,_,_,_⟩) (v:=.int .i64 va.now) rfl (by kernel_rfl) (by kernel_rfl) (by kernel_rfl) (fun _ _ _ h=>h) (Or.inl ⟨by rfl,?_⟩) hHeld ?_
     ·intro x hx
      have c4:=objAt_cell (objAt_next OC2.out hx) 4 rfl
      go_simp
     simp only[Act.put,List.setIfInBounds_toArray,List.set_cons_zero,List.set_cons_succ]
     refine wpAnyH_ready (rs:=[26]) (by kernel_rfl) (by simp) ?_
     refine AllReadyH.cons (o:=⟨_,_,_,_,_,_⟩) rfl (fun K hK=>?_) ?_
     ·go_simp
      refine(svNow_is b va _ (svIn_next S2.out hHeld).1).mono ?_
      rintro e x26 ⟨rfl,hw⟩
      rw[hw]
      have hN:=hHeld
      go_wp2_with fail
      refine hK.out _ _ hN (fun hHeld=>?_)
      clear hK K hN
      try simp only[Act.put,List.setIfInBounds_toArray,List.set_cons_zero,List.set_cons_succ]
      refine wpAnyH_take (i:=31) (oi:=⟨_,_,_,_,_,_⟩) (v:=.bool false) rfl (by kernel_rfl) (by kernel_rfl) (by kernel_rfl) (fun _ _ _ h=>h) (Or.inl ⟨by rfl,?_⟩) hHeld ?_
      ·intro x hx
       go_simp
      simp only[Act.put,List.setIfInBounds_toArray,List.set_cons_zero,List.set_cons_succ]
      refine wpAnyH_take (i:=32) (oi:=⟨_,_,_,_,_,_⟩) (v:=.bool false) rfl (by kernel_rfl) (by kernel_rfl) (by kernel_rfl) (fun _ _ _ h=>h) (Or.inl ⟨by rfl,?_⟩) hHeld ?_
      ·intro x hx
       go_simp
      simp only[Act.put,List.setIfInBounds_toArray,List.set_cons_zero,List.set_cons_succ]
      refine wpAnyH_done (by kernel_rfl) ?_ _
      have SE:=Lib.hid (svIn_next S2.out hHeld)
      have OE:=Lib.hid (objAt_next OC2.out hHeld)
      have RE:=Lib.hid (sd_next E2.out.2.2 hHeld)
      clear hHeld
      go_wp2
      go_roundw
      case rel=>exact⟨i+1,va,ej,en,el,fj,fn,fl,by simp,by omega,SE.out,OE.out,RE.out⟩
      case measure=>simp[intOf];omega
     exact AllReadyH.nil
    exact AllReadyH.nil
   exact AllReadyH.nil
  exact AllReadyH.nil
theorem own:ownKnob Tryz.prog.godebug=none:=by kernel_rfl
theorem laidOut:laidOutB Tryz.prog=true:=by kernel_rfl
theorem laid_met (os:Os):laidMet Tryz.prog Rows.serveDoesRow.laid ((laidWorld os).forCall (fun _ _=>0) ⟨#[],#[.agg #[.int .i64 0,.slice none 0 0,.slice none 0 0,.slice none 0 0],.slice none 0 0],[]⟩).memory :=
 laidMet_of_run' 8 (by kernel_rfl) (by kernel_rfl)
theorem reads (os:Os){H:Type} (enc:TypeId×Value→H):∃places,DataW.whole enc Tryz.prog ((laidWorld os).forCall (fun _ _=>0) ⟨#[],#[.agg #[.int .i64 0,.slice none 0 0,.slice none 0 0,.slice none 0 0],.slice none 0 0],[]⟩).memory Tryz.f3.params.toList Rows.serveDoesSpec.vars false #[Value.agg #[.int .i64 0,.slice none 0 0,.slice none 0 0,.slice none 0 0],Value.slice none 0 0].toList 8=some ([.agg [.lit (.int .i64 0),.nil,.nil,.nil],.nil],[],places) :=
 ⟨[],by kernel_rfl⟩
theorem lifted (os:Os) (started:os.Started) (H:Type) (enc:TypeId×Value→H) (F:Stop.Interp) :
  ReturnsInHanded {} Tryz.checked os 3 .any ((OpenSpec.ofChange Rows.serveDoesSpec).preRow enc Tryz.prog Tryz.f3 Rows.serveDoesRow.domain false Rows.serveDoesRow.laid) (((OpenSpec.ofChange Rows.serveDoesSpec).at F).post enc Tryz.prog Tryz.f3 false true false false):=by
 obtain⟨places,hx⟩:=reads os enc
 refine returnsInHanded_of_row (C:=Tryz.checked) (s:=(OpenSpec.ofChange Rows.serveDoesSpec)) own started (by kernel_rfl) Tryz.func3
  (witness_row_atRef (enc:=enc) (C:=Tryz.checked) false (laidWorld os) #[.agg #[.int .i64 0,.slice none 0 0,.slice none 0 0,.slice none 0 0],.slice none 0 0] rfl (by kernel_rfl) (by kernel_rfl) (by kernel_rfl)
   (OpenSpec.preRow_of_cond 8 hx (by kernel_rfl) (fun k hk=>by cases hk) (by kernel_rfl) (laid_met os))) ?_
 intro W base args ds gs before hval0 hW _ _ hsz0 hL _ _
 have hval:∀(j:Nat) t v,Tryz.f3.params[j]?=some t→args[j]?=some v→Value.okWide Tryz.prog W .any base t v:=hval0
 have hW':=hW
 obtain⟨p,q,hA0,hV,rfl,hfz,hnd⟩:=hW
 have hA:DataW.TrodAll enc Tryz.prog W 0 (fun _=>true) true Tryz.f3.params.toList args.toList ds p:=hA0
 have hsz:(DataW.weightsEach Tryz.prog (Tryz.f3.params.toList++Rows.serveDoesSpec.plain.varTypes Tryz.prog) (ds++gs)).all (· ≤ reachBytes)=true:=hsz0
 rw[Tryz.params3] at hA hval hsz
 obtain⟨v0,vs0,d0,ds0,p0,q0,hargs,rfl,rfl,h0,r0⟩:=trodAll_cons hA
 obtain⟨v1,vs1,d1,ds1,p1,q1,rfl,rfl,rfl,h1,r1⟩:=trodAll_cons r0
 obtain⟨rfl,rfl,rfl⟩:=trodAll_nil r1
 obtain rfl:args = #[v0,v1]:=by cases args;simp_all
 obtain⟨rfl,rfl⟩:=trodVars_none hV
 obtain⟨M0,st0,rfl,m0,x0,w0⟩:=open_state (hval 0 26 v0 rfl rfl) h0
 obtain⟨ad1,cap1,xs1,rfl,m1,x1,w1⟩:=open_requests (hval 1 27 v1 rfl rfl) h1
 have s0:=sized_state hsz rfl (j:=0) rfl x0
 have s1:=sized_requests hsz rfl (j:=1) rfl x1
 clear hA0 hval0
 refine(walk M0 st0 ad1 cap1 xs1 w0 w1 s0 s1 W m0 m1 (tabs_of hL)).mono fun e W' ⟨he,bel⟩=>?_
 subst he
 exact⟨_,rfl,_,_,_,[],_,[],hW',trodAll_mk1 (shut_bool Tryz.underlying4 _),(trodAll_cons_mk (Below.trod laidOut (by kernel_rfl) (of_decide_eq_true (by kernel_rfl)) h0 bel (fun x hx=>by simpa using hW'.lt x (by simp[hx]))) (trodAll_cons_mk (Below.trod laidOut (by kernel_rfl) (of_decide_eq_true (by kernel_rfl)) h1 bel (fun x hx=>by simpa using hW'.lt x (by simp[hx]))) trodAll_mk0)),rfl,bel.frame _,fun h=>by cases h⟩
theorem said:Rows.ServeDoesSaid :=
 OpenClaim.holds_of_cond 3 Tryz.f3 rfl rfl rfl rfl rfl rfl rfl ⟨rfl,rfl,rfl,rfl,rfl⟩ rfl rfl rfl rfl rfl (by kernel_rfl) Tryz.func3 (by kernel_rfl)
  (of_decide_eq_true (by kernel_rfl)) (by unfold Func.isWrapper;first | (rw[if_pos (by decide +kernel)];kernel_rfl) | (rw[if_neg (by decide +kernel)];exact⟨rfl,rfl⟩))
  (fun os started H enc _ F=>by rw[OpenClaim.pre_eq_preRow];exact lifted os started H enc F)
theorem plain (f:FuncId) (fn:Func) (hf:Tryz.pinned.checked.prog.funcNamed Rows.serveDoesRow.func=some f) (hfn:Tryz.pinned.checked.prog.funcs[f]?=some fn) :
  false=Tryz.pinned.checked.prog.looks []∧∀(j:Nat) t,fn.params[j]?=some t→Tryz.pinned.checked.prog.wantsStandIn t=false:=by
 obtain rfl:f=3:=Option.some.inj ((show Tryz.prog.funcNamed Rows.serveDoesRow.func=some 3 by kernel_rfl).symm.trans hf) |>.symm
 obtain rfl:fn=Tryz.f3:=(Option.some.inj (Tryz.func3.symm.trans hfn)).symm
 refine⟨by kernel_rfl,fun j t ht=>?_⟩
 rw[Tryz.params3] at ht
 have hm:t=26∨t=27:=by simpa using Array.mem_of_getElem? ht
 rcases hm with rfl | rfl
 ·exact(show Tryz.prog.wantsStandIn 26=false by kernel_rfl)
 ·exact(show Tryz.prog.wantsStandIn 27=false by kernel_rfl)
theorem proved:Rows.ServeDoesCardSaid :=
 Claim7.holds_tied_plain_at .later [] _ _ _ _ said (fun _ h=>by cases h) (by kernel_rfl) (fun _ h=>by cases h) serveDoes_row_tie rfl ⟨rfl,rfl⟩ (by kernel_rfl) rfl plain (by kernel_rfl)
#print axioms proved
end Go.Proofs.YtiekgafopalfmaaGreatDoor.serveDoes
