import Derived.Test.YtiekgafopalfmaaGreatDoorPPkDl5
import Derived.Test.YtiekgafopalfmaaGreatDoorPDlHas
import Derived.Test.YtiekgafopalfmaaGreatDoorPPkStR
namespace Go.Proofs.YtiekgafopalfmaaGreatDoor
open Go.RowKit
set_option maxRecDepth 100000 in
set_option maxHeartbeats 16000000 in
theorem between_is (a b:StD) (aj an al bj bn bl:Option Addr) (cj cn cl dj dn dl:Nat) (hla:a.jobs.length≤40∧a.nodes.length≤40∧a.leases.length≤40) (hlb:b.jobs.length≤40∧b.nodes.length≤40∧b.leases.length≤40) (w:World) (hma:JobsAt w aj a.jobs∧NodesAt w an a.nodes∧LeasesAt w al a.leases) (hmb:JobsAt w bj b.jobs∧NodesAt w bn b.nodes∧LeasesAt w bl b.leases) :
  Calls Tryz.prog 25 #[.agg #[.int .i64 a.rev,.slice aj a.jobs.length cj,.slice an a.nodes.length cn,.slice al a.leases.length cl],.agg #[.int .i64 b.rev,.slice bj b.jobs.length dj,.slice bn b.nodes.length dn,.slice bl b.leases.length dl]] w fun e w'=>∃M:DlM,e = .returned (.agg #[.int .i64 a.rev,.int .i64 b.rev,.slice M.aj (diffS a b).jobs.length M.cj,.slice M.an (diffS a b).nodes.length M.cn,.slice M.al (diffS a b).leases.length M.cl,.slice M.gj (diffS a b).gj.length M.hj,.slice M.gn (diffS a b).gn.length M.hn,.slice M.gl (diffS a b).gl.length M.hl])∧OwnD w.heap.size M (diffS a b) w'∧Below w.heap.size w w':=by
 obtain⟨i0,qi,qz0,qz1,qz2⟩:=info_parts' Tryz.info_job
 obtain⟨i1,ri,rz0,rz1,rz2⟩:=info_parts' Tryz.info_node
 obtain⟨i2,si,sz0,sz1,sz2⟩:=info_parts' Tryz.info_lease
 obtain⟨i3,ti,tz0,tz1,tz2⟩:=info_parts' info_str
 have Hi:=Lib.hid qi
 have Hz0:=Lib.hid qz0
 have Hz1:=Lib.hid qz1
 have Hz2:=Lib.hid qz2
 have Ni:=Lib.hid ri
 have Nz0:=Lib.hid rz0
 have Nz1:=Lib.hid rz1
 have Nz2:=Lib.hid rz2
 have Li:=Lib.hid si
 have Lz0:=Lib.hid sz0
 have Lz1:=Lib.hid sz1
 have Lz2:=Lib.hid sz2
 have Gi:=Lib.hid ti
 have Gz0:=Lib.hid tz0
 have Gz1:=Lib.hid tz1
 have Gz2:=Lib.hid tz2
 clear qi qz0 qz1 qz2 ri rz0 rz1 rz2 si sz0 sz1 sz2 ti tz0 tz1 tz2
 obtain⟨W0,hW0⟩:∃W0,((w.alloc (.cells #[.int .i64 a.rev,.slice aj a.jobs.length cj,.slice an a.nodes.length cn,.slice al a.leases.length cl] 26)).alloc (.cells #[.int .i64 b.rev,.slice bj b.jobs.length dj,.slice bn b.nodes.length dn,.slice bl b.leases.length dl] 26)).alloc (.cells #[.int .i64 0,.int .i64 0,.slice none 0 0,.slice none 0 0,.slice none 0 0,.slice none 0 0,.slice none 0 0,.slice none 0 0] 49)=W0:=⟨_,rfl⟩
 obtain⟨p0,p1,p2,B0,sz0⟩:=three_blocks w _ _ _ _ _ _ _ _ W0 hW0
 have HMA:=Lib.hid hma
 have HMB:=Lib.hid hmb
 obtain⟨la1,la2,la3⟩:=hla
 obtain⟨lb1,lb2,lb3⟩:=hlb
 clear hma hmb
 have oL:=objAt_new W0 #[.int .i64 a.rev,.int .i64 b.rev,.slice none 0 0,.slice none 0 0,.slice none 0 0,.slice none 0 0,.slice none 0 0,.slice none 0 0] 49
 have bL:=below_one W0 (.cells #[.int .i64 a.rev,.int .i64 b.rev,.slice none 0 0,.slice none 0 0,.slice none 0 0,.slice none 0 0,.slice none 0 0,.slice none 0 0] 49)
 obtain⟨W1,hW1⟩:∃W1,W0.alloc (.cells #[.int .i64 a.rev,.int .i64 b.rev,.slice none 0 0,.slice none 0 0,.slice none 0 0,.slice none 0 0,.slice none 0 0,.slice none 0 0] 49)=W1:=⟨_,rfl⟩
 rw[hW1] at oL bL
 obtain⟨L,hL⟩:∃L,W0.heap.size=L:=⟨_,rfl⟩
 rw[hL] at oL sz0
 have OL:=oL
 have RD:RefD w.heap.size L #[.int .i64 a.rev,.slice aj a.jobs.length cj,.slice an a.nodes.length cn,.slice al a.leases.length cl] #[.int .i64 b.rev,.slice bj b.jobs.length dj,.slice bn b.nodes.length dn,.slice bl b.leases.length dl] #[.int .i64 0,.int .i64 0,.slice none 0 0,.slice none 0 0,.slice none 0 0,.slice none 0 0,.slice none 0 0,.slice none 0 0] w W1:=⟨objAt_next p0 bL,objAt_next p1 bL,objAt_next p2 bL,below_trans B0 bL B0.size,by omega⟩
 have v0:=objAt_cell p0 0 rfl
 have v1:=objAt_cell p1 0 rfl
 have vl:=objAt_lt p1
 have S0:=Lib.hid sz0
 have HW1:=Lib.hid hW1
 clear oL bL p0 p1 p2 B0 sz0 hW1
 go_enter Tryz.func25,Tryz.ntmps25
 go_upto_region 2 with fail
 rw[HW1.out]
 clear v0 v1 vl
 have lL0:=objAt_lt OL
 have sa0:=objAt_cell RD.2.1 0 rfl
 have sa1:=objAt_cell RD.2.1 1 rfl
 have sa2:=objAt_cell RD.2.1 2 rfl
 have sa3:=objAt_cell RD.2.1 3 rfl
 have HOL:=Lib.hid OL
 have HRD:=Lib.hid RD
 clear OL RD
 go_wp2
 clear sa0 sa1 sa2 sa3
 go_loopw [26] (fun iv wr=>∃(i:Nat) (pv:Value),iv = .int .i64 (i:Int)∧i≤b.jobs.length∧ObjAt L #[.int .i64 a.rev,.int .i64 b.rev,pv,.slice none 0 0,.slice none 0 0,.slice none 0 0,.slice none 0 0,.slice none 0 0] 49 wr∧wr.ownsRow W1.heap.size 38 5 pv (newL a.jobs (b.jobs.take i)).length (cJobs (newL a.jobs (b.jobs.take i)))∧W1.grownBy wr (some L)) (fun iv _=>b.jobs.length - (intOf iv).toNat)
 case atStart=>exact⟨0,_,rfl,Nat.zero_le _,HOL.out,by exact World.ownsRow_nil _ _ _ _,gN_refl _ _⟩
 case round =>
  obtain⟨i,pv,rfl,hi,oL,hown,hgr⟩:=hrel
  obtain⟨pad,pcap,rfl⟩:=ownRow_slice hown
  have rd:=refD_gN HRD.out hgr
  by_cases h:(i:Int)<(b.jobs.length:Int)
  case pos =>
   have hil:i<b.jobs.length:=by omega
   obtain⟨ad,rfl,hal,k0,k1,k2,k3,k4⟩:=jobsAt_next HMB.out.1 rd.2.2.2.1 i hil
   obtain⟨x,hxi⟩:∃x,b.jobs[i]=x:=⟨_,rfl⟩
   rw[hxi] at k0 k1 k2 k3 k4
   obtain⟨LX,hLX⟩:∃L,wr.heap.size=L:=⟨_,rfl⟩
   obtain⟨V,hV⟩:∃V,wr.alloc (.cells #[.string x.name,.int .i64 x.prio,.int .i64 x.need,.int .i64 x.tries,.string x.tag] 38)=V:=⟨_,rfl⟩
   have bA:=below_one wr (.cells #[.string x.name,.int .i64 x.prio,.int .i64 x.need,.int .i64 x.tries,.string x.tag] 38)
   have oX:=objAt_new wr #[.string x.name,.int .i64 x.prio,.int .i64 x.need,.int .i64 x.tries,.string x.tag] 38
   rw[hV] at bA oX
   rw[hLX] at oX
   have rdV:=refD_gN HRD.out (gN_next hgr bA)
   have oLV:=objAt_next oL bA
   have hownV:=own_next hown bA
   have grV:=gN_next hgr bA
   have hcnt:=new_count a.jobs b.jobs i
   have sV:=grV.size
   by_cases hin:x∈a.jobs
   ·have C1:=Lib.hid (hasJob_is a.jobs x true ⟨fun _=>hin,fun _=>rfl⟩ aj cj (by omega) V (jobsAt_next HMA.out.1 rdV.2.2.2.1))
    have HE:=new_in hil (show b.jobs[i]∈a.jobs by rw[hxi];exact hin)
    have HE:=Lib.hid HE
    clear hin
    have s0:=objAt_cell rdV.1 0 rfl
    have s1:=objAt_cell rdV.1 1 rfl
    have s2:=objAt_cell rdV.1 2 rfl
    have s3:=objAt_cell rdV.1 3 rfl
    have e0:=objAt_cell oX 0 rfl
    have e1:=objAt_cell oX 1 rfl
    have e2:=objAt_cell oX 2 rfl
    have e3:=objAt_cell oX 3 rfl
    have e4:=objAt_cell oX 4 rfl
    have el:=objAt_lt oX
    have PV:=Lib.hid (And.intro rdV (And.intro oLV (And.intro hownV (And.intro grV oX))))
    have HXI:=Lib.hid hxi
    clear rdV oLV hownV grV oX bA oL hown hgr rd hxi
    go_wp2_with fail
    refine C1.out.mono ?_
    rintro e w2 ⟨rfl,b2⟩
    obtain⟨rdV,oLV,hownV,grV,oX⟩:=PV.out
    have g2:=gN_next grV b2
    have oL2:=objAt_next oLV b2
    have own2:=own_next hownV b2
    have oX2:=objAt_next oX b2
    have s2:=b2.size
    clear e0 e1 e2 e3 e4 el s0 s1 s3 C1 PV rdV oLV hownV grV oX b2 k0 k1 k2 k3 k4 hal
    have Q:=Lib.hid (And.intro oL2 (And.intro own2 g2))
    clear oL2 own2 g2 oX2
    go_wp2
    go_roundw
    case rel =>
     obtain⟨oL2,own2,g2⟩:=Q.out
     exact⟨i+1,_,by simp,by omega,oL2,by rw[HE.out];exact own2,g2⟩
    case measure=>simp[intOf];omega
   ·have C1:=Lib.hid (hasJob_is a.jobs x false ⟨fun h=>(by cases h),fun h=>absurd h hin⟩ aj cj (by omega) V (jobsAt_next HMA.out.1 rdV.2.2.2.1))
    have HE:=new_out hil (show b.jobs[i]∉a.jobs by rw[hxi];exact hin)
    rw[hxi] at HE
    have HE:=Lib.hid HE
    clear hin
    have s0:=objAt_cell rdV.1 0 rfl
    have s1:=objAt_cell rdV.1 1 rfl
    have s2:=objAt_cell rdV.1 2 rfl
    have s3:=objAt_cell rdV.1 3 rfl
    have e0:=objAt_cell oX 0 rfl
    have e1:=objAt_cell oX 1 rfl
    have e2:=objAt_cell oX 2 rfl
    have e3:=objAt_cell oX 3 rfl
    have e4:=objAt_cell oX 4 rfl
    have el:=objAt_lt oX
    have PV:=Lib.hid (And.intro rdV (And.intro oLV (And.intro hownV (And.intro grV oX))))
    have HXI:=Lib.hid hxi
    clear rdV oLV hownV grV oX bA oL hown hgr rd hxi
    go_wp2_with fail
    refine C1.out.mono ?_
    rintro e w2 ⟨rfl,b2⟩
    obtain⟨rdV,oLV,hownV,grV,oX⟩:=PV.out
    have g2:=gN_next grV b2
    have oL2:=objAt_next oLV b2
    have own2:=own_next hownV b2
    have oX2:=objAt_next oX b2
    have s2:=b2.size
    clear e0 e1 e2 e3 e4 el s0 s1 s3 C1 PV rdV oLV hownV grV oX b2 k0 k1 k2 k3 k4 hal
    have d2:=objAt_cell oL2 2 rfl
    have dl2:=objAt_lt oL2
    have e0:=objAt_cell oX2 0 rfl
    have e1:=objAt_cell oX2 1 rfl
    have e2:=objAt_cell oX2 2 rfl
    have e3:=objAt_cell oX2 3 rfl
    have e4:=objAt_cell oX2 4 rfl
    have el:=objAt_lt oX2
    have Q:=Lib.hid (And.intro oL2 (And.intro own2 g2))
    clear oL2 g2 oX2
    go_wp2_with (at_builtin;refine wpList_append_own _ rfl _ _ 22 rfl W1.heap.size 38 i0 _ 5 56 Tryz.underlying22 Hi.out Hz0.out Hz1.out Hz2.out rfl (by decide) _ _ _ rfl (own2.alloc _) ⟨w2.heap.size,0,none⟩ 1 1 (cJob x) rfl rfl ?c1 ?c2 ?c3 ?c4 ?c5 ?_)
    case c1=>exact job_new w2 x _
    case c2=>exact job_ones x
    case c3=>unfold maxLen;omega
    case c4=>omega
    case c5=>simp;omega
    ·intro v3 w3 own3 hg3 _
     obtain⟨oL2,own2',g2⟩:=Q.out
     have bN:=below_one w2 (.cells #[.string x.name,.int .i64 x.prio,.int .i64 x.need,.int .i64 x.tries,.string x.tag] 38)
     have lW:=lL0
     have oL3:=objAt_app (objAt_next oL2 bN) (own2.alloc _) lW hg3
     have g3:=gN_app (gN_next g2 bN) hg3 (fun k hk=>(own2.lt k hk).1)
     obtain⟨ad3,cap3,rfl⟩:=ownRow_slice own3
     rw[←cJobs_one,←cJobs_append] at own3
     have fN:=objAt_free oL3 2
     have dN:=objAt_cell oL3 2 rfl
     have dl3:=objAt_lt oL3
     have oL4:ObjAt L #[.int .i64 a.rev,.int .i64 b.rev,.slice ad3 ((newL a.jobs (b.jobs.take i)).length+1) cap3,.slice none 0 0,.slice none 0 0,.slice none 0 0,.slice none 0 0,.slice none 0 0] 49 _:=objAt_set oL3 2 (.slice ad3 ((newL a.jobs (b.jobs.take i)).length+1) cap3)
     have own4:=own_set own3 lW 2 (.slice ad3 ((newL a.jobs (b.jobs.take i)).length+1) cap3)
     have g4:=gN_set g3 2 (.slice ad3 ((newL a.jobs (b.jobs.take i)).length+1) cap3)
     have Q4:=Lib.hid (And.intro oL4 (And.intro own4 g4))
     clear oL2 own2' g2 bN oL3 g3 own3 hg3 own2 oL4 own4 g4 Q d2 dl2 el e0 e1 e2 e3 e4
     go_wp2
     go_roundw
     case rel =>
      obtain⟨oL4,own4,g4⟩:=Q4.out
      exact⟨i+1,_,by simp,by omega,oL4,by rw[HE.out,List.length_append];exact own4,g4⟩
     case measure=>simp[intOf];omega
  case neg =>
   obtain rfl:i=b.jobs.length:=by omega
   rw[List.take_length] at hown oL
   have OD0:=Lib.hid (ownsRow_low (B':=w.heap.size) hown (by have:=objAt_lt HRD.out.1;omega))
   obtain⟨W2,hWE⟩:∃W,W=wr:=⟨_,rfl⟩
   subst hWE
   obtain⟨pa0,hg0⟩:∃g,g=pad:=⟨_,rfl⟩
   subst hg0
   obtain⟨pc0,ht0⟩:∃g,g=pcap:=⟨_,rfl⟩
   subst ht0
   have OL:=oL
   have RD:=rd
   clear oL rd hown hgr HOL HRD h hi lL0
   have lL1:=objAt_lt OL
   have sa0:=objAt_cell RD.2.1 0 rfl
   have sa1:=objAt_cell RD.2.1 1 rfl
   have sa2:=objAt_cell RD.2.1 2 rfl
   have sa3:=objAt_cell RD.2.1 3 rfl
   have HOL:=Lib.hid OL
   have HRD:=Lib.hid RD
   clear OL RD
   go_wp2
   clear sa0 sa1 sa2 sa3
   go_loopw [45] (fun iv wr=>∃(i:Nat) (pv:Value),iv = .int .i64 (i:Int)∧i≤b.nodes.length∧ObjAt L #[.int .i64 a.rev,.int .i64 b.rev,.slice pa0 (newL a.jobs b.jobs).length pc0,pv,.slice none 0 0,.slice none 0 0,.slice none 0 0,.slice none 0 0] 49 wr∧wr.ownsRow W2.heap.size 40 3 pv (newL a.nodes (b.nodes.take i)).length (cNodes (newL a.nodes (b.nodes.take i)))∧W2.grownBy wr (some L)) (fun iv _=>b.nodes.length - (intOf iv).toNat)
   case atStart=>exact⟨0,_,rfl,Nat.zero_le _,HOL.out,by exact World.ownsRow_nil _ _ _ _,gN_refl _ _⟩
   case round =>
    obtain⟨i,pv,rfl,hi,oL,hown,hgr⟩:=hrel
    obtain⟨pad,pcap,rfl⟩:=ownRow_slice hown
    have rd:=refD_gN HRD.out hgr
    by_cases h:(i:Int)<(b.nodes.length:Int)
    case pos =>
     have hil:i<b.nodes.length:=by omega
     obtain⟨ad,rfl,hal,k0,k1,k2⟩:=nodesAt_next HMB.out.2.1 rd.2.2.2.1 i hil
     obtain⟨x,hxi⟩:∃x,b.nodes[i]=x:=⟨_,rfl⟩
     rw[hxi] at k0 k1 k2
     obtain⟨LX,hLX⟩:∃L,wr.heap.size=L:=⟨_,rfl⟩
     obtain⟨V,hV⟩:∃V,wr.alloc (.cells #[.string x.name,.int .i64 x.room,.string x.zone] 40)=V:=⟨_,rfl⟩
     have bA:=below_one wr (.cells #[.string x.name,.int .i64 x.room,.string x.zone] 40)
     have oX:=objAt_new wr #[.string x.name,.int .i64 x.room,.string x.zone] 40
     rw[hV] at bA oX
     rw[hLX] at oX
     have rdV:=refD_gN HRD.out (gN_next hgr bA)
     have oLV:=objAt_next oL bA
     have hownV:=own_next hown bA
     have grV:=gN_next hgr bA
     have hcnt:=new_count a.nodes b.nodes i
     have sV:=grV.size
     by_cases hin:x∈a.nodes
     ·have C1:=Lib.hid (hasNode_is a.nodes x true ⟨fun _=>hin,fun _=>rfl⟩ an cn (by omega) V (nodesAt_next HMA.out.2.1 rdV.2.2.2.1))
      have HE:=new_in hil (show b.nodes[i]∈a.nodes by rw[hxi];exact hin)
      have HE:=Lib.hid HE
      clear hin
      have s0:=objAt_cell rdV.1 0 rfl
      have s1:=objAt_cell rdV.1 1 rfl
      have s2:=objAt_cell rdV.1 2 rfl
      have s3:=objAt_cell rdV.1 3 rfl
      have e0:=objAt_cell oX 0 rfl
      have e1:=objAt_cell oX 1 rfl
      have e2:=objAt_cell oX 2 rfl
      have el:=objAt_lt oX
      have PV:=Lib.hid (And.intro rdV (And.intro oLV (And.intro hownV (And.intro grV oX))))
      have HXI:=Lib.hid hxi
      clear rdV oLV hownV grV oX bA oL hown hgr rd hxi
      go_wp2_with fail
      refine C1.out.mono ?_
      rintro e w2 ⟨rfl,b2⟩
      obtain⟨rdV,oLV,hownV,grV,oX⟩:=PV.out
      have g2:=gN_next grV b2
      have oL2:=objAt_next oLV b2
      have own2:=own_next hownV b2
      have oX2:=objAt_next oX b2
      have s2:=b2.size
      clear e0 e1 e2 el s0 s1 s3 C1 PV rdV oLV hownV grV oX b2 k0 k1 k2 hal
      have Q:=Lib.hid (And.intro oL2 (And.intro own2 g2))
      clear oL2 own2 g2 oX2
      go_wp2
      go_roundw
      case rel =>
       obtain⟨oL2,own2,g2⟩:=Q.out
       exact⟨i+1,_,by simp,by omega,oL2,by rw[HE.out];exact own2,g2⟩
      case measure=>simp[intOf];omega
     ·have C1:=Lib.hid (hasNode_is a.nodes x false ⟨fun h=>(by cases h),fun h=>absurd h hin⟩ an cn (by omega) V (nodesAt_next HMA.out.2.1 rdV.2.2.2.1))
      have HE:=new_out hil (show b.nodes[i]∉a.nodes by rw[hxi];exact hin)
      rw[hxi] at HE
      have HE:=Lib.hid HE
      clear hin
      have s0:=objAt_cell rdV.1 0 rfl
      have s1:=objAt_cell rdV.1 1 rfl
      have s2:=objAt_cell rdV.1 2 rfl
      have s3:=objAt_cell rdV.1 3 rfl
      have e0:=objAt_cell oX 0 rfl
      have e1:=objAt_cell oX 1 rfl
      have e2:=objAt_cell oX 2 rfl
      have el:=objAt_lt oX
      have PV:=Lib.hid (And.intro rdV (And.intro oLV (And.intro hownV (And.intro grV oX))))
      have HXI:=Lib.hid hxi
      clear rdV oLV hownV grV oX bA oL hown hgr rd hxi
      go_wp2_with fail
      refine C1.out.mono ?_
      rintro e w2 ⟨rfl,b2⟩
      obtain⟨rdV,oLV,hownV,grV,oX⟩:=PV.out
      have g2:=gN_next grV b2
      have oL2:=objAt_next oLV b2
      have own2:=own_next hownV b2
      have oX2:=objAt_next oX b2
      have s2:=b2.size
      clear e0 e1 e2 el s0 s1 s3 C1 PV rdV oLV hownV grV oX b2 k0 k1 k2 hal
      have d3:=objAt_cell oL2 3 rfl
      have dl2:=objAt_lt oL2
      have e0:=objAt_cell oX2 0 rfl
      have e1:=objAt_cell oX2 1 rfl
      have e2:=objAt_cell oX2 2 rfl
      have el:=objAt_lt oX2
      have Q:=Lib.hid (And.intro oL2 (And.intro own2 g2))
      clear oL2 g2 oX2
      go_wp2_with (at_builtin;refine wpList_append_own _ rfl _ _ 23 rfl W2.heap.size 40 i1 _ 3 40 Tryz.underlying23 Ni.out Nz0.out Nz1.out Nz2.out rfl (by decide) _ _ _ rfl (own2.alloc _) ⟨w2.heap.size,0,none⟩ 1 1 (cNode x) rfl rfl ?c1 ?c2 ?c3 ?c4 ?c5 ?_)
      case c1=>exact node_new w2 x _
      case c2=>exact node_ones x
      case c3=>unfold maxLen;omega
      case c4=>omega
      case c5=>simp;omega
      ·intro v3 w3 own3 hg3 _
       obtain⟨oL2,own2',g2⟩:=Q.out
       have bN:=below_one w2 (.cells #[.string x.name,.int .i64 x.room,.string x.zone] 40)
       have lW:=lL1
       have oL3:=objAt_app (objAt_next oL2 bN) (own2.alloc _) lW hg3
       have g3:=gN_app (gN_next g2 bN) hg3 (fun k hk=>(own2.lt k hk).1)
       obtain⟨ad3,cap3,rfl⟩:=ownRow_slice own3
       rw[←cNodes_one,←cNodes_append] at own3
       have fN:=objAt_free oL3 3
       have dN:=objAt_cell oL3 3 rfl
       have dl3:=objAt_lt oL3
       have oL4:ObjAt L #[.int .i64 a.rev,.int .i64 b.rev,.slice pa0 (newL a.jobs b.jobs).length pc0,.slice ad3 ((newL a.nodes (b.nodes.take i)).length+1) cap3,.slice none 0 0,.slice none 0 0,.slice none 0 0,.slice none 0 0] 49 _:=objAt_set oL3 3 (.slice ad3 ((newL a.nodes (b.nodes.take i)).length+1) cap3)
       have own4:=own_set own3 lW 3 (.slice ad3 ((newL a.nodes (b.nodes.take i)).length+1) cap3)
       have g4:=gN_set g3 3 (.slice ad3 ((newL a.nodes (b.nodes.take i)).length+1) cap3)
       have Q4:=Lib.hid (And.intro oL4 (And.intro own4 g4))
       clear oL2 own2' g2 bN oL3 g3 own3 hg3 own2 oL4 own4 g4 Q d3 dl2 el e0 e1 e2
       go_wp2
       go_roundw
       case rel =>
        obtain⟨oL4,own4,g4⟩:=Q4.out
        exact⟨i+1,_,by simp,by omega,oL4,by rw[HE.out,List.length_append];exact own4,g4⟩
       case measure=>simp[intOf];omega
    case neg =>
     obtain rfl:i=b.nodes.length:=by omega
     rw[List.take_length] at hown oL
     have OD1:=Lib.hid (ownsRow_low (B':=w.heap.size) hown (by have:=objAt_lt HRD.out.1;omega))
     have OD0:=Lib.hid (own_gN OD0.out HOL.out (by decide) hgr)
     obtain⟨W3,hWE⟩:∃W,W=wr:=⟨_,rfl⟩
     subst hWE
     obtain⟨pa1,hg1⟩:∃g,g=pad:=⟨_,rfl⟩
     subst hg1
     obtain⟨pc1,ht1⟩:∃g,g=pcap:=⟨_,rfl⟩
     subst ht1
     have OL:=oL
     have RD:=rd
     clear oL rd hown hgr HOL HRD h hi lL1
     have lL2:=objAt_lt OL
     have sa0:=objAt_cell RD.2.1 0 rfl
     have sa1:=objAt_cell RD.2.1 1 rfl
     have sa2:=objAt_cell RD.2.1 2 rfl
     have sa3:=objAt_cell RD.2.1 3 rfl
     have HOL:=Lib.hid OL
     have HRD:=Lib.hid RD
     clear OL RD
     go_wp2
     clear sa0 sa1 sa2 sa3
     go_loopw [64] (fun iv wr=>∃(i:Nat) (pv:Value),iv = .int .i64 (i:Int)∧i≤b.leases.length∧ObjAt L #[.int .i64 a.rev,.int .i64 b.rev,.slice pa0 (newL a.jobs b.jobs).length pc0,.slice pa1 (newL a.nodes b.nodes).length pc1,pv,.slice none 0 0,.slice none 0 0,.slice none 0 0] 49 wr∧wr.ownsRow W3.heap.size 42 3 pv (newL a.leases (b.leases.take i)).length (cLeases (newL a.leases (b.leases.take i)))∧W3.grownBy wr (some L)) (fun iv _=>b.leases.length - (intOf iv).toNat)
     case atStart=>exact⟨0,_,rfl,Nat.zero_le _,HOL.out,by exact World.ownsRow_nil _ _ _ _,gN_refl _ _⟩
     case round =>
      obtain⟨i,pv,rfl,hi,oL,hown,hgr⟩:=hrel
      obtain⟨pad,pcap,rfl⟩:=ownRow_slice hown
      have rd:=refD_gN HRD.out hgr
      by_cases h:(i:Int)<(b.leases.length:Int)
      case pos =>
       have hil:i<b.leases.length:=by omega
       obtain⟨ad,rfl,hal,k0,k1,k2⟩:=leasesAt_next HMB.out.2.2 rd.2.2.2.1 i hil
       obtain⟨x,hxi⟩:∃x,b.leases[i]=x:=⟨_,rfl⟩
       rw[hxi] at k0 k1 k2
       obtain⟨LX,hLX⟩:∃L,wr.heap.size=L:=⟨_,rfl⟩
       obtain⟨V,hV⟩:∃V,wr.alloc (.cells #[.string x.job,.string x.node,.int .i64 x.til] 42)=V:=⟨_,rfl⟩
       have bA:=below_one wr (.cells #[.string x.job,.string x.node,.int .i64 x.til] 42)
       have oX:=objAt_new wr #[.string x.job,.string x.node,.int .i64 x.til] 42
       rw[hV] at bA oX
       rw[hLX] at oX
       have rdV:=refD_gN HRD.out (gN_next hgr bA)
       have oLV:=objAt_next oL bA
       have hownV:=own_next hown bA
       have grV:=gN_next hgr bA
       have hcnt:=new_count a.leases b.leases i
       have sV:=grV.size
       by_cases hin:x∈a.leases
       ·have C1:=Lib.hid (hasLease_is a.leases x true ⟨fun _=>hin,fun _=>rfl⟩ al cl (by omega) V (leasesAt_next HMA.out.2.2 rdV.2.2.2.1))
        have HE:=new_in hil (show b.leases[i]∈a.leases by rw[hxi];exact hin)
        have HE:=Lib.hid HE
        clear hin
        have s0:=objAt_cell rdV.1 0 rfl
        have s1:=objAt_cell rdV.1 1 rfl
        have s2:=objAt_cell rdV.1 2 rfl
        have s3:=objAt_cell rdV.1 3 rfl
        have e0:=objAt_cell oX 0 rfl
        have e1:=objAt_cell oX 1 rfl
        have e2:=objAt_cell oX 2 rfl
        have el:=objAt_lt oX
        have PV:=Lib.hid (And.intro rdV (And.intro oLV (And.intro hownV (And.intro grV oX))))
        have HXI:=Lib.hid hxi
        clear rdV oLV hownV grV oX bA oL hown hgr rd hxi
        go_wp2_with fail
        refine C1.out.mono ?_
        rintro e w2 ⟨rfl,b2⟩
        obtain⟨rdV,oLV,hownV,grV,oX⟩:=PV.out
        have g2:=gN_next grV b2
        have oL2:=objAt_next oLV b2
        have own2:=own_next hownV b2
        have oX2:=objAt_next oX b2
        have s2:=b2.size
        clear e0 e1 e2 el s0 s1 s3 C1 PV rdV oLV hownV grV oX b2 k0 k1 k2 hal
        have Q:=Lib.hid (And.intro oL2 (And.intro own2 g2))
        clear oL2 own2 g2 oX2
        go_wp2
        go_roundw
        case rel =>
         obtain⟨oL2,own2,g2⟩:=Q.out
         exact⟨i+1,_,by simp,by omega,oL2,by rw[HE.out];exact own2,g2⟩
        case measure=>simp[intOf];omega
       ·have C1:=Lib.hid (hasLease_is a.leases x false ⟨fun h=>(by cases h),fun h=>absurd h hin⟩ al cl (by omega) V (leasesAt_next HMA.out.2.2 rdV.2.2.2.1))
        have HE:=new_out hil (show b.leases[i]∉a.leases by rw[hxi];exact hin)
        rw[hxi] at HE
        have HE:=Lib.hid HE
        clear hin
        have s0:=objAt_cell rdV.1 0 rfl
        have s1:=objAt_cell rdV.1 1 rfl
        have s2:=objAt_cell rdV.1 2 rfl
        have s3:=objAt_cell rdV.1 3 rfl
        have e0:=objAt_cell oX 0 rfl
        have e1:=objAt_cell oX 1 rfl
        have e2:=objAt_cell oX 2 rfl
        have el:=objAt_lt oX
        have PV:=Lib.hid (And.intro rdV (And.intro oLV (And.intro hownV (And.intro grV oX))))
        have HXI:=Lib.hid hxi
        clear rdV oLV hownV grV oX bA oL hown hgr rd hxi
        go_wp2_with fail
        refine C1.out.mono ?_
        rintro e w2 ⟨rfl,b2⟩
        obtain⟨rdV,oLV,hownV,grV,oX⟩:=PV.out
        have g2:=gN_next grV b2
        have oL2:=objAt_next oLV b2
        have own2:=own_next hownV b2
        have oX2:=objAt_next oX b2
        have s2:=b2.size
        clear e0 e1 e2 el s0 s1 s3 C1 PV rdV oLV hownV grV oX b2 k0 k1 k2 hal
        have d4:=objAt_cell oL2 4 rfl
        have dl2:=objAt_lt oL2
        have e0:=objAt_cell oX2 0 rfl
        have e1:=objAt_cell oX2 1 rfl
        have e2:=objAt_cell oX2 2 rfl
        have el:=objAt_lt oX2
        have Q:=Lib.hid (And.intro oL2 (And.intro own2 g2))
        clear oL2 g2 oX2
        go_wp2_with (at_builtin;refine wpList_append_own _ rfl _ _ 24 rfl W3.heap.size 42 i2 _ 3 40 Tryz.underlying24 Li.out Lz0.out Lz1.out Lz2.out rfl (by decide) _ _ _ rfl (own2.alloc _) ⟨w2.heap.size,0,none⟩ 1 1 (cLease x) rfl rfl ?c1 ?c2 ?c3 ?c4 ?c5 ?_)
        case c1=>exact lease_new w2 x _
        case c2=>exact lease_ones x
        case c3=>unfold maxLen;omega
        case c4=>omega
        case c5=>simp;omega
        ·intro v3 w3 own3 hg3 _
         obtain⟨oL2,own2',g2⟩:=Q.out
         have bN:=below_one w2 (.cells #[.string x.job,.string x.node,.int .i64 x.til] 42)
         have lW:=lL2
         have oL3:=objAt_app (objAt_next oL2 bN) (own2.alloc _) lW hg3
         have g3:=gN_app (gN_next g2 bN) hg3 (fun k hk=>(own2.lt k hk).1)
         obtain⟨ad3,cap3,rfl⟩:=ownRow_slice own3
         rw[←cLeases_one,←cLeases_append] at own3
         have fN:=objAt_free oL3 4
         have dN:=objAt_cell oL3 4 rfl
         have dl3:=objAt_lt oL3
         have oL4:ObjAt L #[.int .i64 a.rev,.int .i64 b.rev,.slice pa0 (newL a.jobs b.jobs).length pc0,.slice pa1 (newL a.nodes b.nodes).length pc1,.slice ad3 ((newL a.leases (b.leases.take i)).length+1) cap3,.slice none 0 0,.slice none 0 0,.slice none 0 0] 49 _:=objAt_set oL3 4 (.slice ad3 ((newL a.leases (b.leases.take i)).length+1) cap3)
         have own4:=own_set own3 lW 4 (.slice ad3 ((newL a.leases (b.leases.take i)).length+1) cap3)
         have g4:=gN_set g3 4 (.slice ad3 ((newL a.leases (b.leases.take i)).length+1) cap3)
         have Q4:=Lib.hid (And.intro oL4 (And.intro own4 g4))
         clear oL2 own2' g2 bN oL3 g3 own3 hg3 own2 oL4 own4 g4 Q d4 dl2 el e0 e1 e2
         go_wp2
         go_roundw
         case rel =>
          obtain⟨oL4,own4,g4⟩:=Q4.out
          exact⟨i+1,_,by simp,by omega,oL4,by rw[HE.out,List.length_append];exact own4,g4⟩
         case measure=>simp[intOf];omega
      case neg =>
       obtain rfl:i=b.leases.length:=by omega
       rw[List.take_length] at hown oL
       have OD2:=Lib.hid (ownsRow_low (B':=w.heap.size) hown (by have:=objAt_lt HRD.out.1;omega))
       have OD0:=Lib.hid (own_gN OD0.out HOL.out (by decide) hgr)
       have OD1:=Lib.hid (own_gN OD1.out HOL.out (by decide) hgr)
       obtain⟨W4,hWE⟩:∃W,W=wr:=⟨_,rfl⟩
       subst hWE
       obtain⟨pa2,hg2⟩:∃g,g=pad:=⟨_,rfl⟩
       subst hg2
       obtain⟨pc2,ht2⟩:∃g,g=pcap:=⟨_,rfl⟩
       subst ht2
       have OL:=oL
       have RD:=rd
       clear oL rd hown hgr HOL HRD h hi lL2
       have lL3:=objAt_lt OL
       have sa0:=objAt_cell RD.1 0 rfl
       have sa1:=objAt_cell RD.1 1 rfl
       have sa2:=objAt_cell RD.1 2 rfl
       have sa3:=objAt_cell RD.1 3 rfl
       have HOL:=Lib.hid OL
       have HRD:=Lib.hid RD
       clear OL RD
       go_wp2
       clear sa0 sa1 sa2 sa3
       go_loopw [83] (fun iv wr=>∃(i:Nat) (pv:Value),iv = .int .i64 (i:Int)∧i≤a.jobs.length∧ObjAt L #[.int .i64 a.rev,.int .i64 b.rev,.slice pa0 (newL a.jobs b.jobs).length pc0,.slice pa1 (newL a.nodes b.nodes).length pc1,.slice pa2 (newL a.leases b.leases).length pc2,pv,.slice none 0 0,.slice none 0 0] 49 wr∧wr.ownsRow W4.heap.size 9 1 pv (goneL (·.name) (a.jobs.take i) b.jobs).length (cNms (goneL (·.name) (a.jobs.take i) b.jobs))∧W4.grownBy wr (some L)) (fun iv _=>a.jobs.length - (intOf iv).toNat)
       case atStart=>exact⟨0,_,rfl,Nat.zero_le _,HOL.out,by exact World.ownsRow_nil _ _ _ _,gN_refl _ _⟩
       case round =>
        obtain⟨i,pv,rfl,hi,oL,hown,hgr⟩:=hrel
        obtain⟨pad,pcap,rfl⟩:=ownRow_slice hown
        have rd:=refD_gN HRD.out hgr
        by_cases h:(i:Int)<(a.jobs.length:Int)
        case pos =>
         have hil:i<a.jobs.length:=by omega
         obtain⟨ad,rfl,hal,k0,k1,k2,k3,k4⟩:=jobsAt_next HMA.out.1 rd.2.2.2.1 i hil
         obtain⟨x,hxi⟩:∃x,a.jobs[i]=x:=⟨_,rfl⟩
         rw[hxi] at k0 k1 k2 k3 k4
         obtain⟨LX,hLX⟩:∃L,wr.heap.size=L:=⟨_,rfl⟩
         obtain⟨V,hV⟩:∃V,wr.alloc (.cells #[.string x.name,.int .i64 x.prio,.int .i64 x.need,.int .i64 x.tries,.string x.tag] 38)=V:=⟨_,rfl⟩
         have bA:=below_one wr (.cells #[.string x.name,.int .i64 x.prio,.int .i64 x.need,.int .i64 x.tries,.string x.tag] 38)
         have oX:=objAt_new wr #[.string x.name,.int .i64 x.prio,.int .i64 x.need,.int .i64 x.tries,.string x.tag] 38
         rw[hV] at bA oX
         rw[hLX] at oX
         have rdV:=refD_gN HRD.out (gN_next hgr bA)
         have oLV:=objAt_next oL bA
         have hownV:=own_next hown bA
         have grV:=gN_next hgr bA
         have hcnt:=gone_count (key:=(·.name)) a.jobs b.jobs i
         have sV:=grV.size
         have C1:=Lib.hid (jobAt_is b.jobs bj dj (by omega) x.name V (jobsAt_next HMB.out.1 rdV.2.2.2.1))
         have s0:=objAt_cell rdV.2.1 0 rfl
         have s1:=objAt_cell rdV.2.1 1 rfl
         have s2:=objAt_cell rdV.2.1 2 rfl
         have s3:=objAt_cell rdV.2.1 3 rfl
         have e0:=objAt_cell oX 0 rfl
         have e1:=objAt_cell oX 1 rfl
         have e2:=objAt_cell oX 2 rfl
         have e3:=objAt_cell oX 3 rfl
         have e4:=objAt_cell oX 4 rfl
         have el:=objAt_lt oX
         have PV:=Lib.hid (And.intro rdV (And.intro oLV (And.intro hownV (And.intro grV oX))))
         have HXI:=Lib.hid hxi
         clear rdV oLV hownV grV oX bA oL hown hgr rd hxi
         go_wp2_with fail
         refine C1.out.mono ?_
         rintro e w2 ⟨r,rfl,hat,b2⟩
         obtain⟨rdV,oLV,hownV,grV,oX⟩:=PV.out
         have g2:=gN_next grV b2
         have oL2:=objAt_next oLV b2
         have own2:=own_next hownV b2
         have oX2:=objAt_next oX b2
         have s2:=b2.size
         clear e0 e1 e2 e3 e4 el s0 s1 s3 C1 PV rdV oLV hownV grV oX b2 k0 k1 k2 k3 k4 hal
         rcases at_or hat with ⟨hr,hg⟩ | ⟨hr,hg⟩
         ·have HE:=gone_out hil (show ∀y∈b.jobs,(·.name) y≠(·.name) a.jobs[i] by rw[HXI.out];exact hg)
          rw[HXI.out] at HE
          have HE:=Lib.hid HE
          clear hat hg
          have d5:=objAt_cell oL2 5 rfl
          have dl2:=objAt_lt oL2
          have e0:=objAt_cell oX2 0 rfl
          have el:=objAt_lt oX2
          have Q:=Lib.hid (And.intro oL2 (And.intro own2 g2))
          clear oL2 g2 oX2
          go_wp2_with (at_builtin;refine wpList_append_own _ rfl _ _ 47 rfl W4.heap.size 9 i3 _ 1 16 Tryz.underlying47 Gi.out Gz0.out Gz1.out Gz2.out rfl (by decide) _ _ _ rfl (own2.alloc _) ⟨w2.heap.size,0,none⟩ 1 1 [.string x.name] rfl rfl (cell_one_new _ _ _) (by simp[Value.oneCell']) (by unfold maxLen;omega) (by omega) (by simp;omega) ?_)
          ·intro v3 w3 own3 hg3 _
           obtain⟨oL2,own2',g2⟩:=Q.out
           have bN:=below_one w2 (.cells #[.string x.name] 9)
           have lW:=lL3
           have oL3:=objAt_app (objAt_next oL2 bN) (own2.alloc _) lW hg3
           have g3:=gN_app (gN_next g2 bN) hg3 (fun k hk=>(own2.lt k hk).1)
           obtain⟨ad3,cap3,rfl⟩:=ownRow_slice own3
           have fN:=objAt_free oL3 5
           have dN:=objAt_cell oL3 5 rfl
           have dl3:=objAt_lt oL3
           have oL4:ObjAt L #[.int .i64 a.rev,.int .i64 b.rev,.slice pa0 (newL a.jobs b.jobs).length pc0,.slice pa1 (newL a.nodes b.nodes).length pc1,.slice pa2 (newL a.leases b.leases).length pc2,.slice ad3 ((goneL (·.name) (a.jobs.take i) b.jobs).length+1) cap3,.slice none 0 0,.slice none 0 0] 49 _:=objAt_set oL3 5 (.slice ad3 ((goneL (·.name) (a.jobs.take i) b.jobs).length+1) cap3)
           have own4:=own_set own3 lW 5 (.slice ad3 ((goneL (·.name) (a.jobs.take i) b.jobs).length+1) cap3)
           have g4:=gN_set g3 5 (.slice ad3 ((goneL (·.name) (a.jobs.take i) b.jobs).length+1) cap3)
           have Q4:=Lib.hid (And.intro oL4 (And.intro own4 g4))
           clear oL2 own2' g2 bN oL3 g3 own3 hg3 own2 oL4 own4 g4 Q d5 dl2 el e0
           go_wp2
           go_roundw
           case rel =>
            obtain⟨oL4,own4,g4⟩:=Q4.out
            exact⟨i+1,_,by simp,by omega,oL4,by rw[HE.out,List.length_append];rw[cNms_append];exact own4,g4⟩
           case measure=>simp[intOf];omega
         ·have HE:=gone_in hil (show ∃y∈b.jobs,(·.name) y=(·.name) a.jobs[i] by rw[HXI.out];exact hg)
          have HE:=Lib.hid HE
          clear hat hg
          have hr':¬(r<0):=by omega
          have Q:=Lib.hid (And.intro oL2 (And.intro own2 g2))
          clear oL2 own2 g2 oX2
          go_wp2
          go_roundw
          case rel =>
           obtain⟨oL2,own2,g2⟩:=Q.out
           exact⟨i+1,_,by simp,by omega,oL2,by rw[HE.out];exact own2,g2⟩
          case measure=>simp[intOf];omega
        case neg =>
         obtain rfl:i=a.jobs.length:=by omega
         rw[List.take_length] at hown oL
         have OD3:=Lib.hid (ownsRow_low (B':=w.heap.size) hown (by have:=objAt_lt HRD.out.1;omega))
         have OD0:=Lib.hid (own_gN OD0.out HOL.out (by decide) hgr)
         have OD1:=Lib.hid (own_gN OD1.out HOL.out (by decide) hgr)
         have OD2:=Lib.hid (own_gN OD2.out HOL.out (by decide) hgr)
         obtain⟨W5,hWE⟩:∃W,W=wr:=⟨_,rfl⟩
         subst hWE
         obtain⟨pa3,hg3⟩:∃g,g=pad:=⟨_,rfl⟩
         subst hg3
         obtain⟨pc3,ht3⟩:∃g,g=pcap:=⟨_,rfl⟩
         subst ht3
         have OL:=oL
         have RD:=rd
         clear oL rd hown hgr HOL HRD h hi lL3
         have lL4:=objAt_lt OL
         have sa0:=objAt_cell RD.1 0 rfl
         have sa1:=objAt_cell RD.1 1 rfl
         have sa2:=objAt_cell RD.1 2 rfl
         have sa3:=objAt_cell RD.1 3 rfl
         have HOL:=Lib.hid OL
         have HRD:=Lib.hid RD
         clear OL RD
         go_wp2
         clear sa0 sa1 sa2 sa3
         go_loopw [104] (fun iv wr=>∃(i:Nat) (pv:Value),iv = .int .i64 (i:Int)∧i≤a.nodes.length∧ObjAt L #[.int .i64 a.rev,.int .i64 b.rev,.slice pa0 (newL a.jobs b.jobs).length pc0,.slice pa1 (newL a.nodes b.nodes).length pc1,.slice pa2 (newL a.leases b.leases).length pc2,.slice pa3 (goneL (·.name) a.jobs b.jobs).length pc3,pv,.slice none 0 0] 49 wr∧wr.ownsRow W5.heap.size 9 1 pv (goneL (·.name) (a.nodes.take i) b.nodes).length (cNms (goneL (·.name) (a.nodes.take i) b.nodes))∧W5.grownBy wr (some L)) (fun iv _=>a.nodes.length - (intOf iv).toNat)
         case atStart=>exact⟨0,_,rfl,Nat.zero_le _,HOL.out,by exact World.ownsRow_nil _ _ _ _,gN_refl _ _⟩
         case round =>
          obtain⟨i,pv,rfl,hi,oL,hown,hgr⟩:=hrel
          obtain⟨pad,pcap,rfl⟩:=ownRow_slice hown
          have rd:=refD_gN HRD.out hgr
          by_cases h:(i:Int)<(a.nodes.length:Int)
          case pos =>
           have hil:i<a.nodes.length:=by omega
           obtain⟨ad,rfl,hal,k0,k1,k2⟩:=nodesAt_next HMA.out.2.1 rd.2.2.2.1 i hil
           obtain⟨x,hxi⟩:∃x,a.nodes[i]=x:=⟨_,rfl⟩
           rw[hxi] at k0 k1 k2
           obtain⟨LX,hLX⟩:∃L,wr.heap.size=L:=⟨_,rfl⟩
           obtain⟨V,hV⟩:∃V,wr.alloc (.cells #[.string x.name,.int .i64 x.room,.string x.zone] 40)=V:=⟨_,rfl⟩
           have bA:=below_one wr (.cells #[.string x.name,.int .i64 x.room,.string x.zone] 40)
           have oX:=objAt_new wr #[.string x.name,.int .i64 x.room,.string x.zone] 40
           rw[hV] at bA oX
           rw[hLX] at oX
           have rdV:=refD_gN HRD.out (gN_next hgr bA)
           have oLV:=objAt_next oL bA
           have hownV:=own_next hown bA
           have grV:=gN_next hgr bA
           have hcnt:=gone_count (key:=(·.name)) a.nodes b.nodes i
           have sV:=grV.size
           have C1:=Lib.hid (nodeAt_is b.nodes bn dn (by omega) x.name V (nodesAt_next HMB.out.2.1 rdV.2.2.2.1))
           have s0:=objAt_cell rdV.2.1 0 rfl
           have s1:=objAt_cell rdV.2.1 1 rfl
           have s2:=objAt_cell rdV.2.1 2 rfl
           have s3:=objAt_cell rdV.2.1 3 rfl
           have e0:=objAt_cell oX 0 rfl
           have e1:=objAt_cell oX 1 rfl
           have e2:=objAt_cell oX 2 rfl
           have el:=objAt_lt oX
           have PV:=Lib.hid (And.intro rdV (And.intro oLV (And.intro hownV (And.intro grV oX))))
           have HXI:=Lib.hid hxi
           clear rdV oLV hownV grV oX bA oL hown hgr rd hxi
           go_wp2_with fail
           refine C1.out.mono ?_
           rintro e w2 ⟨r,rfl,hat,b2⟩
           obtain⟨rdV,oLV,hownV,grV,oX⟩:=PV.out
           have g2:=gN_next grV b2
           have oL2:=objAt_next oLV b2
           have own2:=own_next hownV b2
           have oX2:=objAt_next oX b2
           have s2:=b2.size
           clear e0 e1 e2 el s0 s1 s3 C1 PV rdV oLV hownV grV oX b2 k0 k1 k2 hal
           rcases at_or hat with ⟨hr,hg⟩ | ⟨hr,hg⟩
           ·have HE:=gone_out hil (show ∀y∈b.nodes,(·.name) y≠(·.name) a.nodes[i] by rw[HXI.out];exact hg)
            rw[HXI.out] at HE
            have HE:=Lib.hid HE
            clear hat hg
            have d6:=objAt_cell oL2 6 rfl
            have dl2:=objAt_lt oL2
            have e0:=objAt_cell oX2 0 rfl
            have el:=objAt_lt oX2
            have Q:=Lib.hid (And.intro oL2 (And.intro own2 g2))
            clear oL2 g2 oX2
            go_wp2_with (at_builtin;refine wpList_append_own _ rfl _ _ 47 rfl W5.heap.size 9 i3 _ 1 16 Tryz.underlying47 Gi.out Gz0.out Gz1.out Gz2.out rfl (by decide) _ _ _ rfl (own2.alloc _) ⟨w2.heap.size,0,none⟩ 1 1 [.string x.name] rfl rfl (cell_one_new _ _ _) (by simp[Value.oneCell']) (by unfold maxLen;omega) (by omega) (by simp;omega) ?_)
            ·intro v3 w3 own3 hg3 _
             obtain⟨oL2,own2',g2⟩:=Q.out
             have bN:=below_one w2 (.cells #[.string x.name] 9)
             have lW:=lL4
             have oL3:=objAt_app (objAt_next oL2 bN) (own2.alloc _) lW hg3
             have g3:=gN_app (gN_next g2 bN) hg3 (fun k hk=>(own2.lt k hk).1)
             obtain⟨ad3,cap3,rfl⟩:=ownRow_slice own3
             have fN:=objAt_free oL3 6
             have dN:=objAt_cell oL3 6 rfl
             have dl3:=objAt_lt oL3
             have oL4:ObjAt L #[.int .i64 a.rev,.int .i64 b.rev,.slice pa0 (newL a.jobs b.jobs).length pc0,.slice pa1 (newL a.nodes b.nodes).length pc1,.slice pa2 (newL a.leases b.leases).length pc2,.slice pa3 (goneL (·.name) a.jobs b.jobs).length pc3,.slice ad3 ((goneL (·.name) (a.nodes.take i) b.nodes).length+1) cap3,.slice none 0 0] 49 _:=objAt_set oL3 6 (.slice ad3 ((goneL (·.name) (a.nodes.take i) b.nodes).length+1) cap3)
             have own4:=own_set own3 lW 6 (.slice ad3 ((goneL (·.name) (a.nodes.take i) b.nodes).length+1) cap3)
             have g4:=gN_set g3 6 (.slice ad3 ((goneL (·.name) (a.nodes.take i) b.nodes).length+1) cap3)
             have Q4:=Lib.hid (And.intro oL4 (And.intro own4 g4))
             clear oL2 own2' g2 bN oL3 g3 own3 hg3 own2 oL4 own4 g4 Q d6 dl2 el e0
             go_wp2
             go_roundw
             case rel =>
              obtain⟨oL4,own4,g4⟩:=Q4.out
              exact⟨i+1,_,by simp,by omega,oL4,by rw[HE.out,List.length_append];rw[cNms_append];exact own4,g4⟩
             case measure=>simp[intOf];omega
           ·have HE:=gone_in hil (show ∃y∈b.nodes,(·.name) y=(·.name) a.nodes[i] by rw[HXI.out];exact hg)
            have HE:=Lib.hid HE
            clear hat hg
            have hr':¬(r<0):=by omega
            have Q:=Lib.hid (And.intro oL2 (And.intro own2 g2))
            clear oL2 own2 g2 oX2
            go_wp2
            go_roundw
            case rel =>
             obtain⟨oL2,own2,g2⟩:=Q.out
             exact⟨i+1,_,by simp,by omega,oL2,by rw[HE.out];exact own2,g2⟩
            case measure=>simp[intOf];omega
          case neg =>
           obtain rfl:i=a.nodes.length:=by omega
           rw[List.take_length] at hown oL
           have OD4:=Lib.hid (ownsRow_low (B':=w.heap.size) hown (by have:=objAt_lt HRD.out.1;omega))
           have OD0:=Lib.hid (own_gN OD0.out HOL.out (by decide) hgr)
           have OD1:=Lib.hid (own_gN OD1.out HOL.out (by decide) hgr)
           have OD2:=Lib.hid (own_gN OD2.out HOL.out (by decide) hgr)
           have OD3:=Lib.hid (own_gN OD3.out HOL.out (by decide) hgr)
           obtain⟨W6,hWE⟩:∃W,W=wr:=⟨_,rfl⟩
           subst hWE
           obtain⟨pa4,hg4⟩:∃g,g=pad:=⟨_,rfl⟩
           subst hg4
           obtain⟨pc4,ht4⟩:∃g,g=pcap:=⟨_,rfl⟩
           subst ht4
           have OL:=oL
           have RD:=rd
           clear oL rd hown hgr HOL HRD h hi lL4
           have lL5:=objAt_lt OL
           have sa0:=objAt_cell RD.1 0 rfl
           have sa1:=objAt_cell RD.1 1 rfl
           have sa2:=objAt_cell RD.1 2 rfl
           have sa3:=objAt_cell RD.1 3 rfl
           have HOL:=Lib.hid OL
           have HRD:=Lib.hid RD
           clear OL RD
           go_wp2
           clear sa0 sa1 sa2 sa3
           go_loopw [125] (fun iv wr=>∃(i:Nat) (pv:Value),iv = .int .i64 (i:Int)∧i≤a.leases.length∧ObjAt L #[.int .i64 a.rev,.int .i64 b.rev,.slice pa0 (newL a.jobs b.jobs).length pc0,.slice pa1 (newL a.nodes b.nodes).length pc1,.slice pa2 (newL a.leases b.leases).length pc2,.slice pa3 (goneL (·.name) a.jobs b.jobs).length pc3,.slice pa4 (goneL (·.name) a.nodes b.nodes).length pc4,pv] 49 wr∧wr.ownsRow W6.heap.size 9 1 pv (goneL (·.job) (a.leases.take i) b.leases).length (cNms (goneL (·.job) (a.leases.take i) b.leases))∧W6.grownBy wr (some L)) (fun iv _=>a.leases.length - (intOf iv).toNat)
           case atStart=>exact⟨0,_,rfl,Nat.zero_le _,HOL.out,by exact World.ownsRow_nil _ _ _ _,gN_refl _ _⟩
           case round =>
            obtain⟨i,pv,rfl,hi,oL,hown,hgr⟩:=hrel
            obtain⟨pad,pcap,rfl⟩:=ownRow_slice hown
            have rd:=refD_gN HRD.out hgr
            by_cases h:(i:Int)<(a.leases.length:Int)
            case pos =>
             have hil:i<a.leases.length:=by omega
             obtain⟨ad,rfl,hal,k0,k1,k2⟩:=leasesAt_next HMA.out.2.2 rd.2.2.2.1 i hil
             obtain⟨x,hxi⟩:∃x,a.leases[i]=x:=⟨_,rfl⟩
             rw[hxi] at k0 k1 k2
             obtain⟨LX,hLX⟩:∃L,wr.heap.size=L:=⟨_,rfl⟩
             obtain⟨V,hV⟩:∃V,wr.alloc (.cells #[.string x.job,.string x.node,.int .i64 x.til] 42)=V:=⟨_,rfl⟩
             have bA:=below_one wr (.cells #[.string x.job,.string x.node,.int .i64 x.til] 42)
             have oX:=objAt_new wr #[.string x.job,.string x.node,.int .i64 x.til] 42
             rw[hV] at bA oX
             rw[hLX] at oX
             have rdV:=refD_gN HRD.out (gN_next hgr bA)
             have oLV:=objAt_next oL bA
             have hownV:=own_next hown bA
             have grV:=gN_next hgr bA
             have hcnt:=gone_count (key:=(·.job)) a.leases b.leases i
             have sV:=grV.size
             have C1:=Lib.hid (leaseAt_is b.leases bl dl (by omega) x.job V (leasesAt_next HMB.out.2.2 rdV.2.2.2.1))
             have s0:=objAt_cell rdV.2.1 0 rfl
             have s1:=objAt_cell rdV.2.1 1 rfl
             have s2:=objAt_cell rdV.2.1 2 rfl
             have s3:=objAt_cell rdV.2.1 3 rfl
             have e0:=objAt_cell oX 0 rfl
             have e1:=objAt_cell oX 1 rfl
             have e2:=objAt_cell oX 2 rfl
             have el:=objAt_lt oX
             have PV:=Lib.hid (And.intro rdV (And.intro oLV (And.intro hownV (And.intro grV oX))))
             have HXI:=Lib.hid hxi
             clear rdV oLV hownV grV oX bA oL hown hgr rd hxi
             go_wp2_with fail
             refine C1.out.mono ?_
             rintro e w2 ⟨r,rfl,hat,b2⟩
             obtain⟨rdV,oLV,hownV,grV,oX⟩:=PV.out
             have g2:=gN_next grV b2
             have oL2:=objAt_next oLV b2
             have own2:=own_next hownV b2
             have oX2:=objAt_next oX b2
             have s2:=b2.size
             clear e0 e1 e2 el s0 s1 s3 C1 PV rdV oLV hownV grV oX b2 k0 k1 k2 hal
             rcases at_or hat with ⟨hr,hg⟩ | ⟨hr,hg⟩
             ·have HE:=gone_out hil (show ∀y∈b.leases,(·.job) y≠(·.job) a.leases[i] by rw[HXI.out];exact hg)
              rw[HXI.out] at HE
              have HE:=Lib.hid HE
              clear hat hg
              have d7:=objAt_cell oL2 7 rfl
              have dl2:=objAt_lt oL2
              have e0:=objAt_cell oX2 0 rfl
              have el:=objAt_lt oX2
              have Q:=Lib.hid (And.intro oL2 (And.intro own2 g2))
              clear oL2 g2 oX2
              go_wp2_with (at_builtin;refine wpList_append_own _ rfl _ _ 47 rfl W6.heap.size 9 i3 _ 1 16 Tryz.underlying47 Gi.out Gz0.out Gz1.out Gz2.out rfl (by decide) _ _ _ rfl (own2.alloc _) ⟨w2.heap.size,0,none⟩ 1 1 [.string x.job] rfl rfl (cell_one_new _ _ _) (by simp[Value.oneCell']) (by unfold maxLen;omega) (by omega) (by simp;omega) ?_)
              ·intro v3 w3 own3 hg3 _
               obtain⟨oL2,own2',g2⟩:=Q.out
               have bN:=below_one w2 (.cells #[.string x.job] 9)
               have lW:=lL5
               have oL3:=objAt_app (objAt_next oL2 bN) (own2.alloc _) lW hg3
               have g3:=gN_app (gN_next g2 bN) hg3 (fun k hk=>(own2.lt k hk).1)
               obtain⟨ad3,cap3,rfl⟩:=ownRow_slice own3
               have fN:=objAt_free oL3 7
               have dN:=objAt_cell oL3 7 rfl
               have dl3:=objAt_lt oL3
               have oL4:ObjAt L #[.int .i64 a.rev,.int .i64 b.rev,.slice pa0 (newL a.jobs b.jobs).length pc0,.slice pa1 (newL a.nodes b.nodes).length pc1,.slice pa2 (newL a.leases b.leases).length pc2,.slice pa3 (goneL (·.name) a.jobs b.jobs).length pc3,.slice pa4 (goneL (·.name) a.nodes b.nodes).length pc4,.slice ad3 ((goneL (·.job) (a.leases.take i) b.leases).length+1) cap3] 49 _:=objAt_set oL3 7 (.slice ad3 ((goneL (·.job) (a.leases.take i) b.leases).length+1) cap3)
               have own4:=own_set own3 lW 7 (.slice ad3 ((goneL (·.job) (a.leases.take i) b.leases).length+1) cap3)
               have g4:=gN_set g3 7 (.slice ad3 ((goneL (·.job) (a.leases.take i) b.leases).length+1) cap3)
               have Q4:=Lib.hid (And.intro oL4 (And.intro own4 g4))
               clear oL2 own2' g2 bN oL3 g3 own3 hg3 own2 oL4 own4 g4 Q d7 dl2 el e0
               go_wp2
               go_roundw
               case rel =>
                obtain⟨oL4,own4,g4⟩:=Q4.out
                exact⟨i+1,_,by simp,by omega,oL4,by rw[HE.out,List.length_append];rw[cNms_append];exact own4,g4⟩
               case measure=>simp[intOf];omega
             ·have HE:=gone_in hil (show ∃y∈b.leases,(·.job) y=(·.job) a.leases[i] by rw[HXI.out];exact hg)
              have HE:=Lib.hid HE
              clear hat hg
              have hr':¬(r<0):=by omega
              have Q:=Lib.hid (And.intro oL2 (And.intro own2 g2))
              clear oL2 own2 g2 oX2
              go_wp2
              go_roundw
              case rel =>
               obtain⟨oL2,own2,g2⟩:=Q.out
               exact⟨i+1,_,by simp,by omega,oL2,by rw[HE.out];exact own2,g2⟩
              case measure=>simp[intOf];omega
            case neg =>
             obtain rfl:i=a.leases.length:=by omega
             rw[List.take_length] at hown oL
             have OD5:=Lib.hid (ownsRow_low (B':=w.heap.size) hown (by have:=objAt_lt HRD.out.1;omega))
             have OD0:=Lib.hid (own_gN OD0.out HOL.out (by decide) hgr)
             have OD1:=Lib.hid (own_gN OD1.out HOL.out (by decide) hgr)
             have OD2:=Lib.hid (own_gN OD2.out HOL.out (by decide) hgr)
             have OD3:=Lib.hid (own_gN OD3.out HOL.out (by decide) hgr)
             have OD4:=Lib.hid (own_gN OD4.out HOL.out (by decide) hgr)
             obtain⟨W7,hWE⟩:∃W,W=wr:=⟨_,rfl⟩
             subst hWE
             obtain⟨pa5,hg5⟩:∃g,g=pad:=⟨_,rfl⟩
             subst hg5
             obtain⟨pc5,ht5⟩:∃g,g=pcap:=⟨_,rfl⟩
             subst ht5
             have OL:=oL
             have RD:=rd
             clear oL rd hown hgr HOL HRD h hi lL5
             have d0:=objAt_cell OL 0 rfl
             have m0:=objAt_cell RD.2.2.1 0 rfl
             have f0:=objAt_free RD.2.2.1 0
             have d1:=objAt_cell OL 1 rfl
             have m1:=objAt_cell RD.2.2.1 1 rfl
             have f1:=objAt_free RD.2.2.1 1
             have d2:=objAt_cell OL 2 rfl
             have m2:=objAt_cell RD.2.2.1 2 rfl
             have f2:=objAt_free RD.2.2.1 2
             have d3:=objAt_cell OL 3 rfl
             have m3:=objAt_cell RD.2.2.1 3 rfl
             have f3:=objAt_free RD.2.2.1 3
             have d4:=objAt_cell OL 4 rfl
             have m4:=objAt_cell RD.2.2.1 4 rfl
             have f4:=objAt_free RD.2.2.1 4
             have d5:=objAt_cell OL 5 rfl
             have m5:=objAt_cell RD.2.2.1 5 rfl
             have f5:=objAt_free RD.2.2.1 5
             have d6:=objAt_cell OL 6 rfl
             have m6:=objAt_cell RD.2.2.1 6 rfl
             have f6:=objAt_free RD.2.2.1 6
             have d7:=objAt_cell OL 7 rfl
             have m7:=objAt_cell RD.2.2.1 7 rfl
             have f7:=objAt_free RD.2.2.1 7
             have lL:=objAt_lt OL
             have lR:=objAt_lt RD.2.2.1
             have oF:=obj_put8 RD.2.2.1 (.int .i64 a.rev) (.int .i64 b.rev) (.slice pa0 (newL a.jobs b.jobs).length pc0) (.slice pa1 (newL a.nodes b.nodes).length pc1) (.slice pa2 (newL a.leases b.leases).length pc2) (.slice pa3 (goneL (·.name) a.jobs b.jobs).length pc3) (.slice pa4 (goneL (·.name) a.nodes b.nodes).length pc4) (.slice pa5 (goneL (·.job) a.leases b.leases).length pc5)
             have BF:=Lib.hid (below_put8 RD.2.2.2.1 (b:=w.heap.size+2) (by omega) (.int .i64 a.rev) (.int .i64 b.rev) (.slice pa0 (newL a.jobs b.jobs).length pc0) (.slice pa1 (newL a.nodes b.nodes).length pc1) (.slice pa2 (newL a.leases b.leases).length pc2) (.slice pa3 (goneL (·.name) a.jobs b.jobs).length pc3) (.slice pa4 (goneL (·.name) a.nodes b.nodes).length pc4) (.slice pa5 (goneL (·.job) a.leases b.leases).length pc5))
             have Z0:=Lib.hid (own_put8 OD0.out RD.2.2.1 (by decide) (.int .i64 a.rev) (.int .i64 b.rev) (.slice pa0 (newL a.jobs b.jobs).length pc0) (.slice pa1 (newL a.nodes b.nodes).length pc1) (.slice pa2 (newL a.leases b.leases).length pc2) (.slice pa3 (goneL (·.name) a.jobs b.jobs).length pc3) (.slice pa4 (goneL (·.name) a.nodes b.nodes).length pc4) (.slice pa5 (goneL (·.job) a.leases b.leases).length pc5))
             have Z1:=Lib.hid (own_put8 OD1.out RD.2.2.1 (by decide) (.int .i64 a.rev) (.int .i64 b.rev) (.slice pa0 (newL a.jobs b.jobs).length pc0) (.slice pa1 (newL a.nodes b.nodes).length pc1) (.slice pa2 (newL a.leases b.leases).length pc2) (.slice pa3 (goneL (·.name) a.jobs b.jobs).length pc3) (.slice pa4 (goneL (·.name) a.nodes b.nodes).length pc4) (.slice pa5 (goneL (·.job) a.leases b.leases).length pc5))
             have Z2:=Lib.hid (own_put8 OD2.out RD.2.2.1 (by decide) (.int .i64 a.rev) (.int .i64 b.rev) (.slice pa0 (newL a.jobs b.jobs).length pc0) (.slice pa1 (newL a.nodes b.nodes).length pc1) (.slice pa2 (newL a.leases b.leases).length pc2) (.slice pa3 (goneL (·.name) a.jobs b.jobs).length pc3) (.slice pa4 (goneL (·.name) a.nodes b.nodes).length pc4) (.slice pa5 (goneL (·.job) a.leases b.leases).length pc5))
             have Z3:=Lib.hid (own_put8 OD3.out RD.2.2.1 (by decide) (.int .i64 a.rev) (.int .i64 b.rev) (.slice pa0 (newL a.jobs b.jobs).length pc0) (.slice pa1 (newL a.nodes b.nodes).length pc1) (.slice pa2 (newL a.leases b.leases).length pc2) (.slice pa3 (goneL (·.name) a.jobs b.jobs).length pc3) (.slice pa4 (goneL (·.name) a.nodes b.nodes).length pc4) (.slice pa5 (goneL (·.job) a.leases b.leases).length pc5))
             have Z4:=Lib.hid (own_put8 OD4.out RD.2.2.1 (by decide) (.int .i64 a.rev) (.int .i64 b.rev) (.slice pa0 (newL a.jobs b.jobs).length pc0) (.slice pa1 (newL a.nodes b.nodes).length pc1) (.slice pa2 (newL a.leases b.leases).length pc2) (.slice pa3 (goneL (·.name) a.jobs b.jobs).length pc3) (.slice pa4 (goneL (·.name) a.nodes b.nodes).length pc4) (.slice pa5 (goneL (·.job) a.leases b.leases).length pc5))
             have Z5:=Lib.hid (own_put8 OD5.out RD.2.2.1 (by decide) (.int .i64 a.rev) (.int .i64 b.rev) (.slice pa0 (newL a.jobs b.jobs).length pc0) (.slice pa1 (newL a.nodes b.nodes).length pc1) (.slice pa2 (newL a.leases b.leases).length pc2) (.slice pa3 (goneL (·.name) a.jobs b.jobs).length pc3) (.slice pa4 (goneL (·.name) a.nodes b.nodes).length pc4) (.slice pa5 (goneL (·.job) a.leases b.leases).length pc5))
             have t0_:=objAt_cell oF 0 rfl
             have t1_:=objAt_cell oF 1 rfl
             have t2_:=objAt_cell oF 2 rfl
             have t3_:=objAt_cell oF 3 rfl
             have t4_:=objAt_cell oF 4 rfl
             have t5_:=objAt_cell oF 5 rfl
             have t6_:=objAt_cell oF 6 rfl
             have t7_:=objAt_cell oF 7 rfl
             have TT:=Lib.hid (And.intro t0_ (And.intro t1_ (And.intro t2_ (And.intro t3_ (And.intro t4_ (And.intro t5_ (And.intro t6_ t7_)))))))
             clear oF t0_ t1_ t2_ t3_ t4_ t5_ t6_ t7_ OL RD
             go_wp2
             obtain⟨t0_,t1_,t2_,t3_,t4_,t5_,t6_,t7_⟩:=TT.out
             exact bodyPost_ret (v:=.agg #[.int .i64 a.rev,.int .i64 b.rev,.slice pa0 (newL a.jobs b.jobs).length pc0,.slice pa1 (newL a.nodes b.nodes).length pc1,.slice pa2 (newL a.leases b.leases).length pc2,.slice pa3 (goneL (·.name) a.jobs b.jobs).length pc3,.slice pa4 (goneL (·.name) a.nodes b.nodes).length pc4,.slice pa5 (goneL (·.job) a.leases b.leases).length pc5]) (by simp[results,Tryz.results25,go_sem,t0_,t1_,t2_,t3_,t4_,t5_,t6_,t7_]) rfl ⟨⟨pa0,pc0,pa1,pc1,pa2,pc2,pa3,pc3,pa4,pc4,pa5,pc5⟩,rfl,⟨Z0.out,Z1.out,Z2.out,Z3.out,Z4.out,Z5.out⟩,BF.out⟩
end Go.Proofs.YtiekgafopalfmaaGreatDoor
