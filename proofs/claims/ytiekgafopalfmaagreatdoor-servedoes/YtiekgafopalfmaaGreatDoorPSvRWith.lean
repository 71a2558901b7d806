import Derived.Test.YtiekgafopalfmaaGreatDoorPDlPut
import Derived.Test.YtiekgafopalfmaaGreatDoorPPkSv1
set_option maxRecDepth 100000
set_option maxHeartbeats 4000000
namespace Go.Proofs.YtiekgafopalfmaaGreatDoor
open Go.RowKit
theorem filt_take {α:Type} (p:α→Bool) (l:List α){i:Nat} (hi:i<l.length):(l.take (i+1)).filter (fun x => !p x)=(l.take i).filter (fun x => !p x)++(if p l[i]=true then [] else [l[i]]):=by
 rw[List.take_succ_eq_append_getElem hi,List.filter_append]
 cases h:p l[i] <;> simp[h]
theorem filt_in {α:Type}{p:α→Bool}{l:List α}{i:Nat} (hi:i<l.length) (h:p l[i]=true):(l.take (i+1)).filter (fun x => !p x)=(l.take i).filter (fun x => !p x):=by rw[filt_take p l hi,if_pos h,List.append_nil]
theorem filt_out {α:Type}{p:α→Bool}{l:List α}{i:Nat} (hi:i<l.length) (h:p l[i]=false):(l.take (i+1)).filter (fun x => !p x)=(l.take i).filter (fun x => !p x) ++ [l[i]]:=by rw[filt_take p l hi,if_neg (by rw[h];decide)]
theorem filt_count {α:Type} (p:α→Bool) (l:List α) (i:Nat):((l.take i).filter (fun x => !p x)).length≤l.length:=Nat.le_trans (List.length_filter_le _ _) (by rw[List.length_take];omega)
theorem rwithoutJob_is (g:Nat) (lb:Array Value) (eg:∀args w,(callFunc g args).run Tryz.prog w = .ok (.enter g args) w) (p:JobD→Bool) (l:List JobD) (ad:Option Addr) (cap:Nat) (hl:l.length≤80) (w:World) (hp:∀x W,Below w.heap.size w W→Calls Tryz.prog g (#[.agg #[.string x.name,.int .i64 x.prio,.int .i64 x.need,.int .i64 x.tries,.string x.tag]]++lb) W fun e w'=>e = .returned (.bool (p x))∧Below W.heap.size W w') (hx:JobsAt w ad l) :
  Calls Tryz.prog 60 #[.slice ad l.length cap,.func (.func g) #[] lb] w fun e w'=>∃ad' cap',e = .returned (.slice ad' (l.filter fun x => !p x).length cap')∧w'.ownsRow w.heap.size 38 5 (.slice ad' (l.filter fun x => !p x).length cap') (l.filter fun x => !p x).length (cJobs (l.filter fun x => !p x))∧Below w.heap.size w w':=by
 obtain⟨i0,qi,qz0,qz1,qz2⟩:=info_parts' Tryz.info_job
 have Hi:=Lib.hid qi
 have Hz0:=Lib.hid qz0
 have Hz1:=Lib.hid qz1
 have Hz2:=Lib.hid qz2
 have HX:=Lib.hid hx
 have HP:=Lib.hid hp
 clear qi qz0 qz1 qz2 hx hp
 go_enter Tryz.func60,Tryz.ntmps60
 go_wp2
 go_loopw [5,10] (fun pv iv wr=>∃(i:Nat),iv = .int .i64 (i:Int)∧i≤l.length∧wr.ownsRow w.heap.size 38 5 pv ((l.take i).filter fun x => !p x).length (cJobs ((l.take i).filter fun x => !p x))∧Below w.heap.size w wr) (fun _ iv _=>l.length - (intOf iv).toNat)
 case atStart=>exact⟨0,rfl,Nat.zero_le _,by exact World.ownsRow_nil _ _ _ _,Below.refl _ _⟩
 case round =>
  obtain⟨i,rfl,hi,hown,hbr⟩:=hrel
  obtain⟨pad,pcap,rfl⟩:=ownRow_slice hown
  by_cases h:(i:Int)<(l.length:Int)
  case pos =>
   have hil:i<l.length:=by omega
   obtain⟨a,rfl,hal,k0,k1,k2,k3,k4⟩:=jobsAt_next HX.out hbr i hil
   obtain⟨x,hxi⟩:∃x,l[i]=x:=⟨_,rfl⟩
   rw[hxi] at k0 k1 k2 k3 k4
   obtain⟨LX,hLX⟩:∃L,wr.heap.size=L:=⟨_,rfl⟩
   obtain⟨V,hV⟩:∃V,wr.alloc (.cells #[.string x.name,.int .i64 x.prio,.int .i64 x.need,.int .i64 x.tries,.string x.tag] 38)=V:=⟨_,rfl⟩
   have bA:=below_one wr (.cells #[.string x.name,.int .i64 x.prio,.int .i64 x.need,.int .i64 x.tries,.string x.tag] 38)
   have oX:=objAt_new wr #[.string x.name,.int .i64 x.prio,.int .i64 x.need,.int .i64 x.tries,.string x.tag] 38
   rw[hV] at bA oX
   rw[hLX] at oX
   have hownV:=own_next hown bA
   have BV:=below_trans hbr bA hbr.size
   have hcnt:=filt_count p l i
   have sV:=BV.size
   have HXI:=Lib.hid hxi
   have e0:=objAt_cell oX 0 rfl
   have e1:=objAt_cell oX 1 rfl
   have e2:=objAt_cell oX 2 rfl
   have e3:=objAt_cell oX 3 rfl
   have e4:=objAt_cell oX 4 rfl
   have el:=objAt_lt oX
   have PV:=Lib.hid (And.intro hownV (And.intro BV oX))
   clear hownV oX bA hown hbr hxi
   cases hin:p x with
   | true =>
    have C1:=HP.out x V BV
    rw[hin] at C1
    have C1:=Lib.hid C1
    have HE:=Lib.hid (filt_in (p:=p) hil (by rw[HXI.out];exact hin))
    clear hin BV
    go_wp2_with fail
    refine C1.out.mono ?_
    rintro e w2 ⟨rfl,b2⟩
    obtain⟨hownV,BV,oX⟩:=PV.out
    have own2:=own_next hownV b2
    have B2:=below_trans BV b2 BV.size
    have oX2:=objAt_next oX b2
    have s2:=b2.size
    clear e0 e1 e2 e3 e4 el k0 k1 k2 k3 k4 hal C1 PV hownV BV oX b2
    have Q:=Lib.hid (And.intro own2 B2)
    clear own2 B2 oX2
    go_wp2
    go_roundw
    case rel =>
     obtain⟨own2,B2⟩:=Q.out
     exact⟨i+1,by simp,by omega,by rw[HE.out];exact own2,B2⟩
    case measure=>simp[intOf];omega
   | false =>
    have C1:=HP.out x V BV
    rw[hin] at C1
    have C1:=Lib.hid C1
    have HE:=Lib.hid (filt_out (p:=p) hil (by rw[HXI.out];exact hin))
    clear hin BV
    go_wp2_with fail
    refine C1.out.mono ?_
    rintro e w2 ⟨rfl,b2⟩
    obtain⟨hownV,BV,oX⟩:=PV.out
    have own2:=own_next hownV b2
    have B2:=below_trans BV b2 BV.size
    have oX2:=objAt_next oX b2
    have s2:=b2.size
    clear e0 e1 e2 e3 e4 el k0 k1 k2 k3 k4 hal C1 PV hownV BV oX b2
    have e0:=objAt_cell oX2 0 rfl
    have e1:=objAt_cell oX2 1 rfl
    have e2:=objAt_cell oX2 2 rfl
    have e3:=objAt_cell oX2 3 rfl
    have e4:=objAt_cell oX2 4 rfl
    have el:=objAt_lt oX2
    have Q:=Lib.hid B2
    clear oX2
    go_wp2_with (at_builtin;refine wpList_append_own _ rfl _ _ 22 rfl w.heap.size 38 i0 _ 5 56 Tryz.underlying22 Hi.out Hz0.out Hz1.out Hz2.out rfl (by decide) _ _ _ rfl (own2.alloc _) ⟨w2.heap.size,0,none⟩ 1 1 (cJob x) rfl rfl ?c1 ?c2 ?c3 ?c4 ?c5 ?_)
    case c1=>exact job_new w2 x _
    case c2=>exact job_ones x
    case c3=>unfold maxLen;omega
    case c4=>omega
    case c5=>simp;omega
    ·intro v3 w3 own3 hg3 _
     have B2:=Q.out
     have bN:=below_one w2 (.cells #[.string x.name,.int .i64 x.prio,.int .i64 x.need,.int .i64 x.tries,.string x.tag] 38)
     have B3:=(below_trans B2 bN B2.size).grown hg3 (by have:=B2.size;rw[World.size_alloc];omega) (fun k hk=>(own2.lt k hk).1)
     obtain⟨ad3,cap3,rfl⟩:=ownRow_slice own3
     rw[←cJobs_one,←cJobs_append] at own3
     have Q4:=Lib.hid (And.intro own3 B3)
     clear own2 B2 bN B3 own3 hg3 el Q e0 e1 e2 e3 e4
     go_wp2
     go_roundw
     case rel =>
      obtain⟨own3,B3⟩:=Q4.out
      exact⟨i+1,by simp,by omega,by rw[HE.out,HXI.out,List.length_append];exact own3,B3⟩
     case measure=>simp[intOf];omega
  case neg =>
   obtain rfl:i=l.length:=by omega
   rw[List.take_length] at hown
   have Q:=Lib.hid (And.intro hown hbr)
   clear hown hbr h hi
   go_wp2
   go_ret
   exact⟨pad,pcap,by show Ending.returned (.slice pad (List.filter _ (l.take l.length)).length pcap)=_;rw[List.take_length],Q.out⟩
theorem rwithoutNode_is (g:Nat) (lb:Array Value) (eg:∀args w,(callFunc g args).run Tryz.prog w = .ok (.enter g args) w) (p:NodeD→Bool) (l:List NodeD) (ad:Option Addr) (cap:Nat) (hl:l.length≤80) (w:World) (hp:∀x W,Below w.heap.size w W→Calls Tryz.prog g (#[.agg #[.string x.name,.int .i64 x.room,.string x.zone]]++lb) W fun e w'=>e = .returned (.bool (p x))∧Below W.heap.size W w') (hx:NodesAt w ad l) :
  Calls Tryz.prog 63 #[.slice ad l.length cap,.func (.func g) #[] lb] w fun e w'=>∃ad' cap',e = .returned (.slice ad' (l.filter fun x => !p x).length cap')∧w'.ownsRow w.heap.size 40 3 (.slice ad' (l.filter fun x => !p x).length cap') (l.filter fun x => !p x).length (cNodes (l.filter fun x => !p x))∧Below w.heap.size w w':=by
 obtain⟨i0,qi,qz0,qz1,qz2⟩:=info_parts' Tryz.info_node
 have Hi:=Lib.hid qi
 have Hz0:=Lib.hid qz0
 have Hz1:=Lib.hid qz1
 have Hz2:=Lib.hid qz2
 have HX:=Lib.hid hx
 have HP:=Lib.hid hp
 clear qi qz0 qz1 qz2 hx hp
 go_enter Tryz.func63,Tryz.ntmps63
 go_wp2
 go_loopw [5,10] (fun pv iv wr=>∃(i:Nat),iv = .int .i64 (i:Int)∧i≤l.length∧wr.ownsRow w.heap.size 40 3 pv ((l.take i).filter fun x => !p x).length (cNodes ((l.take i).filter fun x => !p x))∧Below w.heap.size w wr) (fun _ iv _=>l.length - (intOf iv).toNat)
 case atStart=>exact⟨0,rfl,Nat.zero_le _,by exact World.ownsRow_nil _ _ _ _,Below.refl _ _⟩
 case round =>
  obtain⟨i,rfl,hi,hown,hbr⟩:=hrel
  obtain⟨pad,pcap,rfl⟩:=ownRow_slice hown
  by_cases h:(i:Int)<(l.length:Int)
  case pos =>
   have hil:i<l.length:=by omega
   obtain⟨a,rfl,hal,k0,k1,k2⟩:=nodesAt_next HX.out hbr i hil
   obtain⟨x,hxi⟩:∃x,l[i]=x:=⟨_,rfl⟩
   rw[hxi] at k0 k1 k2
   obtain⟨LX,hLX⟩:∃L,wr.heap.size=L:=⟨_,rfl⟩
   obtain⟨V,hV⟩:∃V,wr.alloc (.cells #[.string x.name,.int .i64 x.room,.string x.zone] 40)=V:=⟨_,rfl⟩
   have bA:=below_one wr (.cells #[.string x.name,.int .i64 x.room,.string x.zone] 40)
   have oX:=objAt_new wr #[.string x.name,.int .i64 x.room,.string x.zone] 40
   rw[hV] at bA oX
   rw[hLX] at oX
   have hownV:=own_next hown bA
   have BV:=below_trans hbr bA hbr.size
   have hcnt:=filt_count p l i
   have sV:=BV.size
   have HXI:=Lib.hid hxi
   have e0:=objAt_cell oX 0 rfl
   have e1:=objAt_cell oX 1 rfl
   have e2:=objAt_cell oX 2 rfl
   have el:=objAt_lt oX
   have PV:=Lib.hid (And.intro hownV (And.intro BV oX))
   clear hownV oX bA hown hbr hxi
   cases hin:p x with
   | true =>
    have C1:=HP.out x V BV
    rw[hin] at C1
    have C1:=Lib.hid C1
    have HE:=Lib.hid (filt_in (p:=p) hil (by rw[HXI.out];exact hin))
    clear hin BV
    go_wp2_with fail
    refine C1.out.mono ?_
    rintro e w2 ⟨rfl,b2⟩
    obtain⟨hownV,BV,oX⟩:=PV.out
    have own2:=own_next hownV b2
    have B2:=below_trans BV b2 BV.size
    have oX2:=objAt_next oX b2
    have s2:=b2.size
    clear e0 e1 e2 el k0 k1 k2 hal C1 PV hownV BV oX b2
    have Q:=Lib.hid (And.intro own2 B2)
    clear own2 B2 oX2
    go_wp2
    go_roundw
    case rel =>
     obtain⟨own2,B2⟩:=Q.out
     exact⟨i+1,by simp,by omega,by rw[HE.out];exact own2,B2⟩
    case measure=>simp[intOf];omega
   | false =>
    have C1:=HP.out x V BV
    rw[hin] at C1
    have C1:=Lib.hid C1
    have HE:=Lib.hid (filt_out (p:=p) hil (by rw[HXI.out];exact hin))
    clear hin BV
    go_wp2_with fail
    refine C1.out.mono ?_
    rintro e w2 ⟨rfl,b2⟩
    obtain⟨hownV,BV,oX⟩:=PV.out
    have own2:=own_next hownV b2
    have B2:=below_trans BV b2 BV.size
    have oX2:=objAt_next oX b2
    have s2:=b2.size
    clear e0 e1 e2 el k0 k1 k2 hal C1 PV hownV BV oX b2
    have e0:=objAt_cell oX2 0 rfl
    have e1:=objAt_cell oX2 1 rfl
    have e2:=objAt_cell oX2 2 rfl
    have el:=objAt_lt oX2
    have Q:=Lib.hid B2
    clear oX2
    go_wp2_with (at_builtin;refine wpList_append_own _ rfl _ _ 23 rfl w.heap.size 40 i0 _ 3 40 Tryz.underlying23 Hi.out Hz0.out Hz1.out Hz2.out rfl (by decide) _ _ _ rfl (own2.alloc _) ⟨w2.heap.size,0,none⟩ 1 1 (cNode x) rfl rfl ?c1 ?c2 ?c3 ?c4 ?c5 ?_)
    case c1=>exact node_new w2 x _
    case c2=>exact node_ones x
    case c3=>unfold maxLen;omega
    case c4=>omega
    case c5=>simp;omega
    ·intro v3 w3 own3 hg3 _
     have B2:=Q.out
     have bN:=below_one w2 (.cells #[.string x.name,.int .i64 x.room,.string x.zone] 40)
     have B3:=(below_trans B2 bN B2.size).grown hg3 (by have:=B2.size;rw[World.size_alloc];omega) (fun k hk=>(own2.lt k hk).1)
     obtain⟨ad3,cap3,rfl⟩:=ownRow_slice own3
     rw[←cNodes_one,←cNodes_append] at own3
     have Q4:=Lib.hid (And.intro own3 B3)
     clear own2 B2 bN B3 own3 hg3 el Q e0 e1 e2
     go_wp2
     go_roundw
     case rel =>
      obtain⟨own3,B3⟩:=Q4.out
      exact⟨i+1,by simp,by omega,by rw[HE.out,HXI.out,List.length_append];exact own3,B3⟩
     case measure=>simp[intOf];omega
  case neg =>
   obtain rfl:i=l.length:=by omega
   rw[List.take_length] at hown
   have Q:=Lib.hid (And.intro hown hbr)
   clear hown hbr h hi
   go_wp2
   go_ret
   exact⟨pad,pcap,by show Ending.returned (.slice pad (List.filter _ (l.take l.length)).length pcap)=_;rw[List.take_length],Q.out⟩
theorem rwithoutLease_is (g:Nat) (lb:Array Value) (eg:∀args w,(callFunc g args).run Tryz.prog w = .ok (.enter g args) w) (p:LeaseD→Bool) (l:List LeaseD) (ad:Option Addr) (cap:Nat) (hl:l.length≤80) (w:World) (hp:∀x W,Below w.heap.size w W→Calls Tryz.prog g (#[.agg #[.string x.job,.string x.node,.int .i64 x.til]]++lb) W fun e w'=>e = .returned (.bool (p x))∧Below W.heap.size W w') (hx:LeasesAt w ad l) :
  Calls Tryz.prog 55 #[.slice ad l.length cap,.func (.func g) #[] lb] w fun e w'=>∃ad' cap',e = .returned (.slice ad' (l.filter fun x => !p x).length cap')∧w'.ownsRow w.heap.size 42 3 (.slice ad' (l.filter fun x => !p x).length cap') (l.filter fun x => !p x).length (cLeases (l.filter fun x => !p x))∧Below w.heap.size w w':=by
 obtain⟨i0,qi,qz0,qz1,qz2⟩:=info_parts' Tryz.info_lease
 have Hi:=Lib.hid qi
 have Hz0:=Lib.hid qz0
 have Hz1:=Lib.hid qz1
 have Hz2:=Lib.hid qz2
 have HX:=Lib.hid hx
 have HP:=Lib.hid hp
 clear qi qz0 qz1 qz2 hx hp
 go_enter Tryz.func55,Tryz.ntmps55
 go_wp2
 go_loopw [5,10] (fun pv iv wr=>∃(i:Nat),iv = .int .i64 (i:Int)∧i≤l.length∧wr.ownsRow w.heap.size 42 3 pv ((l.take i).filter fun x => !p x).length (cLeases ((l.take i).filter fun x => !p x))∧Below w.heap.size w wr) (fun _ iv _=>l.length - (intOf iv).toNat)
 case atStart=>exact⟨0,rfl,Nat.zero_le _,by exact World.ownsRow_nil _ _ _ _,Below.refl _ _⟩
 case round =>
  obtain⟨i,rfl,hi,hown,hbr⟩:=hrel
  obtain⟨pad,pcap,rfl⟩:=ownRow_slice hown
  by_cases h:(i:Int)<(l.length:Int)
  case pos =>
   have hil:i<l.length:=by omega
   obtain⟨a,rfl,hal,k0,k1,k2⟩:=leasesAt_next HX.out hbr i hil
   obtain⟨x,hxi⟩:∃x,l[i]=x:=⟨_,rfl⟩
   rw[hxi] at k0 k1 k2
   obtain⟨LX,hLX⟩:∃L,wr.heap.size=L:=⟨_,rfl⟩
   obtain⟨V,hV⟩:∃V,wr.alloc (.cells #[.string x.job,.string x.node,.int .i64 x.til] 42)=V:=⟨_,rfl⟩
   have bA:=below_one wr (.cells #[.string x.job,.string x.node,.int .i64 x.til] 42)
   have oX:=objAt_new wr #[.string x.job,.string x.node,.int .i64 x.til] 42
   rw[hV] at bA oX
   rw[hLX] at oX
   have hownV:=own_next hown bA
   have BV:=below_trans hbr bA hbr.size
   have hcnt:=filt_count p l i
   have sV:=BV.size
   have HXI:=Lib.hid hxi
   have e0:=objAt_cell oX 0 rfl
   have e1:=objAt_cell oX 1 rfl
   have e2:=objAt_cell oX 2 rfl
   have el:=objAt_lt oX
   have PV:=Lib.hid (And.intro hownV (And.intro BV oX))
   clear hownV oX bA hown hbr hxi
   cases hin:p x with
   | true =>
    have C1:=HP.out x V BV
    rw[hin] at C1
    have C1:=Lib.hid C1
    have HE:=Lib.hid (filt_in (p:=p) hil (by rw[HXI.out];exact hin))
    clear hin BV
    go_wp2_with fail
    refine C1.out.mono ?_
    rintro e w2 ⟨rfl,b2⟩
    obtain⟨hownV,BV,oX⟩:=PV.out
    have own2:=own_next hownV b2
    have B2:=below_trans BV b2 BV.size
    have oX2:=objAt_next oX b2
    have s2:=b2.size
    clear e0 e1 e2 el k0 k1 k2 hal C1 PV hownV BV oX b2
    have Q:=Lib.hid (And.intro own2 B2)
    clear own2 B2 oX2
    go_wp2
    go_roundw
    case rel =>
     obtain⟨own2,B2⟩:=Q.out
     exact⟨i+1,by simp,by omega,by rw[HE.out];exact own2,B2⟩
    case measure=>simp[intOf];omega
   | false =>
    have C1:=HP.out x V BV
    rw[hin] at C1
    have C1:=Lib.hid C1
    have HE:=Lib.hid (filt_out (p:=p) hil (by rw[HXI.out];exact hin))
    clear hin BV
    go_wp2_with fail
    refine C1.out.mono ?_
    rintro e w2 ⟨rfl,b2⟩
    obtain⟨hownV,BV,oX⟩:=PV.out
    have own2:=own_next hownV b2
    have B2:=below_trans BV b2 BV.size
    have oX2:=objAt_next oX b2
    have s2:=b2.size
    clear e0 e1 e2 el k0 k1 k2 hal C1 PV hownV BV oX b2
    have e0:=objAt_cell oX2 0 rfl
    have e1:=objAt_cell oX2 1 rfl
    have e2:=objAt_cell oX2 2 rfl
    have el:=objAt_lt oX2
    have Q:=Lib.hid B2
    clear oX2
    go_wp2_with (at_builtin;refine wpList_append_own _ rfl _ _ 24 rfl w.heap.size 42 i0 _ 3 40 Tryz.underlying24 Hi.out Hz0.out Hz1.out Hz2.out rfl (by decide) _ _ _ rfl (own2.alloc _) ⟨w2.heap.size,0,none⟩ 1 1 (cLease x) rfl rfl ?c1 ?c2 ?c3 ?c4 ?c5 ?_)
    case c1=>exact lease_new w2 x _
    case c2=>exact lease_ones x
    case c3=>unfold maxLen;omega
    case c4=>omega
    case c5=>simp;omega
    ·intro v3 w3 own3 hg3 _
     have B2:=Q.out
     have bN:=below_one w2 (.cells #[.string x.job,.string x.node,.int .i64 x.til] 42)
     have B3:=(below_trans B2 bN B2.size).grown hg3 (by have:=B2.size;rw[World.size_alloc];omega) (fun k hk=>(own2.lt k hk).1)
     obtain⟨ad3,cap3,rfl⟩:=ownRow_slice own3
     rw[←cLeases_one,←cLeases_append] at own3
     have Q4:=Lib.hid (And.intro own3 B3)
     clear own2 B2 bN B3 own3 hg3 el Q e0 e1 e2
     go_wp2
     go_roundw
     case rel =>
      obtain⟨own3,B3⟩:=Q4.out
      exact⟨i+1,by simp,by omega,by rw[HE.out,HXI.out,List.length_append];exact own3,B3⟩
     case measure=>simp[intOf];omega
  case neg =>
   obtain rfl:i=l.length:=by omega
   rw[List.take_length] at hown
   have Q:=Lib.hid (And.intro hown hbr)
   clear hown hbr h hi
   go_wp2
   go_ret
   exact⟨pad,pcap,by show Ending.returned (.slice pad (List.filter _ (l.take l.length)).length pcap)=_;rw[List.take_length],Q.out⟩
end Go.Proofs.YtiekgafopalfmaaGreatDoor
