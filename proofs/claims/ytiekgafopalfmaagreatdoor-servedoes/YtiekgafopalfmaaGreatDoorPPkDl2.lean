import Derived.Test.YtiekgafopalfmaaGreatDoorPPkDl1
import Derived.Test.YtiekgafopalfmaaGreatDoorPPkSt1
import Derived.Test.YtiekgafopalfmaaGreatDoorPPkSt2
import Derived.Test.YtiekgafopalfmaaGreatDoorPPkWi2
import Derived.Deep.RegionLaw
import Derived.Deep.RegionHeld3
set_option maxRecDepth 100000
set_option maxHeartbeats 4000000
namespace Go.Proofs.YtiekgafopalfmaaGreatDoor
open Go.RowKit
theorem below_drawn {w w1:World} (b1:Below w.drew.heap.size w.drew w1):Below w.heap.size w w1:=(Below.refl w.heap.size w).drew.trans b1
theorem put_run {w:World}{b n:Nat}{f:ByteArray→Option Value}{t e:TypeId} (ht:Tryz.prog.underlying t=some (.map 9 e)) (hown:MapAt w b n f) (hn:n<maxLen) (s:ByteArray) (hs:s.size≤maxLen) (u:Value) :
  ∃w',(Instr.mapUpdate t (.map (some b)) (.string s) u).run Tryz.prog w = .ok () w'∧MapAt w' b (n+1) (putF f s u)∧w.grownBy w' (some b):=by
 obtain⟨D,h1,h2⟩:=hown
 obtain⟨w',hrun,r1,r2⟩:=h1.update strKeyed ht hn (strKey hs) (d:=.held u) (ps:=[]) rfl
 exact⟨w',hrun,⟨_,r1,putF_at h1.isMap h2 s u⟩,r2⟩
theorem jobKey_is (x:JobD) (w:World):Calls Tryz.prog 34 #[.agg #[.string x.name,.int .i64 x.prio,.int .i64 x.need,.int .i64 x.tries,.string x.tag]] w fun e w'=>e = .returned (.string x.name)∧Below w.heap.size w w':=jobName_is x w
theorem nodeKey_is (x:NodeD) (w:World):Calls Tryz.prog 37 #[.agg #[.string x.name,.int .i64 x.room,.string x.zone]] w fun e w'=>e = .returned (.string x.name)∧Below w.heap.size w w':=nodeName_is x w
theorem leaseKey_is (x:LeaseD) (w:World):Calls Tryz.prog 41 #[.agg #[.string x.job,.string x.node,.int .i64 x.til]] w fun e w'=>e = .returned (.string x.job)∧Below w.heap.size w w':=leaseJob_is x w
theorem byKeyJob_is (xs:List JobD) (ad:Option Addr) (cap:Nat) (hlen:xs.length≤40) (hw:∀x∈xs,x.name.size≤maxLen) (w:World) (hx:JobsAt w ad xs) :
  Calls Tryz.prog 126 #[.slice ad xs.length cap,.func (.func 34) #[] #[]] w fun e w'=>e = .returned (.map (some w.heap.size))∧MapAt w' w.heap.size xs.length (tabF (·.name) jobV xs)∧Below w.heap.size w w':=by
 have hmm:=@run_makeMap Tryz.prog
 have HX:=Lib.hid hx
 have HW:=Lib.hid hw
 clear hx hw
 go_enter Tryz.func126,Tryz.ntmps126
 go_wp2
 clear hmm
 go_loopw [11] (fun iv wr=>∃(i:Nat),iv = .int .i64 (i:Int)∧i≤xs.length∧Below w.heap.size w wr∧MapAt wr w.heap.size i (tabF (·.name) jobV (xs.take i))) (fun iv _=>xs.length - (intOf iv).toNat)
 case atStart=>exact⟨0,rfl,Nat.zero_le _,below_one _ _,mapAt_ext (mapAt_made w) (fun s=>rfl)⟩
 case round =>
  obtain⟨i,rfl,hi,hbr,hM⟩:=hrel
  by_cases h:(i:Int)<(xs.length:Int)
  ·have hil:i<xs.length:=by omega
   obtain⟨a,rfl,hal,k0,k1,k2,k3,k4⟩:=jobsAt_next HX.out hbr i hil
   obtain⟨x,hxi⟩:∃x,xs[i]=x:=⟨_,rfl⟩
   rw[hxi] at k0 k1 k2 k3 k4
   have hwx:x.name.size≤maxLen:=HW.out x (by rw[←hxi];exact List.getElem_mem _)
   have Hxi:=Lib.hid hxi
   have bA:=below_one wr (.cells #[.string x.name,.int .i64 x.prio,.int .i64 x.need,.int .i64 x.tries,.string x.tag] 38)
   have oB:=objAt_new wr #[.string x.name,.int .i64 x.prio,.int .i64 x.need,.int .i64 x.tries,.string x.tag] 38
   have M0:=Lib.hid (mapAt_below hM bA)
   have BR:=Lib.hid (below_trans hbr bA hbr.size)
   have OB:=Lib.hid oB
   have hbs:=hbr.size
   have c0:=objAt_cell oB 0 rfl
   have c1:=objAt_cell oB 1 rfl
   have c2:=objAt_cell oB 2 rfl
   have c3:=objAt_cell oB 3 rfl
   have c4:=objAt_cell oB 4 rfl
   have cl:=objAt_lt oB
   clear hxi oB bA hM
   go_upto_region 5 with fail
   go_region_law (first
    | (go_simp;go_at_call 34;refine(jobKey_is x _).mono ?_;rintro e w1 ⟨rfl,b1'⟩;have b1:=below_drawn b1';have B1:=Lib.hid (below_trans BR.out b1 BR.out.size);have O1:=objAt_next OB.out b1;have M1:=mapAt_below M0.out b1;have d0:=objAt_cell O1 0 rfl;have d1:=objAt_cell O1 1 rfl;have d2:=objAt_cell O1 2 rfl;have d3:=objAt_cell O1 3 rfl;have d4:=objAt_cell O1 4 rfl;have dl:=objAt_lt O1;obtain⟨w2,hrun,M2',hg2'⟩:=put_run Tryz.underlying81 M1 (by unfold maxLen;omega) x.name hwx (.agg #[.string x.name,.int .i64 x.prio,.int .i64 x.need,.int .i64 x.tries,.string x.tag]);have M2:=Lib.hid M2';have hg2:=Lib.hid hg2';clear O1 M2' hg2'))
   all_goals
    have hb2:=grownB_below B1.out hg2.out B1.out.size (Nat.le_refl _)
    have M3:MapAt w2 w.heap.size (i+1) (tabF (·.name) jobV (xs.take (i+1))):=mapAt_ext M2.out (fun s=>by have:=tabF_step (·.name) jobV xs i hil s;rw[Hxi.out] at this;exact this)
    clear M2 hg2 M1 B1 M0 BR OB hrun
    go_wp2
    go_roundw
    case rel=>exact⟨i+1,by simp,by omega,hb2,M3⟩
    case measure=>simp[intOf];omega
  ·obtain rfl:i=xs.length:=by omega
   rw[List.take_length] at hM
   go_wp2
   go_ret
   exact⟨rfl,hM,hbr⟩
theorem byKeyNode_is (xs:List NodeD) (ad:Option Addr) (cap:Nat) (hlen:xs.length≤40) (hw:∀x∈xs,x.name.size≤maxLen) (w:World) (hx:NodesAt w ad xs) :
  Calls Tryz.prog 128 #[.slice ad xs.length cap,.func (.func 37) #[] #[]] w fun e w'=>e = .returned (.map (some w.heap.size))∧MapAt w' w.heap.size xs.length (tabF (·.name) nodeV xs)∧Below w.heap.size w w':=by
 have hmm:=@run_makeMap Tryz.prog
 have HX:=Lib.hid hx
 have HW:=Lib.hid hw
 clear hx hw
 go_enter Tryz.func128,Tryz.ntmps128
 go_wp2
 clear hmm
 go_loopw [11] (fun iv wr=>∃(i:Nat),iv = .int .i64 (i:Int)∧i≤xs.length∧Below w.heap.size w wr∧MapAt wr w.heap.size i (tabF (·.name) nodeV (xs.take i))) (fun iv _=>xs.length - (intOf iv).toNat)
 case atStart=>exact⟨0,rfl,Nat.zero_le _,below_one _ _,mapAt_ext (mapAt_made w) (fun s=>rfl)⟩
 case round =>
  obtain⟨i,rfl,hi,hbr,hM⟩:=hrel
  by_cases h:(i:Int)<(xs.length:Int)
  ·have hil:i<xs.length:=by omega
   obtain⟨a,rfl,hal,k0,k1,k2⟩:=nodesAt_next HX.out hbr i hil
   obtain⟨x,hxi⟩:∃x,xs[i]=x:=⟨_,rfl⟩
   rw[hxi] at k0 k1 k2
   have hwx:x.name.size≤maxLen:=HW.out x (by rw[←hxi];exact List.getElem_mem _)
   have Hxi:=Lib.hid hxi
   have bA:=below_one wr (.cells #[.string x.name,.int .i64 x.room,.string x.zone] 40)
   have oB:=objAt_new wr #[.string x.name,.int .i64 x.room,.string x.zone] 40
   have M0:=Lib.hid (mapAt_below hM bA)
   have BR:=Lib.hid (below_trans hbr bA hbr.size)
   have OB:=Lib.hid oB
   have hbs:=hbr.size
   have c0:=objAt_cell oB 0 rfl
   have c1:=objAt_cell oB 1 rfl
   have c2:=objAt_cell oB 2 rfl
   have cl:=objAt_lt oB
   clear hxi oB bA hM
   go_upto_region 5 with fail
   go_region_law (first
    | (go_simp;go_at_call 37;refine(nodeKey_is x _).mono ?_;rintro e w1 ⟨rfl,b1'⟩;have b1:=below_drawn b1';have B1:=Lib.hid (below_trans BR.out b1 BR.out.size);have O1:=objAt_next OB.out b1;have M1:=mapAt_below M0.out b1;have d0:=objAt_cell O1 0 rfl;have d1:=objAt_cell O1 1 rfl;have d2:=objAt_cell O1 2 rfl;have dl:=objAt_lt O1;obtain⟨w2,hrun,M2',hg2'⟩:=put_run Tryz.underlying82 M1 (by unfold maxLen;omega) x.name hwx (.agg #[.string x.name,.int .i64 x.room,.string x.zone]);have M2:=Lib.hid M2';have hg2:=Lib.hid hg2';clear O1 M2' hg2'))
   all_goals
    have hb2:=grownB_below B1.out hg2.out B1.out.size (Nat.le_refl _)
    have M3:MapAt w2 w.heap.size (i+1) (tabF (·.name) nodeV (xs.take (i+1))):=mapAt_ext M2.out (fun s=>by have:=tabF_step (·.name) nodeV xs i hil s;rw[Hxi.out] at this;exact this)
    clear M2 hg2 M1 B1 M0 BR OB hrun
    go_wp2
    go_roundw
    case rel=>exact⟨i+1,by simp,by omega,hb2,M3⟩
    case measure=>simp[intOf];omega
  ·obtain rfl:i=xs.length:=by omega
   rw[List.take_length] at hM
   go_wp2
   go_ret
   exact⟨rfl,hM,hbr⟩
theorem byKeyLease_is (xs:List LeaseD) (ad:Option Addr) (cap:Nat) (hlen:xs.length≤40) (hw:∀x∈xs,x.job.size≤maxLen) (w:World) (hx:LeasesAt w ad xs) :
  Calls Tryz.prog 130 #[.slice ad xs.length cap,.func (.func 41) #[] #[]] w fun e w'=>e = .returned (.map (some w.heap.size))∧MapAt w' w.heap.size xs.length (tabF (·.job) leaseV xs)∧Below w.heap.size w w':=by
 have hmm:=@run_makeMap Tryz.prog
 have HX:=Lib.hid hx
 have HW:=Lib.hid hw
 clear hx hw
 go_enter Tryz.func130,Tryz.ntmps130
 go_wp2
 clear hmm
 go_loopw [11] (fun iv wr=>∃(i:Nat),iv = .int .i64 (i:Int)∧i≤xs.length∧Below w.heap.size w wr∧MapAt wr w.heap.size i (tabF (·.job) leaseV (xs.take i))) (fun iv _=>xs.length - (intOf iv).toNat)
 case atStart=>exact⟨0,rfl,Nat.zero_le _,below_one _ _,mapAt_ext (mapAt_made w) (fun s=>rfl)⟩
 case round =>
  obtain⟨i,rfl,hi,hbr,hM⟩:=hrel
  by_cases h:(i:Int)<(xs.length:Int)
  ·have hil:i<xs.length:=by omega
   obtain⟨a,rfl,hal,k0,k1,k2⟩:=leasesAt_next HX.out hbr i hil
   obtain⟨x,hxi⟩:∃x,xs[i]=x:=⟨_,rfl⟩
   rw[hxi] at k0 k1 k2
   have hwx:x.job.size≤maxLen:=HW.out x (by rw[←hxi];exact List.getElem_mem _)
   have Hxi:=Lib.hid hxi
   have bA:=below_one wr (.cells #[.string x.job,.string x.node,.int .i64 x.til] 42)
   have oB:=objAt_new wr #[.string x.job,.string x.node,.int .i64 x.til] 42
   have M0:=Lib.hid (mapAt_below hM bA)
   have BR:=Lib.hid (below_trans hbr bA hbr.size)
   have OB:=Lib.hid oB
   have hbs:=hbr.size
   have c0:=objAt_cell oB 0 rfl
   have c1:=objAt_cell oB 1 rfl
   have c2:=objAt_cell oB 2 rfl
   have cl:=objAt_lt oB
   clear hxi oB bA hM
   go_upto_region 5 with fail
   go_region_law (first
    | (go_simp;go_at_call 41;refine(leaseKey_is x _).mono ?_;rintro e w1 ⟨rfl,b1'⟩;have b1:=below_drawn b1';have B1:=Lib.hid (below_trans BR.out b1 BR.out.size);have O1:=objAt_next OB.out b1;have M1:=mapAt_below M0.out b1;have d0:=objAt_cell O1 0 rfl;have d1:=objAt_cell O1 1 rfl;have d2:=objAt_cell O1 2 rfl;have dl:=objAt_lt O1;obtain⟨w2,hrun,M2',hg2'⟩:=put_run Tryz.underlying177 M1 (by unfold maxLen;omega) x.job hwx (.agg #[.string x.job,.string x.node,.int .i64 x.til]);have M2:=Lib.hid M2';have hg2:=Lib.hid hg2';clear O1 M2' hg2'))
   all_goals
    have hb2:=grownB_below B1.out hg2.out B1.out.size (Nat.le_refl _)
    have M3:MapAt w2 w.heap.size (i+1) (tabF (·.job) leaseV (xs.take (i+1))):=mapAt_ext M2.out (fun s=>by have:=tabF_step (·.job) leaseV xs i hil s;rw[Hxi.out] at this;exact this)
    clear M2 hg2 M1 B1 M0 BR OB hrun
    go_wp2
    go_roundw
    case rel=>exact⟨i+1,by simp,by omega,hb2,M3⟩
    case measure=>simp[intOf];omega
  ·obtain rfl:i=xs.length:=by omega
   rw[List.take_length] at hM
   go_wp2
   go_ret
   exact⟨rfl,hM,hbr⟩
end Go.Proofs.YtiekgafopalfmaaGreatDoor
namespace Go.Proofs.YtiekgafopalfmaaGreatDoor
open Go.RowKit
def zeroL:LeaseD:=⟨⟨#[]⟩,⟨#[]⟩,0⟩
theorem zeroLease (w:World):(zeroValue 42).run Tryz.prog w = .ok (leaseV zeroL) w:=by kernel_rfl
theorem tabF_pick {α:Type} (key:α→ByteArray) (V:α→Value) (l:List α) (s:ByteArray) (z:α):∃y,(tabF key V l s).getD (V z)=V y:=by
 unfold tabF
 cases lastD key l s with
 | none=>exact⟨z,rfl⟩
 | some y=>exact⟨y,rfl⟩
end Go.Proofs.YtiekgafopalfmaaGreatDoor
namespace Go.Proofs.YtiekgafopalfmaaGreatDoor
open Go.RowKit
end Go.Proofs.YtiekgafopalfmaaGreatDoor
namespace Go.Proofs.YtiekgafopalfmaaGreatDoor
open Go.RowKit
theorem checkLeaseC_is (x:LeaseD) (w:World) (hT:Tabs w):Calls Tryz.prog 228 #[.agg #[.string x.job,.string x.node,.int .i64 x.til]] w fun e w'=>e = .returned (.int .i64 (leaseCE V8 x:Nat))∧Below w.heap.size w w':=by
 have bW:=below_one w (.cells #[.string x.job,.string x.node,.int .i64 x.til] 42)
 have oB:=objAt_new w #[.string x.job,.string x.node,.int .i64 x.til] 42
 have H1:=Lib.hid (isName_is x.job _ (hT.below bW))
 have HN:=Lib.hid (isName_is x.node)
 have HT:=Lib.hid (hT.below bW)
 obtain⟨c1,h1⟩:∃c,isName V8 x.job=c:=⟨_,rfl⟩
 obtain⟨c2,h2⟩:∃c,isName V8 x.node=c:=⟨_,rfl⟩
 obtain⟨d0,g0⟩:∃d,inR x.til 0 1099511627776=d:=⟨_,rfl⟩
 have G0:=Lib.hid (checkUntil_is x d0 g0)
 have HE:Hid (leaseCE V8 x=if (c1&&c2)=true then(if d0=true then 0 else 1) else 4):=by show _=_;rw[leaseCE,h1,h2,g0]
 obtain⟨R,hR⟩:∃R,leaseCE V8 x=R:=⟨_,rfl⟩
 rw[hR] at HE⊢
 rw[h1] at H1
 rw[h2] at HN
 have BW:=Lib.hid bW
 have OB:=Lib.hid oB
 have q0:=objAt_cell oB 0 rfl
 have q1:=objAt_cell oB 1 rfl
 have q2:=objAt_cell oB 2 rfl
 clear hT h1 h2 hR g0 bW oB
 cases c1 with
 | false =>
  go_enter Tryz.func228,Tryz.ntmps228
  go_wp2_with fail
  refine H1.out.mono ?_
  rintro e w1 ⟨rfl,b1⟩
  go_wp2
  go_ret
  exact⟨by rw[HE.out];rfl,below_trans BW.out b1 BW.out.size⟩
 | true =>
  go_enter Tryz.func228,Tryz.ntmps228
  go_wp2_with fail
  refine H1.out.mono ?_
  rintro e w1 ⟨rfl,b1⟩
  have O1:=objAt_next OB.out b1
  have HN1:=Lib.hid (HN.out w1 (HT.out.below b1))
  have B1:=Lib.hid (below_trans BW.out b1 BW.out.size)
  have r0:=objAt_cell O1 0 rfl
  have r1:=objAt_cell O1 1 rfl
  have r2:=objAt_cell O1 2 rfl
  have OO1:=Lib.hid O1
  clear O1 b1 q0 q1 q2
  go_wp2_with fail
  refine HN1.out.mono ?_
  rintro e w2 ⟨rfl,b2⟩
  have O2:=objAt_next OO1.out b2
  have B2:=Lib.hid (below_trans B1.out b2 B1.out.size)
  have s0:=objAt_cell O2 0 rfl
  have s1:=objAt_cell O2 1 rfl
  have s2:=objAt_cell O2 2 rfl
  clear O2 b2 r0 r1 r2 OO1
  cases c2 with
  | false =>
   go_wp2
   go_ret
   exact⟨by rw[HE.out];rfl,B2.out⟩
  | true =>
   go_wp2_with fail
   refine(G0.out w2).mono ?_
   rintro e w3 ⟨rfl,b3⟩
   have B3:=Lib.hid (below_trans B2.out b3 B2.out.size)
   clear b3
   cases d0 with
   | false =>
    simp only[Bool.false_eq_true,if_false]
    go_wp2
    go_ret
    exact⟨by rw[HE.out];rfl,B3.out⟩
   | true =>
    simp only[if_true]
    go_wp2
    go_ret
    exact⟨by rw[HE.out];rfl,B3.out⟩
end Go.Proofs.YtiekgafopalfmaaGreatDoor
namespace Go.Proofs.YtiekgafopalfmaaGreatDoor
open Go.RowKit
end Go.Proofs.YtiekgafopalfmaaGreatDoor
