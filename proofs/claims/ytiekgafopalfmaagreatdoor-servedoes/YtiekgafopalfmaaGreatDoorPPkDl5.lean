import Derived.Test.YtiekgafopalfmaaGreatDoorPPkDl4
import Derived.Test.YtiekgafopalfmaaGreatDoorPPkDl2
import Derived.Test.YtiekgafopalfmaaGreatDoorPPkWi5
import Derived.Deep.CutRange
import Derived.Maps.AppendAt
import Derived.Test.YtiekgafopalfmaaGreatDoorPPkUp4
import Derived.Test.YtiekgafopalfmaaGreatDoorPPkDl3
set_option maxRecDepth 100000
set_option maxHeartbeats 8000000
namespace Go.Proofs.YtiekgafopalfmaaGreatDoor
open Go.RowKit
theorem own_nlow {w:World}{B e sz n b:Nat}{v:Value}{xs:List Value} (h:w.ownsRow B e sz v n xs) (hb:b<B):some b≠v.ownBlock:=fun he=>by have:=(h.lt b he.symm).1;omega
theorem own_nnew {w:World}{B e sz n b:Nat}{v:Value}{xs:List Value} (h:w.ownsRow B e sz v n xs) (hb:w.heap.size≤b):some b≠v.ownBlock:=fun he=>by have:=(h.lt b he.symm).2;omega
theorem objAt_grown {b:Nat}{vs:Array Value}{t:TypeId}{w w':World}{row:Option Nat} (h:ObjAt b vs t w) (hg:w.grownBy w' row) (hne:some b≠row):ObjAt b vs t w':=by
 have hl:=objAt_lt h
 unfold ObjAt at h⊢
 rw[hg.block b hl hne]
 exact h
section
variable {α : Type} {key : α → ByteArray} {V : α → Value}
def leftL (key:α→ByteArray) (a b:List α) (i:Nat):List α:=lessN key a (b.map key) i
theorem left_zero (a b:List α):leftL key a b 0=a:=lessN_zero a _
theorem left_asc {a:List α} (h:Asc key a) (b:List α) (i:Nat):Asc key (leftL key a b i):=lessN_asc h _ i
theorem left_step {a b:List α}{i:Nat} (hi:i<b.length):dropL key (key b[i]) (leftL key a b i)=leftL key a b (i+1):=by
 have:=lessN_step (key:=key) (l:=a) (b.map key) i (by simpa using hi)
 rw[List.getElem_map] at this
 exact this
theorem left_end (a b:List α):(leftL key a b b.length).map key=goneL key a b:=by
 have h:=lessN_end (key:=key) a (b.map key)
 rw[List.length_map] at h
 unfold leftL
 rw[h]
 unfold lessL goneL
 congr 2
 funext x
 simp only[List.mem_map,not_exists,not_and]
theorem left_look {a b:List α} (ha:Asc key a) (hb:Asc key b){i:Nat} (hi:i<b.length) :
  (∃y∈a,key y=key b[i]∧tabF key V (leftL key a b i) (key b[i])=some (V y))∨((∀y∈a,key y≠key b[i])∧tabF key V (leftL key a b i) (key b[i])=none):=by
 by_cases h:∃y∈a,key y=key b[i]
 ·obtain⟨y,hy,e⟩:=h
  left
  refine⟨y,hy,e,?_⟩
  rw[←e]
  refine tabF_some (left_asc ha b i) ((lessN_mem a _ i y).2 ⟨hy,?_⟩)
  rw[e,←List.map_take]
  intro hm
  obtain⟨z,hz,ez⟩:=List.mem_map.1 hm
  obtain⟨j,hj,rfl⟩:=List.mem_take_iff_getElem.1 hz
  have hlt:=List.pairwise_iff_getElem.1 hb j i (by omega) hi (by omega)
  exact lt_ne hlt ez
 ·right
  have h':∀y∈a,key y≠key b[i]:=fun y hy e=>h ⟨y,hy,e⟩
  refine⟨h',tabF_none (left_asc ha b i) _ (fun x hx=>h' x ((lessN_mem a _ i x).1 hx).1)⟩
open Classical in
theorem new_take (a b:List α){i:Nat} (hi:i<b.length):newL a (b.take (i+1))=newL a (b.take i)++(if b[i]∈a then [] else [b[i]]):=by
 unfold newL
 rw[List.take_succ_eq_append_getElem hi,List.filter_append]
 by_cases h:b[i]∈a <;> simp[h]
theorem new_in {a b:List α}{i:Nat} (hi:i<b.length) (h:b[i]∈a):newL a (b.take (i+1))=newL a (b.take i):=by rw[new_take a b hi,if_pos h,List.append_nil]
theorem new_out {a b:List α}{i:Nat} (hi:i<b.length) (h:b[i]∉a):newL a (b.take (i+1))=newL a (b.take i) ++ [b[i]]:=by rw[new_take a b hi,if_neg h]
theorem new_count (a b:List α) (i:Nat):(newL a (b.take i)).length≤b.length:=Nat.le_trans (List.length_filter_le _ _) (by rw[List.length_take];omega)
end
theorem info_str:(Tryz.prog.info? 9).map (fun i=>(i.zero,i.size,i.bytes))=some (some (.string ⟨#[]⟩),1,16):=by kernel_rfl
theorem jobV_inj {x y:JobD} (h:(some (jobV x)).getD (jobV zeroJ)=jobV y):x=y:=by
 cases x;cases y
 simp[jobV] at h
 simp only[JobD.mk.injEq]
 exact h
theorem nodeV_inj {x y:NodeD} (h:(some (nodeV x)).getD (nodeV zeroN)=nodeV y):x=y:=by
 cases x;cases y
 simp[nodeV] at h
 simp only[NodeD.mk.injEq]
 exact h
theorem leaseV_inj {x y:LeaseD} (h:(some (leaseV x)).getD (leaseV zeroL)=leaseV y):x=y:=by
 cases x;cases y
 simp[leaseV] at h
 simp only[LeaseD.mk.injEq]
 exact h
theorem compareJob_is (us rs:List JobD) (aa ab:Option Addr) (ca cb:Nat) (ha:Asc (·.name) us) (hb:Asc (·.name) rs) (hla:us.length≤40) (hlb:rs.length≤40) (hwa:∀x∈us,x.name.size≤maxLen) (hwb:∀x∈rs,x.name.size≤maxLen) (w:World) (hxa:JobsAt w aa us) (hxb:JobsAt w ab rs) :
  Calls Tryz.prog 110 #[.slice aa us.length ca,.slice ab rs.length cb,.func (.func 34) #[] #[]] w fun e w'=>∃ad cap gd gc,e = .returned (.tuple #[.slice ad (newL us rs).length cap,.slice gd (goneL (·.name) us rs).length gc]) ∧
   w'.ownsRow w.heap.size 38 5 (.slice ad (newL us rs).length cap) (newL us rs).length (cJobs (newL us rs))∧w'.ownsRow w.heap.size 9 1 (.slice gd (goneL (·.name) us rs).length gc) (goneL (·.name) us rs).length (cNms (goneL (·.name) us rs))∧Below w.heap.size w w':=by
 obtain⟨i0,qi,qz0,qz1,qz2⟩:=info_parts' Tryz.info_job
 obtain⟨i1,ri,rz0,rz1,rz2⟩:=info_parts' info_str
 have Hi:=Lib.hid qi
 have Hz0:=Lib.hid qz0
 have Hz1:=Lib.hid qz1
 have Hz2:=Lib.hid qz2
 have Gi:=Lib.hid ri
 have Gz0:=Lib.hid rz0
 have Gz1:=Lib.hid rz1
 have Gz2:=Lib.hid rz2
 have HBK:=Lib.hid (byKeyJob_is us aa ca hla hwa w hxa)
 have HX:=Lib.hid hxb
 have HA:=Lib.hid ha
 have HB:=Lib.hid hb
 have HWB:=Lib.hid hwb
 clear qi qz0 qz1 qz2 ri rz0 rz1 rz2 hxa hxb ha hb hwa hwb
 go_enter Tryz.func110,Tryz.ntmps110
 go_wp2_with fail
 refine HBK.out.mono ?_
 rintro e w0 ⟨rfl,M0,b0⟩
 have MM:=Lib.hid M0
 have BB:=Lib.hid b0
 clear M0 b0 HBK
 go_wp2
 go_loopw [9,22] (fun pv iv wr=>∃(i:Nat),iv = .int .i64 (i:Int)∧i≤rs.length∧wr.ownsRow (w.heap.size+1) 38 5 pv (newL us (rs.take i)).length (cJobs (newL us (rs.take i)))∧MapAt wr w.heap.size us.length (tabF (·.name) jobV (leftL (·.name) us rs i))∧Below w.heap.size w wr) (fun _ iv _=>rs.length - (intOf iv).toNat)
 case atStart=>exact⟨0,rfl,Nat.zero_le _,by exact World.ownsRow_nil _ _ _ _,mapAt_ext MM.out (fun s=>by rw[left_zero]),BB.out⟩
 case round =>
  clear MM BB
  obtain⟨i,rfl,hi,hown,hM,hbr⟩:=hrel
  obtain⟨pad,pcap,rfl⟩:=ownRow_slice hown
  have hbs:=hbr.size
  by_cases h:(i:Int)<(rs.length:Int)
  ·have hil:i<rs.length:=by omega
   obtain⟨a,rfl,hal,k0,k1,k2,k3,k4⟩:=jobsAt_next HX.out hbr i hil
   obtain⟨x,hxi⟩:∃x,rs[i]=x:=⟨_,rfl⟩
   rw[hxi] at k0 k1 k2 k3 k4
   have hwx:x.name.size≤maxLen:=HWB.out x (by rw[←hxi];exact List.getElem_mem _)
   have hcnt:=new_count us rs i
   have Hxi:=Lib.hid hxi
   have bA:=below_one wr (.cells #[.string x.name,.int .i64 x.prio,.int .i64 x.need,.int .i64 x.tries,.string x.tag] 38)
   have oA:=objAt_new wr #[.string x.name,.int .i64 x.prio,.int .i64 x.need,.int .i64 x.tries,.string x.tag] 38
   have HK:=Lib.hid (jobKey_is x (wr.alloc (.cells #[.string x.name,.int .i64 x.prio,.int .i64 x.need,.int .i64 x.tries,.string x.tag] 38)))
   have MA:=Lib.hid (mapAt_below hM bA)
   have RA:=Lib.hid (own_next hown bA)
   have BA:=Lib.hid (below_trans hbr bA hbr.size)
   have OA:=Lib.hid oA
   have hnr:=Lib.hid (own_nnew hown (Nat.le_refl _))
   have c0:=objAt_cell oA 0 rfl
   have c1:=objAt_cell oA 1 rfl
   have c2:=objAt_cell oA 2 rfl
   have c3:=objAt_cell oA 3 rfl
   have c4:=objAt_cell oA 4 rfl
   have cl:=objAt_lt oA
   have hlook:=left_look (V:=jobV) HA.out HB.out hil
   obtain⟨y,hy⟩:=tabF_pick (·.name) jobV (leftL (·.name) us rs i) x.name zeroJ
   obtain⟨d,hd⟩:∃d,(tabF (·.name) jobV (leftL (·.name) us rs i) x.name).isSome=d:=⟨_,rfl⟩
   have hfact:(d=true→y∈us∧y.name=x.name)∧(d=false→x∉us):=by
    rw[hxi] at hlook
    rcases hlook with ⟨z,hz1,hz2,hz3⟩ | ⟨hz1,hz3⟩
    ·rw[hz3] at hd hy
     have ezy:z=y:=jobV_inj hy
     subst ezy
     exact⟨fun _=>⟨hz1,hz2⟩,fun e=>(by rw[e] at hd;cases hd)⟩
    ·rw[hz3] at hd
     exact⟨fun e=>(by rw[e] at hd;cases hd),fun _ hx=>hz1 x hx rfl⟩
   have HF:=Lib.hid hfact
   have Y1:=Lib.hid hd
   have Z1:Hid ((tabF (·.name) jobV (leftL (·.name) us rs i) x.name).getD (jobV zeroJ) = .agg #[.string y.name,.int .i64 y.prio,.int .i64 y.need,.int .i64 y.tries,.string y.tag]):=hy
   clear hxi bA oA hM hown hal hlook hfact hd hy
   go_wp2_with fail
   refine HK.out.mono ?_
   rintro e w1 ⟨rfl,b1⟩
   have M1:=mapAt_below MA.out b1
   have R1:=own_next RA.out b1
   have O1:=objAt_next OA.out b1
   have B1:=below_trans BA.out b1 BA.out.size
   have hs1:wr.heap.size<w1.heap.size:=objAt_lt O1
   clear HK MA RA OA BA b1 k0 k1 k2 k3 k4 c0 c1 c2 c3 c4 cl
   have b2:=below_one w1 (.cells #[.string y.name,.int .i64 y.prio,.int .i64 y.need,.int .i64 y.tries,.string y.tag] 38)
   have P2:=objAt_new w1 #[.string y.name,.int .i64 y.prio,.int .i64 y.need,.int .i64 y.tries,.string y.tag] 38
   have O2:=objAt_next O1 b2
   have d0:=objAt_cell O2 0 rfl
   have d1:=objAt_cell O2 1 rfl
   have d2:=objAt_cell O2 2 rfl
   have d3:=objAt_cell O2 3 rfl
   have d4:=objAt_cell O2 4 rfl
   have p0:=objAt_cell P2 0 rfl
   have p1:=objAt_cell P2 1 rfl
   have p2:=objAt_cell P2 2 rfl
   have p3:=objAt_cell P2 3 rfl
   have p4:=objAt_cell P2 4 rfl
   have dl:=objAt_lt O2
   have pl:=objAt_lt P2
   have O3:=O2
   have M3:=mapAt_below M1 b2
   have R3:=own_next R1 b2
   have B3:=below_trans B1 b2 B1.size
   have S3:=Lib.hid (And.intro O3 (And.intro M3 (And.intro R3 B3)))
   obtain⟨c,hc⟩:∃c:Bool,(c=true↔(d=false∨¬y=x)):=by
    classical
    exact⟨decide (d=false∨¬y=x),by simp⟩
   have Hc:=Lib.hid hc
   clear b2 P2 O2 O1 R1 B1 O3 M3 R3 B3 hc
   go_upto_region 7 with (at_lookup;refine wpList_look_ok _ rfl _ _ 81 rfl 38 Tryz.underlying81 (zeroJob _) _ _ _ rfl M1 x.name rfl hwx _ _ Z1.out Y1.out ?_)
   clear M1
   go_cut [22,40] from 22 to 49 (fun iv cv wc=>iv = .int .i64 (i:Int)∧cv = .bool c∧wc=w1.alloc (.cells #[.string y.name,.int .i64 y.prio,.int .i64 y.need,.int .i64 y.tries,.string y.tag] 38))
   case first =>
    clear S3 HF Y1 Z1 Hxi hnr
    cases d with
    | false =>
     have e:c=true:=Hc.out.2 (.inl rfl)
     subst e
     go_wp2
     go_meet
     case rel=>exact⟨rfl,rfl,rfl⟩
    | true =>
     by_cases hxy:y=x
     ·subst hxy
      have e:c=false:=by
       cases c with
       | false=>rfl
       | true =>
        rcases Hc.out.1 rfl with h | h
        ·cases h
        ·exact absurd rfl h
      subst e
      have g0:=lists_eq y.name
      have g4:=lists_eq y.tag
      go_wp2
      go_meet
      case rel=>exact⟨rfl,rfl,rfl⟩
     ·have e:c=true:=Hc.out.2 (.inr hxy)
      subst e
      have hf:=firstJob hxy
      clear hxy Hc
      cases x with | mk x_0 x_1 x_2 x_3 x_4 =>
      cases y with | mk y_0 y_1 y_2 y_3 y_4 =>
      simp only at hf d0 d1 d2 d3 d4 p0 p1 p2 p3 p4
      rcases hf with hf | ⟨rfl,hf⟩ | ⟨rfl,rfl,hf⟩ | ⟨rfl,rfl,rfl,hf⟩ | ⟨rfl,rfl,rfl,rfl,hf⟩
      all_goals
       have g0:=lists_eq y_0
       have g4:=lists_eq y_4
       go_wp2
       go_meet
       case rel=>exact⟨rfl,rfl,rfl⟩
   case rest =>
    obtain⟨rfl,rfl,rfl⟩:=hcut
    obtain⟨O3,M3,R3,B3⟩:=S3.out
    clear S3 p0 p1 p2 p3 p4 pl Y1 Z1
    cases c with
    | false =>
     have hin:x∈us:=by
      cases d with
      | false=>have:=Hc.out.2 (.inl rfl);cases this
      | true =>
       have e:y=x:=Classical.byContradiction fun hne=>by have:=Hc.out.2 (.inr hne);cases this
       rw[←e]
       exact(HF.out.1 rfl).1
     have HE:=Lib.hid (new_in hil (show rs[i]∈us by rw[Hxi.out];exact hin))
     clear hin HF Hc d0 d1 d2 d3 d4 dl
     have z_0:=objAt_cell O3 0 rfl
     have z_1:=objAt_cell O3 1 rfl
     have z_2:=objAt_cell O3 2 rfl
     have z_3:=objAt_cell O3 3 rfl
     have z_4:=objAt_cell O3 4 rfl
     have zl:=objAt_lt O3
     have HK2:=Lib.hid (jobKey_is x (w1.alloc (.cells #[.string y.name,.int .i64 y.prio,.int .i64 y.need,.int .i64 y.tries,.string y.tag] 38)))
     have MM3:=Lib.hid M3
     have RR3:=Lib.hid R3
     have BB3:=Lib.hid B3
     clear O3 M3 R3 B3
     go_wp2_with fail
     refine HK2.out.mono ?_
     rintro e w4 ⟨rfl,b4⟩
     have M4:=mapAt_below MM3.out b4
     have R4:=own_next RR3.out b4
     have B4:=below_trans BB3.out b4 BB3.out.size
     clear HK2 b4 MM3 RR3 BB3 z_0 z_1 z_2 z_3 z_4 zl
     go_wp2_with (at_delete;refine wpList_del _ rfl _ _ 81 rfl 38 Tryz.underlying81 _ _ _ rfl M4 x.name rfl hwx ?_)
     intro w5 M5 hg5
     have R5:=R4.kept hg5 (.inr (own_nlow R4 (Nat.lt_succ_self _)).symm)
     have B5:=grownB_below B4 hg5 B4.size (Nat.le_refl _)
     have M6:MapAt w5 w.heap.size us.length (tabF (·.name) jobV (leftL (·.name) us rs (i+1))):=mapAt_ext M5 (fun s=>by rw[tabF_drop (left_asc HA.out rs i)];have hst:=left_step (key:=(·.name)) (a:=us) hil;rw[Hxi.out] at hst;rw[hst])
     clear M5 hg5 M4 R4 B4
     go_wp2
     go_roundw
     case rel=>exact⟨i+1,by simp,by omega,by rw[HE.out];exact R5,M6,B5⟩
     case measure=>simp[intOf];omega
    | true =>
     have hout:x∉us:=by
      cases d with
      | false=>exact HF.out.2 rfl
      | true =>
       rcases Hc.out.1 rfl with e | e
       ·cases e
       ·exact fun hx=>e (asc_one HA.out (HF.out.1 rfl).1 hx (HF.out.1 rfl).2)
     have HE:=new_out hil (show rs[i]∉us by rw[Hxi.out];exact hout)
     rw[Hxi.out] at HE
     have HE:=Lib.hid HE
     obtain⟨W3,hW3⟩:∃W3,w1.alloc (.cells #[.string y.name,.int .i64 y.prio,.int .i64 y.need,.int .i64 y.tries,.string y.tag] 38)=W3:=⟨_,rfl⟩
     rw[hW3] at O3 M3 R3 B3 d0 d1 d2 d3 d4 dl⊢
     have hsW:=B3.size
     have OO:=Lib.hid O3
     have MM:=Lib.hid M3
     have RR:=Lib.hid R3
     have BB:=Lib.hid B3
     clear hout HF Hc hW3 O3 M3 R3 B3
     go_wp2_with (at_builtin;refine wpList_append_own _ rfl _ _ 22 rfl (w.heap.size+1) 38 i0 _ 5 56 Tryz.underlying22 Hi.out Hz0.out Hz1.out Hz2.out rfl (by decide) _ _ _ rfl (RR.out.alloc _) ⟨W3.heap.size,0,none⟩ 1 1 (cJob x) rfl rfl ?c1 ?c2 ?c3 ?c4 ?c5 ?_)
     case c1=>exact job_new W3 x _
     case c2=>exact job_ones x
     case c3=>unfold maxLen;omega
     case c4=>omega
     case c5=>simp;omega
     intro v3 w3 own3 hg3 _
     have M3:=mapAt_kept (mapAt_alloc MM.out _) hg3 (own_nlow RR.out (Nat.lt_succ_self _))
     have O3:=objAt_grown (objAt_next OO.out (below_one _ _)) hg3 hnr.out
     have B3:=(BB.out.alloc BB.out.size _).grown hg3 (by simp;omega) (fun k hk=>by have:=(RR.out.lt k hk).1;omega)
     rw[←cJobs_one,←cJobs_append] at own3
     obtain⟨pd3,pc3,rfl⟩:=ownRow_slice own3
     have R3:=own3
     clear own3 hg3 OO MM RR BB d0 d1 d2 d3 d4 dl hsW
     have z_0:=objAt_cell O3 0 rfl
     have z_1:=objAt_cell O3 1 rfl
     have z_2:=objAt_cell O3 2 rfl
     have z_3:=objAt_cell O3 3 rfl
     have z_4:=objAt_cell O3 4 rfl
     have zl:=objAt_lt O3
     have HK2:=Lib.hid (jobKey_is x w3)
     have MM3:=Lib.hid M3
     have RR3:=Lib.hid R3
     have BB3:=Lib.hid B3
     clear O3 M3 R3 B3
     go_wp2_with fail
     refine HK2.out.mono ?_
     rintro e w4 ⟨rfl,b4⟩
     have M4:=mapAt_below MM3.out b4
     have R4:=own_next RR3.out b4
     have B4:=below_trans BB3.out b4 BB3.out.size
     clear HK2 b4 MM3 RR3 BB3 z_0 z_1 z_2 z_3 z_4 zl
     go_wp2_with (at_delete;refine wpList_del _ rfl _ _ 81 rfl 38 Tryz.underlying81 _ _ _ rfl M4 x.name rfl hwx ?_)
     intro w5 M5 hg5
     have R5:=R4.kept hg5 (.inr (own_nlow R4 (Nat.lt_succ_self _)).symm)
     have B5:=grownB_below B4 hg5 B4.size (Nat.le_refl _)
     have M6:MapAt w5 w.heap.size us.length (tabF (·.name) jobV (leftL (·.name) us rs (i+1))):=mapAt_ext M5 (fun s=>by rw[tabF_drop (left_asc HA.out rs i)];have hst:=left_step (key:=(·.name)) (a:=us) hil;rw[Hxi.out] at hst;rw[hst])
     clear M5 hg5 M4 R4 B4
     go_wp2
     go_roundw
     case rel=>exact⟨i+1,by simp,by omega,by rw[HE.out];rw[List.length_append];exact R5,M6,B5⟩
     case measure=>simp[intOf];omega
  ·obtain rfl:i=rs.length:=by omega
   rw[List.take_length] at hown
   have hlen:=lessN_size (key:=(·.name)) (l:=us) (rs.map (·.name)) rs.length
   obtain⟨L,hL⟩:∃L,leftL (·.name) us rs rs.length=L:=⟨_,rfl⟩
   have HLA:=left_asc HA.out rs rs.length
   have HGL:=left_end (key:=(·.name)) us rs
   change (leftL (·.name) us rs rs.length).length≤us.length at hlen
   rw[hL] at hM HLA HGL hlen
   have HI:=Lib.hid (inoJob_is w.heap.size us.length L HLA (by omega) (by omega) wr hM)
   have HR:=Lib.hid hown
   have HBR:=Lib.hid hbr
   have HG:=Lib.hid HGL
   clear hM HLA HGL hL hown
   go_wp2_with fail
   refine HI.out.mono ?_
   rintro e w3 ⟨ld,lc,rfl,own3,b3⟩
   have hL3:=Lib.hid (ownJobs own3 rfl)
   have B3:=Lib.hid (below_trans HBR.out b3 HBR.out.size)
   have R3:=Lib.hid (own_next HR.out b3)
   have hs3:=b3.size
   clear HI HR HBR own3 b3
   go_wp2
   go_loopw [14,54] (fun pv iv wr=>∃(j:Nat),iv = .int .i64 (j:Int)∧j≤L.length∧wr.ownsRow w3.heap.size 9 1 pv j (cNms ((L.take j).map (·.name)))∧Below w3.heap.size w3 wr) (fun _ iv _=>L.length - (intOf iv).toNat)
   case atStart=>exact⟨0,rfl,Nat.zero_le _,World.ownsRow_nil _ _ _ _,Below.refl _ _⟩
   case round =>
    obtain⟨j,rfl,hj,hown,hb3⟩:=hrel
    obtain⟨gad,gcp,rfl⟩:=ownRow_slice hown
    have hbs3:=hb3.size
    by_cases h2:(j:Int)<(L.length:Int)
    ·have hjl:j<L.length:=by omega
     obtain⟨a,rfl,hal,k0,k1,k2,k3,k4⟩:=jobsAt_next hL3.out hb3 j hjl
     obtain⟨x,hxi⟩:∃x,L[j]=x:=⟨_,rfl⟩
     rw[hxi] at k0 k1 k2 k3 k4
     have Hxi:=Lib.hid hxi
     have HT:=List.take_succ_eq_append_getElem hjl
     rw[hxi] at HT
     have HT:=Lib.hid HT
     rename World=>wq
     have bA:=below_one wq (.cells #[.string x.name,.int .i64 x.prio,.int .i64 x.need,.int .i64 x.tries,.string x.tag] 38)
     have oA:=objAt_new wq #[.string x.name,.int .i64 x.prio,.int .i64 x.need,.int .i64 x.tries,.string x.tag] 38
     have HK:=Lib.hid (jobKey_is x (wq.alloc (.cells #[.string x.name,.int .i64 x.prio,.int .i64 x.need,.int .i64 x.tries,.string x.tag] 38)))
     have RA:=Lib.hid (own_next hown bA)
     have BA:=Lib.hid (below_trans hb3 bA hb3.size)
     have c0:=objAt_cell oA 0 rfl
     have c1:=objAt_cell oA 1 rfl
     have c2:=objAt_cell oA 2 rfl
     have c3:=objAt_cell oA 3 rfl
     have c4:=objAt_cell oA 4 rfl
     have cl:=objAt_lt oA
     clear hxi bA oA hown hal
     go_wp2_with fail
     refine HK.out.mono ?_
     rintro e w4 ⟨rfl,b4⟩
     have R4:=own_next RA.out b4
     have B4:=below_trans BA.out b4 BA.out.size
     have s4:=B4.size
     clear HK RA BA b4 k0 k1 k2 k3 k4 c0 c1 c2 c3 c4 cl
     go_wp2_with (at_builtin;refine wpList_append_own _ rfl _ _ 47 rfl w3.heap.size 9 i1 _ 1 16 Tryz.underlying47 Gi.out Gz0.out Gz1.out Gz2.out rfl (by decide) _ _ _ rfl (R4.alloc _) ⟨w4.heap.size,0,none⟩ 1 1 [.string x.name] rfl rfl (cell_one_new _ _ _) (by simp[Value.oneCell']) (by unfold maxLen;omega) (by omega) (by simp;omega) ?_)
     intro v5 w5 own5 hg5 _
     have B5:=(B4.alloc B4.size _).grown hg5 (by simp;omega) (fun k hk=>(R4.lt k hk).1)
     have own6:w5.ownsRow w3.heap.size 9 1 v5 (j+1) (cNms ((L.take (j+1)).map (·.name))):=by
      rw[HT.out,List.map_append,cNms_append]
      first | exact own5 | (rw[←List.map_take] at own5;exact own5)
     clear own5 hg5 R4 B4 s4
     go_wp2
     go_roundw
     case rel=>exact⟨j+1,by simp,by omega,own6,B5⟩
     case measure=>simp[intOf];omega
    ·obtain rfl:j=L.length:=by omega
     rw[List.take_length,HG.out] at hown
     have e1:L.length=(goneL (·.name) us rs).length:=by rw[←HG.out,List.length_map]
     have HE1:=Lib.hid e1
     have Q:=Lib.hid (ownsRow_low (B':=w.heap.size) hown (by have:=B3.out.size;omega))
     have R5:=Lib.hid (ownsRow_low (B':=w.heap.size) (own_next R3.out hb3) (by omega))
     have B5:=Lib.hid (below_trans B3.out hb3 B3.out.size)
     clear hown e1 hb3
     go_wp2
     go_ret2
     exact⟨pad,pcap,gad,gcp,by rw[←HE1.out];rfl,R5.out,by rw[←HE1.out];exact Q.out,B5.out⟩
theorem compareNode_is (us rs:List NodeD) (aa ab:Option Addr) (ca cb:Nat) (ha:Asc (·.name) us) (hb:Asc (·.name) rs) (hla:us.length≤40) (hlb:rs.length≤40) (hwa:∀x∈us,x.name.size≤maxLen) (hwb:∀x∈rs,x.name.size≤maxLen) (w:World) (hxa:NodesAt w aa us) (hxb:NodesAt w ab rs) :
  Calls Tryz.prog 111 #[.slice aa us.length ca,.slice ab rs.length cb,.func (.func 37) #[] #[]] w fun e w'=>∃ad cap gd gc,e = .returned (.tuple #[.slice ad (newL us rs).length cap,.slice gd (goneL (·.name) us rs).length gc]) ∧
   w'.ownsRow w.heap.size 40 3 (.slice ad (newL us rs).length cap) (newL us rs).length (cNodes (newL us rs))∧w'.ownsRow w.heap.size 9 1 (.slice gd (goneL (·.name) us rs).length gc) (goneL (·.name) us rs).length (cNms (goneL (·.name) us rs))∧Below w.heap.size w w':=by
 obtain⟨i0,qi,qz0,qz1,qz2⟩:=info_parts' Tryz.info_node
 obtain⟨i1,ri,rz0,rz1,rz2⟩:=info_parts' info_str
 have Hi:=Lib.hid qi
 have Hz0:=Lib.hid qz0
 have Hz1:=Lib.hid qz1
 have Hz2:=Lib.hid qz2
 have Gi:=Lib.hid ri
 have Gz0:=Lib.hid rz0
 have Gz1:=Lib.hid rz1
 have Gz2:=Lib.hid rz2
 have HBK:=Lib.hid (byKeyNode_is us aa ca hla hwa w hxa)
 have HX:=Lib.hid hxb
 have HA:=Lib.hid ha
 have HB:=Lib.hid hb
 have HWB:=Lib.hid hwb
 clear qi qz0 qz1 qz2 ri rz0 rz1 rz2 hxa hxb ha hb hwa hwb
 go_enter Tryz.func111,Tryz.ntmps111
 go_wp2_with fail
 refine HBK.out.mono ?_
 rintro e w0 ⟨rfl,M0,b0⟩
 have MM:=Lib.hid M0
 have BB:=Lib.hid b0
 clear M0 b0 HBK
 go_wp2
 go_loopw [9,22] (fun pv iv wr=>∃(i:Nat),iv = .int .i64 (i:Int)∧i≤rs.length∧wr.ownsRow (w.heap.size+1) 40 3 pv (newL us (rs.take i)).length (cNodes (newL us (rs.take i)))∧MapAt wr w.heap.size us.length (tabF (·.name) nodeV (leftL (·.name) us rs i))∧Below w.heap.size w wr) (fun _ iv _=>rs.length - (intOf iv).toNat)
 case atStart=>exact⟨0,rfl,Nat.zero_le _,by exact World.ownsRow_nil _ _ _ _,mapAt_ext MM.out (fun s=>by rw[left_zero]),BB.out⟩
 case round =>
  clear MM BB
  obtain⟨i,rfl,hi,hown,hM,hbr⟩:=hrel
  obtain⟨pad,pcap,rfl⟩:=ownRow_slice hown
  have hbs:=hbr.size
  by_cases h:(i:Int)<(rs.length:Int)
  ·have hil:i<rs.length:=by omega
   obtain⟨a,rfl,hal,k0,k1,k2⟩:=nodesAt_next HX.out hbr i hil
   obtain⟨x,hxi⟩:∃x,rs[i]=x:=⟨_,rfl⟩
   rw[hxi] at k0 k1 k2
   have hwx:x.name.size≤maxLen:=HWB.out x (by rw[←hxi];exact List.getElem_mem _)
   have hcnt:=new_count us rs i
   have Hxi:=Lib.hid hxi
   have bA:=below_one wr (.cells #[.string x.name,.int .i64 x.room,.string x.zone] 40)
   have oA:=objAt_new wr #[.string x.name,.int .i64 x.room,.string x.zone] 40
   have HK:=Lib.hid (nodeKey_is x (wr.alloc (.cells #[.string x.name,.int .i64 x.room,.string x.zone] 40)))
   have MA:=Lib.hid (mapAt_below hM bA)
   have RA:=Lib.hid (own_next hown bA)
   have BA:=Lib.hid (below_trans hbr bA hbr.size)
   have OA:=Lib.hid oA
   have hnr:=Lib.hid (own_nnew hown (Nat.le_refl _))
   have c0:=objAt_cell oA 0 rfl
   have c1:=objAt_cell oA 1 rfl
   have c2:=objAt_cell oA 2 rfl
   have cl:=objAt_lt oA
   have hlook:=left_look (V:=nodeV) HA.out HB.out hil
   obtain⟨y,hy⟩:=tabF_pick (·.name) nodeV (leftL (·.name) us rs i) x.name zeroN
   obtain⟨d,hd⟩:∃d,(tabF (·.name) nodeV (leftL (·.name) us rs i) x.name).isSome=d:=⟨_,rfl⟩
   have hfact:(d=true→y∈us∧y.name=x.name)∧(d=false→x∉us):=by
    rw[hxi] at hlook
    rcases hlook with ⟨z,hz1,hz2,hz3⟩ | ⟨hz1,hz3⟩
    ·rw[hz3] at hd hy
     have ezy:z=y:=nodeV_inj hy
     subst ezy
     exact⟨fun _=>⟨hz1,hz2⟩,fun e=>(by rw[e] at hd;cases hd)⟩
    ·rw[hz3] at hd
     exact⟨fun e=>(by rw[e] at hd;cases hd),fun _ hx=>hz1 x hx rfl⟩
   have HF:=Lib.hid hfact
   have Y1:=Lib.hid hd
   have Z1:Hid ((tabF (·.name) nodeV (leftL (·.name) us rs i) x.name).getD (nodeV zeroN) = .agg #[.string y.name,.int .i64 y.room,.string y.zone]):=hy
   clear hxi bA oA hM hown hal hlook hfact hd hy
   go_wp2_with fail
   refine HK.out.mono ?_
   rintro e w1 ⟨rfl,b1⟩
   have M1:=mapAt_below MA.out b1
   have R1:=own_next RA.out b1
   have O1:=objAt_next OA.out b1
   have B1:=below_trans BA.out b1 BA.out.size
   have hs1:wr.heap.size<w1.heap.size:=objAt_lt O1
   clear HK MA RA OA BA b1 k0 k1 k2 c0 c1 c2 cl
   have b2:=below_one w1 (.cells #[.string y.name,.int .i64 y.room,.string y.zone] 40)
   have P2:=objAt_new w1 #[.string y.name,.int .i64 y.room,.string y.zone] 40
   have O2:=objAt_next O1 b2
   have d0:=objAt_cell O2 0 rfl
   have d1:=objAt_cell O2 1 rfl
   have d2:=objAt_cell O2 2 rfl
   have p0:=objAt_cell P2 0 rfl
   have p1:=objAt_cell P2 1 rfl
   have p2:=objAt_cell P2 2 rfl
   have dl:=objAt_lt O2
   have pl:=objAt_lt P2
   have O3:=O2
   have M3:=mapAt_below M1 b2
   have R3:=own_next R1 b2
   have B3:=below_trans B1 b2 B1.size
   have S3:=Lib.hid (And.intro O3 (And.intro M3 (And.intro R3 B3)))
   obtain⟨c,hc⟩:∃c:Bool,(c=true↔(d=false∨¬y=x)):=by
    classical
    exact⟨decide (d=false∨¬y=x),by simp⟩
   have Hc:=Lib.hid hc
   clear b2 P2 O2 O1 R1 B1 O3 M3 R3 B3 hc
   go_upto_region 7 with (at_lookup;refine wpList_look_ok _ rfl _ _ 82 rfl 40 Tryz.underlying82 (zeroNode _) _ _ _ rfl M1 x.name rfl hwx _ _ Z1.out Y1.out ?_)
   clear M1
   go_cut [22,40] from 22 to 49 (fun iv cv wc=>iv = .int .i64 (i:Int)∧cv = .bool c∧wc=w1.alloc (.cells #[.string y.name,.int .i64 y.room,.string y.zone] 40))
   case first =>
    clear S3 HF Y1 Z1 Hxi hnr
    cases d with
    | false =>
     have e:c=true:=Hc.out.2 (.inl rfl)
     subst e
     go_wp2
     go_meet
     case rel=>exact⟨rfl,rfl,rfl⟩
    | true =>
     by_cases hxy:y=x
     ·subst hxy
      have e:c=false:=by
       cases c with
       | false=>rfl
       | true =>
        rcases Hc.out.1 rfl with h | h
        ·cases h
        ·exact absurd rfl h
      subst e
      have g0:=lists_eq y.name
      have g2:=lists_eq y.zone
      go_wp2
      go_meet
      case rel=>exact⟨rfl,rfl,rfl⟩
     ·have e:c=true:=Hc.out.2 (.inr hxy)
      subst e
      have hf:=firstNode hxy
      clear hxy Hc
      cases x with | mk x_0 x_1 x_2 =>
      cases y with | mk y_0 y_1 y_2 =>
      simp only at hf d0 d1 d2 p0 p1 p2
      rcases hf with hf | ⟨rfl,hf⟩ | ⟨rfl,rfl,hf⟩
      all_goals
       have g0:=lists_eq y_0
       have g2:=lists_eq y_2
       go_wp2
       go_meet
       case rel=>exact⟨rfl,rfl,rfl⟩
   case rest =>
    obtain⟨rfl,rfl,rfl⟩:=hcut
    obtain⟨O3,M3,R3,B3⟩:=S3.out
    clear S3 p0 p1 p2 pl Y1 Z1
    cases c with
    | false =>
     have hin:x∈us:=by
      cases d with
      | false=>have:=Hc.out.2 (.inl rfl);cases this
      | true =>
       have e:y=x:=Classical.byContradiction fun hne=>by have:=Hc.out.2 (.inr hne);cases this
       rw[←e]
       exact(HF.out.1 rfl).1
     have HE:=Lib.hid (new_in hil (show rs[i]∈us by rw[Hxi.out];exact hin))
     clear hin HF Hc d0 d1 d2 dl
     have z_0:=objAt_cell O3 0 rfl
     have z_1:=objAt_cell O3 1 rfl
     have z_2:=objAt_cell O3 2 rfl
     have zl:=objAt_lt O3
     have HK2:=Lib.hid (nodeKey_is x (w1.alloc (.cells #[.string y.name,.int .i64 y.room,.string y.zone] 40)))
     have MM3:=Lib.hid M3
     have RR3:=Lib.hid R3
     have BB3:=Lib.hid B3
     clear O3 M3 R3 B3
     go_wp2_with fail
     refine HK2.out.mono ?_
     rintro e w4 ⟨rfl,b4⟩
     have M4:=mapAt_below MM3.out b4
     have R4:=own_next RR3.out b4
     have B4:=below_trans BB3.out b4 BB3.out.size
     clear HK2 b4 MM3 RR3 BB3 z_0 z_1 z_2 zl
     go_wp2_with (at_delete;refine wpList_del _ rfl _ _ 82 rfl 40 Tryz.underlying82 _ _ _ rfl M4 x.name rfl hwx ?_)
     intro w5 M5 hg5
     have R5:=R4.kept hg5 (.inr (own_nlow R4 (Nat.lt_succ_self _)).symm)
     have B5:=grownB_below B4 hg5 B4.size (Nat.le_refl _)
     have M6:MapAt w5 w.heap.size us.length (tabF (·.name) nodeV (leftL (·.name) us rs (i+1))):=mapAt_ext M5 (fun s=>by rw[tabF_drop (left_asc HA.out rs i)];have hst:=left_step (key:=(·.name)) (a:=us) hil;rw[Hxi.out] at hst;rw[hst])
     clear M5 hg5 M4 R4 B4
     go_wp2
     go_roundw
     case rel=>exact⟨i+1,by simp,by omega,by rw[HE.out];exact R5,M6,B5⟩
     case measure=>simp[intOf];omega
    | true =>
     have hout:x∉us:=by
      cases d with
      | false=>exact HF.out.2 rfl
      | true =>
       rcases Hc.out.1 rfl with e | e
       ·cases e
       ·exact fun hx=>e (asc_one HA.out (HF.out.1 rfl).1 hx (HF.out.1 rfl).2)
     have HE:=new_out hil (show rs[i]∉us by rw[Hxi.out];exact hout)
     rw[Hxi.out] at HE
     have HE:=Lib.hid HE
     obtain⟨W3,hW3⟩:∃W3,w1.alloc (.cells #[.string y.name,.int .i64 y.room,.string y.zone] 40)=W3:=⟨_,rfl⟩
     rw[hW3] at O3 M3 R3 B3 d0 d1 d2 dl⊢
     have hsW:=B3.size
     have OO:=Lib.hid O3
     have MM:=Lib.hid M3
     have RR:=Lib.hid R3
     have BB:=Lib.hid B3
     clear hout HF Hc hW3 O3 M3 R3 B3
     go_wp2_with (at_builtin;refine wpList_append_own _ rfl _ _ 23 rfl (w.heap.size+1) 40 i0 _ 3 40 Tryz.underlying23 Hi.out Hz0.out Hz1.out Hz2.out rfl (by decide) _ _ _ rfl (RR.out.alloc _) ⟨W3.heap.size,0,none⟩ 1 1 (cNode x) rfl rfl ?c1 ?c2 ?c3 ?c4 ?c5 ?_)
     case c1=>exact node_new W3 x _
     case c2=>exact node_ones x
     case c3=>unfold maxLen;omega
     case c4=>omega
     case c5=>simp;omega
     intro v3 w3 own3 hg3 _
     have M3:=mapAt_kept (mapAt_alloc MM.out _) hg3 (own_nlow RR.out (Nat.lt_succ_self _))
     have O3:=objAt_grown (objAt_next OO.out (below_one _ _)) hg3 hnr.out
     have B3:=(BB.out.alloc BB.out.size _).grown hg3 (by simp;omega) (fun k hk=>by have:=(RR.out.lt k hk).1;omega)
     rw[←cNodes_one,←cNodes_append] at own3
     obtain⟨pd3,pc3,rfl⟩:=ownRow_slice own3
     have R3:=own3
     clear own3 hg3 OO MM RR BB d0 d1 d2 dl hsW
     have z_0:=objAt_cell O3 0 rfl
     have z_1:=objAt_cell O3 1 rfl
     have z_2:=objAt_cell O3 2 rfl
     have zl:=objAt_lt O3
     have HK2:=Lib.hid (nodeKey_is x w3)
     have MM3:=Lib.hid M3
     have RR3:=Lib.hid R3
     have BB3:=Lib.hid B3
     clear O3 M3 R3 B3
     go_wp2_with fail
     refine HK2.out.mono ?_
     rintro e w4 ⟨rfl,b4⟩
     have M4:=mapAt_below MM3.out b4
     have R4:=own_next RR3.out b4
     have B4:=below_trans BB3.out b4 BB3.out.size
     clear HK2 b4 MM3 RR3 BB3 z_0 z_1 z_2 zl
     go_wp2_with (at_delete;refine wpList_del _ rfl _ _ 82 rfl 40 Tryz.underlying82 _ _ _ rfl M4 x.name rfl hwx ?_)
     intro w5 M5 hg5
     have R5:=R4.kept hg5 (.inr (own_nlow R4 (Nat.lt_succ_self _)).symm)
     have B5:=grownB_below B4 hg5 B4.size (Nat.le_refl _)
     have M6:MapAt w5 w.heap.size us.length (tabF (·.name) nodeV (leftL (·.name) us rs (i+1))):=mapAt_ext M5 (fun s=>by rw[tabF_drop (left_asc HA.out rs i)];have hst:=left_step (key:=(·.name)) (a:=us) hil;rw[Hxi.out] at hst;rw[hst])
     clear M5 hg5 M4 R4 B4
     go_wp2
     go_roundw
     case rel=>exact⟨i+1,by simp,by omega,by rw[HE.out];rw[List.length_append];exact R5,M6,B5⟩
     case measure=>simp[intOf];omega
  ·obtain rfl:i=rs.length:=by omega
   rw[List.take_length] at hown
   have hlen:=lessN_size (key:=(·.name)) (l:=us) (rs.map (·.name)) rs.length
   obtain⟨L,hL⟩:∃L,leftL (·.name) us rs rs.length=L:=⟨_,rfl⟩
   have HLA:=left_asc HA.out rs rs.length
   have HGL:=left_end (key:=(·.name)) us rs
   change (leftL (·.name) us rs rs.length).length≤us.length at hlen
   rw[hL] at hM HLA HGL hlen
   have HI:=Lib.hid (inoNode_is w.heap.size us.length L HLA (by omega) (by omega) wr hM)
   have HR:=Lib.hid hown
   have HBR:=Lib.hid hbr
   have HG:=Lib.hid HGL
   clear hM HLA HGL hL hown
   go_wp2_with fail
   refine HI.out.mono ?_
   rintro e w3 ⟨ld,lc,rfl,own3,b3⟩
   have hL3:=Lib.hid (ownNodes own3 rfl)
   have B3:=Lib.hid (below_trans HBR.out b3 HBR.out.size)
   have R3:=Lib.hid (own_next HR.out b3)
   have hs3:=b3.size
   clear HI HR HBR own3 b3
   go_wp2
   go_loopw [14,54] (fun pv iv wr=>∃(j:Nat),iv = .int .i64 (j:Int)∧j≤L.length∧wr.ownsRow w3.heap.size 9 1 pv j (cNms ((L.take j).map (·.name)))∧Below w3.heap.size w3 wr) (fun _ iv _=>L.length - (intOf iv).toNat)
   case atStart=>exact⟨0,rfl,Nat.zero_le _,World.ownsRow_nil _ _ _ _,Below.refl _ _⟩
   case round =>
    obtain⟨j,rfl,hj,hown,hb3⟩:=hrel
    obtain⟨gad,gcp,rfl⟩:=ownRow_slice hown
    have hbs3:=hb3.size
    by_cases h2:(j:Int)<(L.length:Int)
    ·have hjl:j<L.length:=by omega
     obtain⟨a,rfl,hal,k0,k1,k2⟩:=nodesAt_next hL3.out hb3 j hjl
     obtain⟨x,hxi⟩:∃x,L[j]=x:=⟨_,rfl⟩
     rw[hxi] at k0 k1 k2
     have Hxi:=Lib.hid hxi
     have HT:=List.take_succ_eq_append_getElem hjl
     rw[hxi] at HT
     have HT:=Lib.hid HT
     rename World=>wq
     have bA:=below_one wq (.cells #[.string x.name,.int .i64 x.room,.string x.zone] 40)
     have oA:=objAt_new wq #[.string x.name,.int .i64 x.room,.string x.zone] 40
     have HK:=Lib.hid (nodeKey_is x (wq.alloc (.cells #[.string x.name,.int .i64 x.room,.string x.zone] 40)))
     have RA:=Lib.hid (own_next hown bA)
     have BA:=Lib.hid (below_trans hb3 bA hb3.size)
     have c0:=objAt_cell oA 0 rfl
     have c1:=objAt_cell oA 1 rfl
     have c2:=objAt_cell oA 2 rfl
     have cl:=objAt_lt oA
     clear hxi bA oA hown hal
     go_wp2_with fail
     refine HK.out.mono ?_
     rintro e w4 ⟨rfl,b4⟩
     have R4:=own_next RA.out b4
     have B4:=below_trans BA.out b4 BA.out.size
     have s4:=B4.size
     clear HK RA BA b4 k0 k1 k2 c0 c1 c2 cl
     go_wp2_with (at_builtin;refine wpList_append_own _ rfl _ _ 47 rfl w3.heap.size 9 i1 _ 1 16 Tryz.underlying47 Gi.out Gz0.out Gz1.out Gz2.out rfl (by decide) _ _ _ rfl (R4.alloc _) ⟨w4.heap.size,0,none⟩ 1 1 [.string x.name] rfl rfl (cell_one_new _ _ _) (by simp[Value.oneCell']) (by unfold maxLen;omega) (by omega) (by simp;omega) ?_)
     intro v5 w5 own5 hg5 _
     have B5:=(B4.alloc B4.size _).grown hg5 (by simp;omega) (fun k hk=>(R4.lt k hk).1)
     have own6:w5.ownsRow w3.heap.size 9 1 v5 (j+1) (cNms ((L.take (j+1)).map (·.name))):=by
      rw[HT.out,List.map_append,cNms_append]
      first | exact own5 | (rw[←List.map_take] at own5;exact own5)
     clear own5 hg5 R4 B4 s4
     go_wp2
     go_roundw
     case rel=>exact⟨j+1,by simp,by omega,own6,B5⟩
     case measure=>simp[intOf];omega
    ·obtain rfl:j=L.length:=by omega
     rw[List.take_length,HG.out] at hown
     have e1:L.length=(goneL (·.name) us rs).length:=by rw[←HG.out,List.length_map]
     have HE1:=Lib.hid e1
     have Q:=Lib.hid (ownsRow_low (B':=w.heap.size) hown (by have:=B3.out.size;omega))
     have R5:=Lib.hid (ownsRow_low (B':=w.heap.size) (own_next R3.out hb3) (by omega))
     have B5:=Lib.hid (below_trans B3.out hb3 B3.out.size)
     clear hown e1 hb3
     go_wp2
     go_ret2
     exact⟨pad,pcap,gad,gcp,by rw[←HE1.out];rfl,R5.out,by rw[←HE1.out];exact Q.out,B5.out⟩
theorem compareLease_is (us rs:List LeaseD) (aa ab:Option Addr) (ca cb:Nat) (ha:Asc (·.job) us) (hb:Asc (·.job) rs) (hla:us.length≤40) (hlb:rs.length≤40) (hwa:∀x∈us,x.job.size≤maxLen) (hwb:∀x∈rs,x.job.size≤maxLen) (w:World) (hxa:LeasesAt w aa us) (hxb:LeasesAt w ab rs) :
  Calls Tryz.prog 112 #[.slice aa us.length ca,.slice ab rs.length cb,.func (.func 41) #[] #[]] w fun e w'=>∃ad cap gd gc,e = .returned (.tuple #[.slice ad (newL us rs).length cap,.slice gd (goneL (·.job) us rs).length gc]) ∧
   w'.ownsRow w.heap.size 42 3 (.slice ad (newL us rs).length cap) (newL us rs).length (cLeases (newL us rs))∧w'.ownsRow w.heap.size 9 1 (.slice gd (goneL (·.job) us rs).length gc) (goneL (·.job) us rs).length (cNms (goneL (·.job) us rs))∧Below w.heap.size w w':=by
 obtain⟨i0,qi,qz0,qz1,qz2⟩:=info_parts' Tryz.info_lease
 obtain⟨i1,ri,rz0,rz1,rz2⟩:=info_parts' info_str
 have Hi:=Lib.hid qi
 have Hz0:=Lib.hid qz0
 have Hz1:=Lib.hid qz1
 have Hz2:=Lib.hid qz2
 have Gi:=Lib.hid ri
 have Gz0:=Lib.hid rz0
 have Gz1:=Lib.hid rz1
 have Gz2:=Lib.hid rz2
 have HBK:=Lib.hid (byKeyLease_is us aa ca hla hwa w hxa)
 have HX:=Lib.hid hxb
 have HA:=Lib.hid ha
 have HB:=Lib.hid hb
 have HWB:=Lib.hid hwb
 clear qi qz0 qz1 qz2 ri rz0 rz1 rz2 hxa hxb ha hb hwa hwb
 go_enter Tryz.func112,Tryz.ntmps112
 go_wp2_with fail
 refine HBK.out.mono ?_
 rintro e w0 ⟨rfl,M0,b0⟩
 have MM:=Lib.hid M0
 have BB:=Lib.hid b0
 clear M0 b0 HBK
 go_wp2
 go_loopw [9,22] (fun pv iv wr=>∃(i:Nat),iv = .int .i64 (i:Int)∧i≤rs.length∧wr.ownsRow (w.heap.size+1) 42 3 pv (newL us (rs.take i)).length (cLeases (newL us (rs.take i)))∧MapAt wr w.heap.size us.length (tabF (·.job) leaseV (leftL (·.job) us rs i))∧Below w.heap.size w wr) (fun _ iv _=>rs.length - (intOf iv).toNat)
 case atStart=>exact⟨0,rfl,Nat.zero_le _,by exact World.ownsRow_nil _ _ _ _,mapAt_ext MM.out (fun s=>by rw[left_zero]),BB.out⟩
 case round =>
  clear MM BB
  obtain⟨i,rfl,hi,hown,hM,hbr⟩:=hrel
  obtain⟨pad,pcap,rfl⟩:=ownRow_slice hown
  have hbs:=hbr.size
  by_cases h:(i:Int)<(rs.length:Int)
  ·have hil:i<rs.length:=by omega
   obtain⟨a,rfl,hal,k0,k1,k2⟩:=leasesAt_next HX.out hbr i hil
   obtain⟨x,hxi⟩:∃x,rs[i]=x:=⟨_,rfl⟩
   rw[hxi] at k0 k1 k2
   have hwx:x.job.size≤maxLen:=HWB.out x (by rw[←hxi];exact List.getElem_mem _)
   have hcnt:=new_count us rs i
   have Hxi:=Lib.hid hxi
   have bA:=below_one wr (.cells #[.string x.job,.string x.node,.int .i64 x.til] 42)
   have oA:=objAt_new wr #[.string x.job,.string x.node,.int .i64 x.til] 42
   have HK:=Lib.hid (leaseKey_is x (wr.alloc (.cells #[.string x.job,.string x.node,.int .i64 x.til] 42)))
   have MA:=Lib.hid (mapAt_below hM bA)
   have RA:=Lib.hid (own_next hown bA)
   have BA:=Lib.hid (below_trans hbr bA hbr.size)
   have OA:=Lib.hid oA
   have hnr:=Lib.hid (own_nnew hown (Nat.le_refl _))
   have c0:=objAt_cell oA 0 rfl
   have c1:=objAt_cell oA 1 rfl
   have c2:=objAt_cell oA 2 rfl
   have cl:=objAt_lt oA
   have hlook:=left_look (V:=leaseV) HA.out HB.out hil
   obtain⟨y,hy⟩:=tabF_pick (·.job) leaseV (leftL (·.job) us rs i) x.job zeroL
   obtain⟨d,hd⟩:∃d,(tabF (·.job) leaseV (leftL (·.job) us rs i) x.job).isSome=d:=⟨_,rfl⟩
   have hfact:(d=true→y∈us∧y.job=x.job)∧(d=false→x∉us):=by
    rw[hxi] at hlook
    rcases hlook with ⟨z,hz1,hz2,hz3⟩ | ⟨hz1,hz3⟩
    ·rw[hz3] at hd hy
     have ezy:z=y:=leaseV_inj hy
     subst ezy
     exact⟨fun _=>⟨hz1,hz2⟩,fun e=>(by rw[e] at hd;cases hd)⟩
    ·rw[hz3] at hd
     exact⟨fun e=>(by rw[e] at hd;cases hd),fun _ hx=>hz1 x hx rfl⟩
   have HF:=Lib.hid hfact
   have Y1:=Lib.hid hd
   have Z1:Hid ((tabF (·.job) leaseV (leftL (·.job) us rs i) x.job).getD (leaseV zeroL) = .agg #[.string y.job,.string y.node,.int .i64 y.til]):=hy
   clear hxi bA oA hM hown hal hlook hfact hd hy
   go_wp2_with fail
   refine HK.out.mono ?_
   rintro e w1 ⟨rfl,b1⟩
   have M1:=mapAt_below MA.out b1
   have R1:=own_next RA.out b1
   have O1:=objAt_next OA.out b1
   have B1:=below_trans BA.out b1 BA.out.size
   have hs1:wr.heap.size<w1.heap.size:=objAt_lt O1
   clear HK MA RA OA BA b1 k0 k1 k2 c0 c1 c2 cl
   have b2:=below_one w1 (.cells #[.string y.job,.string y.node,.int .i64 y.til] 42)
   have P2:=objAt_new w1 #[.string y.job,.string y.node,.int .i64 y.til] 42
   have O2:=objAt_next O1 b2
   have d0:=objAt_cell O2 0 rfl
   have d1:=objAt_cell O2 1 rfl
   have d2:=objAt_cell O2 2 rfl
   have p0:=objAt_cell P2 0 rfl
   have p1:=objAt_cell P2 1 rfl
   have p2:=objAt_cell P2 2 rfl
   have dl:=objAt_lt O2
   have pl:=objAt_lt P2
   have O3:=O2
   have M3:=mapAt_below M1 b2
   have R3:=own_next R1 b2
   have B3:=below_trans B1 b2 B1.size
   have S3:=Lib.hid (And.intro O3 (And.intro M3 (And.intro R3 B3)))
   obtain⟨c,hc⟩:∃c:Bool,(c=true↔(d=false∨¬y=x)):=by
    classical
    exact⟨decide (d=false∨¬y=x),by simp⟩
   have Hc:=Lib.hid hc
   clear b2 P2 O2 O1 R1 B1 O3 M3 R3 B3 hc
   go_upto_region 7 with (at_lookup;refine wpList_look_ok _ rfl _ _ 177 rfl 42 Tryz.underlying177 (zeroLease _) _ _ _ rfl M1 x.job rfl hwx _ _ Z1.out Y1.out ?_)
   clear M1
   go_cut [22,40] from 22 to 49 (fun iv cv wc=>iv = .int .i64 (i:Int)∧cv = .bool c∧wc=w1.alloc (.cells #[.string y.job,.string y.node,.int .i64 y.til] 42))
   case first =>
    clear S3 HF Y1 Z1 Hxi hnr
    cases d with
    | false =>
     have e:c=true:=Hc.out.2 (.inl rfl)
     subst e
     go_wp2
     go_meet
     case rel=>exact⟨rfl,rfl,rfl⟩
    | true =>
     by_cases hxy:y=x
     ·subst hxy
      have e:c=false:=by
       cases c with
       | false=>rfl
       | true =>
        rcases Hc.out.1 rfl with h | h
        ·cases h
        ·exact absurd rfl h
      subst e
      have g0:=lists_eq y.job
      have g1:=lists_eq y.node
      go_wp2
      go_meet
      case rel=>exact⟨rfl,rfl,rfl⟩
     ·have e:c=true:=Hc.out.2 (.inr hxy)
      subst e
      have hf:=firstLease hxy
      clear hxy Hc
      cases x with | mk x_0 x_1 x_2 =>
      cases y with | mk y_0 y_1 y_2 =>
      simp only at hf d0 d1 d2 p0 p1 p2
      rcases hf with hf | ⟨rfl,hf⟩ | ⟨rfl,rfl,hf⟩
      all_goals
       have g0:=lists_eq y_0
       have g1:=lists_eq y_1
       go_wp2
       go_meet
       case rel=>exact⟨rfl,rfl,rfl⟩
   case rest =>
    obtain⟨rfl,rfl,rfl⟩:=hcut
    obtain⟨O3,M3,R3,B3⟩:=S3.out
    clear S3 p0 p1 p2 pl Y1 Z1
    cases c with
    | false =>
     have hin:x∈us:=by
      cases d with
      | false=>have:=Hc.out.2 (.inl rfl);cases this
      | true =>
       have e:y=x:=Classical.byContradiction fun hne=>by have:=Hc.out.2 (.inr hne);cases this
       rw[←e]
       exact(HF.out.1 rfl).1
     have HE:=Lib.hid (new_in hil (show rs[i]∈us by rw[Hxi.out];exact hin))
     clear hin HF Hc d0 d1 d2 dl
     have z_0:=objAt_cell O3 0 rfl
     have z_1:=objAt_cell O3 1 rfl
     have z_2:=objAt_cell O3 2 rfl
     have zl:=objAt_lt O3
     have HK2:=Lib.hid (leaseKey_is x (w1.alloc (.cells #[.string y.job,.string y.node,.int .i64 y.til] 42)))
     have MM3:=Lib.hid M3
     have RR3:=Lib.hid R3
     have BB3:=Lib.hid B3
     clear O3 M3 R3 B3
     go_wp2_with fail
     refine HK2.out.mono ?_
     rintro e w4 ⟨rfl,b4⟩
     have M4:=mapAt_below MM3.out b4
     have R4:=own_next RR3.out b4
     have B4:=below_trans BB3.out b4 BB3.out.size
     clear HK2 b4 MM3 RR3 BB3 z_0 z_1 z_2 zl
     go_wp2_with (at_delete;refine wpList_del _ rfl _ _ 177 rfl 42 Tryz.underlying177 _ _ _ rfl M4 x.job rfl hwx ?_)
     intro w5 M5 hg5
     have R5:=R4.kept hg5 (.inr (own_nlow R4 (Nat.lt_succ_self _)).symm)
     have B5:=grownB_below B4 hg5 B4.size (Nat.le_refl _)
     have M6:MapAt w5 w.heap.size us.length (tabF (·.job) leaseV (leftL (·.job) us rs (i+1))):=mapAt_ext M5 (fun s=>by rw[tabF_drop (left_asc HA.out rs i)];have hst:=left_step (key:=(·.job)) (a:=us) hil;rw[Hxi.out] at hst;rw[hst])
     clear M5 hg5 M4 R4 B4
     go_wp2
     go_roundw
     case rel=>exact⟨i+1,by simp,by omega,by rw[HE.out];exact R5,M6,B5⟩
     case measure=>simp[intOf];omega
    | true =>
     have hout:x∉us:=by
      cases d with
      | false=>exact HF.out.2 rfl
      | true =>
       rcases Hc.out.1 rfl with e | e
       ·cases e
       ·exact fun hx=>e (asc_one HA.out (HF.out.1 rfl).1 hx (HF.out.1 rfl).2)
     have HE:=new_out hil (show rs[i]∉us by rw[Hxi.out];exact hout)
     rw[Hxi.out] at HE
     have HE:=Lib.hid HE
     obtain⟨W3,hW3⟩:∃W3,w1.alloc (.cells #[.string y.job,.string y.node,.int .i64 y.til] 42)=W3:=⟨_,rfl⟩
     rw[hW3] at O3 M3 R3 B3 d0 d1 d2 dl⊢
     have hsW:=B3.size
     have OO:=Lib.hid O3
     have MM:=Lib.hid M3
     have RR:=Lib.hid R3
     have BB:=Lib.hid B3
     clear hout HF Hc hW3 O3 M3 R3 B3
     go_wp2_with (at_builtin;refine wpList_append_own _ rfl _ _ 24 rfl (w.heap.size+1) 42 i0 _ 3 40 Tryz.underlying24 Hi.out Hz0.out Hz1.out Hz2.out rfl (by decide) _ _ _ rfl (RR.out.alloc _) ⟨W3.heap.size,0,none⟩ 1 1 (cLease x) rfl rfl ?c1 ?c2 ?c3 ?c4 ?c5 ?_)
     case c1=>exact lease_new W3 x _
     case c2=>exact lease_ones x
     case c3=>unfold maxLen;omega
     case c4=>omega
     case c5=>simp;omega
     intro v3 w3 own3 hg3 _
     have M3:=mapAt_kept (mapAt_alloc MM.out _) hg3 (own_nlow RR.out (Nat.lt_succ_self _))
     have O3:=objAt_grown (objAt_next OO.out (below_one _ _)) hg3 hnr.out
     have B3:=(BB.out.alloc BB.out.size _).grown hg3 (by simp;omega) (fun k hk=>by have:=(RR.out.lt k hk).1;omega)
     rw[←cLeases_one,←cLeases_append] at own3
     obtain⟨pd3,pc3,rfl⟩:=ownRow_slice own3
     have R3:=own3
     clear own3 hg3 OO MM RR BB d0 d1 d2 dl hsW
     have z_0:=objAt_cell O3 0 rfl
     have z_1:=objAt_cell O3 1 rfl
     have z_2:=objAt_cell O3 2 rfl
     have zl:=objAt_lt O3
     have HK2:=Lib.hid (leaseKey_is x w3)
     have MM3:=Lib.hid M3
     have RR3:=Lib.hid R3
     have BB3:=Lib.hid B3
     clear O3 M3 R3 B3
     go_wp2_with fail
     refine HK2.out.mono ?_
     rintro e w4 ⟨rfl,b4⟩
     have M4:=mapAt_below MM3.out b4
     have R4:=own_next RR3.out b4
     have B4:=below_trans BB3.out b4 BB3.out.size
     clear HK2 b4 MM3 RR3 BB3 z_0 z_1 z_2 zl
     go_wp2_with (at_delete;refine wpList_del _ rfl _ _ 177 rfl 42 Tryz.underlying177 _ _ _ rfl M4 x.job rfl hwx ?_)
     intro w5 M5 hg5
     have R5:=R4.kept hg5 (.inr (own_nlow R4 (Nat.lt_succ_self _)).symm)
     have B5:=grownB_below B4 hg5 B4.size (Nat.le_refl _)
     have M6:MapAt w5 w.heap.size us.length (tabF (·.job) leaseV (leftL (·.job) us rs (i+1))):=mapAt_ext M5 (fun s=>by rw[tabF_drop (left_asc HA.out rs i)];have hst:=left_step (key:=(·.job)) (a:=us) hil;rw[Hxi.out] at hst;rw[hst])
     clear M5 hg5 M4 R4 B4
     go_wp2
     go_roundw
     case rel=>exact⟨i+1,by simp,by omega,by rw[HE.out];rw[List.length_append];exact R5,M6,B5⟩
     case measure=>simp[intOf];omega
  ·obtain rfl:i=rs.length:=by omega
   rw[List.take_length] at hown
   have hlen:=lessN_size (key:=(·.job)) (l:=us) (rs.map (·.job)) rs.length
   obtain⟨L,hL⟩:∃L,leftL (·.job) us rs rs.length=L:=⟨_,rfl⟩
   have HLA:=left_asc HA.out rs rs.length
   have HGL:=left_end (key:=(·.job)) us rs
   change (leftL (·.job) us rs rs.length).length≤us.length at hlen
   rw[hL] at hM HLA HGL hlen
   have HI:=Lib.hid (inoLease_is w.heap.size us.length L HLA (by omega) (by omega) wr hM)
   have HR:=Lib.hid hown
   have HBR:=Lib.hid hbr
   have HG:=Lib.hid HGL
   clear hM HLA HGL hL hown
   go_wp2_with fail
   refine HI.out.mono ?_
   rintro e w3 ⟨ld,lc,rfl,own3,b3⟩
   have hL3:=Lib.hid (ownLeases own3 rfl)
   have B3:=Lib.hid (below_trans HBR.out b3 HBR.out.size)
   have R3:=Lib.hid (own_next HR.out b3)
   have hs3:=b3.size
   clear HI HR HBR own3 b3
   go_wp2
   go_loopw [14,54] (fun pv iv wr=>∃(j:Nat),iv = .int .i64 (j:Int)∧j≤L.length∧wr.ownsRow w3.heap.size 9 1 pv j (cNms ((L.take j).map (·.job)))∧Below w3.heap.size w3 wr) (fun _ iv _=>L.length - (intOf iv).toNat)
   case atStart=>exact⟨0,rfl,Nat.zero_le _,World.ownsRow_nil _ _ _ _,Below.refl _ _⟩
   case round =>
    obtain⟨j,rfl,hj,hown,hb3⟩:=hrel
    obtain⟨gad,gcp,rfl⟩:=ownRow_slice hown
    have hbs3:=hb3.size
    by_cases h2:(j:Int)<(L.length:Int)
    ·have hjl:j<L.length:=by omega
     obtain⟨a,rfl,hal,k0,k1,k2⟩:=leasesAt_next hL3.out hb3 j hjl
     obtain⟨x,hxi⟩:∃x,L[j]=x:=⟨_,rfl⟩
     rw[hxi] at k0 k1 k2
     have Hxi:=Lib.hid hxi
     have HT:=List.take_succ_eq_append_getElem hjl
     rw[hxi] at HT
     have HT:=Lib.hid HT
     rename World=>wq
     have bA:=below_one wq (.cells #[.string x.job,.string x.node,.int .i64 x.til] 42)
     have oA:=objAt_new wq #[.string x.job,.string x.node,.int .i64 x.til] 42
     have HK:=Lib.hid (leaseKey_is x (wq.alloc (.cells #[.string x.job,.string x.node,.int .i64 x.til] 42)))
     have RA:=Lib.hid (own_next hown bA)
     have BA:=Lib.hid (below_trans hb3 bA hb3.size)
     have c0:=objAt_cell oA 0 rfl
     have c1:=objAt_cell oA 1 rfl
     have c2:=objAt_cell oA 2 rfl
     have cl:=objAt_lt oA
     clear hxi bA oA hown hal
     go_wp2_with fail
     refine HK.out.mono ?_
     rintro e w4 ⟨rfl,b4⟩
     have R4:=own_next RA.out b4
     have B4:=below_trans BA.out b4 BA.out.size
     have s4:=B4.size
     clear HK RA BA b4 k0 k1 k2 c0 c1 c2 cl
     go_wp2_with (at_builtin;refine wpList_append_own _ rfl _ _ 47 rfl w3.heap.size 9 i1 _ 1 16 Tryz.underlying47 Gi.out Gz0.out Gz1.out Gz2.out rfl (by decide) _ _ _ rfl (R4.alloc _) ⟨w4.heap.size,0,none⟩ 1 1 [.string x.job] rfl rfl (cell_one_new _ _ _) (by simp[Value.oneCell']) (by unfold maxLen;omega) (by omega) (by simp;omega) ?_)
     intro v5 w5 own5 hg5 _
     have B5:=(B4.alloc B4.size _).grown hg5 (by simp;omega) (fun k hk=>(R4.lt k hk).1)
     have own6:w5.ownsRow w3.heap.size 9 1 v5 (j+1) (cNms ((L.take (j+1)).map (·.job))):=by
      rw[HT.out,List.map_append,cNms_append]
      first | exact own5 | (rw[←List.map_take] at own5;exact own5)
     clear own5 hg5 R4 B4 s4
     go_wp2
     go_roundw
     case rel=>exact⟨j+1,by simp,by omega,own6,B5⟩
     case measure=>simp[intOf];omega
    ·obtain rfl:j=L.length:=by omega
     rw[List.take_length,HG.out] at hown
     have e1:L.length=(goneL (·.job) us rs).length:=by rw[←HG.out,List.length_map]
     have HE1:=Lib.hid e1
     have Q:=Lib.hid (ownsRow_low (B':=w.heap.size) hown (by have:=B3.out.size;omega))
     have R5:=Lib.hid (ownsRow_low (B':=w.heap.size) (own_next R3.out hb3) (by omega))
     have B5:=Lib.hid (below_trans B3.out hb3 B3.out.size)
     clear hown e1 hb3
     go_wp2
     go_ret2
     exact⟨pad,pcap,gad,gcp,by rw[←HE1.out];rfl,R5.out,by rw[←HE1.out];exact Q.out,B5.out⟩
end Go.Proofs.YtiekgafopalfmaaGreatDoor
namespace Go.Proofs.YtiekgafopalfmaaGreatDoor
open Go.RowKit
theorem valid_facts {s:StD} (h:checkE V8 s=0):(Asc (·.name) s.jobs∧Asc (·.name) s.nodes∧Asc (·.job) s.leases)∧(s.jobs.length≤40∧s.nodes.length≤20∧s.leases.length≤40)∧(∀x∈s.jobs,x.name.size≤maxLen)∧(∀x∈s.nodes,x.name.size≤maxLen)∧∀x∈s.leases,x.job.size≤maxLen:=by
 have hv:=(check_zero V8 s).1 h
 obtain⟨_,hz⟩:=small_valid h
 obtain⟨_,⟨l1,l2,l3⟩,⟨_,a1⟩,⟨_,a2⟩,⟨_,a3⟩,_⟩:=hv
 exact⟨⟨a1,a2,a3⟩,⟨l1,l3,l2⟩,fun x hx=>(by have:=(hz.1 x hx).1;unfold maxLen;omega),fun x hx=>(by have:=(hz.2.1 x hx).1;unfold maxLen;omega),fun x hx=>(by have:=(hz.2.2 x hx).1;unfold maxLen;omega)⟩
theorem diffR_a {a b:StD} (h:checkE V8 a≠0):diffR V8 a b=(zeroDel,checkE V8 a):=by unfold diffR;rw[if_pos h]
theorem diffR_b {a b:StD} (h:checkE V8 a=0) (h2:checkE V8 b≠0):diffR V8 a b=(zeroDel,checkE V8 b):=by unfold diffR;rw[if_neg (by simp[h]),if_pos h2]
theorem diffR_rev {a b:StD} (h:checkE V8 a=0) (h2:checkE V8 b=0) (hr:b.rev≤a.rev):diffR V8 a b=(zeroDel,1):=by unfold diffR;rw[if_neg (by simp[h]),if_neg (by simp[h2]),if_neg (by omega)]
theorem ddiff_any (a b:StD) (aj an al bj bn bl:Option Addr) (cj cn cl dj dn dl:Nat) (hwa:wState a) (hwb:wState b) (w:World) (hT:Tabs w) (hma:JobsAt w aj a.jobs∧NodesAt w an a.nodes∧LeasesAt w al a.leases) (hmb:JobsAt w bj b.jobs∧NodesAt w bn b.nodes∧LeasesAt w bl b.leases) :
  Calls Tryz.prog 90 #[.agg #[.int .i64 a.rev,.slice aj a.jobs.length cj,.slice an a.nodes.length cn,.slice al a.leases.length cl],.agg #[.int .i64 b.rev,.slice bj b.jobs.length dj,.slice bn b.nodes.length dn,.slice bl b.leases.length dl]] w fun e w'=>∃M,e = .returned (.tuple #[.agg (dlC M (diffR V8 a b).1),.int .i64 ((diffR V8 a b).2:Nat)])∧OwnD w.heap.size M (diffR V8 a b).1 w'∧Below w.heap.size w w':=by
 obtain⟨H,hH⟩:∃H,w.heap.size=H:=⟨_,rfl⟩
 obtain⟨W0,hW0⟩:∃W0,((w.alloc (.cells #[.int .i64 a.rev,.slice aj a.jobs.length cj,.slice an a.nodes.length cn,.slice al a.leases.length cl] 26)).alloc (.cells #[.int .i64 b.rev,.slice bj b.jobs.length dj,.slice bn b.nodes.length dn,.slice bl b.leases.length dl] 26)).alloc (.cells #[.int .i64 0,.int .i64 0,.slice none 0 0,.slice none 0 0,.slice none 0 0,.slice none 0 0,.slice none 0 0,.slice none 0 0] 49)=W0:=⟨_,rfl⟩
 obtain⟨p0,q0,r0,B0,sz0⟩:=three_blocks w _ _ _ _ _ _ _ _ W0 hW0
 have CA:=Lib.hid (check_any a.rev aj an al cj cn cl a.jobs a.nodes a.leases hwa W0 (hT.below B0) (jobsAt_next hma.1 B0) (nodesAt_next hma.2.1 B0) (leasesAt_next hma.2.2 B0))
 rw[hH] at p0 q0 r0 B0 sz0
 have HT:=Lib.hid hT
 have HMA:=Lib.hid hma
 have HMB:=Lib.hid hmb
 have HWB:=Lib.hid hwb
 have HW:=Lib.hid hW0
 have HH:=Lib.hid hH
 have P0:=Lib.hid (And.intro p0 (And.intro q0 (And.intro r0 B0)))
 have S0:=Lib.hid sz0
 have ea:(⟨a.rev,a.jobs,a.nodes,a.leases⟩:StD)=a:=rfl
 have eb:(⟨b.rev,b.jobs,b.nodes,b.leases⟩:StD)=b:=rfl
 rw[ea] at CA
 clear eb
 rw[hH]
 obtain⟨D,hD⟩:∃D,diffR V8 a b=D:=⟨_,rfl⟩
 rw[hD]
 have HD:=Lib.hid hD
 obtain⟨e1,he1⟩:∃e,checkE V8 a=e:=⟨_,rfl⟩
 rw[he1] at CA
 have HE1:=Lib.hid he1
 clear hT hma hmb hwa hwb hW0 p0 q0 r0 B0 sz0 ea hD he1
 go_enter Tryz.func90,Tryz.ntmps90
 go_wp2_with fail
 rw[HW.out]
 refine CA.out.mono ?_
 rintro e w1 ⟨rfl,b1⟩
 obtain⟨p0,q0,r0,B0⟩:=P0.out
 have p1:=objAt_next p0 b1
 have q1:=objAt_next q0 b1
 have r1:=objAt_next r0 b1
 have B1:=below_trans B0 b1 (by have:=S0.out;omega)
 have s1:H+3≤w1.heap.size:=by have:=b1.size;have:=S0.out;omega
 clear CA P0 p0 q0 r0 B0 b1
 by_cases z1:e1≠0
 ·have z':((e1:Int)!=0)=true:=by simp;omega
  have HE:Hid (D=(zeroDel,e1)):=by show _=_;rw[←HD.out];rw[diffR_a (by rw[HE1.out];exact z1),HE1.out]
  have k0:=objAt_cell r1 0 rfl
  have f0:=objAt_free r1 0
  have k1:=objAt_cell r1 1 rfl
  have f1:=objAt_free r1 1
  have k2:=objAt_cell r1 2 rfl
  have f2:=objAt_free r1 2
  have k3:=objAt_cell r1 3 rfl
  have f3:=objAt_free r1 3
  have k4:=objAt_cell r1 4 rfl
  have f4:=objAt_free r1 4
  have k5:=objAt_cell r1 5 rfl
  have f5:=objAt_free r1 5
  have k6:=objAt_cell r1 6 rfl
  have f6:=objAt_free r1 6
  have k7:=objAt_cell r1 7 rfl
  have f7:=objAt_free r1 7
  have kl:=objAt_lt r1
  have oF:=obj_put8 r1 (.int .i64 0) (.int .i64 0) (.slice none 0 0) (.slice none 0 0) (.slice none 0 0) (.slice none 0 0) (.slice none 0 0) (.slice none 0 0)
  have t0:=objAt_cell oF 0 rfl
  have t1:=objAt_cell oF 1 rfl
  have t2:=objAt_cell oF 2 rfl
  have t3:=objAt_cell oF 3 rfl
  have t4:=objAt_cell oF 4 rfl
  have t5:=objAt_cell oF 5 rfl
  have t6:=objAt_cell oF 6 rfl
  have t7:=objAt_cell oF 7 rfl
  have TT:=Lib.hid (And.intro t0 (And.intro t1 (And.intro t2 (And.intro t3 (And.intro t4 (And.intro t5 (And.intro t6 t7)))))))
  have BF:=Lib.hid (below_put8 B1 (show H≤H+2 by omega) (.int .i64 0) (.int .i64 0) (.slice none 0 0) (.slice none 0 0) (.slice none 0 0) (.slice none 0 0) (.slice none 0 0) (.slice none 0 0))
  clear oF t0 t1 t2 t3 t4 t5 t6 t7 p1 q1 r1 B1
  go_wp2
  obtain⟨t0,t1,t2,t3,t4,t5,t6,t7⟩:=TT.out
  exact bodyPost_ret (v:=.tuple #[.agg #[.int .i64 0,.int .i64 0,.slice none 0 0,.slice none 0 0,.slice none 0 0,.slice none 0 0,.slice none 0 0,.slice none 0 0],.int .i64 (e1:Int)]) (by simp[results,Tryz.results90,go_sem,t0,t1,t2,t3,t4,t5,t6,t7]) rfl ⟨⟨none,0,none,0,none,0,none,0,none,0,none,0⟩,by rw[HE.out];rfl,by rw[HE.out];exact ownD_zero _ _,BF.out⟩
 obtain rfl:e1=0:=by simpa using z1
 clear z1
 have CB:=check_any b.rev bj bn bl dj dn dl b.jobs b.nodes b.leases HWB.out w1 (HT.out.below (by rw[hH];exact B1)) (jobsAt_next HMB.out.1 (by rw[hH];exact B1)) (nodesAt_next HMB.out.2.1 (by rw[hH];exact B1)) (leasesAt_next HMB.out.2.2 (by rw[hH];exact B1))
 have eb:(⟨b.rev,b.jobs,b.nodes,b.leases⟩:StD)=b:=rfl
 rw[eb] at CB
 clear eb
 obtain⟨e2,he2⟩:∃e,checkE V8 b=e:=⟨_,rfl⟩
 rw[he2] at CB
 have CB:=Lib.hid CB
 have HE2:=Lib.hid he2
 have x0:=objAt_cell q1 0 rfl
 have x1:=objAt_cell q1 1 rfl
 have x2:=objAt_cell q1 2 rfl
 have x3:=objAt_cell q1 3 rfl
 have xl:=objAt_lt q1
 have P1:=Lib.hid (And.intro p1 (And.intro q1 (And.intro r1 B1)))
 have S1:=Lib.hid s1
 clear p1 q1 r1 B1 s1 he2
 go_wp2_with fail
 refine CB.out.mono ?_
 rintro e w2 ⟨rfl,b2⟩
 obtain⟨p1,q1,r1,B1⟩:=P1.out
 have p2:=objAt_next p1 b2
 have q2:=objAt_next q1 b2
 have r2:=objAt_next r1 b2
 have B2:=below_trans B1 b2 (by have:=S1.out;omega)
 have s2:H+3≤w2.heap.size:=by have:=b2.size;have:=S1.out;omega
 clear CB P1 p1 q1 r1 B1 b2 x0 x1 x2 x3 xl
 by_cases z2:e2≠0
 ·have z':((e2:Int)!=0)=true:=by simp;omega
  have HE:Hid (D=(zeroDel,e2)):=by show _=_;rw[←HD.out];rw[diffR_b HE1.out (by rw[HE2.out];exact z2),HE2.out]
  have k0:=objAt_cell r2 0 rfl
  have f0:=objAt_free r2 0
  have k1:=objAt_cell r2 1 rfl
  have f1:=objAt_free r2 1
  have k2:=objAt_cell r2 2 rfl
  have f2:=objAt_free r2 2
  have k3:=objAt_cell r2 3 rfl
  have f3:=objAt_free r2 3
  have k4:=objAt_cell r2 4 rfl
  have f4:=objAt_free r2 4
  have k5:=objAt_cell r2 5 rfl
  have f5:=objAt_free r2 5
  have k6:=objAt_cell r2 6 rfl
  have f6:=objAt_free r2 6
  have k7:=objAt_cell r2 7 rfl
  have f7:=objAt_free r2 7
  have kl:=objAt_lt r2
  have oF:=obj_put8 r2 (.int .i64 0) (.int .i64 0) (.slice none 0 0) (.slice none 0 0) (.slice none 0 0) (.slice none 0 0) (.slice none 0 0) (.slice none 0 0)
  have t0:=objAt_cell oF 0 rfl
  have t1:=objAt_cell oF 1 rfl
  have t2:=objAt_cell oF 2 rfl
  have t3:=objAt_cell oF 3 rfl
  have t4:=objAt_cell oF 4 rfl
  have t5:=objAt_cell oF 5 rfl
  have t6:=objAt_cell oF 6 rfl
  have t7:=objAt_cell oF 7 rfl
  have TT:=Lib.hid (And.intro t0 (And.intro t1 (And.intro t2 (And.intro t3 (And.intro t4 (And.intro t5 (And.intro t6 t7)))))))
  have BF:=Lib.hid (below_put8 B2 (show H≤H+2 by omega) (.int .i64 0) (.int .i64 0) (.slice none 0 0) (.slice none 0 0) (.slice none 0 0) (.slice none 0 0) (.slice none 0 0) (.slice none 0 0))
  clear oF t0 t1 t2 t3 t4 t5 t6 t7 p2 q2 r2 B2
  go_wp2
  obtain⟨t0,t1,t2,t3,t4,t5,t6,t7⟩:=TT.out
  exact bodyPost_ret (v:=.tuple #[.agg #[.int .i64 0,.int .i64 0,.slice none 0 0,.slice none 0 0,.slice none 0 0,.slice none 0 0,.slice none 0 0,.slice none 0 0],.int .i64 (e2:Int)]) (by simp[results,Tryz.results90,go_sem,t0,t1,t2,t3,t4,t5,t6,t7]) rfl ⟨⟨none,0,none,0,none,0,none,0,none,0,none,0⟩,by rw[HE.out];rfl,by rw[HE.out];exact ownD_zero _ _,BF.out⟩
 obtain rfl:e2=0:=by simpa using z2
 clear z2
 have y0:=objAt_cell p2 0 rfl
 have x0:=objAt_cell q2 0 rfl
 have y1:=objAt_cell p2 1 rfl
 have x1:=objAt_cell q2 1 rfl
 have y2:=objAt_cell p2 2 rfl
 have x2:=objAt_cell q2 2 rfl
 have y3:=objAt_cell p2 3 rfl
 have x3:=objAt_cell q2 3 rfl
 have yl:=objAt_lt p2
 have xl:=objAt_lt q2
 by_cases z3:b.rev≤a.rev
 ·have HZ:=Lib.hid z3
  have HE:Hid (D=(zeroDel,1)):=by show _=_;rw[←HD.out];rw[diffR_rev HE1.out HE2.out HZ.out]
  have k0:=objAt_cell r2 0 rfl
  have f0:=objAt_free r2 0
  have k1:=objAt_cell r2 1 rfl
  have f1:=objAt_free r2 1
  have k2:=objAt_cell r2 2 rfl
  have f2:=objAt_free r2 2
  have k3:=objAt_cell r2 3 rfl
  have f3:=objAt_free r2 3
  have k4:=objAt_cell r2 4 rfl
  have f4:=objAt_free r2 4
  have k5:=objAt_cell r2 5 rfl
  have f5:=objAt_free r2 5
  have k6:=objAt_cell r2 6 rfl
  have f6:=objAt_free r2 6
  have k7:=objAt_cell r2 7 rfl
  have f7:=objAt_free r2 7
  have kl:=objAt_lt r2
  have oF:=obj_put8 r2 (.int .i64 0) (.int .i64 0) (.slice none 0 0) (.slice none 0 0) (.slice none 0 0) (.slice none 0 0) (.slice none 0 0) (.slice none 0 0)
  have t0:=objAt_cell oF 0 rfl
  have t1:=objAt_cell oF 1 rfl
  have t2:=objAt_cell oF 2 rfl
  have t3:=objAt_cell oF 3 rfl
  have t4:=objAt_cell oF 4 rfl
  have t5:=objAt_cell oF 5 rfl
  have t6:=objAt_cell oF 6 rfl
  have t7:=objAt_cell oF 7 rfl
  have TT:=Lib.hid (And.intro t0 (And.intro t1 (And.intro t2 (And.intro t3 (And.intro t4 (And.intro t5 (And.intro t6 t7)))))))
  have BF:=Lib.hid (below_put8 B2 (show H≤H+2 by omega) (.int .i64 0) (.int .i64 0) (.slice none 0 0) (.slice none 0 0) (.slice none 0 0) (.slice none 0 0) (.slice none 0 0) (.slice none 0 0))
  clear oF t0 t1 t2 t3 t4 t5 t6 t7 p2 q2 r2 B2
  go_wp2
  obtain⟨t0,t1,t2,t3,t4,t5,t6,t7⟩:=TT.out
  exact bodyPost_ret (v:=.tuple #[.agg #[.int .i64 0,.int .i64 0,.slice none 0 0,.slice none 0 0,.slice none 0 0,.slice none 0 0,.slice none 0 0,.slice none 0 0],.int .i64 1]) (by simp[results,Tryz.results90,go_sem,t0,t1,t2,t3,t4,t5,t6,t7]) rfl ⟨⟨none,0,none,0,none,0,none,0,none,0,none,0⟩,by rw[HE.out];rfl,by rw[HE.out];exact ownD_zero _ _,BF.out⟩
 have HRv:Hid (a.rev<b.rev):=by show _<_;omega
 have z3':a.rev<b.rev:=by omega
 clear z3
 have VA:=Lib.hid (valid_facts HE1.out)
 have VB:=Lib.hid (valid_facts HE2.out)
 go_upto_region 9 with fail
 go_cut [] from 27 (fun wc=>∃(ja na la jb nb lb:Option Addr) (jc nc lc kc mc oc:Nat),ObjAt H #[.int .i64 a.rev,.slice ja a.jobs.length jc,.slice na a.nodes.length nc,.slice la a.leases.length lc] 26 wc∧ObjAt (H+1) #[.int .i64 b.rev,.slice jb b.jobs.length kc,.slice nb b.nodes.length mc,.slice lb b.leases.length oc] 26 wc∧ObjAt (H+2) #[.int .i64 0,.int .i64 0,.slice none 0 0,.slice none 0 0,.slice none 0 0,.slice none 0 0,.slice none 0 0,.slice none 0 0] 49 wc∧OwnS (H+3) ja na la jc nc lc a wc∧OwnS (H+3) jb nb lb kc mc oc b wc∧Below H w wc)
 case first =>
  have C1:=Lib.hid (sep_any a aj an al cj cn cl HE1.out w2.drew (jobsAt_next HMA.out.1 (by rw[hH];exact B2.drew)) (nodesAt_next HMA.out.2.1 (by rw[hH];exact B2.drew)) (leasesAt_next HMA.out.2.2 (by rw[hH];exact B2.drew)))
  have S2:=Lib.hid s2
  have PP:=Lib.hid (And.intro p2 (And.intro q2 (And.intro r2 B2)))
  clear p2 q2 r2 B2 s2
  go_region_law (first
   | (go_simp;go_at_call 16;(with_reducible refine C1.out.mono ?_);rintro e x1_ ⟨ja,na,la,jc,nc,lc,rfl,OA,b3⟩;have B3:=below_trans PP.out.2.2.2.drew b3 (show H≤w2.heap.size by have:=S2.out;omega);have P3:=objAt_next (w:=w2.drew) PP.out.1 b3;have Q3:=objAt_next (w:=w2.drew) PP.out.2.1 b3;have R3:=objAt_next (w:=w2.drew) PP.out.2.2.1 b3;have OA3:=Lib.hid (ownS_low (B':=H+3) OA (show H+3≤w2.heap.size from S2.out));have C2:=Lib.hid (sep_any b bj bn bl dj dn dl HE2.out x1_ (jobsAt_next HMB.out.1 (by rw[hH];exact B3)) (nodesAt_next HMB.out.2.1 (by rw[hH];exact B3)) (leasesAt_next HMB.out.2.2 (by rw[hH];exact B3)));have u0:=objAt_cell Q3 0 rfl;have u1:=objAt_cell Q3 1 rfl;have u2:=objAt_cell Q3 2 rfl;have u3:=objAt_cell Q3 3 rfl;have ul:=objAt_lt Q3;have S3:Hid (H+3≤x1_.heap.size):=(by show H+3≤x1_.heap.size;have:=b3.size;have:w2.drew.heap.size=w2.heap.size:=rfl;have:=S2.out;omega);have PQ:=Lib.hid (And.intro P3 (And.intro Q3 (And.intro R3 B3)));clear P3 Q3 R3 B3 OA b3)
   | (go_simp;go_at_call 16;(with_reducible refine C2.out.mono ?_);rintro e x2_ ⟨jb,nb,lb,kc,mc,oc,rfl,OB,b4⟩;have P4:=objAt_next PQ.out.1 b4;have Q4:=objAt_next PQ.out.2.1 b4;have R4:=objAt_next PQ.out.2.2.1 b4;have B4:=below_trans PQ.out.2.2.2 b4 (by have:=S3.out;omega);have OA4:=ownS_next OA3.out b4;have OB4:=ownS_low (B':=H+3) OB S3.out;have g0:=objAt_free P4 0;have g1:=objAt_free P4 1;have g2:=objAt_free P4 2;have g3:=objAt_free P4 3;have h0:=objAt_free Q4 0;have h1:=objAt_free Q4 1;have h2:=objAt_free Q4 2;have h3:=objAt_free Q4 3;have m0:=objAt_cell P4 0 rfl;have m1:=objAt_cell P4 1 rfl;have m2:=objAt_cell P4 2 rfl;have m3:=objAt_cell P4 3 rfl;have n0:=objAt_cell Q4 0 rfl;have n1:=objAt_cell Q4 1 rfl;have n2:=objAt_cell Q4 2 rfl;have n3:=objAt_cell Q4 3 rfl;have ml:=objAt_lt P4;have nl:=objAt_lt Q4;have ZZ:=Lib.hid (And.intro P4 (And.intro Q4 (And.intro R4 (And.intro OA4 (And.intro OB4 B4)))));clear P4 Q4 R4 OA4 OB4 B4 OB b4))
  all_goals
   go_wp2_with fail
   go_meet
   case rel =>
    obtain⟨P4,Q4,R4,OA4,OB4,B4⟩:=ZZ.out
    have P5:=obj_put4 P4 (.int .i64 a.rev) (.slice ja a.jobs.length jc) (.slice na a.nodes.length nc) (.slice la a.leases.length lc)
    have Q5:=other_put4 (b:=H) Q4 (by omega) (.int .i64 a.rev) (.slice ja a.jobs.length jc) (.slice na a.nodes.length nc) (.slice la a.leases.length lc)
    have R5:=other_put4 (b:=H) R4 (by omega) (.int .i64 a.rev) (.slice ja a.jobs.length jc) (.slice na a.nodes.length nc) (.slice la a.leases.length lc)
    have OA5:=ownS_put4 OA4 P4 (.int .i64 a.rev) (.slice ja a.jobs.length jc) (.slice na a.nodes.length nc) (.slice la a.leases.length lc)
    have OB5:=ownS_put4 OB4 P4 (.int .i64 a.rev) (.slice ja a.jobs.length jc) (.slice na a.nodes.length nc) (.slice la a.leases.length lc)
    have B5:=below_put4 B4 (Nat.le_refl H) (.int .i64 a.rev) (.slice ja a.jobs.length jc) (.slice na a.nodes.length nc) (.slice la a.leases.length lc)
    exact⟨ja,na,la,jb,nb,lb,jc,nc,lc,kc,mc,oc,other_put4 (b:=H+1) P5 (by omega) (.int .i64 b.rev) (.slice jb b.jobs.length kc) (.slice nb b.nodes.length mc) (.slice lb b.leases.length oc),obj_put4 Q5 (.int .i64 b.rev) (.slice jb b.jobs.length kc) (.slice nb b.nodes.length mc) (.slice lb b.leases.length oc),other_put4 (b:=H+1) R5 (by omega) (.int .i64 b.rev) (.slice jb b.jobs.length kc) (.slice nb b.nodes.length mc) (.slice lb b.leases.length oc),ownS_put4 OA5 Q5 (.int .i64 b.rev) (.slice jb b.jobs.length kc) (.slice nb b.nodes.length mc) (.slice lb b.leases.length oc),ownS_put4 OB5 Q5 (.int .i64 b.rev) (.slice jb b.jobs.length kc) (.slice nb b.nodes.length mc) (.slice lb b.leases.length oc),below_put4 B5 (show H≤H+1 by omega) (.int .i64 b.rev) (.slice jb b.jobs.length kc) (.slice nb b.nodes.length mc) (.slice lb b.leases.length oc)⟩
 case rest =>
  obtain⟨ja,na,la,jb,nb,lb,jc,nc,lc,kc,mc,oc,P,Q,R,OA,OB,BB⟩:=hcut
  clear p2 q2 r2 B2 s2 y0 y1 y2 y3 x0 x1 x2 x3 yl xl
  have y0:=objAt_cell P 0 rfl
  have x0:=objAt_cell Q 0 rfl
  have y1:=objAt_cell P 1 rfl
  have x1:=objAt_cell Q 1 rfl
  have y2:=objAt_cell P 2 rfl
  have x2:=objAt_cell Q 2 rfl
  have y3:=objAt_cell P 3 rfl
  have x3:=objAt_cell Q 3 rfl
  have yl:=objAt_lt P
  have xl:=objAt_lt Q
  obtain⟨N,hN⟩:∃N,wc.heap.size=N:=⟨_,rfl⟩
  have sN:H+3≤N:=by have:=objAt_lt R;omega
  have yl2:H<N:=by omega
  have xl2:H+1<N:=by omega
  obtain⟨U0,hU0⟩:∃U0,wc.alloc (.cells #[.int .i64 a.rev,.int .i64 b.rev,.slice none 0 0,.slice none 0 0,.slice none 0 0,.slice none 0 0,.slice none 0 0,.slice none 0 0] 49)=U0:=⟨_,rfl⟩
  have bU:Below N wc U0:=by rw[←hU0,←hN];exact below_one _ _
  have sU0:U0.heap.size=N+1:=by rw[←hU0,World.size_alloc,hN]
  have oD0:ObjAt N #[.int .i64 a.rev,.int .i64 b.rev,.slice none 0 0,.slice none 0 0,.slice none 0 0,.slice none 0 0,.slice none 0 0,.slice none 0 0] 49 U0:=by rw[←hU0,←hN];exact objAt_new wc _ _
  have P0:=objAt_next P (by rw[hN];exact bU)
  have Q0:=objAt_next Q (by rw[hN];exact bU)
  have R0:=objAt_next R (by rw[hN];exact bU)
  have OA0:=ownS_next OA (by rw[hN];exact bU)
  have OB0:=ownS_next OB (by rw[hN];exact bU)
  have B0:=below_trans BB (by rw[hN];exact bU) (by omega)
  have HU0:=Lib.hid hU0
  clear P Q R OA OB BB bU hU0
  have G0:=Lib.hid (compareJob_is a.jobs b.jobs ja jb jc kc VA.out.1.1 VB.out.1.1 VA.out.2.1.1 VB.out.2.1.1 VA.out.2.2.1 VB.out.2.2.1 U0 (ownJobs OA0.1 rfl) (ownJobs OB0.1 rfl))
  have ZZ0:=Lib.hid (And.intro P0 (And.intro Q0 (And.intro R0 (And.intro OA0 (And.intro OB0 (And.intro B0 oD0))))))
  have SS0:=Lib.hid sU0
  clear P0 Q0 R0 OA0 OB0 B0 oD0 sU0
  go_wp2_with fail
  rw[HU0.out]
  refine G0.out.mono ?_
  rintro e v1 ⟨g1,i1,k1,l1,rfl,T1,V1,b1⟩
  obtain⟨P,Q,R,OA,OB,B,oD⟩:=ZZ0.out
  have P':=objAt_next P b1
  have Q':=objAt_next Q b1
  have R':=objAt_next R b1
  have OA':=ownS_next OA b1
  have OB':=ownS_next OB b1
  have oD':=objAt_next oD b1
  have B':=below_trans B b1 (by have:=SS0.out;omega)
  have fr1:=objAt_free oD' 2
  have fr2:=objAt_free oD' 5
  have cd1:=objAt_cell oD' 2 rfl
  have cd2:=objAt_cell oD' 5 rfl
  have dlt:=objAt_lt oD'
  obtain⟨U1,hU1⟩:∃U,(v1.setCell ⟨N,2,none⟩ (.slice g1 (newL a.jobs b.jobs).length i1)).setCell ⟨N,5,none⟩ (.slice k1 (goneL (·.name) a.jobs b.jobs).length l1)=U:=⟨_,rfl⟩
  obtain⟨z1,z2,z3,z4,z5⟩:=dl_two oD' 2 5 (.slice g1 (newL a.jobs b.jobs).length i1) (.slice k1 (goneL (·.name) a.jobs b.jobs).length l1) hU1
  have oD1:ObjAt N #[.int .i64 a.rev,.int .i64 b.rev,.slice g1 (newL a.jobs b.jobs).length i1,.slice none 0 0,.slice none 0 0,.slice k1 (goneL (·.name) a.jobs b.jobs).length l1,.slice none 0 0,.slice none 0 0] 49 U1:=z1
  have P1:=z2 _ _ _ (show H≠N by omega) P'
  have Q1:=z2 _ _ _ (show H+1≠N by omega) Q'
  have R1:=z2 _ _ _ (show H+2≠N by omega) R'
  have OA1:OwnS (H+3) ja na la jc nc lc a U1:=⟨z3 _ _ _ _ _ _ (by decide) OA'.1,z3 _ _ _ _ _ _ (by decide) OA'.2.1,z3 _ _ _ _ _ _ (by decide) OA'.2.2⟩
  have OB1:OwnS (H+3) jb nb lb kc mc oc b U1:=⟨z3 _ _ _ _ _ _ (by decide) OB'.1,z3 _ _ _ _ _ _ (by decide) OB'.2.1,z3 _ _ _ _ _ _ (by decide) OB'.2.2⟩
  have B1:=z4 _ _ (show H≤N by omega) B'
  have T':=z3 _ _ _ _ _ _ (by decide) (ownsRow_low (B':=H) T1 (by have:=SS0.out;omega))
  have V':=z3 _ _ _ _ _ _ (by decide) (ownsRow_low (B':=H) V1 (by have:=SS0.out;omega))
  have sU1:N+1≤U1.heap.size:=by rw[z5];have:=b1.size;have:=SS0.out;omega
  have rows1:=And.intro T' V'
  have HU1:=Lib.hid hU1
  clear hU1 z1 z2 z3 z4 z5 P Q R OA OB B oD P' Q' R' OA' OB' oD' B' T' V' T1 V1 b1 G0 ZZ0 SS0 y1 x1 yl xl y0 x0 y2 x2 y3 x3
  go_upto_region 12 with fail
  rw[HU1.out]
  clear fr1 fr2 cd1 cd2 dlt HU1
  have G1:=Lib.hid (compareNode_is a.nodes b.nodes na nb nc mc VA.out.1.2.1 VB.out.1.2.1 (by have:=VA.out.2.1.2.1;omega) (by have:=VB.out.2.1.2.1;omega) VA.out.2.2.2.1 VB.out.2.2.2.1 U1 (ownNodes OA1.2.1 rfl) (ownNodes OB1.2.1 rfl))
  have y2:=objAt_cell P1 2 rfl
  have x2:=objAt_cell Q1 2 rfl
  have yl:=objAt_lt P1
  have xl:=objAt_lt Q1
  have ZZ1:=Lib.hid (And.intro P1 (And.intro Q1 (And.intro R1 (And.intro OA1 (And.intro OB1 (And.intro B1 oD1))))))
  have RR1:=Lib.hid rows1
  clear rows1
  have SS1:=Lib.hid sU1
  clear P1 Q1 R1 OA1 OB1 B1 oD1 sU1
  go_wp2_with fail
  refine G1.out.mono ?_
  rintro e v2 ⟨g2,i2,k2,l2,rfl,T2,V2,b2⟩
  obtain⟨P,Q,R,OA,OB,B,oD⟩:=ZZ1.out
  have P':=objAt_next P b2
  have Q':=objAt_next Q b2
  have R':=objAt_next R b2
  have OA':=ownS_next OA b2
  have OB':=ownS_next OB b2
  have oD':=objAt_next oD b2
  have B':=below_trans B b2 (by have:=SS1.out;omega)
  have fr1:=objAt_free oD' 3
  have fr2:=objAt_free oD' 6
  have cd1:=objAt_cell oD' 3 rfl
  have cd2:=objAt_cell oD' 6 rfl
  have dlt:=objAt_lt oD'
  obtain⟨U2,hU2⟩:∃U,(v2.setCell ⟨N,3,none⟩ (.slice g2 (newL a.nodes b.nodes).length i2)).setCell ⟨N,6,none⟩ (.slice k2 (goneL (·.name) a.nodes b.nodes).length l2)=U:=⟨_,rfl⟩
  obtain⟨z1,z2,z3,z4,z5⟩:=dl_two oD' 3 6 (.slice g2 (newL a.nodes b.nodes).length i2) (.slice k2 (goneL (·.name) a.nodes b.nodes).length l2) hU2
  have oD2:ObjAt N #[.int .i64 a.rev,.int .i64 b.rev,.slice g1 (newL a.jobs b.jobs).length i1,.slice g2 (newL a.nodes b.nodes).length i2,.slice none 0 0,.slice k1 (goneL (·.name) a.jobs b.jobs).length l1,.slice k2 (goneL (·.name) a.nodes b.nodes).length l2,.slice none 0 0] 49 U2:=z1
  have P2:=z2 _ _ _ (show H≠N by omega) P'
  have Q2:=z2 _ _ _ (show H+1≠N by omega) Q'
  have R2:=z2 _ _ _ (show H+2≠N by omega) R'
  have OA2:OwnS (H+3) ja na la jc nc lc a U2:=⟨z3 _ _ _ _ _ _ (by decide) OA'.1,z3 _ _ _ _ _ _ (by decide) OA'.2.1,z3 _ _ _ _ _ _ (by decide) OA'.2.2⟩
  have OB2:OwnS (H+3) jb nb lb kc mc oc b U2:=⟨z3 _ _ _ _ _ _ (by decide) OB'.1,z3 _ _ _ _ _ _ (by decide) OB'.2.1,z3 _ _ _ _ _ _ (by decide) OB'.2.2⟩
  have B2:=z4 _ _ (show H≤N by omega) B'
  have T':=z3 _ _ _ _ _ _ (by decide) (ownsRow_low (B':=H) T2 (by have:=SS1.out;omega))
  have V':=z3 _ _ _ _ _ _ (by decide) (ownsRow_low (B':=H) V2 (by have:=SS1.out;omega))
  have sU2:N+1≤U2.heap.size:=by rw[z5];have:=b2.size;have:=SS1.out;omega
  have o1':=own_next RR1.out.1 b2
  have o2':=own_next RR1.out.2 b2
  have q1':=z3 _ _ _ _ _ _ (by decide) o1'
  have q2':=z3 _ _ _ _ _ _ (by decide) o2'
  have rows2:=And.intro (And.intro q1' q2') (And.intro T' V')
  clear o1' o2' q1' q2'
  have HU2:=Lib.hid hU2
  clear hU2 z1 z2 z3 z4 z5 P Q R OA OB B oD P' Q' R' OA' OB' oD' B' T' V' T2 V2 b2 G1 ZZ1 SS1 RR1 y2 x2 yl xl
  go_upto_region 13 with fail
  rw[HU2.out]
  clear fr1 fr2 cd1 cd2 dlt HU2
  have G2:=Lib.hid (compareLease_is a.leases b.leases la lb lc oc VA.out.1.2.2 VB.out.1.2.2 VA.out.2.1.2.2 VB.out.2.1.2.2 VA.out.2.2.2.2 VB.out.2.2.2.2 U2 (ownLeases OA2.2.2 rfl) (ownLeases OB2.2.2 rfl))
  have y3:=objAt_cell P2 3 rfl
  have x3:=objAt_cell Q2 3 rfl
  have yl:=objAt_lt P2
  have xl:=objAt_lt Q2
  have ZZ2:=Lib.hid (And.intro P2 (And.intro Q2 (And.intro R2 (And.intro OA2 (And.intro OB2 (And.intro B2 oD2))))))
  have RR2:=Lib.hid rows2
  clear rows2
  have SS2:=Lib.hid sU2
  clear P2 Q2 R2 OA2 OB2 B2 oD2 sU2
  go_wp2_with fail
  refine G2.out.mono ?_
  rintro e v3 ⟨g3,i3,k3,l3,rfl,T3,V3,b3⟩
  obtain⟨P,Q,R,OA,OB,B,oD⟩:=ZZ2.out
  have P':=objAt_next P b3
  have Q':=objAt_next Q b3
  have R':=objAt_next R b3
  have OA':=ownS_next OA b3
  have OB':=ownS_next OB b3
  have oD':=objAt_next oD b3
  have B':=below_trans B b3 (by have:=SS2.out;omega)
  have fr1:=objAt_free oD' 4
  have fr2:=objAt_free oD' 7
  have cd1:=objAt_cell oD' 4 rfl
  have cd2:=objAt_cell oD' 7 rfl
  have dlt:=objAt_lt oD'
  obtain⟨U3,hU3⟩:∃U,(v3.setCell ⟨N,4,none⟩ (.slice g3 (newL a.leases b.leases).length i3)).setCell ⟨N,7,none⟩ (.slice k3 (goneL (·.job) a.leases b.leases).length l3)=U:=⟨_,rfl⟩
  obtain⟨z1,z2,z3,z4,z5⟩:=dl_two oD' 4 7 (.slice g3 (newL a.leases b.leases).length i3) (.slice k3 (goneL (·.job) a.leases b.leases).length l3) hU3
  have oD3:ObjAt N #[.int .i64 a.rev,.int .i64 b.rev,.slice g1 (newL a.jobs b.jobs).length i1,.slice g2 (newL a.nodes b.nodes).length i2,.slice g3 (newL a.leases b.leases).length i3,.slice k1 (goneL (·.name) a.jobs b.jobs).length l1,.slice k2 (goneL (·.name) a.nodes b.nodes).length l2,.slice k3 (goneL (·.job) a.leases b.leases).length l3] 49 U3:=z1
  have P3:=z2 _ _ _ (show H≠N by omega) P'
  have Q3:=z2 _ _ _ (show H+1≠N by omega) Q'
  have R3:=z2 _ _ _ (show H+2≠N by omega) R'
  have OA3:OwnS (H+3) ja na la jc nc lc a U3:=⟨z3 _ _ _ _ _ _ (by decide) OA'.1,z3 _ _ _ _ _ _ (by decide) OA'.2.1,z3 _ _ _ _ _ _ (by decide) OA'.2.2⟩
  have OB3:OwnS (H+3) jb nb lb kc mc oc b U3:=⟨z3 _ _ _ _ _ _ (by decide) OB'.1,z3 _ _ _ _ _ _ (by decide) OB'.2.1,z3 _ _ _ _ _ _ (by decide) OB'.2.2⟩
  have B3:=z4 _ _ (show H≤N by omega) B'
  have T':=z3 _ _ _ _ _ _ (by decide) (ownsRow_low (B':=H) T3 (by have:=SS2.out;omega))
  have V':=z3 _ _ _ _ _ _ (by decide) (ownsRow_low (B':=H) V3 (by have:=SS2.out;omega))
  have sU3:N+1≤U3.heap.size:=by rw[z5];have:=b3.size;have:=SS2.out;omega
  have o1':=own_next RR2.out.1.1 b3
  have o2':=own_next RR2.out.1.2 b3
  have o3':=own_next RR2.out.2.1 b3
  have o4':=own_next RR2.out.2.2 b3
  have q1':=z3 _ _ _ _ _ _ (by decide) o1'
  have q2':=z3 _ _ _ _ _ _ (by decide) o2'
  have q3':=z3 _ _ _ _ _ _ (by decide) o3'
  have q4':=z3 _ _ _ _ _ _ (by decide) o4'
  have rows3:=And.intro (And.intro q1' q2') (And.intro (And.intro q3' q4') (And.intro T' V'))
  clear o1' o2' o3' o4' q1' q2' q3' q4'
  have HU3:=Lib.hid hU3
  clear hU3 z1 z2 z3 z4 z5 P Q R OA OB B oD P' Q' R' OA' OB' oD' B' T' V' T3 V3 b3 G2 ZZ2 SS2 RR2 y3 x3 yl xl
  go_upto_region 14 with fail
  rw[HU3.out]
  clear fr1 fr2 cd1 cd2 dlt HU3
  have HE:Hid (D=(diffS a b,0)):=by show _=_;rw[←HD.out];exact diffR_ok HE1.out HE2.out HRv.out
  have oW:OwnD H ⟨g1,i1,g2,i2,g3,i3,k1,l1,k2,l2,k3,l3⟩ (diffS a b) U3:=⟨rows3.1.1,rows3.2.1.1,rows3.2.2.1,rows3.1.2,rows3.2.1.2,rows3.2.2.2⟩
  have k_0:=objAt_cell R3 0 rfl
  have f0:=objAt_free R3 0
  have m0:=objAt_cell oD3 0 rfl
  have k_1:=objAt_cell R3 1 rfl
  have f1:=objAt_free R3 1
  have m1:=objAt_cell oD3 1 rfl
  have k_2:=objAt_cell R3 2 rfl
  have f2:=objAt_free R3 2
  have m2:=objAt_cell oD3 2 rfl
  have k_3:=objAt_cell R3 3 rfl
  have f3:=objAt_free R3 3
  have m3:=objAt_cell oD3 3 rfl
  have k_4:=objAt_cell R3 4 rfl
  have f4:=objAt_free R3 4
  have m4:=objAt_cell oD3 4 rfl
  have k_5:=objAt_cell R3 5 rfl
  have f5:=objAt_free R3 5
  have m5:=objAt_cell oD3 5 rfl
  have k_6:=objAt_cell R3 6 rfl
  have f6:=objAt_free R3 6
  have m6:=objAt_cell oD3 6 rfl
  have k_7:=objAt_cell R3 7 rfl
  have f7:=objAt_free R3 7
  have m7:=objAt_cell oD3 7 rfl
  have kl:=objAt_lt R3
  have ml:=objAt_lt oD3
  have oF:=obj_put8 R3 (.int .i64 a.rev) (.int .i64 b.rev) (.slice g1 (newL a.jobs b.jobs).length i1) (.slice g2 (newL a.nodes b.nodes).length i2) (.slice g3 (newL a.leases b.leases).length i3) (.slice k1 (goneL (·.name) a.jobs b.jobs).length l1) (.slice k2 (goneL (·.name) a.nodes b.nodes).length l2) (.slice k3 (goneL (·.job) a.leases b.leases).length l3)
  have t0:=objAt_cell oF 0 rfl
  have t1:=objAt_cell oF 1 rfl
  have t2:=objAt_cell oF 2 rfl
  have t3:=objAt_cell oF 3 rfl
  have t4:=objAt_cell oF 4 rfl
  have t5:=objAt_cell oF 5 rfl
  have t6:=objAt_cell oF 6 rfl
  have t7:=objAt_cell oF 7 rfl
  have TT:=Lib.hid (And.intro t0 (And.intro t1 (And.intro t2 (And.intro t3 (And.intro t4 (And.intro t5 (And.intro t6 t7)))))))
  have BF:=Lib.hid (below_put8 B3 (show H≤H+2 by omega) (.int .i64 a.rev) (.int .i64 b.rev) (.slice g1 (newL a.jobs b.jobs).length i1) (.slice g2 (newL a.nodes b.nodes).length i2) (.slice g3 (newL a.leases b.leases).length i3) (.slice k1 (goneL (·.name) a.jobs b.jobs).length l1) (.slice k2 (goneL (·.name) a.nodes b.nodes).length l2) (.slice k3 (goneL (·.job) a.leases b.leases).length l3))
  have OF:=Lib.hid (ownD_put8 oW R3 (.int .i64 a.rev) (.int .i64 b.rev) (.slice g1 (newL a.jobs b.jobs).length i1) (.slice g2 (newL a.nodes b.nodes).length i2) (.slice g3 (newL a.leases b.leases).length i3) (.slice k1 (goneL (·.name) a.jobs b.jobs).length l1) (.slice k2 (goneL (·.name) a.nodes b.nodes).length l2) (.slice k3 (goneL (·.job) a.leases b.leases).length l3))
  clear oF t0 t1 t2 t3 t4 t5 t6 t7 P3 Q3 R3 OA3 OB3 B3 oD3 rows3 oW
  go_wp2
  obtain⟨t0,t1,t2,t3,t4,t5,t6,t7⟩:=TT.out
  exact bodyPost_ret (v:=.tuple #[.agg #[.int .i64 a.rev,.int .i64 b.rev,.slice g1 (newL a.jobs b.jobs).length i1,.slice g2 (newL a.nodes b.nodes).length i2,.slice g3 (newL a.leases b.leases).length i3,.slice k1 (goneL (·.name) a.jobs b.jobs).length l1,.slice k2 (goneL (·.name) a.nodes b.nodes).length l2,.slice k3 (goneL (·.job) a.leases b.leases).length l3],.int .i64 0]) (by simp[results,Tryz.results90,go_sem,t0,t1,t2,t3,t4,t5,t6,t7]) rfl ⟨⟨g1,i1,g2,i2,g3,i3,k1,l1,k2,l2,k3,l3⟩,by rw[HE.out];rfl,by rw[HE.out];exact OF.out,BF.out⟩
end Go.Proofs.YtiekgafopalfmaaGreatDoor
namespace Go.Proofs.YtiekgafopalfmaaGreatDoor
open Go.RowKit
theorem gN_refl (N:Nat) (w:World):w.grownBy w (some N):=⟨rfl,rfl,rfl,Nat.le_refl _,fun _ _ _=>rfl⟩
theorem gN_next {N:Nat}{w w1 w2:World} (h:w.grownBy w1 (some N)) (b:Below w1.heap.size w1 w2):w.grownBy w2 (some N) :=
 ⟨b.os.trans h.os,b.tape.trans h.tape,b.output.trans h.output,Nat.le_trans h.size b.size,fun k hk hne=>(b.block k (Nat.lt_of_lt_of_le hk h.size)).trans (h.block k hk hne)⟩
theorem gN_app {N:Nat}{w w1 w2:World}{row:Option Nat} (h:w.grownBy w1 (some N)) (g:w1.grownBy w2 row) (hr:∀k,row=some k→w.heap.size≤k):w.grownBy w2 (some N) :=
 ⟨g.os.trans h.os,g.tape.trans h.tape,g.output.trans h.output,Nat.le_trans h.size g.size,fun k hk hne=>(g.block k (Nat.lt_of_lt_of_le hk h.size) (fun e=>by have:=hr k e.symm;omega)).trans (h.block k hk hne)⟩
theorem gN_set {N:Nat}{w w1:World} (h:w.grownBy w1 (some N)) (j:Nat) (u:Value):w.grownBy (w1.setCell ⟨N,j,none⟩ u) (some N) :=
 ⟨h.os,h.tape,h.output,by simp only[World.setCell,Array.size_modify];exact h.size,fun k hk hne=>(Below.heap_setCell _ _ _ _ (fun e=>hne (by rw[e]))).trans (h.block k hk hne)⟩
theorem gN_below {B N:Nat}{w0 w w':World} (h:Below B w0 w) (hB:B≤w.heap.size) (hN:B≤N) (g:w.grownBy w' (some N)):Below B w0 w':=h.grown g hB (fun k e=>by cases e;exact hN)
theorem own_gN {B e sz n N:Nat}{w w':World}{v:Value}{xs:List Value}{vs:Array Value}{t:TypeId} (h:w.ownsRow B e sz v n xs) (ho:ObjAt N vs t w) (ht:t≠e) (g:w.grownBy w' (some N)):w'.ownsRow B e sz v n xs:=by
 refine⟨h.1,?_⟩
 rcases h.2 with h0 | ⟨b,cap,cur,hv,hbg,hgc,r⟩
 ·exact .inl h0
 ·refine .inr ⟨b,cap,cur,hv,hbg,?_,r⟩
  rw[g.block b (Array.getElem?_eq_some_iff.1 hgc).1 (fun e1=>by
   simp only[Option.some.injEq] at e1
   subst e1
   unfold ObjAt at ho
   rw[ho] at hgc
   simp only[Option.some.injEq,Obj.cells.injEq] at hgc
   exact ht hgc.2.1)]
  exact hgc
theorem objAt_gN {b N:Nat}{w w':World}{vs:Array Value}{t:TypeId} (h:ObjAt b vs t w) (hn:b≠N) (g:w.grownBy w' (some N)):ObjAt b vs t w':=objAt_grown h g (by simpa using hn)
theorem objAt_app {b B e sz n:Nat}{w w':World}{y:Value}{vs:Array Value}{t:TypeId}{ys:List Value} (h1:ObjAt b vs t w) (h2:w.ownsRow B e sz y n ys) (hb:b<B) (hg:w.grownBy w' y.ownBlock):ObjAt b vs t w':=objAt_grown h1 hg (own_nlow h2 hb)
section
variable {α : Type} {key : α → ByteArray}
open Classical in
theorem gone_take (a b:List α){i:Nat} (hi:i<a.length):goneL key (a.take (i+1)) b=goneL key (a.take i) b++(if ∀y∈b,key y≠key a[i] then [key a[i]] else []):=by
 unfold goneL
 rw[List.take_succ_eq_append_getElem hi,List.filter_append,List.map_append]
 by_cases h:∀y∈b,key y≠key a[i]
 ·congr 1
  rw[List.filter_cons,if_pos (decide_eq_true h),if_pos h];rfl
 ·congr 1
  rw[List.filter_cons,if_neg (fun e=>h (of_decide_eq_true e)),if_neg h];rfl
theorem gone_in {a b:List α}{i:Nat} (hi:i<a.length) (h:∃y∈b,key y=key a[i]):goneL key (a.take (i+1)) b=goneL key (a.take i) b:=by
 rw[gone_take a b hi,if_neg (fun h2=>by obtain⟨y,hy,e⟩:=h;exact h2 y hy e),List.append_nil]
theorem gone_out {a b:List α}{i:Nat} (hi:i<a.length) (h:∀y∈b,key y≠key a[i]):goneL key (a.take (i+1)) b=goneL key (a.take i) b ++ [key a[i]]:=by rw[gone_take a b hi,if_pos h]
theorem gone_count (a b:List α) (i:Nat):(goneL key (a.take i) b).length≤a.length:=Nat.le_trans (gone_length key _ b) (by rw[List.length_take];omega)
theorem at_or {l:List α}{x:ByteArray}{r:Int} (h:At key l x r):(r<0∧∀y∈l,key y≠x)∨(0≤r∧∃y∈l,key y=x):=by
 rcases h with ⟨rfl,h⟩ | ⟨k,hk,rfl,e,_⟩
 ·refine .inl ⟨by omega,fun y hy=>?_⟩
  obtain⟨j,hj,rfl⟩:=List.getElem_of_mem hy
  exact h j hj
 ·exact .inr ⟨by omega,_,List.getElem_mem hk,e⟩
end
def RefD (H L:Nat) (ca cb cr:Array Value) (W w:World):Prop:=ObjAt H ca 26 w∧ObjAt (H+1) cb 26 w∧ObjAt (H+2) cr 49 w∧Below H W w∧H+3≤L
theorem refD_gN {H L:Nat}{ca cb cr:Array Value}{W w w':World} (h:RefD H L ca cb cr W w) (g:w.grownBy w' (some L)):RefD H L ca cb cr W w' :=
 ⟨objAt_gN h.1 (by have:=h.2.2.2.2;omega) g,objAt_gN h.2.1 (by have:=h.2.2.2.2;omega) g,objAt_gN h.2.2.1 (by have:=h.2.2.2.2;omega) g,gN_below h.2.2.2.1 (Nat.le_of_lt (objAt_lt h.1)) (by have:=h.2.2.2.2;omega) g,h.2.2.2.2⟩
end Go.Proofs.YtiekgafopalfmaaGreatDoor
