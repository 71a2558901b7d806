import Derived.Test.YtiekgafopalfmaaGreatDoorPPkDl1
import Derived.Test.YtiekgafopalfmaaGreatDoorPPkSt1
import Derived.Shelf.SlSortCmp.WholeK
import Derived.Lib.Bytealg
import Derived.RangeFuncBox
import Derived.Test.YtiekgafopalfmaaGreatDoorDlShelf
import Derived.Test.YtiekgafopalfmaaGreatDoorPPkWi2
import Derived.Test.YtiekgafopalfmaaGreatDoorPPkWi3
import Derived.RangeFuncNested
import Derived.RangeFuncLeaves
import Derived.Shelf.Abstract
import Derived.WalkKit
import Derived.OwnWalkIn
import Derived.TacticsInMore
import Derived.LoopNIn
import Derived.LoopIn
import Derived.Maps.AppendAt
import Derived.Sort.MapsRangeIn
import Derived.Shelf.SlSortCmp.NoneTotal
import Derived.Deep.RegionHeld3
import Derived.Test.YtiekgafopalfmaaGreatDoorPPkWi4
set_option maxRecDepth 100000
set_option maxHeartbeats 4000000
namespace Go.Proofs.YtiekgafopalfmaaGreatDoor
open Go.RowKit
theorem heap_put {w:World}{g n:Nat}{os:Array Obj}{cur:Array Value}{e:TypeId}{fr:Nat×Nat} (F:Array Value) (hb:w.heap[g]?=some (.cells cur e fr)) :
  (Sort.grow (Sort.putRow id (Sort.ahead w n) g 0 F) os).heap[g]?=some (.cells (Sort.putCells id 0 F cur) e fr):=by
 have hg:g<w.heap.size:=(Array.getElem?_eq_some_iff.1 hb).1
 rw[Sort.heap_grow_old _ _ (by simpa using hg)]
 simp[Sort.putRow,Sort.mapBlock,Sort.ahead,Array.getElem?_modify,hb,Sort.onCells]
theorem grown_put {w:World}{g n:Nat}{os:Array Obj} (F:Array Value):w.grownBy (Sort.grow (Sort.putRow id (Sort.ahead w n) g 0 F) os) (some g):=by
 refine⟨rfl,rfl,rfl,by simp,fun k hk hne=>?_⟩
 rw[Sort.heap_grow_old _ _ (by simpa using hk)]
 have:g≠k:=fun e=>hne (by rw[e])
 simp[Sort.putRow,Sort.mapBlock,Sort.ahead,Array.getElem?_modify,this]
theorem take_put (cur F:Array Value) (h:F.size≤cur.size):(Sort.putCells id 0 F cur).toList.take F.size=F.toList:=by
 apply List.ext_getElem?
 intro j
 by_cases hj:j<F.size
 ·rw[List.getElem?_take_of_lt hj,Array.getElem?_toList,Array.getElem?_toList]
  simp[Sort.putCells,hj,show j<cur.size by omega]
 ·rw[List.getElem?_take_eq_none (by omega),List.getElem?_eq_none (by simp;omega)]
theorem holds_put {w:World}{g:Nat}{cur F:Array Value}{e:TypeId} (hb:w.heap[g]?=some (.cells cur e (0,0))) (ht:cur.toList.take F.size=F.toList):Sort.Holds id w g 0 F:=by
 intro j hj
 refine⟨?_,by simp[World.frozen?,hb]⟩
 have h1:(cur.toList.take F.size)[j]?=F.toList[j]?:=by rw[ht]
 rw[List.getElem?_take_of_lt hj] at h1
 simp only[World.cell?,hb,Nat.zero_add]
 simp only[Option.isSome_none,Bool.false_eq_true,if_false]
 rw[←Array.getElem?_toList,h1]
 simp[hj]
theorem own_put {w:World}{base g cap n q sz:Nat}{e:TypeId}{os:Array Obj}{cur F:Array Value}{xs:List Value} (hF:F.toList=xs) (hs:F.size=q*sz) (hbase:base≤g) (hb:w.heap[g]?=some (.cells cur e (0,0))) (h1:q≤cap) (h2:cap≤maxLen) (h3:cur.size=cap*sz) :
  (Sort.grow (Sort.putRow id (Sort.ahead w n) g 0 F) os).ownsRow base e sz (.slice (some ⟨g,0,none⟩) q cap) q xs:=by
 have hm:q*sz≤cap*sz:=Nat.mul_le_mul_right _ h1
 refine⟨by rw[←hF,Array.length_toList,hs],.inr ⟨g,cap,_,rfl,hbase,heap_put _ hb,h1,h2,by simp[Sort.putCells,h3],?_⟩⟩
 rw[←hs,take_put cur F (by omega),hF]
def Grew (W W':World):Prop:=∃q os,W'=Sort.grow (W.drewN q) os
theorem grew_refl (W:World):Grew W W:=⟨0,#[],by rw[Sort.grow_empty];rfl⟩
theorem grew_drew {W W':World} (h:Grew W W'):Grew W W'.drew:=by
 obtain⟨q,os,rfl⟩:=h
 exact⟨q+1,os,rfl⟩
theorem grew_alloc {W W':World} (h:Grew W W') (o:Obj):Grew W (W'.alloc o):=by
 obtain⟨q,os,rfl⟩:=h
 exact⟨q,os ++ #[o],by rw[Sort.alloc_eq_grow,Sort.grow_grow]⟩
theorem cmp_lt:∀a b:List UInt8,decide (Lib.compareBytes a b<0)=Op.bytesLess a b
 | [],[]=>rfl
 | [],_ :: _=>rfl
 | _ :: _,[]=>rfl
 | a :: x,b :: y=>by
  unfold Lib.compareBytes Op.bytesLess
  by_cases h1:a<b
  ·simp[h1]
  ·rw[if_neg h1]
   by_cases h2:b<a
   ·rw[if_pos h2]
    have h3:(a==b)=false:=by
     rw[beq_eq_false_iff_ne]
     rintro rfl
     exact absurd h2 (UInt8.lt_irrefl _)
    simp[h1,h3]
   ·rw[if_neg h2]
    have h3:a=b:=by
     apply UInt8.toNat_inj.1
     have e1:¬a.toNat<b.toNat:=h1
     have e2:¬b.toNat<a.toNat:=h2
     omega
    subst h3
    rw[cmp_lt x y]
    simp[h1]
def cmpK {α:Type} (key:α→ByteArray) (x y:α):Int:=Lib.compareBytes (key x).data.toList (key y).data.toList
theorem cmpK_lt {α:Type} (key:α→ByteArray) (x y:α):ltOf (cmpK key) x y=decide (lt (key x) (key y)):=by
 unfold ltOf cmpK
 rw[cmp_lt,less_is]
theorem cmpK_swo {α:Type} (key:α→ByteArray):Sort.SWO (ltOf (cmpK key)) where
 irrefl x:=by rw[cmpK_lt];simp[lt_irrefl]
 trans x y z h1 h2:=by
  rw[cmpK_lt] at *
  simp only[decide_eq_true_eq] at *
  exact lt_trans h1 h2
 ntrans x y z h1 h2:=by
  rw[cmpK_lt] at *
  simp only[decide_eq_false_iff_not] at *
  intro h3
  by_cases e:key x=key y
  ·rw[e] at h3;exact h2 h3
  ·rcases lt_or e with h | h
   ·exact h1 h
   ·exact h2 (lt_trans h h3)
theorem sorted_pair {α:Type} [Inhabited α] {key:α→ByteArray}{d:Array α} (h:Sort.SortedIn (ltOf (cmpK key)) 0 d.size d):d.toList.Pairwise (fun x y=>¬lt (key y) (key x)):=by
 rw[List.pairwise_iff_getElem]
 intro i j hi hj hij
 have h1:=h i j (Nat.zero_le _) hij (by simpa using hj)
 rw[cmpK_lt] at h1
 simp only[decide_eq_false_iff_not] at h1
 have e1:d[i]! = d.toList[i]:=by rw[getElem!_pos d i (by simpa using hi)];simp
 have e2:d[j]! = d.toList[j]:=by rw[getElem!_pos d j (by simpa using hj)];simp
 rw[e1,e2] at h1
 exact h1
theorem perm_in {α:Type} [Inhabited α] {d d':Array α} (h:Sort.PermIn 0 d.size d d'):d'.toList.Perm d.toList∧d'.size=d.size:=by
 obtain⟨h1,_,h3⟩:=h
 refine⟨?_,h1⟩
 have e1:(d'.extract 0 d.size)=d':=by rw[←h1,Array.extract_size]
 have e2:(d.extract 0 d.size)=d:=by rw[Array.extract_size]
 rw[e1,e2] at h3
 exact h3
instance:Inhabited JobD:=⟨⟨⟨#[]⟩,0,0,0,⟨#[]⟩⟩⟩
instance:Inhabited NodeD:=⟨⟨⟨#[]⟩,0,⟨#[]⟩⟩⟩
instance:Inhabited LeaseD:=⟨⟨⟨#[]⟩,⟨#[]⟩,0⟩⟩
theorem objAt_own {w w':World}{row:Option Nat}{B:Nat}{cs:Array Value}{t:TypeId} (h:w.heap[B]?=some (.cells cs t (0,0))) (hg:w.grownBy w' row) (hr:∀r,row=some r→∃o:Obj,w.heap[r]?=some o∧o.isCells=false):w'.heap[B]?=some (.cells cs t (0,0)):=by
 rw[hg.block B (Array.getElem?_eq_some_iff.1 h).1 (fun e=>by
  obtain⟨o,ho,hc⟩:=hr B e.symm
  rw[h] at ho
  cases ho
  cases hc)]
 exact h
end Go.Proofs.YtiekgafopalfmaaGreatDoor
namespace Go.Proofs.YtiekgafopalfmaaGreatDoor
open Go.RowKit Go.Shelf
attribute [local go_sem] Oper.semAt_some
theorem valJob1_in (n:Nat) (hn:1≤n) (l Bm b nn:Nat) (D0:DataW Value) (rows:List JobD) (hl:Asc (·.name) rows) (hD:∀s:ByteArray,Maps.has D0 (keyL s)=(tabF (·.name) jobV rows s).isSome∧∀z,D0.atKey (keyL s) (.held z) = .held ((tabF (·.name) jobV rows s).getD z)) (J Jx:List JobD→World→Prop)
  (hY:∀pre x W,J pre W→pre.length<Maps.size D0→YieldAt Fence.wide (n - 1) Tryz.prog l #[.agg #[.string x.name,.int .i64 x.prio,.int .i64 x.need,.int .i64 x.tries,.string x.tag]] W fun e W' =>
   (e = .returned (.bool true)∧J (pre ++ [x]) W'∧KeepsWalks W W')∨(e = .returned (.bool false)∧Jx (pre ++ [x]) W'))
  (W:World) (hJ:AbidesFrom W.heap.size J) (hm:W.cell? ⟨Bm,0,none⟩=some (.map (some b))) (hown:W.ownsMap Tryz.prog 9 selfE b nn D0) (h0:J [] W) :
  CallsIn Fence.wide n Tryz.prog 147 #[.func (.yield l) #[] #[],.pointer (some ⟨Bm,0,none⟩)] W fun e W'=>(∃v,e = .returned v) ∧
   ((∃xs:List JobD,xs.Perm rows∧J xs W')∨(∃pre:List JobD,True∧Jx pre W')):=by
 refine callsIn_of_wp Tryz.func147 rfl trivial ?_ rfl
 simp only[Tryz.ntmps147,List.size_toArray,List.length_cons,List.length_nil,Nat.reduceAdd,Nat.reduceSub,Array.replicate_succ,Array.replicate_zero,List.push_toArray,List.append_toArray,List.nil_append,List.cons_append]
 gi_wp2_with (first
  | (gi_at_range;refine wpListIn_range_own _ rfl _ 81 rfl 9 38 strKeyed Tryz.underlying81 _ b nn _ rfl hown ?_;intro w0 hrg0 hg0 hs0)
  | gi_in)
 try go_frame
 gi_loopw [4] (fun _ wr=>∃(left:Lit→Bool) (cnt:Nat) (xs:List JobD),wr.ranges Tryz.prog 9 selfE b W.heap.size nn D0 left cnt∧xs.length+cnt≤Maps.size D0∧Collected D0 left (xs.map (bytesK (·.name)))∧(∀x∈xs,x∈rows)∧J xs wr)
  (fun _ wr=>wr.rangeLeft b W.heap.size)
 case atStart =>
  exact⟨_,_,[],hrg0,by simp,Collected.start D0,by simp,hJ [] W w0 none h0 hg0 (fun r e=>by cases e)⟩
 case round =>
  obtain⟨left,cnt,xs,hrg,hcs,hC,hS,hJs⟩:=hrel
  gi_wp2_with (first
   | (gi_at_next;refine wpListIn_next_ranges _ rfl _ rfl 9 strKeyed selfE encStr id (fun key kl hk=>by obtain⟨x,hx,_⟩:=Maps.keyOf_str Tryz.underlying9 hk;exact⟨x,hx⟩) (fun v _ _=>⟨v,rfl⟩) b W.heap.size nn _ _ _ rfl hrg ?_ ?_)
   | gi_in)
  ·intro hc0 hl0
   gi_wp2
   go_end0
   have hC':Collected D0 (fun _=>false) (xs.map (bytesK (·.name))):=by
    have e:left=fun _=>false:=funext hl0
    rw[e] at hC
    exact hC
   exact⟨⟨_,rfl⟩,.inl ⟨xs,dtab_all hD hl hS hC',hJs⟩⟩
  ·intro x c kl yd yp w2 cnt2 hkey hlk hv hat hrg2 hlt hg2 hs2 hen
   obtain⟨x',ex,rfl,_⟩:=Maps.keyOf_str Tryz.underlying9 hkey
   obtain rfl:x=x':=encStr_inj ex
   simp only[selfE,Option.some.injEq,Prod.mk.injEq] at hv
   obtain⟨rfl,rfl⟩:=hv
   obtain⟨y,hy1,hy2,hy3⟩:=dtab_at hD hl hat
   subst hy2 hy3
   have hJ2:J xs w2:=hJ _ wr w2 (some W.heap.size) hJs hg2 (fun r e=>by cases e;exact⟨Nat.le_refl _,hrg.iter_walk⟩)
   have hJ3:J xs (w2.alloc (.cells #[.string y.name,.int .i64 y.prio,.int .i64 y.need,.int .i64 y.tries,.string y.tag] 38)):=hJ _ w2 _ none hJ2 (World.grownBy_alloc w2 _ none) (fun r e=>by cases e)
   obtain⟨fn,tmps,assign,body,hy,hR⟩:=hY xs y _ hJ3 (by omega)
   have hC2:Collected D0 (fun z=>left z && !z.sameKey (.string (bytesK (·.name) y))) ((xs ++ [y]).map (bytesK (·.name))):=by simpa using hC.step hlk hat
   have hS2:∀p∈xs ++ [y],p∈rows:=fun p hp=>(List.mem_append.1 hp).elim (hS p) (fun e=>by simp at e;subst e;exact hy1)
   have oB:=objAt_new w2 #[.string y.name,.int .i64 y.prio,.int .i64 y.need,.int .i64 y.tries,.string y.tag] 38
   have c0:=objAt_cell oB 0 rfl
   have c1:=objAt_cell oB 1 rfl
   have c2:=objAt_cell oB 2 rfl
   have c3:=objAt_cell oB 3 rfl
   have c4:=objAt_cell oB 4 rfl
   have cl:=objAt_lt oB
   clear hs2 oB
   unfold jobV at hen⊢
   gi_wp2
   refine hR.mono ?_
   rintro e W3 (⟨rfl,hJ3,hk3⟩ | ⟨rfl,hJx3⟩)
   ·gi_wp2
    have hrg3:=(hrg2.alloc (.cells #[.string y.name,.int .i64 y.prio,.int .i64 y.need,.int .i64 y.tries,.string y.tag] 38)).of_walks hk3
    go_roundw
    case rel=>exact⟨_,cnt2,xs ++ [y],hrg3,by simp;omega,hC2,hS2,hJ3⟩
    case measure=>rw[hrg3.left_eq,hrg.left_eq];exact hlt
   ·gi_wp2
    refine bodyPost_ret (results_none rfl _ _ _) rfl ?_
    exact⟨⟨_,rfl⟩,.inr ⟨xs ++ [y],trivial,hJx3⟩⟩
theorem valJob_stops (n:Nat) (hn:1≤n) (Bm b nn:Nat) (D0:DataW Value) (rows:List JobD) (hl:Asc (·.name) rows) (hD:∀s:ByteArray,Maps.has D0 (keyL s)=(tabF (·.name) jobV rows s).isSome∧∀z,D0.atKey (keyL s) (.held z) = .held ((tabF (·.name) jobV rows s).getD z)) (w:World) (hBm:Bm<w.heap.size)
  (hm:w.cell? ⟨Bm,0,none⟩=some (.map (some b))) (hown:w.ownsMap Tryz.prog 9 selfE b nn D0) :
  SeqStopsK Fence.wide n Tryz.prog 147 #[.pointer (some ⟨Bm,0,none⟩)] (fun x:JobD => #[.agg #[.string x.name,.int .i64 x.prio,.int .i64 x.need,.int .i64 x.tries,.string x.tag]]) KeepsWalks (fun xs=>xs.Perm rows) (fun _=>True) (Maps.size D0) w:=fun l J Jx W hW hJ _ hY h0=>by
 have hown':W.ownsMap Tryz.prog 9 selfE b nn D0:=by
  have hbl:=hown.lt
  obtain⟨es,clock,hb,Ft,hs,hD⟩:=hown
  exact⟨es,clock,(hW.block b hbl).trans hb,Ft,hs,hD⟩
 exact valJob1_in n hn l Bm b nn D0 rows hl hD J Jx hY W hJ ((hW.cell (p:=⟨Bm,0,none⟩) hBm).trans hm) hown' h0
theorem valJob_is (mb:Option Nat) (w:World) :
  Calls Tryz.prog 136 #[.map mb] w fun e w'=>e = .returned (.func (.func 147) #[] #[.pointer (some ⟨w.heap.size,0,none⟩)])∧w'=w.alloc (.cells #[.map mb] 81):=by
 go_enter Tryz.func136,Tryz.ntmps136
 go_wp2
 go_ret
 exact⟨rfl,rfl⟩
theorem appJob_is (Bm b nn:Nat) (D0:DataW Value) (rows:List JobD) (hl:Asc (·.name) rows) (hD:∀s:ByteArray,Maps.has D0 (keyL s)=(tabF (·.name) jobV rows s).isSome∧∀z,D0.atKey (keyL s) (.held z) = .held ((tabF (·.name) jobV rows s).getD z)) (hnn:nn≤1000) (w:World) (hBm:Bm<w.heap.size)
  (hm:w.cell? ⟨Bm,0,none⟩=some (.map (some b))) (hown:w.ownsMap Tryz.prog 9 selfE b nn D0) :
  CallsIn Fence.wide 4 Tryz.prog 154 #[.slice none 0 0,.func (.func 147) #[] #[.pointer (some ⟨Bm,0,none⟩)]] w fun e w'=>∃(v:Value) (xs:List JobD),e = .returned v∧xs.Perm rows∧w'.ownsRow w.heap.size 38 5 v xs.length (cJobs xs)∧Below w.heap.size w w':=by
 obtain⟨i0,hi,hz0,hz1,hz2⟩:=info_parts' Tryz.info_job
 have hsz:=hown.size_le
 have hst:=valJob_stops 3 (by omega) Bm b nn D0 rows hl hD w hBm hm hown
 refine callsIn_of_wp_marks Tryz.func154 rfl trivial ?_ rfl
 simp only[Tryz.ntmps154,List.size_toArray,List.length_cons,List.length_nil,Nat.reduceAdd,Nat.reduceSub,Array.replicate_succ,Array.replicate_zero,List.push_toArray,List.append_toArray,List.nil_append,List.cons_append]
 gi_wp2
 have bO:=Boxed.new w 22 (.slice none 0 0)
 have hB0:Below w.heap.size w (w.alloc (.cells #[.slice none 0 0] 22)):=below_one _ _
 refine wpIn_rangeFunc_ownH rfl (by omega) (gf:=147) (lb:=#[.pointer (some ⟨Bm,0,none⟩)]) rfl trivial (enters_of Tryz.func147 (by kernel_rfl) rfl)
  hst (fun h k=>h.trans k) (fun W l o o' _ hl _ hw=>KeepsWalks.putObj o' hl hw) hB0 (fun _=>rfl)
  (fun pre W=>(∃v,Boxed W w.heap.size 22 v∧W.ownsRow w.heap.size 38 5 v pre.length (cJobs pre)∧True)∧Below w.heap.size w W)
  (fun _ _ _=>False)
  (OwnFrom.and (Own.from (holdsRow_own w.heap.size w.heap.size 22 38 5 (fun pre=>pre.length) (fun pre=>cJobs pre) (fun _ _=>True)) _) (ownFrom_below (Nat.le_refl _) (by simp)))
  (fun _ _ _ _ _ hs _ _=>hs)
  ⟨⟨_,bO,World.ownsRow_nil _ _ _ _,trivial⟩,hB0⟩
  (fun x a' W=>∃Bx,w.heap.size<Bx∧W.heap[Bx]?=some (.cells #[.string x.name,.int .i64 x.prio,.int .i64 x.need,.int .i64 x.tries,.string x.tag] 38 (0,0))∧a' = { tmps:=#[.slice none 0 0,.func (.func 147) #[] #[.pointer (some ⟨Bm,0,none⟩)],.pointer (some ⟨w.heap.size,0,none⟩),undef,.slice none 0 0,.pointer (some ⟨Bx,0,none⟩),.func (.func 147) #[] #[.pointer (some ⟨Bm,0,none⟩)],.agg #[.string x.name,.int .i64 x.prio,.int .i64 x.need,.int .i64 x.tries,.string x.tag],undef,undef,undef,undef,undef],defers:=[] })
  (fun x a'=>fun _ X Y row hs hg hr=>by
   obtain⟨Bx,h1,h2,h3⟩:=hs
   exact⟨Bx,h1,objAt_own h2 hg (fun r e=>(hr r e).2),h3⟩) ?assign ?body ?done ?stop
 case assign =>
  rintro l pre x W K ⟨⟨v,hv,hrow,_⟩,hB⟩ hK
  have hsW:=hB.size
  have hvl:=hv.lt
  gi_wp2
  exact hK _ _ ((KeepsOthers.alloc _ _).from _) (KeepsWalks.alloc _ _) ⟨⟨v,hv.alloc _,hrow.alloc _,trivial⟩,hB.alloc hB.size _⟩ ⟨W.heap.size,hvl,World.alloc_heap_new W _,rfl⟩
 case body =>
  rintro l pre x a' W _ _ ⟨⟨v,hv,hrow,_⟩,hB⟩ ⟨Bx,hBx,oX,rfl⟩ hlt
  have hc:=hv.cell
  have hsW:=hB.size
  have oX':ObjAt Bx #[.string x.name,.int .i64 x.prio,.int .i64 x.need,.int .i64 x.tries,.string x.tag] 38 W:=oX
  have x_0:=objAt_cell oX' 0 rfl
  have x_1:=objAt_cell oX' 1 rfl
  have x_2:=objAt_cell oX' 2 rfl
  have x_3:=objAt_cell oX' 3 rfl
  have x_4:=objAt_cell oX' 4 rfl
  have xl:=objAt_lt oX'
  obtain⟨ad,cap,rfl⟩:=ownRow_slice hrow
  gi_wp2_with (gi_at_builtin;refine wpListIn_append_own _ rfl _ _ 22 rfl w.heap.size 38 i0 _ 5 56 Tryz.underlying22 hi hz0 hz1 hz2 rfl (by decide) _ _ _ rfl (hrow.alloc _) ⟨W.heap.size,0,none⟩ 1 1 (cJob x) rfl rfl (job_new W x _) (job_ones x) (by unfold maxLen;omega) (by omega) (by simp;omega) ?_;intro v' w1 hown' hgrow _;obtain⟨g',cap',rfl⟩:=ownRow_slice hown';obtain⟨hv1,hv2,hr2,hk2,hb2⟩:=hv.appended (by decide) hrow hB.size (Nat.le_refl _) hown' hgrow;have hc1:=hv1.cell;have hf1:=hv1.frozen)
  rw[←cJobs_one,←cJobs_append] at hr2
  exact⟨hk2.from _,hk2.walks,⟨_,hv2,by rw[List.length_append];exact hr2,trivial⟩,hB.trans hb2⟩
 case done =>
  rintro D ys W hD hS ⟨⟨v,hv,hrow,_⟩,hB⟩ hK
  have hc:=hv.cell
  gi_wp2
  refine⟨by simp,.inl ⟨_,_,rfl,run_takeDeferred hK,?_⟩⟩
  exact⟨_,results_tmp rfl _ _ _,v,ys,rfl,hS,ownsRow_putObj hrow _ hK rfl,hB.trans (belowK_b (w:=w) (Nat.le_refl _) W D _ _ (by simp at hD;omega) hK rfl rfl)⟩
 case stop =>
  rintro D c pre W _ _ h _
  exact h.elim
theorem colJob_is (Bm b nn:Nat) (D0:DataW Value) (rows:List JobD) (hl:Asc (·.name) rows) (hD:∀s:ByteArray,Maps.has D0 (keyL s)=(tabF (·.name) jobV rows s).isSome∧∀z,D0.atKey (keyL s) (.held z) = .held ((tabF (·.name) jobV rows s).getD z)) (hnn:nn≤1000) (w:World) (hBm:Bm<w.heap.size)
  (hm:w.cell? ⟨Bm,0,none⟩=some (.map (some b))) (hown:w.ownsMap Tryz.prog 9 selfE b nn D0) :
  Calls Tryz.prog 145 #[.func (.func 147) #[] #[.pointer (some ⟨Bm,0,none⟩)]] w fun e w'=>∃(v:Value) (xs:List JobD),e = .returned v∧xs.Perm rows∧w'.ownsRow w.heap.size 38 5 v xs.length (cJobs xs)∧Below w.heap.size w w':=by
 have HA:=Lib.hid (callsIn_wide.1 (appJob_is Bm b nn D0 rows hl hD hnn w hBm hm hown))
 clear hl hD hm hown
 go_enter Tryz.func145,Tryz.ntmps145
 go_wp2_with fail
 refine HA.out.mono ?_
 rintro e w1 ⟨v,xs,rfl,h1,h2,h3⟩
 go_wp2
 go_ret
 exact⟨v,xs,rfl,h1,h2,h3⟩
theorem jobKey_eq (x:JobD) (w:World):Calls Tryz.prog 34 #[.agg #[.string x.name,.int .i64 x.prio,.int .i64 x.need,.int .i64 x.tries,.string x.tag]] w fun e w'=>e = .returned (.string x.name)∧w'=w.alloc (.cells #[.string x.name,.int .i64 x.prio,.int .i64 x.need,.int .i64 x.tries,.string x.tag] 38):=by
 go_enter Tryz.func34,Tryz.ntmps34
 go_wp2
 go_ret
 exact⟨rfl,rfl⟩
theorem valNode1_in (n:Nat) (hn:1≤n) (l Bm b nn:Nat) (D0:DataW Value) (rows:List NodeD) (hl:Asc (·.name) rows) (hD:∀s:ByteArray,Maps.has D0 (keyL s)=(tabF (·.name) nodeV rows s).isSome∧∀z,D0.atKey (keyL s) (.held z) = .held ((tabF (·.name) nodeV rows s).getD z)) (J Jx:List NodeD→World→Prop)
  (hY:∀pre x W,J pre W→pre.length<Maps.size D0→YieldAt Fence.wide (n - 1) Tryz.prog l #[.agg #[.string x.name,.int .i64 x.room,.string x.zone]] W fun e W' =>
   (e = .returned (.bool true)∧J (pre ++ [x]) W'∧KeepsWalks W W')∨(e = .returned (.bool false)∧Jx (pre ++ [x]) W'))
  (W:World) (hJ:AbidesFrom W.heap.size J) (hm:W.cell? ⟨Bm,0,none⟩=some (.map (some b))) (hown:W.ownsMap Tryz.prog 9 selfE b nn D0) (h0:J [] W) :
  CallsIn Fence.wide n Tryz.prog 150 #[.func (.yield l) #[] #[],.pointer (some ⟨Bm,0,none⟩)] W fun e W'=>(∃v,e = .returned v) ∧
   ((∃xs:List NodeD,xs.Perm rows∧J xs W')∨(∃pre:List NodeD,True∧Jx pre W')):=by
 refine callsIn_of_wp Tryz.func150 rfl trivial ?_ rfl
 simp only[Tryz.ntmps150,List.size_toArray,List.length_cons,List.length_nil,Nat.reduceAdd,Nat.reduceSub,Array.replicate_succ,Array.replicate_zero,List.push_toArray,List.append_toArray,List.nil_append,List.cons_append]
 gi_wp2_with (first
  | (gi_at_range;refine wpListIn_range_own _ rfl _ 82 rfl 9 40 strKeyed Tryz.underlying82 _ b nn _ rfl hown ?_;intro w0 hrg0 hg0 hs0)
  | gi_in)
 try go_frame
 gi_loopw [4] (fun _ wr=>∃(left:Lit→Bool) (cnt:Nat) (xs:List NodeD),wr.ranges Tryz.prog 9 selfE b W.heap.size nn D0 left cnt∧xs.length+cnt≤Maps.size D0∧Collected D0 left (xs.map (bytesK (·.name)))∧(∀x∈xs,x∈rows)∧J xs wr)
  (fun _ wr=>wr.rangeLeft b W.heap.size)
 case atStart =>
  exact⟨_,_,[],hrg0,by simp,Collected.start D0,by simp,hJ [] W w0 none h0 hg0 (fun r e=>by cases e)⟩
 case round =>
  obtain⟨left,cnt,xs,hrg,hcs,hC,hS,hJs⟩:=hrel
  gi_wp2_with (first
   | (gi_at_next;refine wpListIn_next_ranges _ rfl _ rfl 9 strKeyed selfE encStr id (fun key kl hk=>by obtain⟨x,hx,_⟩:=Maps.keyOf_str Tryz.underlying9 hk;exact⟨x,hx⟩) (fun v _ _=>⟨v,rfl⟩) b W.heap.size nn _ _ _ rfl hrg ?_ ?_)
   | gi_in)
  ·intro hc0 hl0
   gi_wp2
   go_end0
   have hC':Collected D0 (fun _=>false) (xs.map (bytesK (·.name))):=by
    have e:left=fun _=>false:=funext hl0
    rw[e] at hC
    exact hC
   exact⟨⟨_,rfl⟩,.inl ⟨xs,dtab_all hD hl hS hC',hJs⟩⟩
  ·intro x c kl yd yp w2 cnt2 hkey hlk hv hat hrg2 hlt hg2 hs2 hen
   obtain⟨x',ex,rfl,_⟩:=Maps.keyOf_str Tryz.underlying9 hkey
   obtain rfl:x=x':=encStr_inj ex
   simp only[selfE,Option.some.injEq,Prod.mk.injEq] at hv
   obtain⟨rfl,rfl⟩:=hv
   obtain⟨y,hy1,hy2,hy3⟩:=dtab_at hD hl hat
   subst hy2 hy3
   have hJ2:J xs w2:=hJ _ wr w2 (some W.heap.size) hJs hg2 (fun r e=>by cases e;exact⟨Nat.le_refl _,hrg.iter_walk⟩)
   have hJ3:J xs (w2.alloc (.cells #[.string y.name,.int .i64 y.room,.string y.zone] 40)):=hJ _ w2 _ none hJ2 (World.grownBy_alloc w2 _ none) (fun r e=>by cases e)
   obtain⟨fn,tmps,assign,body,hy,hR⟩:=hY xs y _ hJ3 (by omega)
   have hC2:Collected D0 (fun z=>left z && !z.sameKey (.string (bytesK (·.name) y))) ((xs ++ [y]).map (bytesK (·.name))):=by simpa using hC.step hlk hat
   have hS2:∀p∈xs ++ [y],p∈rows:=fun p hp=>(List.mem_append.1 hp).elim (hS p) (fun e=>by simp at e;subst e;exact hy1)
   have oB:=objAt_new w2 #[.string y.name,.int .i64 y.room,.string y.zone] 40
   have c0:=objAt_cell oB 0 rfl
   have c1:=objAt_cell oB 1 rfl
   have c2:=objAt_cell oB 2 rfl
   have cl:=objAt_lt oB
   clear hs2 oB
   unfold nodeV at hen⊢
   gi_wp2
   refine hR.mono ?_
   rintro e W3 (⟨rfl,hJ3,hk3⟩ | ⟨rfl,hJx3⟩)
   ·gi_wp2
    have hrg3:=(hrg2.alloc (.cells #[.string y.name,.int .i64 y.room,.string y.zone] 40)).of_walks hk3
    go_roundw
    case rel=>exact⟨_,cnt2,xs ++ [y],hrg3,by simp;omega,hC2,hS2,hJ3⟩
    case measure=>rw[hrg3.left_eq,hrg.left_eq];exact hlt
   ·gi_wp2
    refine bodyPost_ret (results_none rfl _ _ _) rfl ?_
    exact⟨⟨_,rfl⟩,.inr ⟨xs ++ [y],trivial,hJx3⟩⟩
theorem valNode_stops (n:Nat) (hn:1≤n) (Bm b nn:Nat) (D0:DataW Value) (rows:List NodeD) (hl:Asc (·.name) rows) (hD:∀s:ByteArray,Maps.has D0 (keyL s)=(tabF (·.name) nodeV rows s).isSome∧∀z,D0.atKey (keyL s) (.held z) = .held ((tabF (·.name) nodeV rows s).getD z)) (w:World) (hBm:Bm<w.heap.size)
  (hm:w.cell? ⟨Bm,0,none⟩=some (.map (some b))) (hown:w.ownsMap Tryz.prog 9 selfE b nn D0) :
  SeqStopsK Fence.wide n Tryz.prog 150 #[.pointer (some ⟨Bm,0,none⟩)] (fun x:NodeD => #[.agg #[.string x.name,.int .i64 x.room,.string x.zone]]) KeepsWalks (fun xs=>xs.Perm rows) (fun _=>True) (Maps.size D0) w:=fun l J Jx W hW hJ _ hY h0=>by
 have hown':W.ownsMap Tryz.prog 9 selfE b nn D0:=by
  have hbl:=hown.lt
  obtain⟨es,clock,hb,Ft,hs,hD⟩:=hown
  exact⟨es,clock,(hW.block b hbl).trans hb,Ft,hs,hD⟩
 exact valNode1_in n hn l Bm b nn D0 rows hl hD J Jx hY W hJ ((hW.cell (p:=⟨Bm,0,none⟩) hBm).trans hm) hown' h0
theorem valNode_is (mb:Option Nat) (w:World) :
  Calls Tryz.prog 139 #[.map mb] w fun e w'=>e = .returned (.func (.func 150) #[] #[.pointer (some ⟨w.heap.size,0,none⟩)])∧w'=w.alloc (.cells #[.map mb] 82):=by
 go_enter Tryz.func139,Tryz.ntmps139
 go_wp2
 go_ret
 exact⟨rfl,rfl⟩
theorem appNode_is (Bm b nn:Nat) (D0:DataW Value) (rows:List NodeD) (hl:Asc (·.name) rows) (hD:∀s:ByteArray,Maps.has D0 (keyL s)=(tabF (·.name) nodeV rows s).isSome∧∀z,D0.atKey (keyL s) (.held z) = .held ((tabF (·.name) nodeV rows s).getD z)) (hnn:nn≤1000) (w:World) (hBm:Bm<w.heap.size)
  (hm:w.cell? ⟨Bm,0,none⟩=some (.map (some b))) (hown:w.ownsMap Tryz.prog 9 selfE b nn D0) :
  CallsIn Fence.wide 4 Tryz.prog 157 #[.slice none 0 0,.func (.func 150) #[] #[.pointer (some ⟨Bm,0,none⟩)]] w fun e w'=>∃(v:Value) (xs:List NodeD),e = .returned v∧xs.Perm rows∧w'.ownsRow w.heap.size 40 3 v xs.length (cNodes xs)∧Below w.heap.size w w':=by
 obtain⟨i0,hi,hz0,hz1,hz2⟩:=info_parts' Tryz.info_node
 have hsz:=hown.size_le
 have hst:=valNode_stops 3 (by omega) Bm b nn D0 rows hl hD w hBm hm hown
 refine callsIn_of_wp_marks Tryz.func157 rfl trivial ?_ rfl
 simp only[Tryz.ntmps157,List.size_toArray,List.length_cons,List.length_nil,Nat.reduceAdd,Nat.reduceSub,Array.replicate_succ,Array.replicate_zero,List.push_toArray,List.append_toArray,List.nil_append,List.cons_append]
 gi_wp2
 have bO:=Boxed.new w 23 (.slice none 0 0)
 have hB0:Below w.heap.size w (w.alloc (.cells #[.slice none 0 0] 23)):=below_one _ _
 refine wpIn_rangeFunc_ownH rfl (by omega) (gf:=150) (lb:=#[.pointer (some ⟨Bm,0,none⟩)]) rfl trivial (enters_of Tryz.func150 (by kernel_rfl) rfl)
  hst (fun h k=>h.trans k) (fun W l o o' _ hl _ hw=>KeepsWalks.putObj o' hl hw) hB0 (fun _=>rfl)
  (fun pre W=>(∃v,Boxed W w.heap.size 23 v∧W.ownsRow w.heap.size 40 3 v pre.length (cNodes pre)∧True)∧Below w.heap.size w W)
  (fun _ _ _=>False)
  (OwnFrom.and (Own.from (holdsRow_own w.heap.size w.heap.size 23 40 3 (fun pre=>pre.length) (fun pre=>cNodes pre) (fun _ _=>True)) _) (ownFrom_below (Nat.le_refl _) (by simp)))
  (fun _ _ _ _ _ hs _ _=>hs)
  ⟨⟨_,bO,World.ownsRow_nil _ _ _ _,trivial⟩,hB0⟩
  (fun x a' W=>∃Bx,w.heap.size<Bx∧W.heap[Bx]?=some (.cells #[.string x.name,.int .i64 x.room,.string x.zone] 40 (0,0))∧a' = { tmps:=#[.slice none 0 0,.func (.func 150) #[] #[.pointer (some ⟨Bm,0,none⟩)],.pointer (some ⟨w.heap.size,0,none⟩),undef,.slice none 0 0,.pointer (some ⟨Bx,0,none⟩),.func (.func 150) #[] #[.pointer (some ⟨Bm,0,none⟩)],.agg #[.string x.name,.int .i64 x.room,.string x.zone],undef,undef,undef,undef,undef],defers:=[] })
  (fun x a'=>fun _ X Y row hs hg hr=>by
   obtain⟨Bx,h1,h2,h3⟩:=hs
   exact⟨Bx,h1,objAt_own h2 hg (fun r e=>(hr r e).2),h3⟩) ?assign ?body ?done ?stop
 case assign =>
  rintro l pre x W K ⟨⟨v,hv,hrow,_⟩,hB⟩ hK
  have hsW:=hB.size
  have hvl:=hv.lt
  gi_wp2
  exact hK _ _ ((KeepsOthers.alloc _ _).from _) (KeepsWalks.alloc _ _) ⟨⟨v,hv.alloc _,hrow.alloc _,trivial⟩,hB.alloc hB.size _⟩ ⟨W.heap.size,hvl,World.alloc_heap_new W _,rfl⟩
 case body =>
  rintro l pre x a' W _ _ ⟨⟨v,hv,hrow,_⟩,hB⟩ ⟨Bx,hBx,oX,rfl⟩ hlt
  have hc:=hv.cell
  have hsW:=hB.size
  have oX':ObjAt Bx #[.string x.name,.int .i64 x.room,.string x.zone] 40 W:=oX
  have x_0:=objAt_cell oX' 0 rfl
  have x_1:=objAt_cell oX' 1 rfl
  have x_2:=objAt_cell oX' 2 rfl
  have xl:=objAt_lt oX'
  obtain⟨ad,cap,rfl⟩:=ownRow_slice hrow
  gi_wp2_with (gi_at_builtin;refine wpListIn_append_own _ rfl _ _ 23 rfl w.heap.size 40 i0 _ 3 40 Tryz.underlying23 hi hz0 hz1 hz2 rfl (by decide) _ _ _ rfl (hrow.alloc _) ⟨W.heap.size,0,none⟩ 1 1 (cNode x) rfl rfl (node_new W x _) (node_ones x) (by unfold maxLen;omega) (by omega) (by simp;omega) ?_;intro v' w1 hown' hgrow _;obtain⟨g',cap',rfl⟩:=ownRow_slice hown';obtain⟨hv1,hv2,hr2,hk2,hb2⟩:=hv.appended (by decide) hrow hB.size (Nat.le_refl _) hown' hgrow;have hc1:=hv1.cell;have hf1:=hv1.frozen)
  rw[←cNodes_one,←cNodes_append] at hr2
  exact⟨hk2.from _,hk2.walks,⟨_,hv2,by rw[List.length_append];exact hr2,trivial⟩,hB.trans hb2⟩
 case done =>
  rintro D ys W hD hS ⟨⟨v,hv,hrow,_⟩,hB⟩ hK
  have hc:=hv.cell
  gi_wp2
  refine⟨by simp,.inl ⟨_,_,rfl,run_takeDeferred hK,?_⟩⟩
  exact⟨_,results_tmp rfl _ _ _,v,ys,rfl,hS,ownsRow_putObj hrow _ hK rfl,hB.trans (belowK_b (w:=w) (Nat.le_refl _) W D _ _ (by simp at hD;omega) hK rfl rfl)⟩
 case stop =>
  rintro D c pre W _ _ h _
  exact h.elim
theorem colNode_is (Bm b nn:Nat) (D0:DataW Value) (rows:List NodeD) (hl:Asc (·.name) rows) (hD:∀s:ByteArray,Maps.has D0 (keyL s)=(tabF (·.name) nodeV rows s).isSome∧∀z,D0.atKey (keyL s) (.held z) = .held ((tabF (·.name) nodeV rows s).getD z)) (hnn:nn≤1000) (w:World) (hBm:Bm<w.heap.size)
  (hm:w.cell? ⟨Bm,0,none⟩=some (.map (some b))) (hown:w.ownsMap Tryz.prog 9 selfE b nn D0) :
  Calls Tryz.prog 148 #[.func (.func 150) #[] #[.pointer (some ⟨Bm,0,none⟩)]] w fun e w'=>∃(v:Value) (xs:List NodeD),e = .returned v∧xs.Perm rows∧w'.ownsRow w.heap.size 40 3 v xs.length (cNodes xs)∧Below w.heap.size w w':=by
 have HA:=Lib.hid (callsIn_wide.1 (appNode_is Bm b nn D0 rows hl hD hnn w hBm hm hown))
 clear hl hD hm hown
 go_enter Tryz.func148,Tryz.ntmps148
 go_wp2_with fail
 refine HA.out.mono ?_
 rintro e w1 ⟨v,xs,rfl,h1,h2,h3⟩
 go_wp2
 go_ret
 exact⟨v,xs,rfl,h1,h2,h3⟩
theorem nodeKey_eq (x:NodeD) (w:World):Calls Tryz.prog 37 #[.agg #[.string x.name,.int .i64 x.room,.string x.zone]] w fun e w'=>e = .returned (.string x.name)∧w'=w.alloc (.cells #[.string x.name,.int .i64 x.room,.string x.zone] 40):=by
 go_enter Tryz.func37,Tryz.ntmps37
 go_wp2
 go_ret
 exact⟨rfl,rfl⟩
theorem valLease1_in (n:Nat) (hn:1≤n) (l Bm b nn:Nat) (D0:DataW Value) (rows:List LeaseD) (hl:Asc (·.job) rows) (hD:∀s:ByteArray,Maps.has D0 (keyL s)=(tabF (·.job) leaseV rows s).isSome∧∀z,D0.atKey (keyL s) (.held z) = .held ((tabF (·.job) leaseV rows s).getD z)) (J Jx:List LeaseD→World→Prop)
  (hY:∀pre x W,J pre W→pre.length<Maps.size D0→YieldAt Fence.wide (n - 1) Tryz.prog l #[.agg #[.string x.job,.string x.node,.int .i64 x.til]] W fun e W' =>
   (e = .returned (.bool true)∧J (pre ++ [x]) W'∧KeepsWalks W W')∨(e = .returned (.bool false)∧Jx (pre ++ [x]) W'))
  (W:World) (hJ:AbidesFrom W.heap.size J) (hm:W.cell? ⟨Bm,0,none⟩=some (.map (some b))) (hown:W.ownsMap Tryz.prog 9 selfE b nn D0) (h0:J [] W) :
  CallsIn Fence.wide n Tryz.prog 153 #[.func (.yield l) #[] #[],.pointer (some ⟨Bm,0,none⟩)] W fun e W'=>(∃v,e = .returned v) ∧
   ((∃xs:List LeaseD,xs.Perm rows∧J xs W')∨(∃pre:List LeaseD,True∧Jx pre W')):=by
 refine callsIn_of_wp Tryz.func153 rfl trivial ?_ rfl
 simp only[Tryz.ntmps153,List.size_toArray,List.length_cons,List.length_nil,Nat.reduceAdd,Nat.reduceSub,Array.replicate_succ,Array.replicate_zero,List.push_toArray,List.append_toArray,List.nil_append,List.cons_append]
 gi_wp2_with (first
  | (gi_at_range;refine wpListIn_range_own _ rfl _ 177 rfl 9 42 strKeyed Tryz.underlying177 _ b nn _ rfl hown ?_;intro w0 hrg0 hg0 hs0)
  | gi_in)
 try go_frame
 gi_loopw [4] (fun _ wr=>∃(left:Lit→Bool) (cnt:Nat) (xs:List LeaseD),wr.ranges Tryz.prog 9 selfE b W.heap.size nn D0 left cnt∧xs.length+cnt≤Maps.size D0∧Collected D0 left (xs.map (bytesK (·.job)))∧(∀x∈xs,x∈rows)∧J xs wr)
  (fun _ wr=>wr.rangeLeft b W.heap.size)
 case atStart =>
  exact⟨_,_,[],hrg0,by simp,Collected.start D0,by simp,hJ [] W w0 none h0 hg0 (fun r e=>by cases e)⟩
 case round =>
  obtain⟨left,cnt,xs,hrg,hcs,hC,hS,hJs⟩:=hrel
  gi_wp2_with (first
   | (gi_at_next;refine wpListIn_next_ranges _ rfl _ rfl 9 strKeyed selfE encStr id (fun key kl hk=>by obtain⟨x,hx,_⟩:=Maps.keyOf_str Tryz.underlying9 hk;exact⟨x,hx⟩) (fun v _ _=>⟨v,rfl⟩) b W.heap.size nn _ _ _ rfl hrg ?_ ?_)
   | gi_in)
  ·intro hc0 hl0
   gi_wp2
   go_end0
   have hC':Collected D0 (fun _=>false) (xs.map (bytesK (·.job))):=by
    have e:left=fun _=>false:=funext hl0
    rw[e] at hC
    exact hC
   exact⟨⟨_,rfl⟩,.inl ⟨xs,dtab_all hD hl hS hC',hJs⟩⟩
  ·intro x c kl yd yp w2 cnt2 hkey hlk hv hat hrg2 hlt hg2 hs2 hen
   obtain⟨x',ex,rfl,_⟩:=Maps.keyOf_str Tryz.underlying9 hkey
   obtain rfl:x=x':=encStr_inj ex
   simp only[selfE,Option.some.injEq,Prod.mk.injEq] at hv
   obtain⟨rfl,rfl⟩:=hv
   obtain⟨y,hy1,hy2,hy3⟩:=dtab_at hD hl hat
   subst hy2 hy3
   have hJ2:J xs w2:=hJ _ wr w2 (some W.heap.size) hJs hg2 (fun r e=>by cases e;exact⟨Nat.le_refl _,hrg.iter_walk⟩)
   have hJ3:J xs (w2.alloc (.cells #[.string y.job,.string y.node,.int .i64 y.til] 42)):=hJ _ w2 _ none hJ2 (World.grownBy_alloc w2 _ none) (fun r e=>by cases e)
   obtain⟨fn,tmps,assign,body,hy,hR⟩:=hY xs y _ hJ3 (by omega)
   have hC2:Collected D0 (fun z=>left z && !z.sameKey (.string (bytesK (·.job) y))) ((xs ++ [y]).map (bytesK (·.job))):=by simpa using hC.step hlk hat
   have hS2:∀p∈xs ++ [y],p∈rows:=fun p hp=>(List.mem_append.1 hp).elim (hS p) (fun e=>by simp at e;subst e;exact hy1)
   have oB:=objAt_new w2 #[.string y.job,.string y.node,.int .i64 y.til] 42
   have c0:=objAt_cell oB 0 rfl
   have c1:=objAt_cell oB 1 rfl
   have c2:=objAt_cell oB 2 rfl
   have cl:=objAt_lt oB
   clear hs2 oB
   unfold leaseV at hen⊢
   gi_wp2
   refine hR.mono ?_
   rintro e W3 (⟨rfl,hJ3,hk3⟩ | ⟨rfl,hJx3⟩)
   ·gi_wp2
    have hrg3:=(hrg2.alloc (.cells #[.string y.job,.string y.node,.int .i64 y.til] 42)).of_walks hk3
    go_roundw
    case rel=>exact⟨_,cnt2,xs ++ [y],hrg3,by simp;omega,hC2,hS2,hJ3⟩
    case measure=>rw[hrg3.left_eq,hrg.left_eq];exact hlt
   ·gi_wp2
    refine bodyPost_ret (results_none rfl _ _ _) rfl ?_
    exact⟨⟨_,rfl⟩,.inr ⟨xs ++ [y],trivial,hJx3⟩⟩
theorem valLease_stops (n:Nat) (hn:1≤n) (Bm b nn:Nat) (D0:DataW Value) (rows:List LeaseD) (hl:Asc (·.job) rows) (hD:∀s:ByteArray,Maps.has D0 (keyL s)=(tabF (·.job) leaseV rows s).isSome∧∀z,D0.atKey (keyL s) (.held z) = .held ((tabF (·.job) leaseV rows s).getD z)) (w:World) (hBm:Bm<w.heap.size)
  (hm:w.cell? ⟨Bm,0,none⟩=some (.map (some b))) (hown:w.ownsMap Tryz.prog 9 selfE b nn D0) :
  SeqStopsK Fence.wide n Tryz.prog 153 #[.pointer (some ⟨Bm,0,none⟩)] (fun x:LeaseD => #[.agg #[.string x.job,.string x.node,.int .i64 x.til]]) KeepsWalks (fun xs=>xs.Perm rows) (fun _=>True) (Maps.size D0) w:=fun l J Jx W hW hJ _ hY h0=>by
 have hown':W.ownsMap Tryz.prog 9 selfE b nn D0:=by
  have hbl:=hown.lt
  obtain⟨es,clock,hb,Ft,hs,hD⟩:=hown
  exact⟨es,clock,(hW.block b hbl).trans hb,Ft,hs,hD⟩
 exact valLease1_in n hn l Bm b nn D0 rows hl hD J Jx hY W hJ ((hW.cell (p:=⟨Bm,0,none⟩) hBm).trans hm) hown' h0
theorem valLease_is (mb:Option Nat) (w:World) :
  Calls Tryz.prog 142 #[.map mb] w fun e w'=>e = .returned (.func (.func 153) #[] #[.pointer (some ⟨w.heap.size,0,none⟩)])∧w'=w.alloc (.cells #[.map mb] 177):=by
 go_enter Tryz.func142,Tryz.ntmps142
 go_wp2
 go_ret
 exact⟨rfl,rfl⟩
theorem appLease_is (Bm b nn:Nat) (D0:DataW Value) (rows:List LeaseD) (hl:Asc (·.job) rows) (hD:∀s:ByteArray,Maps.has D0 (keyL s)=(tabF (·.job) leaseV rows s).isSome∧∀z,D0.atKey (keyL s) (.held z) = .held ((tabF (·.job) leaseV rows s).getD z)) (hnn:nn≤1000) (w:World) (hBm:Bm<w.heap.size)
  (hm:w.cell? ⟨Bm,0,none⟩=some (.map (some b))) (hown:w.ownsMap Tryz.prog 9 selfE b nn D0) :
  CallsIn Fence.wide 4 Tryz.prog 159 #[.slice none 0 0,.func (.func 153) #[] #[.pointer (some ⟨Bm,0,none⟩)]] w fun e w'=>∃(v:Value) (xs:List LeaseD),e = .returned v∧xs.Perm rows∧w'.ownsRow w.heap.size 42 3 v xs.length (cLeases xs)∧Below w.heap.size w w':=by
 obtain⟨i0,hi,hz0,hz1,hz2⟩:=info_parts' Tryz.info_lease
 have hsz:=hown.size_le
 have hst:=valLease_stops 3 (by omega) Bm b nn D0 rows hl hD w hBm hm hown
 refine callsIn_of_wp_marks Tryz.func159 rfl trivial ?_ rfl
 simp only[Tryz.ntmps159,List.size_toArray,List.length_cons,List.length_nil,Nat.reduceAdd,Nat.reduceSub,Array.replicate_succ,Array.replicate_zero,List.push_toArray,List.append_toArray,List.nil_append,List.cons_append]
 gi_wp2
 have bO:=Boxed.new w 24 (.slice none 0 0)
 have hB0:Below w.heap.size w (w.alloc (.cells #[.slice none 0 0] 24)):=below_one _ _
 refine wpIn_rangeFunc_ownH rfl (by omega) (gf:=153) (lb:=#[.pointer (some ⟨Bm,0,none⟩)]) rfl trivial (enters_of Tryz.func153 (by kernel_rfl) rfl)
  hst (fun h k=>h.trans k) (fun W l o o' _ hl _ hw=>KeepsWalks.putObj o' hl hw) hB0 (fun _=>rfl)
  (fun pre W=>(∃v,Boxed W w.heap.size 24 v∧W.ownsRow w.heap.size 42 3 v pre.length (cLeases pre)∧True)∧Below w.heap.size w W)
  (fun _ _ _=>False)
  (OwnFrom.and (Own.from (holdsRow_own w.heap.size w.heap.size 24 42 3 (fun pre=>pre.length) (fun pre=>cLeases pre) (fun _ _=>True)) _) (ownFrom_below (Nat.le_refl _) (by simp)))
  (fun _ _ _ _ _ hs _ _=>hs)
  ⟨⟨_,bO,World.ownsRow_nil _ _ _ _,trivial⟩,hB0⟩
  (fun x a' W=>∃Bx,w.heap.size<Bx∧W.heap[Bx]?=some (.cells #[.string x.job,.string x.node,.int .i64 x.til] 42 (0,0))∧a' = { tmps:=#[.slice none 0 0,.func (.func 153) #[] #[.pointer (some ⟨Bm,0,none⟩)],.pointer (some ⟨w.heap.size,0,none⟩),undef,.slice none 0 0,.pointer (some ⟨Bx,0,none⟩),.func (.func 153) #[] #[.pointer (some ⟨Bm,0,none⟩)],.agg #[.string x.job,.string x.node,.int .i64 x.til],undef,undef,undef,undef,undef],defers:=[] })
  (fun x a'=>fun _ X Y row hs hg hr=>by
   obtain⟨Bx,h1,h2,h3⟩:=hs
   exact⟨Bx,h1,objAt_own h2 hg (fun r e=>(hr r e).2),h3⟩) ?assign ?body ?done ?stop
 case assign =>
  rintro l pre x W K ⟨⟨v,hv,hrow,_⟩,hB⟩ hK
  have hsW:=hB.size
  have hvl:=hv.lt
  gi_wp2
  exact hK _ _ ((KeepsOthers.alloc _ _).from _) (KeepsWalks.alloc _ _) ⟨⟨v,hv.alloc _,hrow.alloc _,trivial⟩,hB.alloc hB.size _⟩ ⟨W.heap.size,hvl,World.alloc_heap_new W _,rfl⟩
 case body =>
  rintro l pre x a' W _ _ ⟨⟨v,hv,hrow,_⟩,hB⟩ ⟨Bx,hBx,oX,rfl⟩ hlt
  have hc:=hv.cell
  have hsW:=hB.size
  have oX':ObjAt Bx #[.string x.job,.string x.node,.int .i64 x.til] 42 W:=oX
  have x_0:=objAt_cell oX' 0 rfl
  have x_1:=objAt_cell oX' 1 rfl
  have x_2:=objAt_cell oX' 2 rfl
  have xl:=objAt_lt oX'
  obtain⟨ad,cap,rfl⟩:=ownRow_slice hrow
  gi_wp2_with (gi_at_builtin;refine wpListIn_append_own _ rfl _ _ 24 rfl w.heap.size 42 i0 _ 3 40 Tryz.underlying24 hi hz0 hz1 hz2 rfl (by decide) _ _ _ rfl (hrow.alloc _) ⟨W.heap.size,0,none⟩ 1 1 (cLease x) rfl rfl (lease_new W x _) (lease_ones x) (by unfold maxLen;omega) (by omega) (by simp;omega) ?_;intro v' w1 hown' hgrow _;obtain⟨g',cap',rfl⟩:=ownRow_slice hown';obtain⟨hv1,hv2,hr2,hk2,hb2⟩:=hv.appended (by decide) hrow hB.size (Nat.le_refl _) hown' hgrow;have hc1:=hv1.cell;have hf1:=hv1.frozen)
  rw[←cLeases_one,←cLeases_append] at hr2
  exact⟨hk2.from _,hk2.walks,⟨_,hv2,by rw[List.length_append];exact hr2,trivial⟩,hB.trans hb2⟩
 case done =>
  rintro D ys W hD hS ⟨⟨v,hv,hrow,_⟩,hB⟩ hK
  have hc:=hv.cell
  gi_wp2
  refine⟨by simp,.inl ⟨_,_,rfl,run_takeDeferred hK,?_⟩⟩
  exact⟨_,results_tmp rfl _ _ _,v,ys,rfl,hS,ownsRow_putObj hrow _ hK rfl,hB.trans (belowK_b (w:=w) (Nat.le_refl _) W D _ _ (by simp at hD;omega) hK rfl rfl)⟩
 case stop =>
  rintro D c pre W _ _ h _
  exact h.elim
theorem colLease_is (Bm b nn:Nat) (D0:DataW Value) (rows:List LeaseD) (hl:Asc (·.job) rows) (hD:∀s:ByteArray,Maps.has D0 (keyL s)=(tabF (·.job) leaseV rows s).isSome∧∀z,D0.atKey (keyL s) (.held z) = .held ((tabF (·.job) leaseV rows s).getD z)) (hnn:nn≤1000) (w:World) (hBm:Bm<w.heap.size)
  (hm:w.cell? ⟨Bm,0,none⟩=some (.map (some b))) (hown:w.ownsMap Tryz.prog 9 selfE b nn D0) :
  Calls Tryz.prog 151 #[.func (.func 153) #[] #[.pointer (some ⟨Bm,0,none⟩)]] w fun e w'=>∃(v:Value) (xs:List LeaseD),e = .returned v∧xs.Perm rows∧w'.ownsRow w.heap.size 42 3 v xs.length (cLeases xs)∧Below w.heap.size w w':=by
 have HA:=Lib.hid (callsIn_wide.1 (appLease_is Bm b nn D0 rows hl hD hnn w hBm hm hown))
 clear hl hD hm hown
 go_enter Tryz.func151,Tryz.ntmps151
 go_wp2_with fail
 refine HA.out.mono ?_
 rintro e w1 ⟨v,xs,rfl,h1,h2,h3⟩
 go_wp2
 go_ret
 exact⟨v,xs,rfl,h1,h2,h3⟩
theorem leaseKey_eq (x:LeaseD) (w:World):Calls Tryz.prog 41 #[.agg #[.string x.job,.string x.node,.int .i64 x.til]] w fun e w'=>e = .returned (.string x.job)∧w'=w.alloc (.cells #[.string x.job,.string x.node,.int .i64 x.til] 42):=by
 go_enter Tryz.func41,Tryz.ntmps41
 go_wp2
 go_ret
 exact⟨rfl,rfl⟩
end Go.Proofs.YtiekgafopalfmaaGreatDoor
namespace Go.Proofs.YtiekgafopalfmaaGreatDoor
open Go.RowKit Go.Shelf
theorem cmpJob_all {x y:JobD}{H kb:Nat}{w0 w:World} (hx:ObjAt H #[.string x.name,.int .i64 x.prio,.int .i64 x.need,.int .i64 x.tries,.string x.tag] 38 w) (hy:ObjAt (H+1) #[.string y.name,.int .i64 y.prio,.int .i64 y.need,.int .i64 y.tries,.string y.tag] 38 w) (hk:w.cell? ⟨kb,0,none⟩=some (.func (.func 34) #[] #[])) (hl:kb<w.heap.size) (hg:Grew w0 w):((w.cell? ⟨H,0,none⟩=some (.string x.name)∧w.cell? ⟨H,1,none⟩=some (.int .i64 x.prio)∧w.cell? ⟨H,2,none⟩=some (.int .i64 x.need)∧w.cell? ⟨H,3,none⟩=some (.int .i64 x.tries)∧w.cell? ⟨H,4,none⟩=some (.string x.tag))∧(w.cell? ⟨H+1,0,none⟩=some (.string y.name)∧w.cell? ⟨H+1,1,none⟩=some (.int .i64 y.prio)∧w.cell? ⟨H+1,2,none⟩=some (.int .i64 y.need)∧w.cell? ⟨H+1,3,none⟩=some (.int .i64 y.tries)∧w.cell? ⟨H+1,4,none⟩=some (.string y.tag))∧w.cell? ⟨kb,0,none⟩=some (.func (.func 34) #[] #[]))∧ObjAt H #[.string x.name,.int .i64 x.prio,.int .i64 x.need,.int .i64 x.tries,.string x.tag] 38 w∧ObjAt (H+1) #[.string y.name,.int .i64 y.prio,.int .i64 y.need,.int .i64 y.tries,.string y.tag] 38 w∧(H<w.heap.size∧H+1<w.heap.size)∧kb<w.heap.size∧Grew w0 w :=
 ⟨⟨⟨objAt_cell hx 0 rfl,objAt_cell hx 1 rfl,objAt_cell hx 2 rfl,objAt_cell hx 3 rfl,objAt_cell hx 4 rfl⟩,⟨objAt_cell hy 0 rfl,objAt_cell hy 1 rfl,objAt_cell hy 2 rfl,objAt_cell hy 3 rfl,objAt_cell hy 4 rfl⟩,hk⟩,hx,hy,⟨objAt_lt hx,objAt_lt hy⟩,hl,hg⟩
theorem cmpJob_next {x y:JobD}{H kb:Nat}{w0 w:World}{o:Obj} (h:((w.cell? ⟨H,0,none⟩=some (.string x.name)∧w.cell? ⟨H,1,none⟩=some (.int .i64 x.prio)∧w.cell? ⟨H,2,none⟩=some (.int .i64 x.need)∧w.cell? ⟨H,3,none⟩=some (.int .i64 x.tries)∧w.cell? ⟨H,4,none⟩=some (.string x.tag))∧(w.cell? ⟨H+1,0,none⟩=some (.string y.name)∧w.cell? ⟨H+1,1,none⟩=some (.int .i64 y.prio)∧w.cell? ⟨H+1,2,none⟩=some (.int .i64 y.need)∧w.cell? ⟨H+1,3,none⟩=some (.int .i64 y.tries)∧w.cell? ⟨H+1,4,none⟩=some (.string y.tag))∧w.cell? ⟨kb,0,none⟩=some (.func (.func 34) #[] #[]))∧ObjAt H #[.string x.name,.int .i64 x.prio,.int .i64 x.need,.int .i64 x.tries,.string x.tag] 38 w∧ObjAt (H+1) #[.string y.name,.int .i64 y.prio,.int .i64 y.need,.int .i64 y.tries,.string y.tag] 38 w∧(H<w.heap.size∧H+1<w.heap.size)∧kb<w.heap.size∧Grew w0 w):(((w.alloc o).cell? ⟨H,0,none⟩=some (.string x.name)∧(w.alloc o).cell? ⟨H,1,none⟩=some (.int .i64 x.prio)∧(w.alloc o).cell? ⟨H,2,none⟩=some (.int .i64 x.need)∧(w.alloc o).cell? ⟨H,3,none⟩=some (.int .i64 x.tries)∧(w.alloc o).cell? ⟨H,4,none⟩=some (.string x.tag))∧((w.alloc o).cell? ⟨H+1,0,none⟩=some (.string y.name)∧(w.alloc o).cell? ⟨H+1,1,none⟩=some (.int .i64 y.prio)∧(w.alloc o).cell? ⟨H+1,2,none⟩=some (.int .i64 y.need)∧(w.alloc o).cell? ⟨H+1,3,none⟩=some (.int .i64 y.tries)∧(w.alloc o).cell? ⟨H+1,4,none⟩=some (.string y.tag))∧(w.alloc o).cell? ⟨kb,0,none⟩=some (.func (.func 34) #[] #[]))∧ObjAt H #[.string x.name,.int .i64 x.prio,.int .i64 x.need,.int .i64 x.tries,.string x.tag] 38 (w.alloc o)∧ObjAt (H+1) #[.string y.name,.int .i64 y.prio,.int .i64 y.need,.int .i64 y.tries,.string y.tag] 38 (w.alloc o)∧(H<(w.alloc o).heap.size∧H+1<(w.alloc o).heap.size)∧kb<(w.alloc o).heap.size∧Grew w0 (w.alloc o) :=
 cmpJob_all (objAt_next h.2.1 (below_one _ _)) (objAt_next h.2.2.1 (below_one _ _)) (by rw[(below_one w o).cell (p:=⟨kb,0,none⟩) h.2.2.2.2.1];exact h.1.2.2) (by rw[World.size_alloc];have:=h.2.2.2.2.1;omega) (grew_alloc h.2.2.2.2.2 o)
theorem cmpJob_is (x y:JobD) (kb:Nat) (w:World) (hk:w.cell? ⟨kb,0,none⟩=some (.func (.func 34) #[] #[])) (hkl:kb<w.heap.size) :
  Calls Tryz.prog 137 #[.agg #[.string x.name,.int .i64 x.prio,.int .i64 x.need,.int .i64 x.tries,.string x.tag],.agg #[.string y.name,.int .i64 y.prio,.int .i64 y.need,.int .i64 y.tries,.string y.tag],.pointer (some ⟨kb,0,none⟩)] w fun e w'=>e = .returned (.int .i64 (cmpK (·.name) x y))∧Grew w w':=by
 have HC:∀W,Calls Tryz.prog 116 #[.string x.name,.string y.name] W fun e w'=>e = .returned (.int .i64 (cmpK (·.name) x y))∧w'=W:=fun W=>Any.strings_Compare Tryz.layCompare x.name y.name W
 have HC:=Lib.hid HC
 obtain⟨H,hH⟩:∃H,w.heap.size=H:=⟨_,rfl⟩
 obtain⟨W,hW⟩:∃W,(w.alloc (.cells #[.string x.name,.int .i64 x.prio,.int .i64 x.need,.int .i64 x.tries,.string x.tag] 38)).alloc (.cells #[.string y.name,.int .i64 y.prio,.int .i64 y.need,.int .i64 y.tries,.string y.tag] 38)=W:=⟨_,rfl⟩
 have oX:ObjAt H #[.string x.name,.int .i64 x.prio,.int .i64 x.need,.int .i64 x.tries,.string x.tag] 38 W:=by rw[←hW,←hH];exact objAt_next (objAt_new w _ _) (below_one _ _)
 have oY:ObjAt (H+1) #[.string y.name,.int .i64 y.prio,.int .i64 y.need,.int .i64 y.tries,.string y.tag] 38 W:=by
  rw[←hW,←hH]
  have:=objAt_new (w.alloc (.cells #[.string x.name,.int .i64 x.prio,.int .i64 x.need,.int .i64 x.tries,.string x.tag] 38)) #[.string y.name,.int .i64 y.prio,.int .i64 y.need,.int .i64 y.tries,.string y.tag] 38
  rwa [World.size_alloc] at this
 have bW:Below w.heap.size w W:=by rw[←hW];exact below_trans (below_one _ _) (below_one _ _) (by simp)
 have gW:Grew w W:=by rw[←hW];exact grew_alloc (grew_alloc (grew_refl w) _) _
 have kW:W.cell? ⟨kb,0,none⟩=some (.func (.func 34) #[] #[]):=by rw[bW.cell (p:=⟨kb,0,none⟩) hkl];exact hk
 have o1:=cmpJob_all (w:=W.drew) (objAt_drew oX) (objAt_drew oY) kW (show kb<W.heap.size by have:=bW.size;omega) (grew_drew gW)
 have HW:=Lib.hid hW
 clear oX oY bW hW hk kW gW
 go_enter Tryz.func137,Tryz.ntmps137
 go_wp2_with fail
 rw[HW.out]
 go_region_held3 (fun w'=>((w'.cell? ⟨H,0,none⟩=some (.string x.name)∧w'.cell? ⟨H,1,none⟩=some (.int .i64 x.prio)∧w'.cell? ⟨H,2,none⟩=some (.int .i64 x.need)∧w'.cell? ⟨H,3,none⟩=some (.int .i64 x.tries)∧w'.cell? ⟨H,4,none⟩=some (.string x.tag))∧(w'.cell? ⟨H+1,0,none⟩=some (.string y.name)∧w'.cell? ⟨H+1,1,none⟩=some (.int .i64 y.prio)∧w'.cell? ⟨H+1,2,none⟩=some (.int .i64 y.need)∧w'.cell? ⟨H+1,3,none⟩=some (.int .i64 y.tries)∧w'.cell? ⟨H+1,4,none⟩=some (.string y.tag))∧w'.cell? ⟨kb,0,none⟩=some (.func (.func 34) #[] #[]))∧ObjAt H #[.string x.name,.int .i64 x.prio,.int .i64 x.need,.int .i64 x.tries,.string x.tag] 38 w'∧ObjAt (H+1) #[.string y.name,.int .i64 y.prio,.int .i64 y.need,.int .i64 y.tries,.string y.tag] 38 w'∧(H<w'.heap.size∧H+1<w'.heap.size)∧kb<w'.heap.size∧Grew w w')
  (first | assumption | exact o1)
  (first
   | (go_at_call 34;(with_reducible refine(jobKey_eq x _).mono ?_);rintro e w2 ⟨rfl,rfl⟩;have o2:=cmpJob_next (x:=x) (y:=y) (H:=H) (kb:=kb) (w0:=w) (o:=.cells #[.string x.name,.int .i64 x.prio,.int .i64 x.need,.int .i64 x.tries,.string x.tag] 38) (by assumption))
   | (go_at_call 34;(with_reducible refine(jobKey_eq y _).mono ?_);rintro e w2 ⟨rfl,rfl⟩;have o2:=cmpJob_next (x:=x) (y:=y) (H:=H) (kb:=kb) (w0:=w) (o:=.cells #[.string y.name,.int .i64 y.prio,.int .i64 y.need,.int .i64 y.tries,.string y.tag] 38) (by assumption))
   | (go_at_call 116;refine(HC.out _).mono ?_;rintro e w2 ⟨rfl,rfl⟩;have o2:True:=trivial))
 all_goals
  rename_i o2
  have hb:=o2.2.2.2.2.2
  clear o2
  go_wp2
  go_ret
  exact⟨rfl,hb⟩
theorem cmpNode_all {x y:NodeD}{H kb:Nat}{w0 w:World} (hx:ObjAt H #[.string x.name,.int .i64 x.room,.string x.zone] 40 w) (hy:ObjAt (H+1) #[.string y.name,.int .i64 y.room,.string y.zone] 40 w) (hk:w.cell? ⟨kb,0,none⟩=some (.func (.func 37) #[] #[])) (hl:kb<w.heap.size) (hg:Grew w0 w):((w.cell? ⟨H,0,none⟩=some (.string x.name)∧w.cell? ⟨H,1,none⟩=some (.int .i64 x.room)∧w.cell? ⟨H,2,none⟩=some (.string x.zone))∧(w.cell? ⟨H+1,0,none⟩=some (.string y.name)∧w.cell? ⟨H+1,1,none⟩=some (.int .i64 y.room)∧w.cell? ⟨H+1,2,none⟩=some (.string y.zone))∧w.cell? ⟨kb,0,none⟩=some (.func (.func 37) #[] #[]))∧ObjAt H #[.string x.name,.int .i64 x.room,.string x.zone] 40 w∧ObjAt (H+1) #[.string y.name,.int .i64 y.room,.string y.zone] 40 w∧(H<w.heap.size∧H+1<w.heap.size)∧kb<w.heap.size∧Grew w0 w :=
 ⟨⟨⟨objAt_cell hx 0 rfl,objAt_cell hx 1 rfl,objAt_cell hx 2 rfl⟩,⟨objAt_cell hy 0 rfl,objAt_cell hy 1 rfl,objAt_cell hy 2 rfl⟩,hk⟩,hx,hy,⟨objAt_lt hx,objAt_lt hy⟩,hl,hg⟩
theorem cmpNode_next {x y:NodeD}{H kb:Nat}{w0 w:World}{o:Obj} (h:((w.cell? ⟨H,0,none⟩=some (.string x.name)∧w.cell? ⟨H,1,none⟩=some (.int .i64 x.room)∧w.cell? ⟨H,2,none⟩=some (.string x.zone))∧(w.cell? ⟨H+1,0,none⟩=some (.string y.name)∧w.cell? ⟨H+1,1,none⟩=some (.int .i64 y.room)∧w.cell? ⟨H+1,2,none⟩=some (.string y.zone))∧w.cell? ⟨kb,0,none⟩=some (.func (.func 37) #[] #[]))∧ObjAt H #[.string x.name,.int .i64 x.room,.string x.zone] 40 w∧ObjAt (H+1) #[.string y.name,.int .i64 y.room,.string y.zone] 40 w∧(H<w.heap.size∧H+1<w.heap.size)∧kb<w.heap.size∧Grew w0 w):(((w.alloc o).cell? ⟨H,0,none⟩=some (.string x.name)∧(w.alloc o).cell? ⟨H,1,none⟩=some (.int .i64 x.room)∧(w.alloc o).cell? ⟨H,2,none⟩=some (.string x.zone))∧((w.alloc o).cell? ⟨H+1,0,none⟩=some (.string y.name)∧(w.alloc o).cell? ⟨H+1,1,none⟩=some (.int .i64 y.room)∧(w.alloc o).cell? ⟨H+1,2,none⟩=some (.string y.zone))∧(w.alloc o).cell? ⟨kb,0,none⟩=some (.func (.func 37) #[] #[]))∧ObjAt H #[.string x.name,.int .i64 x.room,.string x.zone] 40 (w.alloc o)∧ObjAt (H+1) #[.string y.name,.int .i64 y.room,.string y.zone] 40 (w.alloc o)∧(H<(w.alloc o).heap.size∧H+1<(w.alloc o).heap.size)∧kb<(w.alloc o).heap.size∧Grew w0 (w.alloc o) :=
 cmpNode_all (objAt_next h.2.1 (below_one _ _)) (objAt_next h.2.2.1 (below_one _ _)) (by rw[(below_one w o).cell (p:=⟨kb,0,none⟩) h.2.2.2.2.1];exact h.1.2.2) (by rw[World.size_alloc];have:=h.2.2.2.2.1;omega) (grew_alloc h.2.2.2.2.2 o)
theorem cmpNode_is (x y:NodeD) (kb:Nat) (w:World) (hk:w.cell? ⟨kb,0,none⟩=some (.func (.func 37) #[] #[])) (hkl:kb<w.heap.size) :
  Calls Tryz.prog 140 #[.agg #[.string x.name,.int .i64 x.room,.string x.zone],.agg #[.string y.name,.int .i64 y.room,.string y.zone],.pointer (some ⟨kb,0,none⟩)] w fun e w'=>e = .returned (.int .i64 (cmpK (·.name) x y))∧Grew w w':=by
 have HC:∀W,Calls Tryz.prog 116 #[.string x.name,.string y.name] W fun e w'=>e = .returned (.int .i64 (cmpK (·.name) x y))∧w'=W:=fun W=>Any.strings_Compare Tryz.layCompare x.name y.name W
 have HC:=Lib.hid HC
 obtain⟨H,hH⟩:∃H,w.heap.size=H:=⟨_,rfl⟩
 obtain⟨W,hW⟩:∃W,(w.alloc (.cells #[.string x.name,.int .i64 x.room,.string x.zone] 40)).alloc (.cells #[.string y.name,.int .i64 y.room,.string y.zone] 40)=W:=⟨_,rfl⟩
 have oX:ObjAt H #[.string x.name,.int .i64 x.room,.string x.zone] 40 W:=by rw[←hW,←hH];exact objAt_next (objAt_new w _ _) (below_one _ _)
 have oY:ObjAt (H+1) #[.string y.name,.int .i64 y.room,.string y.zone] 40 W:=by
  rw[←hW,←hH]
  have:=objAt_new (w.alloc (.cells #[.string x.name,.int .i64 x.room,.string x.zone] 40)) #[.string y.name,.int .i64 y.room,.string y.zone] 40
  rwa [World.size_alloc] at this
 have bW:Below w.heap.size w W:=by rw[←hW];exact below_trans (below_one _ _) (below_one _ _) (by simp)
 have gW:Grew w W:=by rw[←hW];exact grew_alloc (grew_alloc (grew_refl w) _) _
 have kW:W.cell? ⟨kb,0,none⟩=some (.func (.func 37) #[] #[]):=by rw[bW.cell (p:=⟨kb,0,none⟩) hkl];exact hk
 have o1:=cmpNode_all (w:=W.drew) (objAt_drew oX) (objAt_drew oY) kW (show kb<W.heap.size by have:=bW.size;omega) (grew_drew gW)
 have HW:=Lib.hid hW
 clear oX oY bW hW hk kW gW
 go_enter Tryz.func140,Tryz.ntmps140
 go_wp2_with fail
 rw[HW.out]
 go_region_held3 (fun w'=>((w'.cell? ⟨H,0,none⟩=some (.string x.name)∧w'.cell? ⟨H,1,none⟩=some (.int .i64 x.room)∧w'.cell? ⟨H,2,none⟩=some (.string x.zone))∧(w'.cell? ⟨H+1,0,none⟩=some (.string y.name)∧w'.cell? ⟨H+1,1,none⟩=some (.int .i64 y.room)∧w'.cell? ⟨H+1,2,none⟩=some (.string y.zone))∧w'.cell? ⟨kb,0,none⟩=some (.func (.func 37) #[] #[]))∧ObjAt H #[.string x.name,.int .i64 x.room,.string x.zone] 40 w'∧ObjAt (H+1) #[.string y.name,.int .i64 y.room,.string y.zone] 40 w'∧(H<w'.heap.size∧H+1<w'.heap.size)∧kb<w'.heap.size∧Grew w w')
  (first | assumption | exact o1)
  (first
   | (go_at_call 37;(with_reducible refine(nodeKey_eq x _).mono ?_);rintro e w2 ⟨rfl,rfl⟩;have o2:=cmpNode_next (x:=x) (y:=y) (H:=H) (kb:=kb) (w0:=w) (o:=.cells #[.string x.name,.int .i64 x.room,.string x.zone] 40) (by assumption))
   | (go_at_call 37;(with_reducible refine(nodeKey_eq y _).mono ?_);rintro e w2 ⟨rfl,rfl⟩;have o2:=cmpNode_next (x:=x) (y:=y) (H:=H) (kb:=kb) (w0:=w) (o:=.cells #[.string y.name,.int .i64 y.room,.string y.zone] 40) (by assumption))
   | (go_at_call 116;refine(HC.out _).mono ?_;rintro e w2 ⟨rfl,rfl⟩;have o2:True:=trivial))
 all_goals
  rename_i o2
  have hb:=o2.2.2.2.2.2
  clear o2
  go_wp2
  go_ret
  exact⟨rfl,hb⟩
theorem cmpLease_all {x y:LeaseD}{H kb:Nat}{w0 w:World} (hx:ObjAt H #[.string x.job,.string x.node,.int .i64 x.til] 42 w) (hy:ObjAt (H+1) #[.string y.job,.string y.node,.int .i64 y.til] 42 w) (hk:w.cell? ⟨kb,0,none⟩=some (.func (.func 41) #[] #[])) (hl:kb<w.heap.size) (hg:Grew w0 w):((w.cell? ⟨H,0,none⟩=some (.string x.job)∧w.cell? ⟨H,1,none⟩=some (.string x.node)∧w.cell? ⟨H,2,none⟩=some (.int .i64 x.til))∧(w.cell? ⟨H+1,0,none⟩=some (.string y.job)∧w.cell? ⟨H+1,1,none⟩=some (.string y.node)∧w.cell? ⟨H+1,2,none⟩=some (.int .i64 y.til))∧w.cell? ⟨kb,0,none⟩=some (.func (.func 41) #[] #[]))∧ObjAt H #[.string x.job,.string x.node,.int .i64 x.til] 42 w∧ObjAt (H+1) #[.string y.job,.string y.node,.int .i64 y.til] 42 w∧(H<w.heap.size∧H+1<w.heap.size)∧kb<w.heap.size∧Grew w0 w :=
 ⟨⟨⟨objAt_cell hx 0 rfl,objAt_cell hx 1 rfl,objAt_cell hx 2 rfl⟩,⟨objAt_cell hy 0 rfl,objAt_cell hy 1 rfl,objAt_cell hy 2 rfl⟩,hk⟩,hx,hy,⟨objAt_lt hx,objAt_lt hy⟩,hl,hg⟩
theorem cmpLease_next {x y:LeaseD}{H kb:Nat}{w0 w:World}{o:Obj} (h:((w.cell? ⟨H,0,none⟩=some (.string x.job)∧w.cell? ⟨H,1,none⟩=some (.string x.node)∧w.cell? ⟨H,2,none⟩=some (.int .i64 x.til))∧(w.cell? ⟨H+1,0,none⟩=some (.string y.job)∧w.cell? ⟨H+1,1,none⟩=some (.string y.node)∧w.cell? ⟨H+1,2,none⟩=some (.int .i64 y.til))∧w.cell? ⟨kb,0,none⟩=some (.func (.func 41) #[] #[]))∧ObjAt H #[.string x.job,.string x.node,.int .i64 x.til] 42 w∧ObjAt (H+1) #[.string y.job,.string y.node,.int .i64 y.til] 42 w∧(H<w.heap.size∧H+1<w.heap.size)∧kb<w.heap.size∧Grew w0 w):(((w.alloc o).cell? ⟨H,0,none⟩=some (.string x.job)∧(w.alloc o).cell? ⟨H,1,none⟩=some (.string x.node)∧(w.alloc o).cell? ⟨H,2,none⟩=some (.int .i64 x.til))∧((w.alloc o).cell? ⟨H+1,0,none⟩=some (.string y.job)∧(w.alloc o).cell? ⟨H+1,1,none⟩=some (.string y.node)∧(w.alloc o).cell? ⟨H+1,2,none⟩=some (.int .i64 y.til))∧(w.alloc o).cell? ⟨kb,0,none⟩=some (.func (.func 41) #[] #[]))∧ObjAt H #[.string x.job,.string x.node,.int .i64 x.til] 42 (w.alloc o)∧ObjAt (H+1) #[.string y.job,.string y.node,.int .i64 y.til] 42 (w.alloc o)∧(H<(w.alloc o).heap.size∧H+1<(w.alloc o).heap.size)∧kb<(w.alloc o).heap.size∧Grew w0 (w.alloc o) :=
 cmpLease_all (objAt_next h.2.1 (below_one _ _)) (objAt_next h.2.2.1 (below_one _ _)) (by rw[(below_one w o).cell (p:=⟨kb,0,none⟩) h.2.2.2.2.1];exact h.1.2.2) (by rw[World.size_alloc];have:=h.2.2.2.2.1;omega) (grew_alloc h.2.2.2.2.2 o)
theorem cmpLease_is (x y:LeaseD) (kb:Nat) (w:World) (hk:w.cell? ⟨kb,0,none⟩=some (.func (.func 41) #[] #[])) (hkl:kb<w.heap.size) :
  Calls Tryz.prog 143 #[.agg #[.string x.job,.string x.node,.int .i64 x.til],.agg #[.string y.job,.string y.node,.int .i64 y.til],.pointer (some ⟨kb,0,none⟩)] w fun e w'=>e = .returned (.int .i64 (cmpK (·.job) x y))∧Grew w w':=by
 have HC:∀W,Calls Tryz.prog 116 #[.string x.job,.string y.job] W fun e w'=>e = .returned (.int .i64 (cmpK (·.job) x y))∧w'=W:=fun W=>Any.strings_Compare Tryz.layCompare x.job y.job W
 have HC:=Lib.hid HC
 obtain⟨H,hH⟩:∃H,w.heap.size=H:=⟨_,rfl⟩
 obtain⟨W,hW⟩:∃W,(w.alloc (.cells #[.string x.job,.string x.node,.int .i64 x.til] 42)).alloc (.cells #[.string y.job,.string y.node,.int .i64 y.til] 42)=W:=⟨_,rfl⟩
 have oX:ObjAt H #[.string x.job,.string x.node,.int .i64 x.til] 42 W:=by rw[←hW,←hH];exact objAt_next (objAt_new w _ _) (below_one _ _)
 have oY:ObjAt (H+1) #[.string y.job,.string y.node,.int .i64 y.til] 42 W:=by
  rw[←hW,←hH]
  have:=objAt_new (w.alloc (.cells #[.string x.job,.string x.node,.int .i64 x.til] 42)) #[.string y.job,.string y.node,.int .i64 y.til] 42
  rwa [World.size_alloc] at this
 have bW:Below w.heap.size w W:=by rw[←hW];exact below_trans (below_one _ _) (below_one _ _) (by simp)
 have gW:Grew w W:=by rw[←hW];exact grew_alloc (grew_alloc (grew_refl w) _) _
 have kW:W.cell? ⟨kb,0,none⟩=some (.func (.func 41) #[] #[]):=by rw[bW.cell (p:=⟨kb,0,none⟩) hkl];exact hk
 have o1:=cmpLease_all (w:=W.drew) (objAt_drew oX) (objAt_drew oY) kW (show kb<W.heap.size by have:=bW.size;omega) (grew_drew gW)
 have HW:=Lib.hid hW
 clear oX oY bW hW hk kW gW
 go_enter Tryz.func143,Tryz.ntmps143
 go_wp2_with fail
 rw[HW.out]
 go_region_held3 (fun w'=>((w'.cell? ⟨H,0,none⟩=some (.string x.job)∧w'.cell? ⟨H,1,none⟩=some (.string x.node)∧w'.cell? ⟨H,2,none⟩=some (.int .i64 x.til))∧(w'.cell? ⟨H+1,0,none⟩=some (.string y.job)∧w'.cell? ⟨H+1,1,none⟩=some (.string y.node)∧w'.cell? ⟨H+1,2,none⟩=some (.int .i64 y.til))∧w'.cell? ⟨kb,0,none⟩=some (.func (.func 41) #[] #[]))∧ObjAt H #[.string x.job,.string x.node,.int .i64 x.til] 42 w'∧ObjAt (H+1) #[.string y.job,.string y.node,.int .i64 y.til] 42 w'∧(H<w'.heap.size∧H+1<w'.heap.size)∧kb<w'.heap.size∧Grew w w')
  (first | assumption | exact o1)
  (first
   | (go_at_call 41;(with_reducible refine(leaseKey_eq x _).mono ?_);rintro e w2 ⟨rfl,rfl⟩;have o2:=cmpLease_next (x:=x) (y:=y) (H:=H) (kb:=kb) (w0:=w) (o:=.cells #[.string x.job,.string x.node,.int .i64 x.til] 42) (by assumption))
   | (go_at_call 41;(with_reducible refine(leaseKey_eq y _).mono ?_);rintro e w2 ⟨rfl,rfl⟩;have o2:=cmpLease_next (x:=x) (y:=y) (H:=H) (kb:=kb) (w0:=w) (o:=.cells #[.string y.job,.string y.node,.int .i64 y.til] 42) (by assumption))
   | (go_at_call 116;refine(HC.out _).mono ?_;rintro e w2 ⟨rfl,rfl⟩;have o2:True:=trivial))
 all_goals
  rename_i o2
  have hb:=o2.2.2.2.2.2
  clear o2
  go_wp2
  go_ret
  exact⟨rfl,hb⟩
end Go.Proofs.YtiekgafopalfmaaGreatDoor
namespace Go.Proofs.YtiekgafopalfmaaGreatDoor
open Go.RowKit Go.Shelf
theorem flatJob (l:List JobD):(Sort.flatK cJob 5 l.toArray).toList=cJobs l:=by
 apply List.ext_getElem?
 intro t
 by_cases ht:t<l.length*5
 ·have h1:t / 5<l.length:=by omega
  have h2:t % 5<5:=Nat.mod_lt _ (by omega)
  have h3:=cJobs_at l (t / 5) h1 (t % 5) h2
  have e:t / 5*5+t % 5=t:=by omega
  rw[e] at h3
  rw[h3,Array.getElem?_toList]
  have h4:t<(Sort.flatK cJob 5 l.toArray).size:=by rw[Sort.size_flatK];simpa using ht
  rw[Array.getElem?_eq_getElem h4]
  have h5:=Sort.get_flatK cJob 5 l.toArray t (by simpa using ht)
  rw[getElem!_pos _ t h4] at h5
  rw[h5]
  have h6:l.toArray[t / 5]! = l[t / 5]:=by rw[getElem!_pos _ _ (by simpa using h1)];simp
  rw[h6]
  have h7:t % 5<(cJob l[t / 5]).length:=h2
  rw[getElem!_pos (cJob l[t / 5]) (t % 5) h7,List.getElem?_eq_getElem h7]
 ·rw[List.getElem?_eq_none (by rw[Array.length_toList,Sort.size_flatK];simp;omega),List.getElem?_eq_none (by rw[cJobs_length];omega)]
theorem cell_sortJob {w:World}{g m kb:Nat}{d:Array JobD}{os:Array Obj}{v:Value} (h:w.cell? ⟨kb,0,none⟩=some v) (hl:kb<w.heap.size) (hne:kb≠g):(sortWorldK cJob 5 w g 0 m d os).cell? ⟨kb,0,none⟩=some v∧kb<(sortWorldK cJob 5 w g 0 m d os).heap.size:=by
 have hg:w.grownBy (sortWorldK cJob 5 w g 0 m d os) (some g):=grown_put _
 refine⟨?_,Nat.lt_of_lt_of_le hl hg.size⟩
 have hb:=hg.block kb hl (by simpa using hne)
 unfold World.cell? at h⊢
 rw[show(sortWorldK cJob 5 w g 0 m d os).heap[(⟨kb,0,none⟩:Addr).block]?=w.heap[kb]? from hb]
 exact h
theorem sortJob_is (kb g cap base:Nat) (xs:List JobD) (w:World) (hrow:w.ownsRow base 38 5 (.slice (some ⟨g,0,none⟩) xs.length cap) xs.length (cJobs xs)) (hk:w.cell? ⟨kb,0,none⟩=some (.func (.func 34) #[] #[])) (hkl:kb<w.heap.size) (hne:kb≠g) (hx:xs.length≤1000) :
  Calls Tryz.prog 146 #[.slice (some ⟨g,0,none⟩) xs.length cap,.func (.func 137) #[] #[.pointer (some ⟨kb,0,none⟩)]] w fun e w'=>e = .returned (.tuple #[])∧∃ys:List JobD,ys.Perm xs∧ys.Pairwise (fun a b=>¬lt b.name a.name)∧w'.ownsRow base 38 5 (.slice (some ⟨g,0,none⟩) xs.length cap) xs.length (cJobs ys)∧w.grownBy w' (some g):=by
 rcases hrow.2 with ⟨hv,_⟩ | ⟨g',cap',cur,hv,hbg,hgc,hnc,hcm,hcs,htk⟩
 ·cases hv
 ·cases hv
  have hF:(Sort.flatK cJob 5 xs.toArray).size=xs.length*5:=by rw[Sort.size_flatK];simp
  have hH:Sort.HoldsK cJob 5 w g 0 xs.toArray:=holds_put hgc (by rw[hF,flatJob];exact htk)
  have eg:∀args w,(callFunc 137 args).run Tryz.prog w = .ok (.enter 137 args) w:=enters_of Tryz.func137 (by kernel_rfl) rfl
  have hcon:=AnyQ.slices_SortFunc Tryz.laySortJob 5 Tryz.isAgg38 Tryz.sizeOf38 cJob (fun _=>rfl) (fun x v hv=>job_ones x v hv) (cmpK (·.name)) (cmpK_swo _) 137 #[.pointer (some ⟨kb,0,none⟩)] g 0 cap xs.toArray w eg
   (fun m os dk _ x y=>cmpJob_is x y kb _ (cell_sortJob hk hkl hne).1 (cell_sortJob hk hkl hne).2) hH (Array.getElem?_eq_some_iff.1 hgc).1 (by simp;omega)
  have hs:xs.toArray.size=xs.length:=by simp
  rw[hs] at hcon
  refine hcon.mono ?_
  rintro e w' ⟨rfl,d',n,os,hp,hsd,rfl⟩
  rw[←hs] at hp hsd
  obtain⟨p1,p2⟩:=perm_in hp
  have e1:d'.toList.toArray=d':=by simp
  rw[←p2] at hsd
  have hl:d'.size=xs.length:=by rw[p2,hs]
  refine⟨rfl,d'.toList,by simpa using p1,sorted_pair hsd,?_,grown_put _⟩
  have hf:=flatJob d'.toList
  rw[e1] at hf
  exact own_put hf (by rw[Sort.size_flatK,hl]) hbg hgc hnc hcm hcs
theorem sortJob_none (fv:Value) (w:World):Calls Tryz.prog 146 #[.slice none 0 0,fv] w fun e w'=>e = .returned (.tuple #[])∧w'=w :=
 AnyF.slices_SortFunc_none { Tryz.laySortJob with } none 0 fv w
theorem srdJob_is (kb Bm b nn:Nat) (D0:DataW Value) (rows:List JobD) (hl:Asc (·.name) rows) (hD:∀s:ByteArray,Maps.has D0 (keyL s)=(tabF (·.name) jobV rows s).isSome∧∀z,D0.atKey (keyL s) (.held z) = .held ((tabF (·.name) jobV rows s).getD z)) (hnn:nn≤1000) (hr:rows.length≤1000) (w:World) (hBm:Bm<w.heap.size)
  (hm:w.cell? ⟨Bm,0,none⟩=some (.map (some b))) (hown:w.ownsMap Tryz.prog 9 selfE b nn D0) (hk:w.cell? ⟨kb,0,none⟩=some (.func (.func 34) #[] #[])) (hkl:kb<w.heap.size) :
  Calls Tryz.prog 135 #[.func (.func 147) #[] #[.pointer (some ⟨Bm,0,none⟩)],.func (.func 137) #[] #[.pointer (some ⟨kb,0,none⟩)]] w fun e w'=>∃ad cap,e = .returned (.slice ad rows.length cap)∧w'.ownsRow w.heap.size 38 5 (.slice ad rows.length cap) rows.length (cJobs rows)∧Below w.heap.size w w':=by
 have HA:=Lib.hid (colJob_is Bm b nn D0 rows hl hD hnn w hBm hm hown)
 have HL:=Lib.hid hl
 clear hl hD hm hown
 go_enter Tryz.func135,Tryz.ntmps135
 go_wp2_with fail
 refine HA.out.mono ?_
 rintro e w1 ⟨v,xs,rfl,hp,hown,hb⟩
 have HN:=Lib.hid hp.length_eq
 have hx1:xs.length≤1000:=by rw[HN.out];exact hr
 have hk1:w1.cell? ⟨kb,0,none⟩=some (.func (.func 34) #[] #[]):=by rw[hb.cell (p:=⟨kb,0,none⟩) hkl];exact hk
 have hkl1:kb<w1.heap.size:=Nat.lt_of_lt_of_le hkl hb.size
 have HP:=Lib.hid hp
 have HB:=Lib.hid hb
 clear HA hk hb
 rcases hown.2 with ⟨rfl,h0⟩ | ⟨g,cap,cur,rfl,hbg,_⟩
 ·have hr0:rows = []:=List.eq_nil_of_length_eq_zero (by rw[←HN.out];exact h0)
  have HO:=Lib.hid (World.ownsRow_nil w1 w.heap.size 38 5)
  have HS:=Lib.hid (sortJob_none (.func (.func 137) #[] #[.pointer (some ⟨kb,0,none⟩)]) w1)
  clear hown hp hk1
  go_wp2_with fail
  refine HS.out.mono ?_
  rintro e w2 ⟨rfl,rfl⟩
  go_wp2
  go_ret
  refine⟨none,0,by rw[hr0];rfl,?_,HB.out⟩
  rw[hr0]
  exact HO.out
 ·have HS:=Lib.hid (sortJob_is kb g cap w.heap.size xs w1 hown hk1 hkl1 (by omega) hx1)
  clear hown hp hk1
  go_wp2_with fail
  refine HS.out.mono ?_
  rintro e w2 ⟨rfl,ys,hy1,hy2,hy3,hy4⟩
  have hys:ys=rows:=sorted_is HL.out (hy1.trans HP.out) hy2
  subst hys
  have HY:=Lib.hid hy3
  have HG:=Lib.hid (HB.out.grown hy4 HB.out.size (fun k e=>by cases e;exact hbg))
  clear hy1 hy2 hy3 hy4 HS
  go_wp2
  go_ret
  exact⟨some ⟨g,0,none⟩,cap,by rw[←HN.out];rfl,by rw[←HN.out];exact HY.out,HG.out⟩
theorem inoJob_is (b nn:Nat) (rows:List JobD) (hl:Asc (·.name) rows) (hnn:nn≤1000) (hr:rows.length≤1000) (w:World) (hM:MapAt w b nn (tabF (·.name) jobV rows)) :
  Calls Tryz.prog 127 #[.map (some b),.func (.func 34) #[] #[]] w fun e w'=>∃ad cap,e = .returned (.slice ad rows.length cap)∧w'.ownsRow w.heap.size 38 5 (.slice ad rows.length cap) rows.length (cJobs rows)∧Below w.heap.size w w':=by
 obtain⟨W,hW⟩:∃W,w.alloc (.cells #[.func (.func 34) #[] #[]] 77)=W:=⟨_,rfl⟩
 obtain⟨W2,hW2⟩:∃W2,W.alloc (.cells #[.map (some b)] 81)=W2:=⟨_,rfl⟩
 have b1:Below w.heap.size w W:=by rw[←hW];exact below_one _ _
 have s1:W.heap.size=w.heap.size+1:=by rw[←hW,World.size_alloc]
 have b2:Below W.heap.size W W2:=by rw[←hW2];exact below_one _ _
 have s2:W2.heap.size=w.heap.size+2:=by rw[←hW2,World.size_alloc,s1]
 have B2:Below w.heap.size w W2:=below_trans b1 b2 b1.size
 have o1:ObjAt w.heap.size #[.func (.func 34) #[] #[]] 77 W:=by rw[←hW];exact objAt_new w _ _
 have o2:ObjAt (w.heap.size+1) #[.map (some b)] 81 W2:=by rw[←hW2,←s1];exact objAt_new W _ _
 have k2:=objAt_cell (objAt_next o1 b2) 0 rfl
 have m2:=objAt_cell o2 0 rfl
 obtain⟨D0,hown,hD⟩:=mapAt_below hM B2
 have HV:=valJob_is (some b) W
 rw[hW2,s1] at HV
 have HV:=Lib.hid HV
 have HS:=Lib.hid (srdJob_is w.heap.size (w.heap.size+1) b nn D0 rows hl hD hnn hr W2 (by omega) m2 hown k2 (by omega))
 have HB:=Lib.hid B2
 have HW:=Lib.hid hW
 have hs2:=Lib.hid s2
 clear hW hW2 hM hown hD b1 b2 o1 o2 k2 m2 hl B2 s1 s2
 go_enter Tryz.func127,Tryz.ntmps127
 go_wp2_with fail
 rw[HW.out]
 refine HV.out.mono ?_
 rintro e w1 ⟨rfl,rfl⟩
 go_wp2_with fail
 refine HS.out.mono ?_
 rintro e w3 ⟨ad,cap,rfl,h1,h2⟩
 have h1':=ownsRow_low (B':=w.heap.size) h1 (by have:=hs2.out;omega)
 have h2':=below_trans HB.out h2 HB.out.size
 clear h1 h2
 go_wp2
 go_ret
 exact⟨ad,cap,rfl,h1',h2'⟩
theorem flatNode (l:List NodeD):(Sort.flatK cNode 3 l.toArray).toList=cNodes l:=by
 apply List.ext_getElem?
 intro t
 by_cases ht:t<l.length*3
 ·have h1:t / 3<l.length:=by omega
  have h2:t % 3<3:=Nat.mod_lt _ (by omega)
  have h3:=cNodes_at l (t / 3) h1 (t % 3) h2
  have e:t / 3*3+t % 3=t:=by omega
  rw[e] at h3
  rw[h3,Array.getElem?_toList]
  have h4:t<(Sort.flatK cNode 3 l.toArray).size:=by rw[Sort.size_flatK];simpa using ht
  rw[Array.getElem?_eq_getElem h4]
  have h5:=Sort.get_flatK cNode 3 l.toArray t (by simpa using ht)
  rw[getElem!_pos _ t h4] at h5
  rw[h5]
  have h6:l.toArray[t / 3]! = l[t / 3]:=by rw[getElem!_pos _ _ (by simpa using h1)];simp
  rw[h6]
  have h7:t % 3<(cNode l[t / 3]).length:=h2
  rw[getElem!_pos (cNode l[t / 3]) (t % 3) h7,List.getElem?_eq_getElem h7]
 ·rw[List.getElem?_eq_none (by rw[Array.length_toList,Sort.size_flatK];simp;omega),List.getElem?_eq_none (by rw[cNodes_length];omega)]
theorem cell_sortNode {w:World}{g m kb:Nat}{d:Array NodeD}{os:Array Obj}{v:Value} (h:w.cell? ⟨kb,0,none⟩=some v) (hl:kb<w.heap.size) (hne:kb≠g):(sortWorldK cNode 3 w g 0 m d os).cell? ⟨kb,0,none⟩=some v∧kb<(sortWorldK cNode 3 w g 0 m d os).heap.size:=by
 have hg:w.grownBy (sortWorldK cNode 3 w g 0 m d os) (some g):=grown_put _
 refine⟨?_,Nat.lt_of_lt_of_le hl hg.size⟩
 have hb:=hg.block kb hl (by simpa using hne)
 unfold World.cell? at h⊢
 rw[show(sortWorldK cNode 3 w g 0 m d os).heap[(⟨kb,0,none⟩:Addr).block]?=w.heap[kb]? from hb]
 exact h
theorem sortNode_is (kb g cap base:Nat) (xs:List NodeD) (w:World) (hrow:w.ownsRow base 40 3 (.slice (some ⟨g,0,none⟩) xs.length cap) xs.length (cNodes xs)) (hk:w.cell? ⟨kb,0,none⟩=some (.func (.func 37) #[] #[])) (hkl:kb<w.heap.size) (hne:kb≠g) (hx:xs.length≤1000) :
  Calls Tryz.prog 149 #[.slice (some ⟨g,0,none⟩) xs.length cap,.func (.func 140) #[] #[.pointer (some ⟨kb,0,none⟩)]] w fun e w'=>e = .returned (.tuple #[])∧∃ys:List NodeD,ys.Perm xs∧ys.Pairwise (fun a b=>¬lt b.name a.name)∧w'.ownsRow base 40 3 (.slice (some ⟨g,0,none⟩) xs.length cap) xs.length (cNodes ys)∧w.grownBy w' (some g):=by
 rcases hrow.2 with ⟨hv,_⟩ | ⟨g',cap',cur,hv,hbg,hgc,hnc,hcm,hcs,htk⟩
 ·cases hv
 ·cases hv
  have hF:(Sort.flatK cNode 3 xs.toArray).size=xs.length*3:=by rw[Sort.size_flatK];simp
  have hH:Sort.HoldsK cNode 3 w g 0 xs.toArray:=holds_put hgc (by rw[hF,flatNode];exact htk)
  have eg:∀args w,(callFunc 140 args).run Tryz.prog w = .ok (.enter 140 args) w:=enters_of Tryz.func140 (by kernel_rfl) rfl
  have hcon:=AnyQ.slices_SortFunc Tryz.laySortNode 3 Tryz.isAgg40 Tryz.sizeOf40 cNode (fun _=>rfl) (fun x v hv=>node_ones x v hv) (cmpK (·.name)) (cmpK_swo _) 140 #[.pointer (some ⟨kb,0,none⟩)] g 0 cap xs.toArray w eg
   (fun m os dk _ x y=>cmpNode_is x y kb _ (cell_sortNode hk hkl hne).1 (cell_sortNode hk hkl hne).2) hH (Array.getElem?_eq_some_iff.1 hgc).1 (by simp;omega)
  have hs:xs.toArray.size=xs.length:=by simp
  rw[hs] at hcon
  refine hcon.mono ?_
  rintro e w' ⟨rfl,d',n,os,hp,hsd,rfl⟩
  rw[←hs] at hp hsd
  obtain⟨p1,p2⟩:=perm_in hp
  have e1:d'.toList.toArray=d':=by simp
  rw[←p2] at hsd
  have hl:d'.size=xs.length:=by rw[p2,hs]
  refine⟨rfl,d'.toList,by simpa using p1,sorted_pair hsd,?_,grown_put _⟩
  have hf:=flatNode d'.toList
  rw[e1] at hf
  exact own_put hf (by rw[Sort.size_flatK,hl]) hbg hgc hnc hcm hcs
theorem sortNode_none (fv:Value) (w:World):Calls Tryz.prog 149 #[.slice none 0 0,fv] w fun e w'=>e = .returned (.tuple #[])∧w'=w :=
 AnyF.slices_SortFunc_none { Tryz.laySortNode with } none 0 fv w
theorem srdNode_is (kb Bm b nn:Nat) (D0:DataW Value) (rows:List NodeD) (hl:Asc (·.name) rows) (hD:∀s:ByteArray,Maps.has D0 (keyL s)=(tabF (·.name) nodeV rows s).isSome∧∀z,D0.atKey (keyL s) (.held z) = .held ((tabF (·.name) nodeV rows s).getD z)) (hnn:nn≤1000) (hr:rows.length≤1000) (w:World) (hBm:Bm<w.heap.size)
  (hm:w.cell? ⟨Bm,0,none⟩=some (.map (some b))) (hown:w.ownsMap Tryz.prog 9 selfE b nn D0) (hk:w.cell? ⟨kb,0,none⟩=some (.func (.func 37) #[] #[])) (hkl:kb<w.heap.size) :
  Calls Tryz.prog 138 #[.func (.func 150) #[] #[.pointer (some ⟨Bm,0,none⟩)],.func (.func 140) #[] #[.pointer (some ⟨kb,0,none⟩)]] w fun e w'=>∃ad cap,e = .returned (.slice ad rows.length cap)∧w'.ownsRow w.heap.size 40 3 (.slice ad rows.length cap) rows.length (cNodes rows)∧Below w.heap.size w w':=by
 have HA:=Lib.hid (colNode_is Bm b nn D0 rows hl hD hnn w hBm hm hown)
 have HL:=Lib.hid hl
 clear hl hD hm hown
 go_enter Tryz.func138,Tryz.ntmps138
 go_wp2_with fail
 refine HA.out.mono ?_
 rintro e w1 ⟨v,xs,rfl,hp,hown,hb⟩
 have HN:=Lib.hid hp.length_eq
 have hx1:xs.length≤1000:=by rw[HN.out];exact hr
 have hk1:w1.cell? ⟨kb,0,none⟩=some (.func (.func 37) #[] #[]):=by rw[hb.cell (p:=⟨kb,0,none⟩) hkl];exact hk
 have hkl1:kb<w1.heap.size:=Nat.lt_of_lt_of_le hkl hb.size
 have HP:=Lib.hid hp
 have HB:=Lib.hid hb
 clear HA hk hb
 rcases hown.2 with ⟨rfl,h0⟩ | ⟨g,cap,cur,rfl,hbg,_⟩
 ·have hr0:rows = []:=List.eq_nil_of_length_eq_zero (by rw[←HN.out];exact h0)
  have HO:=Lib.hid (World.ownsRow_nil w1 w.heap.size 40 3)
  have HS:=Lib.hid (sortNode_none (.func (.func 140) #[] #[.pointer (some ⟨kb,0,none⟩)]) w1)
  clear hown hp hk1
  go_wp2_with fail
  refine HS.out.mono ?_
  rintro e w2 ⟨rfl,rfl⟩
  go_wp2
  go_ret
  refine⟨none,0,by rw[hr0];rfl,?_,HB.out⟩
  rw[hr0]
  exact HO.out
 ·have HS:=Lib.hid (sortNode_is kb g cap w.heap.size xs w1 hown hk1 hkl1 (by omega) hx1)
  clear hown hp hk1
  go_wp2_with fail
  refine HS.out.mono ?_
  rintro e w2 ⟨rfl,ys,hy1,hy2,hy3,hy4⟩
  have hys:ys=rows:=sorted_is HL.out (hy1.trans HP.out) hy2
  subst hys
  have HY:=Lib.hid hy3
  have HG:=Lib.hid (HB.out.grown hy4 HB.out.size (fun k e=>by cases e;exact hbg))
  clear hy1 hy2 hy3 hy4 HS
  go_wp2
  go_ret
  exact⟨some ⟨g,0,none⟩,cap,by rw[←HN.out];rfl,by rw[←HN.out];exact HY.out,HG.out⟩
theorem inoNode_is (b nn:Nat) (rows:List NodeD) (hl:Asc (·.name) rows) (hnn:nn≤1000) (hr:rows.length≤1000) (w:World) (hM:MapAt w b nn (tabF (·.name) nodeV rows)) :
  Calls Tryz.prog 129 #[.map (some b),.func (.func 37) #[] #[]] w fun e w'=>∃ad cap,e = .returned (.slice ad rows.length cap)∧w'.ownsRow w.heap.size 40 3 (.slice ad rows.length cap) rows.length (cNodes rows)∧Below w.heap.size w w':=by
 obtain⟨W,hW⟩:∃W,w.alloc (.cells #[.func (.func 37) #[] #[]] 80)=W:=⟨_,rfl⟩
 obtain⟨W2,hW2⟩:∃W2,W.alloc (.cells #[.map (some b)] 82)=W2:=⟨_,rfl⟩
 have b1:Below w.heap.size w W:=by rw[←hW];exact below_one _ _
 have s1:W.heap.size=w.heap.size+1:=by rw[←hW,World.size_alloc]
 have b2:Below W.heap.size W W2:=by rw[←hW2];exact below_one _ _
 have s2:W2.heap.size=w.heap.size+2:=by rw[←hW2,World.size_alloc,s1]
 have B2:Below w.heap.size w W2:=below_trans b1 b2 b1.size
 have o1:ObjAt w.heap.size #[.func (.func 37) #[] #[]] 80 W:=by rw[←hW];exact objAt_new w _ _
 have o2:ObjAt (w.heap.size+1) #[.map (some b)] 82 W2:=by rw[←hW2,←s1];exact objAt_new W _ _
 have k2:=objAt_cell (objAt_next o1 b2) 0 rfl
 have m2:=objAt_cell o2 0 rfl
 obtain⟨D0,hown,hD⟩:=mapAt_below hM B2
 have HV:=valNode_is (some b) W
 rw[hW2,s1] at HV
 have HV:=Lib.hid HV
 have HS:=Lib.hid (srdNode_is w.heap.size (w.heap.size+1) b nn D0 rows hl hD hnn hr W2 (by omega) m2 hown k2 (by omega))
 have HB:=Lib.hid B2
 have HW:=Lib.hid hW
 have hs2:=Lib.hid s2
 clear hW hW2 hM hown hD b1 b2 o1 o2 k2 m2 hl B2 s1 s2
 go_enter Tryz.func129,Tryz.ntmps129
 go_wp2_with fail
 rw[HW.out]
 refine HV.out.mono ?_
 rintro e w1 ⟨rfl,rfl⟩
 go_wp2_with fail
 refine HS.out.mono ?_
 rintro e w3 ⟨ad,cap,rfl,h1,h2⟩
 have h1':=ownsRow_low (B':=w.heap.size) h1 (by have:=hs2.out;omega)
 have h2':=below_trans HB.out h2 HB.out.size
 clear h1 h2
 go_wp2
 go_ret
 exact⟨ad,cap,rfl,h1',h2'⟩
theorem flatLease (l:List LeaseD):(Sort.flatK cLease 3 l.toArray).toList=cLeases l:=by
 apply List.ext_getElem?
 intro t
 by_cases ht:t<l.length*3
 ·have h1:t / 3<l.length:=by omega
  have h2:t % 3<3:=Nat.mod_lt _ (by omega)
  have h3:=cLeases_at l (t / 3) h1 (t % 3) h2
  have e:t / 3*3+t % 3=t:=by omega
  rw[e] at h3
  rw[h3,Array.getElem?_toList]
  have h4:t<(Sort.flatK cLease 3 l.toArray).size:=by rw[Sort.size_flatK];simpa using ht
  rw[Array.getElem?_eq_getElem h4]
  have h5:=Sort.get_flatK cLease 3 l.toArray t (by simpa using ht)
  rw[getElem!_pos _ t h4] at h5
  rw[h5]
  have h6:l.toArray[t / 3]! = l[t / 3]:=by rw[getElem!_pos _ _ (by simpa using h1)];simp
  rw[h6]
  have h7:t % 3<(cLease l[t / 3]).length:=h2
  rw[getElem!_pos (cLease l[t / 3]) (t % 3) h7,List.getElem?_eq_getElem h7]
 ·rw[List.getElem?_eq_none (by rw[Array.length_toList,Sort.size_flatK];simp;omega),List.getElem?_eq_none (by rw[cLeases_length];omega)]
theorem cell_sortLease {w:World}{g m kb:Nat}{d:Array LeaseD}{os:Array Obj}{v:Value} (h:w.cell? ⟨kb,0,none⟩=some v) (hl:kb<w.heap.size) (hne:kb≠g):(sortWorldK cLease 3 w g 0 m d os).cell? ⟨kb,0,none⟩=some v∧kb<(sortWorldK cLease 3 w g 0 m d os).heap.size:=by
 have hg:w.grownBy (sortWorldK cLease 3 w g 0 m d os) (some g):=grown_put _
 refine⟨?_,Nat.lt_of_lt_of_le hl hg.size⟩
 have hb:=hg.block kb hl (by simpa using hne)
 unfold World.cell? at h⊢
 rw[show(sortWorldK cLease 3 w g 0 m d os).heap[(⟨kb,0,none⟩:Addr).block]?=w.heap[kb]? from hb]
 exact h
theorem sortLease_is (kb g cap base:Nat) (xs:List LeaseD) (w:World) (hrow:w.ownsRow base 42 3 (.slice (some ⟨g,0,none⟩) xs.length cap) xs.length (cLeases xs)) (hk:w.cell? ⟨kb,0,none⟩=some (.func (.func 41) #[] #[])) (hkl:kb<w.heap.size) (hne:kb≠g) (hx:xs.length≤1000) :
  Calls Tryz.prog 152 #[.slice (some ⟨g,0,none⟩) xs.length cap,.func (.func 143) #[] #[.pointer (some ⟨kb,0,none⟩)]] w fun e w'=>e = .returned (.tuple #[])∧∃ys:List LeaseD,ys.Perm xs∧ys.Pairwise (fun a b=>¬lt b.job a.job)∧w'.ownsRow base 42 3 (.slice (some ⟨g,0,none⟩) xs.length cap) xs.length (cLeases ys)∧w.grownBy w' (some g):=by
 rcases hrow.2 with ⟨hv,_⟩ | ⟨g',cap',cur,hv,hbg,hgc,hnc,hcm,hcs,htk⟩
 ·cases hv
 ·cases hv
  have hF:(Sort.flatK cLease 3 xs.toArray).size=xs.length*3:=by rw[Sort.size_flatK];simp
  have hH:Sort.HoldsK cLease 3 w g 0 xs.toArray:=holds_put hgc (by rw[hF,flatLease];exact htk)
  have eg:∀args w,(callFunc 143 args).run Tryz.prog w = .ok (.enter 143 args) w:=enters_of Tryz.func143 (by kernel_rfl) rfl
  have hcon:=AnyQ.slices_SortFunc Tryz.laySortLease 3 Tryz.isAgg42 Tryz.sizeOf42 cLease (fun _=>rfl) (fun x v hv=>lease_ones x v hv) (cmpK (·.job)) (cmpK_swo _) 143 #[.pointer (some ⟨kb,0,none⟩)] g 0 cap xs.toArray w eg
   (fun m os dk _ x y=>cmpLease_is x y kb _ (cell_sortLease hk hkl hne).1 (cell_sortLease hk hkl hne).2) hH (Array.getElem?_eq_some_iff.1 hgc).1 (by simp;omega)
  have hs:xs.toArray.size=xs.length:=by simp
  rw[hs] at hcon
  refine hcon.mono ?_
  rintro e w' ⟨rfl,d',n,os,hp,hsd,rfl⟩
  rw[←hs] at hp hsd
  obtain⟨p1,p2⟩:=perm_in hp
  have e1:d'.toList.toArray=d':=by simp
  rw[←p2] at hsd
  have hl:d'.size=xs.length:=by rw[p2,hs]
  refine⟨rfl,d'.toList,by simpa using p1,sorted_pair hsd,?_,grown_put _⟩
  have hf:=flatLease d'.toList
  rw[e1] at hf
  exact own_put hf (by rw[Sort.size_flatK,hl]) hbg hgc hnc hcm hcs
theorem sortLease_none (fv:Value) (w:World):Calls Tryz.prog 152 #[.slice none 0 0,fv] w fun e w'=>e = .returned (.tuple #[])∧w'=w :=
 AnyF.slices_SortFunc_none { Tryz.laySortLease with } none 0 fv w
theorem srdLease_is (kb Bm b nn:Nat) (D0:DataW Value) (rows:List LeaseD) (hl:Asc (·.job) rows) (hD:∀s:ByteArray,Maps.has D0 (keyL s)=(tabF (·.job) leaseV rows s).isSome∧∀z,D0.atKey (keyL s) (.held z) = .held ((tabF (·.job) leaseV rows s).getD z)) (hnn:nn≤1000) (hr:rows.length≤1000) (w:World) (hBm:Bm<w.heap.size)
  (hm:w.cell? ⟨Bm,0,none⟩=some (.map (some b))) (hown:w.ownsMap Tryz.prog 9 selfE b nn D0) (hk:w.cell? ⟨kb,0,none⟩=some (.func (.func 41) #[] #[])) (hkl:kb<w.heap.size) :
  Calls Tryz.prog 141 #[.func (.func 153) #[] #[.pointer (some ⟨Bm,0,none⟩)],.func (.func 143) #[] #[.pointer (some ⟨kb,0,none⟩)]] w fun e w'=>∃ad cap,e = .returned (.slice ad rows.length cap)∧w'.ownsRow w.heap.size 42 3 (.slice ad rows.length cap) rows.length (cLeases rows)∧Below w.heap.size w w':=by
 have HA:=Lib.hid (colLease_is Bm b nn D0 rows hl hD hnn w hBm hm hown)
 have HL:=Lib.hid hl
 clear hl hD hm hown
 go_enter Tryz.func141,Tryz.ntmps141
 go_wp2_with fail
 refine HA.out.mono ?_
 rintro e w1 ⟨v,xs,rfl,hp,hown,hb⟩
 have HN:=Lib.hid hp.length_eq
 have hx1:xs.length≤1000:=by rw[HN.out];exact hr
 have hk1:w1.cell? ⟨kb,0,none⟩=some (.func (.func 41) #[] #[]):=by rw[hb.cell (p:=⟨kb,0,none⟩) hkl];exact hk
 have hkl1:kb<w1.heap.size:=Nat.lt_of_lt_of_le hkl hb.size
 have HP:=Lib.hid hp
 have HB:=Lib.hid hb
 clear HA hk hb
 rcases hown.2 with ⟨rfl,h0⟩ | ⟨g,cap,cur,rfl,hbg,_⟩
 ·have hr0:rows = []:=List.eq_nil_of_length_eq_zero (by rw[←HN.out];exact h0)
  have HO:=Lib.hid (World.ownsRow_nil w1 w.heap.size 42 3)
  have HS:=Lib.hid (sortLease_none (.func (.func 143) #[] #[.pointer (some ⟨kb,0,none⟩)]) w1)
  clear hown hp hk1
  go_wp2_with fail
  refine HS.out.mono ?_
  rintro e w2 ⟨rfl,rfl⟩
  go_wp2
  go_ret
  refine⟨none,0,by rw[hr0];rfl,?_,HB.out⟩
  rw[hr0]
  exact HO.out
 ·have HS:=Lib.hid (sortLease_is kb g cap w.heap.size xs w1 hown hk1 hkl1 (by omega) hx1)
  clear hown hp hk1
  go_wp2_with fail
  refine HS.out.mono ?_
  rintro e w2 ⟨rfl,ys,hy1,hy2,hy3,hy4⟩
  have hys:ys=rows:=sorted_is HL.out (hy1.trans HP.out) hy2
  subst hys
  have HY:=Lib.hid hy3
  have HG:=Lib.hid (HB.out.grown hy4 HB.out.size (fun k e=>by cases e;exact hbg))
  clear hy1 hy2 hy3 hy4 HS
  go_wp2
  go_ret
  exact⟨some ⟨g,0,none⟩,cap,by rw[←HN.out];rfl,by rw[←HN.out];exact HY.out,HG.out⟩
theorem inoLease_is (b nn:Nat) (rows:List LeaseD) (hl:Asc (·.job) rows) (hnn:nn≤1000) (hr:rows.length≤1000) (w:World) (hM:MapAt w b nn (tabF (·.job) leaseV rows)) :
  Calls Tryz.prog 131 #[.map (some b),.func (.func 41) #[] #[]] w fun e w'=>∃ad cap,e = .returned (.slice ad rows.length cap)∧w'.ownsRow w.heap.size 42 3 (.slice ad rows.length cap) rows.length (cLeases rows)∧Below w.heap.size w w':=by
 obtain⟨W,hW⟩:∃W,w.alloc (.cells #[.func (.func 41) #[] #[]] 88)=W:=⟨_,rfl⟩
 obtain⟨W2,hW2⟩:∃W2,W.alloc (.cells #[.map (some b)] 177)=W2:=⟨_,rfl⟩
 have b1:Below w.heap.size w W:=by rw[←hW];exact below_one _ _
 have s1:W.heap.size=w.heap.size+1:=by rw[←hW,World.size_alloc]
 have b2:Below W.heap.size W W2:=by rw[←hW2];exact below_one _ _
 have s2:W2.heap.size=w.heap.size+2:=by rw[←hW2,World.size_alloc,s1]
 have B2:Below w.heap.size w W2:=below_trans b1 b2 b1.size
 have o1:ObjAt w.heap.size #[.func (.func 41) #[] #[]] 88 W:=by rw[←hW];exact objAt_new w _ _
 have o2:ObjAt (w.heap.size+1) #[.map (some b)] 177 W2:=by rw[←hW2,←s1];exact objAt_new W _ _
 have k2:=objAt_cell (objAt_next o1 b2) 0 rfl
 have m2:=objAt_cell o2 0 rfl
 obtain⟨D0,hown,hD⟩:=mapAt_below hM B2
 have HV:=valLease_is (some b) W
 rw[hW2,s1] at HV
 have HV:=Lib.hid HV
 have HS:=Lib.hid (srdLease_is w.heap.size (w.heap.size+1) b nn D0 rows hl hD hnn hr W2 (by omega) m2 hown k2 (by omega))
 have HB:=Lib.hid B2
 have HW:=Lib.hid hW
 have hs2:=Lib.hid s2
 clear hW hW2 hM hown hD b1 b2 o1 o2 k2 m2 hl B2 s1 s2
 go_enter Tryz.func131,Tryz.ntmps131
 go_wp2_with fail
 rw[HW.out]
 refine HV.out.mono ?_
 rintro e w1 ⟨rfl,rfl⟩
 go_wp2_with fail
 refine HS.out.mono ?_
 rintro e w3 ⟨ad,cap,rfl,h1,h2⟩
 have h1':=ownsRow_low (B':=w.heap.size) h1 (by have:=hs2.out;omega)
 have h2':=below_trans HB.out h2 HB.out.size
 clear h1 h2
 go_wp2
 go_ret
 exact⟨ad,cap,rfl,h1',h2'⟩
end Go.Proofs.YtiekgafopalfmaaGreatDoor
