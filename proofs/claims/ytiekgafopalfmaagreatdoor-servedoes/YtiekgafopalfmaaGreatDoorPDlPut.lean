import Derived.Test.YtiekgafopalfmaaGreatDoorPPkDl5
import Derived.Test.YtiekgafopalfmaaGreatDoorPDlHas
import Derived.Test.YtiekgafopalfmaaGreatDoorPPkDl4
import Derived.Deep.RegionHeld3
import Derived.Laws.Cover1
import Derived.WalkSmall
set_option maxRecDepth 100000
set_option maxHeartbeats 16000000
namespace Go.Proofs.YtiekgafopalfmaaGreatDoor
open Go.RowKit
section
variable {α : Type} {key : α → ByteArray}
theorem put_front:∀(p q:List α) (x:α),(∀z∈p,lt (key z) (key x))→putL key x (p++q)=p++putL key x q
 | [],_,_,_=>rfl
 | y :: p,q,x,h=>by
  have ih:=put_front p q x (fun z hz=>h z (List.mem_cons_of_mem _ hz))
  show putL key x (y :: (p++q))=y :: (p++putL key x q)
  rw[←ih]
  conv=>lhs;unfold putL
  rw[if_pos (h y List.mem_cons_self)]
theorem put_back:∀(p q:List α) (x:α),(∃z∈p,¬lt (key z) (key x))→putL key x (p++q)=putL key x p++q
 | [],_,_,h=>by obtain⟨z,hz,_⟩:=h;cases hz
 | y :: p,q,x,h=>by
  show putL key x (y :: (p++q))=putL key x (y :: p)++q
  unfold putL
  by_cases h1:lt (key y) (key x)
  ·rw[if_pos h1,if_pos h1]
   have h2:∃z∈p,¬lt (key z) (key x):=by
    obtain⟨z,hz,hn⟩:=h
    rcases List.mem_cons.1 hz with rfl | hz
    ·exact absurd h1 hn
    ·exact⟨z,hz,hn⟩
   rw[put_back p q x h2]
   rfl
  ·rw[if_neg h1,if_neg h1]
   by_cases h2:key y=key x
   ·rw[if_pos h2,if_pos h2];rfl
   ·rw[if_neg h2,if_neg h2];rfl
def PutP (key:α→ByteArray) (x:α) (l:List α) (i:Nat) (done:Bool) (out:List α):Prop :=
 (done=false∧out=l.take i∧∀z∈l.take i,lt (key z) (key x))∨(done=true∧out=putL key x (l.take i)∧∃z∈l.take i,¬lt (key z) (key x))
theorem put_start (x:α) (l:List α):PutP key x l 0 false []:=.inl ⟨rfl,rfl,fun z hz=>by simp at hz⟩
theorem put_less {x:α}{l out:List α}{i:Nat} (hi:i<l.length) (h:PutP key x l i false out) (h1:lt (key l[i]) (key x)):PutP key x l (i+1) false (out ++ [l[i]]):=by
 rcases h with ⟨_,rfl,h⟩ | ⟨h,_⟩
 ·refine .inl ⟨rfl,(List.take_succ_eq_append_getElem hi).symm,?_⟩
  rw[List.take_succ_eq_append_getElem hi]
  intro z hz
  rcases List.mem_append.1 hz with hz | hz
  ·exact h z hz
  ·obtain rfl:z=l[i]:=by simpa using hz
   exact h1
 ·cases h
theorem put_same {x:α}{l out:List α}{i:Nat} (hi:i<l.length) (h:PutP key x l i false out) (h1:key l[i]=key x):PutP key x l (i+1) true (out ++ [x]):=by
 rcases h with ⟨_,rfl,h⟩ | ⟨h,_⟩
 ·have hn:¬lt (key l[i]) (key x):=fun hh=>lt_ne hh h1
  refine .inr ⟨rfl,?_,l[i],by rw[List.take_succ_eq_append_getElem hi];exact List.mem_append_right _ (List.mem_singleton.2 rfl),hn⟩
  rw[List.take_succ_eq_append_getElem hi,put_front _ _ _ h]
  conv=>rhs;unfold putL
  rw[if_neg hn,if_pos h1]
 ·cases h
theorem put_above {x:α}{l out:List α}{i:Nat} (hi:i<l.length) (h:PutP key x l i false out) (h1:¬lt (key l[i]) (key x)) (h2:key l[i]≠key x):PutP key x l (i+1) true (out ++ [x] ++ [l[i]]):=by
 rcases h with ⟨_,rfl,h⟩ | ⟨h,_⟩
 ·refine .inr ⟨rfl,?_,l[i],by rw[List.take_succ_eq_append_getElem hi];exact List.mem_append_right _ (List.mem_singleton.2 rfl),h1⟩
  rw[List.take_succ_eq_append_getElem hi,put_front _ _ _ h]
  conv=>rhs;unfold putL
  rw[if_neg h1,if_neg h2]
  simp
 ·cases h
theorem put_done {x:α}{l out:List α}{i:Nat} (ha:Asc key l) (hi:i<l.length) (h:PutP key x l i true out):key l[i]≠key x∧PutP key x l (i+1) true (out ++ [l[i]]):=by
 rcases h with ⟨h,_⟩ | ⟨_,rfl,z,hz,hn⟩
 ·cases h
 ·refine⟨fun e=>?_,.inr ⟨rfl,?_,z,?_,hn⟩⟩
  ·obtain⟨j,hj,rfl⟩:=List.mem_take_iff_getElem.1 hz
   have hlt:=List.pairwise_iff_getElem.1 ha j i (by omega) hi (by omega)
   rw[e] at hlt
   exact hn hlt
  ·rw[List.take_succ_eq_append_getElem hi,put_back _ _ _ ⟨z,hz,hn⟩]
  ·rw[List.take_succ_eq_append_getElem hi];exact List.mem_append_left _ hz
theorem put_full {x:α}{l out:List α} (h:PutP key x l l.length true out):out=putL key x l:=by
 rcases h with ⟨h,_⟩ | ⟨_,h,_⟩
 ·cases h
 ·rw[List.take_length] at h;exact h
theorem put_last {x:α}{l out:List α} (h:PutP key x l l.length false out):out ++ [x]=putL key x l:=by
 rcases h with ⟨_,h,h2⟩ | ⟨h,_⟩
 ·rw[List.take_length] at h h2
  have:=put_front l [] x h2
  rw[List.append_nil] at this
  rw[this,h]
  rfl
 ·cases h
theorem putL_len (x:α):∀l:List α,(putL key x l).length≤l.length+1
 | []=>by simp[putL]
 | y :: l=>by
  have ih:=putL_len x l
  unfold putL
  by_cases h1:lt (key y) (key x)
  ·rw[if_pos h1];simp only[List.length_cons];omega
  ·rw[if_neg h1]
   by_cases h2:key y=key x
   ·rw[if_pos h2];simp
   ·rw[if_neg h2];simp
theorem put_len {x:α}{l out:List α}{i:Nat}{d:Bool} (h:PutP key x l i d out):out.length≤i+1:=by
 rcases h with ⟨_,rfl,_⟩ | ⟨_,rfl,_⟩
 ·rw[List.length_take];omega
 ·have:=putL_len (key:=key) x (l.take i)
  rw[List.length_take] at this
  omega
end
theorem rkeyJob_eq (x:JobD) (w:World):Calls Tryz.prog 57 #[.agg #[.string x.name,.int .i64 x.prio,.int .i64 x.need,.int .i64 x.tries,.string x.tag]] w fun e w'=>e = .returned (.string x.name)∧w'=w.alloc (.cells #[.string x.name,.int .i64 x.prio,.int .i64 x.need,.int .i64 x.tries,.string x.tag] 38):=by
 go_enter Tryz.func57,Tryz.ntmps57
 go_wp2
 go_ret
 exact⟨rfl,rfl⟩
theorem putJob_all {x y:JobD}{H Y:Nat}{V w:World} (hx:ObjAt H #[.string x.name,.int .i64 x.prio,.int .i64 x.need,.int .i64 x.tries,.string x.tag] 38 w) (hy:ObjAt Y #[.string y.name,.int .i64 y.prio,.int .i64 y.need,.int .i64 y.tries,.string y.tag] 38 w) (hb:Below V.heap.size V w):((w.cell? ⟨H,0,none⟩=some (.string x.name)∧w.cell? ⟨H,1,none⟩=some (.int .i64 x.prio)∧w.cell? ⟨H,2,none⟩=some (.int .i64 x.need)∧w.cell? ⟨H,3,none⟩=some (.int .i64 x.tries)∧w.cell? ⟨H,4,none⟩=some (.string x.tag))∧(w.cell? ⟨Y,0,none⟩=some (.string y.name)∧w.cell? ⟨Y,1,none⟩=some (.int .i64 y.prio)∧w.cell? ⟨Y,2,none⟩=some (.int .i64 y.need)∧w.cell? ⟨Y,3,none⟩=some (.int .i64 y.tries)∧w.cell? ⟨Y,4,none⟩=some (.string y.tag)))∧ObjAt H #[.string x.name,.int .i64 x.prio,.int .i64 x.need,.int .i64 x.tries,.string x.tag] 38 w∧ObjAt Y #[.string y.name,.int .i64 y.prio,.int .i64 y.need,.int .i64 y.tries,.string y.tag] 38 w∧Below V.heap.size V w :=
 ⟨⟨⟨objAt_cell hx 0 rfl,objAt_cell hx 1 rfl,objAt_cell hx 2 rfl,objAt_cell hx 3 rfl,objAt_cell hx 4 rfl⟩,⟨objAt_cell hy 0 rfl,objAt_cell hy 1 rfl,objAt_cell hy 2 rfl,objAt_cell hy 3 rfl,objAt_cell hy 4 rfl⟩⟩,hx,hy,hb⟩
theorem putJob_next {x y:JobD}{H Y:Nat}{V w:World}{o:Obj} (h:((w.cell? ⟨H,0,none⟩=some (.string x.name)∧w.cell? ⟨H,1,none⟩=some (.int .i64 x.prio)∧w.cell? ⟨H,2,none⟩=some (.int .i64 x.need)∧w.cell? ⟨H,3,none⟩=some (.int .i64 x.tries)∧w.cell? ⟨H,4,none⟩=some (.string x.tag))∧(w.cell? ⟨Y,0,none⟩=some (.string y.name)∧w.cell? ⟨Y,1,none⟩=some (.int .i64 y.prio)∧w.cell? ⟨Y,2,none⟩=some (.int .i64 y.need)∧w.cell? ⟨Y,3,none⟩=some (.int .i64 y.tries)∧w.cell? ⟨Y,4,none⟩=some (.string y.tag)))∧ObjAt H #[.string x.name,.int .i64 x.prio,.int .i64 x.need,.int .i64 x.tries,.string x.tag] 38 w∧ObjAt Y #[.string y.name,.int .i64 y.prio,.int .i64 y.need,.int .i64 y.tries,.string y.tag] 38 w∧Below V.heap.size V w):(((w.alloc o).cell? ⟨H,0,none⟩=some (.string x.name)∧(w.alloc o).cell? ⟨H,1,none⟩=some (.int .i64 x.prio)∧(w.alloc o).cell? ⟨H,2,none⟩=some (.int .i64 x.need)∧(w.alloc o).cell? ⟨H,3,none⟩=some (.int .i64 x.tries)∧(w.alloc o).cell? ⟨H,4,none⟩=some (.string x.tag))∧((w.alloc o).cell? ⟨Y,0,none⟩=some (.string y.name)∧(w.alloc o).cell? ⟨Y,1,none⟩=some (.int .i64 y.prio)∧(w.alloc o).cell? ⟨Y,2,none⟩=some (.int .i64 y.need)∧(w.alloc o).cell? ⟨Y,3,none⟩=some (.int .i64 y.tries)∧(w.alloc o).cell? ⟨Y,4,none⟩=some (.string y.tag)))∧ObjAt H #[.string x.name,.int .i64 x.prio,.int .i64 x.need,.int .i64 x.tries,.string x.tag] 38 (w.alloc o)∧ObjAt Y #[.string y.name,.int .i64 y.prio,.int .i64 y.need,.int .i64 y.tries,.string y.tag] 38 (w.alloc o)∧Below V.heap.size V (w.alloc o) :=
 putJob_all (objAt_next h.2.1 (below_one _ _)) (objAt_next h.2.2.1 (below_one _ _)) (below_trans h.2.2.2 (below_one _ _) h.2.2.2.size)
theorem putJob_after {x y:JobD}{H Y:Nat}{V w W0:World}{v:Value}{k:Nat}{cs:List Value} (hp:V.ownsRow W0.heap.size 38 5 v k cs∧Below W0.heap.size W0 V) (h:((w.cell? ⟨H,0,none⟩=some (.string x.name)∧w.cell? ⟨H,1,none⟩=some (.int .i64 x.prio)∧w.cell? ⟨H,2,none⟩=some (.int .i64 x.need)∧w.cell? ⟨H,3,none⟩=some (.int .i64 x.tries)∧w.cell? ⟨H,4,none⟩=some (.string x.tag))∧(w.cell? ⟨Y,0,none⟩=some (.string y.name)∧w.cell? ⟨Y,1,none⟩=some (.int .i64 y.prio)∧w.cell? ⟨Y,2,none⟩=some (.int .i64 y.need)∧w.cell? ⟨Y,3,none⟩=some (.int .i64 y.tries)∧w.cell? ⟨Y,4,none⟩=some (.string y.tag)))∧ObjAt H #[.string x.name,.int .i64 x.prio,.int .i64 x.need,.int .i64 x.tries,.string x.tag] 38 w∧ObjAt Y #[.string y.name,.int .i64 y.prio,.int .i64 y.need,.int .i64 y.tries,.string y.tag] 38 w∧Below V.heap.size V w):∃W2,w=W2∧W2.ownsRow W0.heap.size 38 5 v k cs∧Below W0.heap.size W0 W2∧ObjAt H #[.string x.name,.int .i64 x.prio,.int .i64 x.need,.int .i64 x.tries,.string x.tag] 38 W2∧ObjAt Y #[.string y.name,.int .i64 y.prio,.int .i64 y.need,.int .i64 y.tries,.string y.tag] 38 W2 :=
 ⟨w,rfl,own_next hp.1 h.2.2.2,below_trans hp.2 h.2.2.2 hp.2.size,h.2.1,h.2.2.1⟩
theorem putJob_is (l:List JobD) (ad:Option Addr) (cap:Nat) (hl:l.length≤100) (ha:Asc (·.name) l) (x:JobD) (w:World) (hx:JobsAt w ad l) :
  Calls Tryz.prog 56 #[.slice ad l.length cap,.agg #[.string x.name,.int .i64 x.prio,.int .i64 x.need,.int .i64 x.tries,.string x.tag],.func (.func 57) #[] #[]] w fun e w'=>∃ad' cap',e = .returned (.slice ad' (putL (·.name) x l).length cap')∧w'.ownsRow w.heap.size 38 5 (.slice ad' (putL (·.name) x l).length cap') (putL (·.name) x l).length (cJobs (putL (·.name) x l))∧Below w.heap.size w w':=by
 obtain⟨i0,qi,qz0,qz1,qz2⟩:=info_parts' Tryz.info_job
 have Hi:=Lib.hid qi
 have Hz0:=Lib.hid qz0
 have Hz1:=Lib.hid qz1
 have Hz2:=Lib.hid qz2
 obtain⟨H,hH⟩:∃H,w.heap.size=H:=⟨_,rfl⟩
 obtain⟨W0,hW0⟩:∃W,w.alloc (.cells #[.string x.name,.int .i64 x.prio,.int .i64 x.need,.int .i64 x.tries,.string x.tag] 38)=W:=⟨_,rfl⟩
 have b0:=below_one w (.cells #[.string x.name,.int .i64 x.prio,.int .i64 x.need,.int .i64 x.tries,.string x.tag] 38)
 have o0:=objAt_new w #[.string x.name,.int .i64 x.prio,.int .i64 x.need,.int .i64 x.tries,.string x.tag] 38
 have s0:W0.heap.size=H+1:=by rw[←hW0,World.size_alloc,hH]
 rw[hW0] at b0 o0
 have HX:=Lib.hid (jobsAt_next hx b0)
 rw[hH] at o0
 have O0:=Lib.hid o0
 have B0:=Lib.hid b0
 have HA:=Lib.hid ha
 have HP0:=Lib.hid (put_start (key:=(·.name)) x l)
 have S0:=Lib.hid s0
 clear qi qz0 qz1 qz2 hx b0 o0 ha s0
 go_enter Tryz.func56,Tryz.ntmps56
 go_wp2
 go_loopw [7,8,13] (fun pv dv iv wr=>∃(i:Nat) (dn:Bool) (out:List JobD),iv = .int .i64 (i:Int)∧dv = .bool dn∧i≤l.length∧Hid (PutP (·.name) x l i dn out)∧wr.ownsRow W0.heap.size 38 5 pv out.length (cJobs out)∧Below W0.heap.size W0 wr) (fun _ _ iv _=>l.length - (intOf iv).toNat)
 case atStart=>exact⟨0,false,[],rfl,rfl,Nat.zero_le _,HP0,by exact World.ownsRow_nil _ _ _ _,Below.refl _ _⟩
 case round =>
  obtain⟨i,dn,out,rfl,rfl,hi,HP,hown,hbr⟩:=hrel
  obtain⟨pad,pcap,rfl⟩:=ownRow_slice hown
  have hcnt:=put_len HP.out
  by_cases h:(i:Int)<(l.length:Int)
  case pos =>
   have hil:i<l.length:=by omega
   obtain⟨a,rfl,hal,k0,k1,k2,k3,k4⟩:=jobsAt_next HX.out hbr i hil
   obtain⟨y,hyi⟩:∃x,l[i]=x:=⟨_,rfl⟩
   rw[hyi] at k0 k1 k2 k3 k4
   have HYI:=Lib.hid hyi
   obtain⟨Y,hY⟩:∃L,wr.heap.size=L:=⟨_,rfl⟩
   obtain⟨V,hV⟩:∃V,wr.alloc (.cells #[.string y.name,.int .i64 y.prio,.int .i64 y.need,.int .i64 y.tries,.string y.tag] 38)=V:=⟨_,rfl⟩
   have bA:=below_one wr (.cells #[.string y.name,.int .i64 y.prio,.int .i64 y.need,.int .i64 y.tries,.string y.tag] 38)
   have oY:=objAt_new wr #[.string y.name,.int .i64 y.prio,.int .i64 y.need,.int .i64 y.tries,.string y.tag] 38
   rw[hV] at bA oY
   rw[hY] at oY
   have BV:=below_trans hbr bA hbr.size
   have oX:=objAt_next O0.out BV
   have hownV:=own_next hown bA
   have sV:=BV.size
   have hown0:=hown
   clear bA hown hbr hyi
   have HYl:Hid (∀k,(Value.slice pad out.length pcap).ownBlock=some k→k≠Y):=fun k hk hY'=>by have:=(hown0.lt k hk).2;omega
   have HXl:Hid (∀k,(Value.slice pad out.length pcap).ownBlock=some k→k≠H):=fun k hk hY'=>by have:=(hown0.lt k hk).1;have:=S0.out;omega
   have own:=hownV
   clear hown0 hownV
   cases dn with
   | true =>
    obtain⟨hne,hP2⟩:=put_done HA.out hil HP.out
    rw[HYI.out] at hne hP2
    have l4:(y.name.toList==x.name.toList)=false:=by rw[same_lists];simpa using hne
    have HP2:Hid (PutP (·.name) x l (i+1) true (out ++ [y])):=hP2
    clear hne hP2 HP
    skip
    have o1:=putJob_all (w:=V.drew) (V:=V) (objAt_drew oX) (objAt_drew oY) ((Below.refl V.heap.size V).drew)
    have o1':=fun nq=>putJob_all (w:=(V.drewN nq).drew) (V:=V) (show ObjAt H _ _ _ from oX) (show ObjAt Y _ _ _ from oY) (show Below V.heap.size V (V.drewN nq) from⟨rfl,rfl,rfl,Nat.le_refl _,fun _ _=>rfl⟩).drew
    have PV:=Lib.hid (And.intro own BV)
    clear own BV oX oY
    go_wp2_with fail
    go_quiet (fail)
    go_wp2_with fail
    go_region_held3 (fun w'=>((w'.cell? ⟨H,0,none⟩=some (.string x.name)∧w'.cell? ⟨H,1,none⟩=some (.int .i64 x.prio)∧w'.cell? ⟨H,2,none⟩=some (.int .i64 x.need)∧w'.cell? ⟨H,3,none⟩=some (.int .i64 x.tries)∧w'.cell? ⟨H,4,none⟩=some (.string x.tag))∧(w'.cell? ⟨Y,0,none⟩=some (.string y.name)∧w'.cell? ⟨Y,1,none⟩=some (.int .i64 y.prio)∧w'.cell? ⟨Y,2,none⟩=some (.int .i64 y.need)∧w'.cell? ⟨Y,3,none⟩=some (.int .i64 y.tries)∧w'.cell? ⟨Y,4,none⟩=some (.string y.tag)))∧ObjAt H #[.string x.name,.int .i64 x.prio,.int .i64 x.need,.int .i64 x.tries,.string x.tag] 38 w'∧ObjAt Y #[.string y.name,.int .i64 y.prio,.int .i64 y.need,.int .i64 y.tries,.string y.tag] 38 w'∧Below V.heap.size V w')
     (first | assumption | exact o1 | exact o1' _)
     (first
      | (go_at_call 57;(with_reducible refine(rkeyJob_eq x _).mono ?_);rintro e w2 ⟨rfl,rfl⟩;have o2:=putJob_next (x:=x) (y:=y) (H:=H) (Y:=Y) (V:=V) (o:=(.cells #[.string x.name,.int .i64 x.prio,.int .i64 x.need,.int .i64 x.tries,.string x.tag] 38)) (by assumption))
      | (go_at_call 57;(with_reducible refine(rkeyJob_eq y _).mono ?_);rintro e w2 ⟨rfl,rfl⟩;have o2:=putJob_next (x:=x) (y:=y) (H:=H) (Y:=Y) (V:=V) (o:=(.cells #[.string y.name,.int .i64 y.prio,.int .i64 y.need,.int .i64 y.tries,.string y.tag] 38)) (by assumption)))
    all_goals
     rename_i o2
     obtain⟨W2,hW2,own,BV,oX,oY⟩:=putJob_after PV.out o2
     clear o1 o2 PV o1'
     try rw[hW2]
     have e0:=objAt_cell oY 0 rfl
     have e1:=objAt_cell oY 1 rfl
     have e2:=objAt_cell oY 2 rfl
     have e3:=objAt_cell oY 3 rfl
     have e4:=objAt_cell oY 4 rfl
     have el:=objAt_lt oY
     have hs2:=BV.size
     have PV:=Lib.hid (And.intro BV (And.intro oX oY))
     clear BV oX oY
     go_wp2_with (at_builtin;refine wpList_append_own _ rfl _ _ 22 rfl W0.heap.size 38 i0 _ 5 56 Tryz.underlying22 Hi.out Hz0.out Hz1.out Hz2.out rfl (by decide) _ _ _ rfl (own.alloc _) ⟨W2.heap.size,0,none⟩ 1 1 (cJob y) rfl rfl ?c1 ?c2 ?c3 ?c4 ?c5 ?_)
     case c1=>exact job_new W2 y _
     case c2=>exact job_ones y
     case c3=>unfold maxLen;omega
     case c4=>omega
     case c5=>simp;omega
     intro v3 w3 own3 hg3 _
     obtain⟨BV,oX,oY⟩:=PV.out
     have bN:=below_one W2 (.cells #[.string y.name,.int .i64 y.prio,.int .i64 y.need,.int .i64 y.tries,.string y.tag] 38)
     have oX:=objAt_grown (objAt_next oX bN) hg3 (fun e=>HXl.out _ e.symm rfl)
     clear oY
     have BV:=(below_trans BV bN BV.size).grown hg3 (by have:=BV.size;rw[World.size_alloc];omega) (fun k hk=>(own.lt k hk).1)
     obtain⟨ad3,cap3,rfl⟩:=ownRow_slice own3
     rw[←cJobs_one,←cJobs_append] at own3
     clear own bN hg3 el PV hs2 e0 e1 e2 e3 e4
     have own:=own3
     clear own3
     have Q:=Lib.hid (And.intro own BV)
     clear own BV oX
     go_wp2
     go_roundw
     case rel =>
      obtain⟨own,BV⟩:=Q.out
      exact⟨i+1,true,out ++ [y],by simp,rfl,by omega,HP2,by simpa [List.length_append] using own,BV⟩
     case measure=>simp[intOf];omega
   | false =>
    by_cases hlt:lt y.name x.name
    ·have l3:Op.bytesLess y.name.toList x.name.toList=true:=by rw[less_toList];simpa using hlt
     have hP2:=put_less hil HP.out (by rw[HYI.out];exact hlt)
     rw[HYI.out] at hP2
     have HP2:Hid (PutP (·.name) x l (i+1) false (out ++ [y])):=hP2
     have l4:(y.name.toList==x.name.toList)=false:=by rw[same_lists];simpa using lt_ne hlt
     clear hP2 hlt HP
     have o1:=putJob_all (w:=V.drew) (V:=V) (objAt_drew oX) (objAt_drew oY) ((Below.refl V.heap.size V).drew)
     skip
     have PV:=Lib.hid (And.intro own BV)
     clear own BV oX oY
     go_wp2_with fail
     go_region_held3 (fun w'=>((w'.cell? ⟨H,0,none⟩=some (.string x.name)∧w'.cell? ⟨H,1,none⟩=some (.int .i64 x.prio)∧w'.cell? ⟨H,2,none⟩=some (.int .i64 x.need)∧w'.cell? ⟨H,3,none⟩=some (.int .i64 x.tries)∧w'.cell? ⟨H,4,none⟩=some (.string x.tag))∧(w'.cell? ⟨Y,0,none⟩=some (.string y.name)∧w'.cell? ⟨Y,1,none⟩=some (.int .i64 y.prio)∧w'.cell? ⟨Y,2,none⟩=some (.int .i64 y.need)∧w'.cell? ⟨Y,3,none⟩=some (.int .i64 y.tries)∧w'.cell? ⟨Y,4,none⟩=some (.string y.tag)))∧ObjAt H #[.string x.name,.int .i64 x.prio,.int .i64 x.need,.int .i64 x.tries,.string x.tag] 38 w'∧ObjAt Y #[.string y.name,.int .i64 y.prio,.int .i64 y.need,.int .i64 y.tries,.string y.tag] 38 w'∧Below V.heap.size V w')
      (first | assumption | exact o1 | exact o1' _)
      (first
       | (go_at_call 57;(with_reducible refine(rkeyJob_eq x _).mono ?_);rintro e w2 ⟨rfl,rfl⟩;have o2:=putJob_next (x:=x) (y:=y) (H:=H) (Y:=Y) (V:=V) (o:=(.cells #[.string x.name,.int .i64 x.prio,.int .i64 x.need,.int .i64 x.tries,.string x.tag] 38)) (by assumption))
       | (go_at_call 57;(with_reducible refine(rkeyJob_eq y _).mono ?_);rintro e w2 ⟨rfl,rfl⟩;have o2:=putJob_next (x:=x) (y:=y) (H:=H) (Y:=Y) (V:=V) (o:=(.cells #[.string y.name,.int .i64 y.prio,.int .i64 y.need,.int .i64 y.tries,.string y.tag] 38)) (by assumption)))
     all_goals
      rename_i o2
      obtain⟨W1,hW1,own,BV,oX,oY⟩:=putJob_after PV.out o2
      clear o1 o2 PV
      try rw[hW1]
      have o1:=putJob_all (w:=W1.drew) (V:=W1) (objAt_drew oX) (objAt_drew oY) ((Below.refl W1.heap.size W1).drew)
      skip
      have PV:=Lib.hid (And.intro own BV)
      clear own BV oX oY
      go_wp2_with fail
      go_region_held3 (fun w'=>((w'.cell? ⟨H,0,none⟩=some (.string x.name)∧w'.cell? ⟨H,1,none⟩=some (.int .i64 x.prio)∧w'.cell? ⟨H,2,none⟩=some (.int .i64 x.need)∧w'.cell? ⟨H,3,none⟩=some (.int .i64 x.tries)∧w'.cell? ⟨H,4,none⟩=some (.string x.tag))∧(w'.cell? ⟨Y,0,none⟩=some (.string y.name)∧w'.cell? ⟨Y,1,none⟩=some (.int .i64 y.prio)∧w'.cell? ⟨Y,2,none⟩=some (.int .i64 y.need)∧w'.cell? ⟨Y,3,none⟩=some (.int .i64 y.tries)∧w'.cell? ⟨Y,4,none⟩=some (.string y.tag)))∧ObjAt H #[.string x.name,.int .i64 x.prio,.int .i64 x.need,.int .i64 x.tries,.string x.tag] 38 w'∧ObjAt Y #[.string y.name,.int .i64 y.prio,.int .i64 y.need,.int .i64 y.tries,.string y.tag] 38 w'∧Below W1.heap.size W1 w')
       (first | assumption | exact o1 | exact o1' _)
       (first
        | (go_at_call 57;(with_reducible refine(rkeyJob_eq x _).mono ?_);rintro e w2 ⟨rfl,rfl⟩;have o2:=putJob_next (x:=x) (y:=y) (H:=H) (Y:=Y) (V:=W1) (o:=(.cells #[.string x.name,.int .i64 x.prio,.int .i64 x.need,.int .i64 x.tries,.string x.tag] 38)) (by assumption))
        | (go_at_call 57;(with_reducible refine(rkeyJob_eq y _).mono ?_);rintro e w2 ⟨rfl,rfl⟩;have o2:=putJob_next (x:=x) (y:=y) (H:=H) (Y:=Y) (V:=W1) (o:=(.cells #[.string y.name,.int .i64 y.prio,.int .i64 y.need,.int .i64 y.tries,.string y.tag] 38)) (by assumption)))
      all_goals
       rename_i o2
       obtain⟨W2,hW2,own,BV,oX,oY⟩:=putJob_after PV.out o2
       clear o1 o2 PV
       try rw[hW2]
       have e0:=objAt_cell oY 0 rfl
       have e1:=objAt_cell oY 1 rfl
       have e2:=objAt_cell oY 2 rfl
       have e3:=objAt_cell oY 3 rfl
       have e4:=objAt_cell oY 4 rfl
       have el:=objAt_lt oY
       have hs2:=BV.size
       have PV:=Lib.hid (And.intro BV (And.intro oX oY))
       clear BV oX oY
       go_wp2_with (at_builtin;refine wpList_append_own _ rfl _ _ 22 rfl W0.heap.size 38 i0 _ 5 56 Tryz.underlying22 Hi.out Hz0.out Hz1.out Hz2.out rfl (by decide) _ _ _ rfl (own.alloc _) ⟨W2.heap.size,0,none⟩ 1 1 (cJob y) rfl rfl ?c1 ?c2 ?c3 ?c4 ?c5 ?_)
       case c1=>exact job_new W2 y _
       case c2=>exact job_ones y
       case c3=>unfold maxLen;omega
       case c4=>omega
       case c5=>simp;omega
       intro v3 w3 own3 hg3 _
       obtain⟨BV,oX,oY⟩:=PV.out
       have bN:=below_one W2 (.cells #[.string y.name,.int .i64 y.prio,.int .i64 y.need,.int .i64 y.tries,.string y.tag] 38)
       have oX:=objAt_grown (objAt_next oX bN) hg3 (fun e=>HXl.out _ e.symm rfl)
       clear oY
       have BV:=(below_trans BV bN BV.size).grown hg3 (by have:=BV.size;rw[World.size_alloc];omega) (fun k hk=>(own.lt k hk).1)
       obtain⟨ad3,cap3,rfl⟩:=ownRow_slice own3
       rw[←cJobs_one,←cJobs_append] at own3
       clear own bN hg3 el PV hs2 e0 e1 e2 e3 e4
       have own:=own3
       clear own3
       have Q:=Lib.hid (And.intro own BV)
       clear own BV oX
       go_wp2
       go_roundw
       case rel =>
        obtain⟨own,BV⟩:=Q.out
        exact⟨i+1,false,out ++ [y],by simp,rfl,by omega,HP2,by simpa [List.length_append] using own,BV⟩
       case measure=>simp[intOf];omega
    ·have l3:Op.bytesLess y.name.toList x.name.toList=false:=by rw[less_toList];simpa using hlt
     by_cases heq:y.name=x.name
     ·have l4:(y.name.toList==x.name.toList)=true:=by rw[same_lists];simpa using heq
      have hP2:=put_same hil HP.out (by rw[HYI.out];exact heq)
      have HP2:Hid (PutP (·.name) x l (i+1) true (out ++ [x])):=hP2
      clear hP2 hlt heq HP
      have o1:=putJob_all (w:=V.drew) (V:=V) (objAt_drew oX) (objAt_drew oY) ((Below.refl V.heap.size V).drew)
      skip
      have PV:=Lib.hid (And.intro own BV)
      clear own BV oX oY
      go_wp2_with fail
      go_region_held3 (fun w'=>((w'.cell? ⟨H,0,none⟩=some (.string x.name)∧w'.cell? ⟨H,1,none⟩=some (.int .i64 x.prio)∧w'.cell? ⟨H,2,none⟩=some (.int .i64 x.need)∧w'.cell? ⟨H,3,none⟩=some (.int .i64 x.tries)∧w'.cell? ⟨H,4,none⟩=some (.string x.tag))∧(w'.cell? ⟨Y,0,none⟩=some (.string y.name)∧w'.cell? ⟨Y,1,none⟩=some (.int .i64 y.prio)∧w'.cell? ⟨Y,2,none⟩=some (.int .i64 y.need)∧w'.cell? ⟨Y,3,none⟩=some (.int .i64 y.tries)∧w'.cell? ⟨Y,4,none⟩=some (.string y.tag)))∧ObjAt H #[.string x.name,.int .i64 x.prio,.int .i64 x.need,.int .i64 x.tries,.string x.tag] 38 w'∧ObjAt Y #[.string y.name,.int .i64 y.prio,.int .i64 y.need,.int .i64 y.tries,.string y.tag] 38 w'∧Below V.heap.size V w')
       (first | assumption | exact o1 | exact o1' _)
       (first
        | (go_at_call 57;(with_reducible refine(rkeyJob_eq x _).mono ?_);rintro e w2 ⟨rfl,rfl⟩;have o2:=putJob_next (x:=x) (y:=y) (H:=H) (Y:=Y) (V:=V) (o:=(.cells #[.string x.name,.int .i64 x.prio,.int .i64 x.need,.int .i64 x.tries,.string x.tag] 38)) (by assumption))
        | (go_at_call 57;(with_reducible refine(rkeyJob_eq y _).mono ?_);rintro e w2 ⟨rfl,rfl⟩;have o2:=putJob_next (x:=x) (y:=y) (H:=H) (Y:=Y) (V:=V) (o:=(.cells #[.string y.name,.int .i64 y.prio,.int .i64 y.need,.int .i64 y.tries,.string y.tag] 38)) (by assumption)))
      all_goals
       rename_i o2
       obtain⟨W1,hW1,own,BV,oX,oY⟩:=putJob_after PV.out o2
       clear o1 o2 PV
       try rw[hW1]
       have e0:=objAt_cell oX 0 rfl
       have e1:=objAt_cell oX 1 rfl
       have e2:=objAt_cell oX 2 rfl
       have e3:=objAt_cell oX 3 rfl
       have e4:=objAt_cell oX 4 rfl
       have el:=objAt_lt oX
       have hs2:=BV.size
       have PV:=Lib.hid (And.intro BV (And.intro oX oY))
       clear BV oX oY
       go_wp2_with (at_builtin;refine wpList_append_own _ rfl _ _ 22 rfl W0.heap.size 38 i0 _ 5 56 Tryz.underlying22 Hi.out Hz0.out Hz1.out Hz2.out rfl (by decide) _ _ _ rfl (own.alloc _) ⟨W1.heap.size,0,none⟩ 1 1 (cJob x) rfl rfl ?c1 ?c2 ?c3 ?c4 ?c5 ?_)
       case c1=>exact job_new W1 x _
       case c2=>exact job_ones x
       case c3=>unfold maxLen;omega
       case c4=>omega
       case c5=>simp;omega
       intro v3 w2_ own3 hg3 _
       obtain⟨BV,oX,oY⟩:=PV.out
       have bN:=below_one W1 (.cells #[.string x.name,.int .i64 x.prio,.int .i64 x.need,.int .i64 x.tries,.string x.tag] 38)
       have oX:=objAt_grown (objAt_next oX bN) hg3 (fun e=>HXl.out _ e.symm rfl)
       have oY:=objAt_grown (objAt_next oY bN) hg3 (fun e=>HYl.out _ e.symm rfl)
       have BV:=(below_trans BV bN BV.size).grown hg3 (by have:=BV.size;rw[World.size_alloc];omega) (fun k hk=>(own.lt k hk).1)
       obtain⟨ad3,cap3,rfl⟩:=ownRow_slice own3
       rw[←cJobs_one,←cJobs_append] at own3
       clear own bN hg3 el PV hs2 e0 e1 e2 e3 e4
       have own:=own3
       clear own3
       have o1:=putJob_all (w:=w2_.drew) (V:=w2_) (objAt_drew oX) (objAt_drew oY) ((Below.refl w2_.heap.size w2_).drew)
       skip
       have PV:=Lib.hid (And.intro own BV)
       clear own BV oX oY
       go_wp2_with fail
       go_region_held3 (fun w'=>((w'.cell? ⟨H,0,none⟩=some (.string x.name)∧w'.cell? ⟨H,1,none⟩=some (.int .i64 x.prio)∧w'.cell? ⟨H,2,none⟩=some (.int .i64 x.need)∧w'.cell? ⟨H,3,none⟩=some (.int .i64 x.tries)∧w'.cell? ⟨H,4,none⟩=some (.string x.tag))∧(w'.cell? ⟨Y,0,none⟩=some (.string y.name)∧w'.cell? ⟨Y,1,none⟩=some (.int .i64 y.prio)∧w'.cell? ⟨Y,2,none⟩=some (.int .i64 y.need)∧w'.cell? ⟨Y,3,none⟩=some (.int .i64 y.tries)∧w'.cell? ⟨Y,4,none⟩=some (.string y.tag)))∧ObjAt H #[.string x.name,.int .i64 x.prio,.int .i64 x.need,.int .i64 x.tries,.string x.tag] 38 w'∧ObjAt Y #[.string y.name,.int .i64 y.prio,.int .i64 y.need,.int .i64 y.tries,.string y.tag] 38 w'∧Below w2_.heap.size w2_ w')
        (first | assumption | exact o1 | exact o1' _)
        (first
         | (go_at_call 57;(with_reducible refine(rkeyJob_eq x _).mono ?_);rintro e w2 ⟨rfl,rfl⟩;have o2:=putJob_next (x:=x) (y:=y) (H:=H) (Y:=Y) (V:=w2_) (o:=(.cells #[.string x.name,.int .i64 x.prio,.int .i64 x.need,.int .i64 x.tries,.string x.tag] 38)) (by assumption))
         | (go_at_call 57;(with_reducible refine(rkeyJob_eq y _).mono ?_);rintro e w2 ⟨rfl,rfl⟩;have o2:=putJob_next (x:=x) (y:=y) (H:=H) (Y:=Y) (V:=w2_) (o:=(.cells #[.string y.name,.int .i64 y.prio,.int .i64 y.need,.int .i64 y.tries,.string y.tag] 38)) (by assumption)))
       all_goals
        rename_i o2
        obtain⟨W2,hW2,own,BV,oX,oY⟩:=putJob_after PV.out o2
        clear o1 o2 PV
        try rw[hW2]
        clear oY
        have Q:=Lib.hid (And.intro own BV)
        clear own BV oX
        go_wp2
        go_roundw
        case rel =>
         obtain⟨own,BV⟩:=Q.out
         exact⟨i+1,true,out ++ [x],by simp,rfl,by omega,HP2,by simpa [List.length_append] using own,BV⟩
        case measure=>simp[intOf];omega
     ·have l4:(y.name.toList==x.name.toList)=false:=by rw[same_lists];simpa using heq
      have hP2:=put_above hil HP.out (by rw[HYI.out];exact hlt) (by rw[HYI.out];exact heq)
      rw[HYI.out] at hP2
      have HP2:Hid (PutP (·.name) x l (i+1) true (out ++ [x] ++ [y])):=hP2
      clear hP2 hlt heq HP
      have o1:=putJob_all (w:=V.drew) (V:=V) (objAt_drew oX) (objAt_drew oY) ((Below.refl V.heap.size V).drew)
      skip
      have PV:=Lib.hid (And.intro own BV)
      clear own BV oX oY
      go_wp2_with fail
      go_region_held3 (fun w'=>((w'.cell? ⟨H,0,none⟩=some (.string x.name)∧w'.cell? ⟨H,1,none⟩=some (.int .i64 x.prio)∧w'.cell? ⟨H,2,none⟩=some (.int .i64 x.need)∧w'.cell? ⟨H,3,none⟩=some (.int .i64 x.tries)∧w'.cell? ⟨H,4,none⟩=some (.string x.tag))∧(w'.cell? ⟨Y,0,none⟩=some (.string y.name)∧w'.cell? ⟨Y,1,none⟩=some (.int .i64 y.prio)∧w'.cell? ⟨Y,2,none⟩=some (.int .i64 y.need)∧w'.cell? ⟨Y,3,none⟩=some (.int .i64 y.tries)∧w'.cell? ⟨Y,4,none⟩=some (.string y.tag)))∧ObjAt H #[.string x.name,.int .i64 x.prio,.int .i64 x.need,.int .i64 x.tries,.string x.tag] 38 w'∧ObjAt Y #[.string y.name,.int .i64 y.prio,.int .i64 y.need,.int .i64 y.tries,.string y.tag] 38 w'∧Below V.heap.size V w')
       (first | assumption | exact o1 | exact o1' _)
       (first
        | (go_at_call 57;(with_reducible refine(rkeyJob_eq x _).mono ?_);rintro e w2 ⟨rfl,rfl⟩;have o2:=putJob_next (x:=x) (y:=y) (H:=H) (Y:=Y) (V:=V) (o:=(.cells #[.string x.name,.int .i64 x.prio,.int .i64 x.need,.int .i64 x.tries,.string x.tag] 38)) (by assumption))
        | (go_at_call 57;(with_reducible refine(rkeyJob_eq y _).mono ?_);rintro e w2 ⟨rfl,rfl⟩;have o2:=putJob_next (x:=x) (y:=y) (H:=H) (Y:=Y) (V:=V) (o:=(.cells #[.string y.name,.int .i64 y.prio,.int .i64 y.need,.int .i64 y.tries,.string y.tag] 38)) (by assumption)))
      all_goals
       rename_i o2
       obtain⟨W1,hW1,own,BV,oX,oY⟩:=putJob_after PV.out o2
       clear o1 o2 PV
       try rw[hW1]
       have e0:=objAt_cell oX 0 rfl
       have e1:=objAt_cell oX 1 rfl
       have e2:=objAt_cell oX 2 rfl
       have e3:=objAt_cell oX 3 rfl
       have e4:=objAt_cell oX 4 rfl
       have el:=objAt_lt oX
       have hs2:=BV.size
       have PV:=Lib.hid (And.intro BV (And.intro oX oY))
       clear BV oX oY
       go_wp2_with (at_builtin;refine wpList_append_own _ rfl _ _ 22 rfl W0.heap.size 38 i0 _ 5 56 Tryz.underlying22 Hi.out Hz0.out Hz1.out Hz2.out rfl (by decide) _ _ _ rfl (own.alloc _) ⟨W1.heap.size,0,none⟩ 1 1 (cJob x) rfl rfl ?c1 ?c2 ?c3 ?c4 ?c5 ?_)
       case c1=>exact job_new W1 x _
       case c2=>exact job_ones x
       case c3=>unfold maxLen;omega
       case c4=>omega
       case c5=>simp;omega
       intro v3 w2_ own3 hg3 _
       obtain⟨BV,oX,oY⟩:=PV.out
       have bN:=below_one W1 (.cells #[.string x.name,.int .i64 x.prio,.int .i64 x.need,.int .i64 x.tries,.string x.tag] 38)
       have oX:=objAt_grown (objAt_next oX bN) hg3 (fun e=>HXl.out _ e.symm rfl)
       have oY:=objAt_grown (objAt_next oY bN) hg3 (fun e=>HYl.out _ e.symm rfl)
       have BV:=(below_trans BV bN BV.size).grown hg3 (by have:=BV.size;rw[World.size_alloc];omega) (fun k hk=>(own.lt k hk).1)
       obtain⟨ad3,cap3,rfl⟩:=ownRow_slice own3
       rw[←cJobs_one,←cJobs_append] at own3
       clear own bN hg3 el PV hs2 e0 e1 e2 e3 e4
       have own:=own3
       clear own3
       have o1:=putJob_all (w:=w2_.drew) (V:=w2_) (objAt_drew oX) (objAt_drew oY) ((Below.refl w2_.heap.size w2_).drew)
       skip
       have PV:=Lib.hid (And.intro own BV)
       clear own BV oX oY
       go_wp2_with fail
       go_region_held3 (fun w'=>((w'.cell? ⟨H,0,none⟩=some (.string x.name)∧w'.cell? ⟨H,1,none⟩=some (.int .i64 x.prio)∧w'.cell? ⟨H,2,none⟩=some (.int .i64 x.need)∧w'.cell? ⟨H,3,none⟩=some (.int .i64 x.tries)∧w'.cell? ⟨H,4,none⟩=some (.string x.tag))∧(w'.cell? ⟨Y,0,none⟩=some (.string y.name)∧w'.cell? ⟨Y,1,none⟩=some (.int .i64 y.prio)∧w'.cell? ⟨Y,2,none⟩=some (.int .i64 y.need)∧w'.cell? ⟨Y,3,none⟩=some (.int .i64 y.tries)∧w'.cell? ⟨Y,4,none⟩=some (.string y.tag)))∧ObjAt H #[.string x.name,.int .i64 x.prio,.int .i64 x.need,.int .i64 x.tries,.string x.tag] 38 w'∧ObjAt Y #[.string y.name,.int .i64 y.prio,.int .i64 y.need,.int .i64 y.tries,.string y.tag] 38 w'∧Below w2_.heap.size w2_ w')
        (first | assumption | exact o1 | exact o1' _)
        (first
         | (go_at_call 57;(with_reducible refine(rkeyJob_eq x _).mono ?_);rintro e w2 ⟨rfl,rfl⟩;have o2:=putJob_next (x:=x) (y:=y) (H:=H) (Y:=Y) (V:=w2_) (o:=(.cells #[.string x.name,.int .i64 x.prio,.int .i64 x.need,.int .i64 x.tries,.string x.tag] 38)) (by assumption))
         | (go_at_call 57;(with_reducible refine(rkeyJob_eq y _).mono ?_);rintro e w2 ⟨rfl,rfl⟩;have o2:=putJob_next (x:=x) (y:=y) (H:=H) (Y:=Y) (V:=w2_) (o:=(.cells #[.string y.name,.int .i64 y.prio,.int .i64 y.need,.int .i64 y.tries,.string y.tag] 38)) (by assumption)))
       all_goals
        rename_i o2
        obtain⟨W2,hW2,own,BV,oX,oY⟩:=putJob_after PV.out o2
        clear o1 o2 PV
        try rw[hW2]
        have HXl:Hid (∀k,(Value.slice ad3 (out.length+1) cap3).ownBlock=some k→k≠H):=fun k hk hY'=>by have:=(own.lt k hk).1;have:=S0.out;omega
        have e0:=objAt_cell oY 0 rfl
        have e1:=objAt_cell oY 1 rfl
        have e2:=objAt_cell oY 2 rfl
        have e3:=objAt_cell oY 3 rfl
        have e4:=objAt_cell oY 4 rfl
        have el:=objAt_lt oY
        have hs2:=BV.size
        have PV:=Lib.hid (And.intro BV (And.intro oX oY))
        clear BV oX oY
        go_wp2_with (at_builtin;refine wpList_append_own _ rfl _ _ 22 rfl W0.heap.size 38 i0 _ 5 56 Tryz.underlying22 Hi.out Hz0.out Hz1.out Hz2.out rfl (by decide) _ _ _ rfl (own.alloc _) ⟨W2.heap.size,0,none⟩ 1 1 (cJob y) rfl rfl ?c1 ?c2 ?c3 ?c4 ?c5 ?_)
        case c1=>exact job_new W2 y _
        case c2=>exact job_ones y
        case c3=>unfold maxLen;omega
        case c4=>omega
        case c5=>simp;omega
        intro v3 w3 own3 hg3 _
        obtain⟨BV,oX,oY⟩:=PV.out
        have bN:=below_one W2 (.cells #[.string y.name,.int .i64 y.prio,.int .i64 y.need,.int .i64 y.tries,.string y.tag] 38)
        have oX:=objAt_grown (objAt_next oX bN) hg3 (fun e=>HXl.out _ e.symm rfl)
        clear oY
        have BV:=(below_trans BV bN BV.size).grown hg3 (by have:=BV.size;rw[World.size_alloc];omega) (fun k hk=>(own.lt k hk).1)
        obtain⟨ad3,cap3,rfl⟩:=ownRow_slice own3
        rw[←cJobs_one,←cJobs_append] at own3
        clear own bN hg3 el PV hs2 e0 e1 e2 e3 e4
        have own:=own3
        clear own3
        have Q:=Lib.hid (And.intro own BV)
        clear own BV oX
        go_wp2
        go_roundw
        case rel =>
         obtain⟨own,BV⟩:=Q.out
         exact⟨i+1,true,out ++ [x] ++ [y],by simp,rfl,by omega,HP2,by simpa [List.length_append] using own,BV⟩
        case measure=>simp[intOf];omega
  case neg =>
   obtain rfl:i=l.length:=by omega
   have oX:=objAt_next O0.out hbr
   have BF0:=below_trans B0.out hbr B0.out.size
   have hlo:w.heap.size≤W0.heap.size:=B0.out.size
   clear hi h
   cases dn with
   | true =>
    have hE:=put_full HP.out
    subst hE
    have Q:=Lib.hid (And.intro (ownsRow_low hown hlo) BF0)
    rw[hH] at Q
    clear hown hbr BF0 oX HP
    go_wp2
    go_ret
    exact⟨pad,pcap,rfl,by first | exact Q.out | (have z:=Q.out;rw[←hH] at z;exact z)⟩
   | false =>
    have hE:=put_last HP.out
    have HE:=Lib.hid hE
    have own:=hown
    have hs2:=hbr.size
    have Q:=Lib.hid (And.intro BF0 hlo)
    have e0:=objAt_cell oX 0 rfl
    have e1:=objAt_cell oX 1 rfl
    have e2:=objAt_cell oX 2 rfl
    have e3:=objAt_cell oX 3 rfl
    have e4:=objAt_cell oX 4 rfl
    have el:=objAt_lt oX
    obtain⟨W2,hW2⟩:∃W,W=wr:=⟨_,rfl⟩
    subst hW2
    clear hown hbr BF0 hE oX HP hlo
    go_wp2_with (at_builtin;refine wpList_append_own _ rfl _ _ 22 rfl W0.heap.size 38 i0 _ 5 56 Tryz.underlying22 Hi.out Hz0.out Hz1.out Hz2.out rfl (by decide) _ _ _ rfl (own.alloc _) ⟨W2.heap.size,0,none⟩ 1 1 (cJob x) rfl rfl ?c1 ?c2 ?c3 ?c4 ?c5 ?_)
    case c1=>exact job_new W2 x _
    case c2=>exact job_ones x
    case c3=>unfold maxLen;omega
    case c4=>omega
    case c5=>simp;omega
    intro v3 w3 own3 hg3 _
    have BF:=(below_trans Q.out.1 (below_one W2 (.cells #[.string x.name,.int .i64 x.prio,.int .i64 x.need,.int .i64 x.tries,.string x.tag] 38)) Q.out.1.size).grown hg3 (by have:=Q.out.1.size;rw[World.size_alloc];omega) (fun k hk=>by have:=(own.lt k hk).1;have:=Q.out.2;omega)
    obtain⟨ad3,cap3,rfl⟩:=ownRow_slice own3
    rw[←cJobs_one,←cJobs_append] at own3
    have hln:out.length+1=(putL (·.name) x l).length:=by rw[←HE.out,List.length_append];rfl
    rw[HE.out,hln] at own3
    have Z:=Lib.hid (And.intro (ownsRow_low own3 Q.out.2) BF)
    rw[hH] at Z
    have HLN:=Lib.hid hln
    clear own own3 hg3 BF el hln e0 e1 e2 e3 e4
    go_wp2
    go_ret
    exact⟨ad3,cap3,by rw[←HLN.out];rfl,by first | exact Z.out | (have z:=Z.out;rw[←hH] at z;exact z)⟩
theorem rkeyNode_eq (x:NodeD) (w:World):Calls Tryz.prog 59 #[.agg #[.string x.name,.int .i64 x.room,.string x.zone]] w fun e w'=>e = .returned (.string x.name)∧w'=w.alloc (.cells #[.string x.name,.int .i64 x.room,.string x.zone] 40):=by
 go_enter Tryz.func59,Tryz.ntmps59
 go_wp2
 go_ret
 exact⟨rfl,rfl⟩
theorem putNode_all {x y:NodeD}{H Y:Nat}{V w:World} (hx:ObjAt H #[.string x.name,.int .i64 x.room,.string x.zone] 40 w) (hy:ObjAt Y #[.string y.name,.int .i64 y.room,.string y.zone] 40 w) (hb:Below V.heap.size V w):((w.cell? ⟨H,0,none⟩=some (.string x.name)∧w.cell? ⟨H,1,none⟩=some (.int .i64 x.room)∧w.cell? ⟨H,2,none⟩=some (.string x.zone))∧(w.cell? ⟨Y,0,none⟩=some (.string y.name)∧w.cell? ⟨Y,1,none⟩=some (.int .i64 y.room)∧w.cell? ⟨Y,2,none⟩=some (.string y.zone)))∧ObjAt H #[.string x.name,.int .i64 x.room,.string x.zone] 40 w∧ObjAt Y #[.string y.name,.int .i64 y.room,.string y.zone] 40 w∧Below V.heap.size V w :=
 ⟨⟨⟨objAt_cell hx 0 rfl,objAt_cell hx 1 rfl,objAt_cell hx 2 rfl⟩,⟨objAt_cell hy 0 rfl,objAt_cell hy 1 rfl,objAt_cell hy 2 rfl⟩⟩,hx,hy,hb⟩
theorem putNode_next {x y:NodeD}{H Y:Nat}{V w:World}{o:Obj} (h:((w.cell? ⟨H,0,none⟩=some (.string x.name)∧w.cell? ⟨H,1,none⟩=some (.int .i64 x.room)∧w.cell? ⟨H,2,none⟩=some (.string x.zone))∧(w.cell? ⟨Y,0,none⟩=some (.string y.name)∧w.cell? ⟨Y,1,none⟩=some (.int .i64 y.room)∧w.cell? ⟨Y,2,none⟩=some (.string y.zone)))∧ObjAt H #[.string x.name,.int .i64 x.room,.string x.zone] 40 w∧ObjAt Y #[.string y.name,.int .i64 y.room,.string y.zone] 40 w∧Below V.heap.size V w):(((w.alloc o).cell? ⟨H,0,none⟩=some (.string x.name)∧(w.alloc o).cell? ⟨H,1,none⟩=some (.int .i64 x.room)∧(w.alloc o).cell? ⟨H,2,none⟩=some (.string x.zone))∧((w.alloc o).cell? ⟨Y,0,none⟩=some (.string y.name)∧(w.alloc o).cell? ⟨Y,1,none⟩=some (.int .i64 y.room)∧(w.alloc o).cell? ⟨Y,2,none⟩=some (.string y.zone)))∧ObjAt H #[.string x.name,.int .i64 x.room,.string x.zone] 40 (w.alloc o)∧ObjAt Y #[.string y.name,.int .i64 y.room,.string y.zone] 40 (w.alloc o)∧Below V.heap.size V (w.alloc o) :=
 putNode_all (objAt_next h.2.1 (below_one _ _)) (objAt_next h.2.2.1 (below_one _ _)) (below_trans h.2.2.2 (below_one _ _) h.2.2.2.size)
theorem putNode_after {x y:NodeD}{H Y:Nat}{V w W0:World}{v:Value}{k:Nat}{cs:List Value} (hp:V.ownsRow W0.heap.size 40 3 v k cs∧Below W0.heap.size W0 V) (h:((w.cell? ⟨H,0,none⟩=some (.string x.name)∧w.cell? ⟨H,1,none⟩=some (.int .i64 x.room)∧w.cell? ⟨H,2,none⟩=some (.string x.zone))∧(w.cell? ⟨Y,0,none⟩=some (.string y.name)∧w.cell? ⟨Y,1,none⟩=some (.int .i64 y.room)∧w.cell? ⟨Y,2,none⟩=some (.string y.zone)))∧ObjAt H #[.string x.name,.int .i64 x.room,.string x.zone] 40 w∧ObjAt Y #[.string y.name,.int .i64 y.room,.string y.zone] 40 w∧Below V.heap.size V w):∃W2,w=W2∧W2.ownsRow W0.heap.size 40 3 v k cs∧Below W0.heap.size W0 W2∧ObjAt H #[.string x.name,.int .i64 x.room,.string x.zone] 40 W2∧ObjAt Y #[.string y.name,.int .i64 y.room,.string y.zone] 40 W2 :=
 ⟨w,rfl,own_next hp.1 h.2.2.2,below_trans hp.2 h.2.2.2 hp.2.size,h.2.1,h.2.2.1⟩
theorem putNode_is (l:List NodeD) (ad:Option Addr) (cap:Nat) (hl:l.length≤100) (ha:Asc (·.name) l) (x:NodeD) (w:World) (hx:NodesAt w ad l) :
  Calls Tryz.prog 58 #[.slice ad l.length cap,.agg #[.string x.name,.int .i64 x.room,.string x.zone],.func (.func 59) #[] #[]] w fun e w'=>∃ad' cap',e = .returned (.slice ad' (putL (·.name) x l).length cap')∧w'.ownsRow w.heap.size 40 3 (.slice ad' (putL (·.name) x l).length cap') (putL (·.name) x l).length (cNodes (putL (·.name) x l))∧Below w.heap.size w w':=by
 obtain⟨i0,qi,qz0,qz1,qz2⟩:=info_parts' Tryz.info_node
 have Hi:=Lib.hid qi
 have Hz0:=Lib.hid qz0
 have Hz1:=Lib.hid qz1
 have Hz2:=Lib.hid qz2
 obtain⟨H,hH⟩:∃H,w.heap.size=H:=⟨_,rfl⟩
 obtain⟨W0,hW0⟩:∃W,w.alloc (.cells #[.string x.name,.int .i64 x.room,.string x.zone] 40)=W:=⟨_,rfl⟩
 have b0:=below_one w (.cells #[.string x.name,.int .i64 x.room,.string x.zone] 40)
 have o0:=objAt_new w #[.string x.name,.int .i64 x.room,.string x.zone] 40
 have s0:W0.heap.size=H+1:=by rw[←hW0,World.size_alloc,hH]
 rw[hW0] at b0 o0
 have HX:=Lib.hid (nodesAt_next hx b0)
 rw[hH] at o0
 have O0:=Lib.hid o0
 have B0:=Lib.hid b0
 have HA:=Lib.hid ha
 have HP0:=Lib.hid (put_start (key:=(·.name)) x l)
 have S0:=Lib.hid s0
 clear qi qz0 qz1 qz2 hx b0 o0 ha s0
 go_enter Tryz.func58,Tryz.ntmps58
 go_wp2
 go_loopw [7,8,13] (fun pv dv iv wr=>∃(i:Nat) (dn:Bool) (out:List NodeD),iv = .int .i64 (i:Int)∧dv = .bool dn∧i≤l.length∧Hid (PutP (·.name) x l i dn out)∧wr.ownsRow W0.heap.size 40 3 pv out.length (cNodes out)∧Below W0.heap.size W0 wr) (fun _ _ iv _=>l.length - (intOf iv).toNat)
 case atStart=>exact⟨0,false,[],rfl,rfl,Nat.zero_le _,HP0,by exact World.ownsRow_nil _ _ _ _,Below.refl _ _⟩
 case round =>
  obtain⟨i,dn,out,rfl,rfl,hi,HP,hown,hbr⟩:=hrel
  obtain⟨pad,pcap,rfl⟩:=ownRow_slice hown
  have hcnt:=put_len HP.out
  by_cases h:(i:Int)<(l.length:Int)
  case pos =>
   have hil:i<l.length:=by omega
   obtain⟨a,rfl,hal,k0,k1,k2⟩:=nodesAt_next HX.out hbr i hil
   obtain⟨y,hyi⟩:∃x,l[i]=x:=⟨_,rfl⟩
   rw[hyi] at k0 k1 k2
   have HYI:=Lib.hid hyi
   obtain⟨Y,hY⟩:∃L,wr.heap.size=L:=⟨_,rfl⟩
   obtain⟨V,hV⟩:∃V,wr.alloc (.cells #[.string y.name,.int .i64 y.room,.string y.zone] 40)=V:=⟨_,rfl⟩
   have bA:=below_one wr (.cells #[.string y.name,.int .i64 y.room,.string y.zone] 40)
   have oY:=objAt_new wr #[.string y.name,.int .i64 y.room,.string y.zone] 40
   rw[hV] at bA oY
   rw[hY] at oY
   have BV:=below_trans hbr bA hbr.size
   have oX:=objAt_next O0.out BV
   have hownV:=own_next hown bA
   have sV:=BV.size
   have hown0:=hown
   clear bA hown hbr hyi
   have HYl:Hid (∀k,(Value.slice pad out.length pcap).ownBlock=some k→k≠Y):=fun k hk hY'=>by have:=(hown0.lt k hk).2;omega
   have HXl:Hid (∀k,(Value.slice pad out.length pcap).ownBlock=some k→k≠H):=fun k hk hY'=>by have:=(hown0.lt k hk).1;have:=S0.out;omega
   have own:=hownV
   clear hown0 hownV
   cases dn with
   | true =>
    obtain⟨hne,hP2⟩:=put_done HA.out hil HP.out
    rw[HYI.out] at hne hP2
    have l4:(y.name.toList==x.name.toList)=false:=by rw[same_lists];simpa using hne
    have HP2:Hid (PutP (·.name) x l (i+1) true (out ++ [y])):=hP2
    clear hne hP2 HP
    skip
    have o1:=putNode_all (w:=V.drew) (V:=V) (objAt_drew oX) (objAt_drew oY) ((Below.refl V.heap.size V).drew)
    have o1':=fun nq=>putNode_all (w:=(V.drewN nq).drew) (V:=V) (show ObjAt H _ _ _ from oX) (show ObjAt Y _ _ _ from oY) (show Below V.heap.size V (V.drewN nq) from⟨rfl,rfl,rfl,Nat.le_refl _,fun _ _=>rfl⟩).drew
    have PV:=Lib.hid (And.intro own BV)
    clear own BV oX oY
    go_wp2_with fail
    go_quiet (fail)
    go_wp2_with fail
    go_region_held3 (fun w'=>((w'.cell? ⟨H,0,none⟩=some (.string x.name)∧w'.cell? ⟨H,1,none⟩=some (.int .i64 x.room)∧w'.cell? ⟨H,2,none⟩=some (.string x.zone))∧(w'.cell? ⟨Y,0,none⟩=some (.string y.name)∧w'.cell? ⟨Y,1,none⟩=some (.int .i64 y.room)∧w'.cell? ⟨Y,2,none⟩=some (.string y.zone)))∧ObjAt H #[.string x.name,.int .i64 x.room,.string x.zone] 40 w'∧ObjAt Y #[.string y.name,.int .i64 y.room,.string y.zone] 40 w'∧Below V.heap.size V w')
     (first | assumption | exact o1 | exact o1' _)
     (first
      | (go_at_call 59;(with_reducible refine(rkeyNode_eq x _).mono ?_);rintro e w2 ⟨rfl,rfl⟩;have o2:=putNode_next (x:=x) (y:=y) (H:=H) (Y:=Y) (V:=V) (o:=(.cells #[.string x.name,.int .i64 x.room,.string x.zone] 40)) (by assumption))
      | (go_at_call 59;(with_reducible refine(rkeyNode_eq y _).mono ?_);rintro e w2 ⟨rfl,rfl⟩;have o2:=putNode_next (x:=x) (y:=y) (H:=H) (Y:=Y) (V:=V) (o:=(.cells #[.string y.name,.int .i64 y.room,.string y.zone] 40)) (by assumption)))
    all_goals
     rename_i o2
     obtain⟨W2,hW2,own,BV,oX,oY⟩:=putNode_after PV.out o2
     clear o1 o2 PV o1'
     try rw[hW2]
     have e0:=objAt_cell oY 0 rfl
     have e1:=objAt_cell oY 1 rfl
     have e2:=objAt_cell oY 2 rfl
     have el:=objAt_lt oY
     have hs2:=BV.size
     have PV:=Lib.hid (And.intro BV (And.intro oX oY))
     clear BV oX oY
     go_wp2_with (at_builtin;refine wpList_append_own _ rfl _ _ 23 rfl W0.heap.size 40 i0 _ 3 40 Tryz.underlying23 Hi.out Hz0.out Hz1.out Hz2.out rfl (by decide) _ _ _ rfl (own.alloc _) ⟨W2.heap.size,0,none⟩ 1 1 (cNode y) rfl rfl ?c1 ?c2 ?c3 ?c4 ?c5 ?_)
     case c1=>exact node_new W2 y _
     case c2=>exact node_ones y
     case c3=>unfold maxLen;omega
     case c4=>omega
     case c5=>simp;omega
     intro v3 w3 own3 hg3 _
     obtain⟨BV,oX,oY⟩:=PV.out
     have bN:=below_one W2 (.cells #[.string y.name,.int .i64 y.room,.string y.zone] 40)
     have oX:=objAt_grown (objAt_next oX bN) hg3 (fun e=>HXl.out _ e.symm rfl)
     clear oY
     have BV:=(below_trans BV bN BV.size).grown hg3 (by have:=BV.size;rw[World.size_alloc];omega) (fun k hk=>(own.lt k hk).1)
     obtain⟨ad3,cap3,rfl⟩:=ownRow_slice own3
     rw[←cNodes_one,←cNodes_append] at own3
     clear own bN hg3 el PV hs2 e0 e1 e2
     have own:=own3
     clear own3
     have Q:=Lib.hid (And.intro own BV)
     clear own BV oX
     go_wp2
     go_roundw
     case rel =>
      obtain⟨own,BV⟩:=Q.out
      exact⟨i+1,true,out ++ [y],by simp,rfl,by omega,HP2,by simpa [List.length_append] using own,BV⟩
     case measure=>simp[intOf];omega
   | false =>
    by_cases hlt:lt y.name x.name
    ·have l3:Op.bytesLess y.name.toList x.name.toList=true:=by rw[less_toList];simpa using hlt
     have hP2:=put_less hil HP.out (by rw[HYI.out];exact hlt)
     rw[HYI.out] at hP2
     have HP2:Hid (PutP (·.name) x l (i+1) false (out ++ [y])):=hP2
     have l4:(y.name.toList==x.name.toList)=false:=by rw[same_lists];simpa using lt_ne hlt
     clear hP2 hlt HP
     have o1:=putNode_all (w:=V.drew) (V:=V) (objAt_drew oX) (objAt_drew oY) ((Below.refl V.heap.size V).drew)
     skip
     have PV:=Lib.hid (And.intro own BV)
     clear own BV oX oY
     go_wp2_with fail
     go_region_held3 (fun w'=>((w'.cell? ⟨H,0,none⟩=some (.string x.name)∧w'.cell? ⟨H,1,none⟩=some (.int .i64 x.room)∧w'.cell? ⟨H,2,none⟩=some (.string x.zone))∧(w'.cell? ⟨Y,0,none⟩=some (.string y.name)∧w'.cell? ⟨Y,1,none⟩=some (.int .i64 y.room)∧w'.cell? ⟨Y,2,none⟩=some (.string y.zone)))∧ObjAt H #[.string x.name,.int .i64 x.room,.string x.zone] 40 w'∧ObjAt Y #[.string y.name,.int .i64 y.room,.string y.zone] 40 w'∧Below V.heap.size V w')
      (first | assumption | exact o1 | exact o1' _)
      (first
       | (go_at_call 59;(with_reducible refine(rkeyNode_eq x _).mono ?_);rintro e w2 ⟨rfl,rfl⟩;have o2:=putNode_next (x:=x) (y:=y) (H:=H) (Y:=Y) (V:=V) (o:=(.cells #[.string x.name,.int .i64 x.room,.string x.zone] 40)) (by assumption))
       | (go_at_call 59;(with_reducible refine(rkeyNode_eq y _).mono ?_);rintro e w2 ⟨rfl,rfl⟩;have o2:=putNode_next (x:=x) (y:=y) (H:=H) (Y:=Y) (V:=V) (o:=(.cells #[.string y.name,.int .i64 y.room,.string y.zone] 40)) (by assumption)))
     all_goals
      rename_i o2
      obtain⟨W1,hW1,own,BV,oX,oY⟩:=putNode_after PV.out o2
      clear o1 o2 PV
      try rw[hW1]
      have o1:=putNode_all (w:=W1.drew) (V:=W1) (objAt_drew oX) (objAt_drew oY) ((Below.refl W1.heap.size W1).drew)
      skip
      have PV:=Lib.hid (And.intro own BV)
      clear own BV oX oY
      go_wp2_with fail
      go_region_held3 (fun w'=>((w'.cell? ⟨H,0,none⟩=some (.string x.name)∧w'.cell? ⟨H,1,none⟩=some (.int .i64 x.room)∧w'.cell? ⟨H,2,none⟩=some (.string x.zone))∧(w'.cell? ⟨Y,0,none⟩=some (.string y.name)∧w'.cell? ⟨Y,1,none⟩=some (.int .i64 y.room)∧w'.cell? ⟨Y,2,none⟩=some (.string y.zone)))∧ObjAt H #[.string x.name,.int .i64 x.room,.string x.zone] 40 w'∧ObjAt Y #[.string y.name,.int .i64 y.room,.string y.zone] 40 w'∧Below W1.heap.size W1 w')
       (first | assumption | exact o1 | exact o1' _)
       (first
        | (go_at_call 59;(with_reducible refine(rkeyNode_eq x _).mono ?_);rintro e w2 ⟨rfl,rfl⟩;have o2:=putNode_next (x:=x) (y:=y) (H:=H) (Y:=Y) (V:=W1) (o:=(.cells #[.string x.name,.int .i64 x.room,.string x.zone] 40)) (by assumption))
        | (go_at_call 59;(with_reducible refine(rkeyNode_eq y _).mono ?_);rintro e w2 ⟨rfl,rfl⟩;have o2:=putNode_next (x:=x) (y:=y) (H:=H) (Y:=Y) (V:=W1) (o:=(.cells #[.string y.name,.int .i64 y.room,.string y.zone] 40)) (by assumption)))
      all_goals
       rename_i o2
       obtain⟨W2,hW2,own,BV,oX,oY⟩:=putNode_after PV.out o2
       clear o1 o2 PV
       try rw[hW2]
       have e0:=objAt_cell oY 0 rfl
       have e1:=objAt_cell oY 1 rfl
       have e2:=objAt_cell oY 2 rfl
       have el:=objAt_lt oY
       have hs2:=BV.size
       have PV:=Lib.hid (And.intro BV (And.intro oX oY))
       clear BV oX oY
       go_wp2_with (at_builtin;refine wpList_append_own _ rfl _ _ 23 rfl W0.heap.size 40 i0 _ 3 40 Tryz.underlying23 Hi.out Hz0.out Hz1.out Hz2.out rfl (by decide) _ _ _ rfl (own.alloc _) ⟨W2.heap.size,0,none⟩ 1 1 (cNode y) rfl rfl ?c1 ?c2 ?c3 ?c4 ?c5 ?_)
       case c1=>exact node_new W2 y _
       case c2=>exact node_ones y
       case c3=>unfold maxLen;omega
       case c4=>omega
       case c5=>simp;omega
       intro v3 w3 own3 hg3 _
       obtain⟨BV,oX,oY⟩:=PV.out
       have bN:=below_one W2 (.cells #[.string y.name,.int .i64 y.room,.string y.zone] 40)
       have oX:=objAt_grown (objAt_next oX bN) hg3 (fun e=>HXl.out _ e.symm rfl)
       clear oY
       have BV:=(below_trans BV bN BV.size).grown hg3 (by have:=BV.size;rw[World.size_alloc];omega) (fun k hk=>(own.lt k hk).1)
       obtain⟨ad3,cap3,rfl⟩:=ownRow_slice own3
       rw[←cNodes_one,←cNodes_append] at own3
       clear own bN hg3 el PV hs2 e0 e1 e2
       have own:=own3
       clear own3
       have Q:=Lib.hid (And.intro own BV)
       clear own BV oX
       go_wp2
       go_roundw
       case rel =>
        obtain⟨own,BV⟩:=Q.out
        exact⟨i+1,false,out ++ [y],by simp,rfl,by omega,HP2,by simpa [List.length_append] using own,BV⟩
       case measure=>simp[intOf];omega
    ·have l3:Op.bytesLess y.name.toList x.name.toList=false:=by rw[less_toList];simpa using hlt
     by_cases heq:y.name=x.name
     ·have l4:(y.name.toList==x.name.toList)=true:=by rw[same_lists];simpa using heq
      have hP2:=put_same hil HP.out (by rw[HYI.out];exact heq)
      have HP2:Hid (PutP (·.name) x l (i+1) true (out ++ [x])):=hP2
      clear hP2 hlt heq HP
      have o1:=putNode_all (w:=V.drew) (V:=V) (objAt_drew oX) (objAt_drew oY) ((Below.refl V.heap.size V).drew)
      skip
      have PV:=Lib.hid (And.intro own BV)
      clear own BV oX oY
      go_wp2_with fail
      go_region_held3 (fun w'=>((w'.cell? ⟨H,0,none⟩=some (.string x.name)∧w'.cell? ⟨H,1,none⟩=some (.int .i64 x.room)∧w'.cell? ⟨H,2,none⟩=some (.string x.zone))∧(w'.cell? ⟨Y,0,none⟩=some (.string y.name)∧w'.cell? ⟨Y,1,none⟩=some (.int .i64 y.room)∧w'.cell? ⟨Y,2,none⟩=some (.string y.zone)))∧ObjAt H #[.string x.name,.int .i64 x.room,.string x.zone] 40 w'∧ObjAt Y #[.string y.name,.int .i64 y.room,.string y.zone] 40 w'∧Below V.heap.size V w')
       (first | assumption | exact o1 | exact o1' _)
       (first
        | (go_at_call 59;(with_reducible refine(rkeyNode_eq x _).mono ?_);rintro e w2 ⟨rfl,rfl⟩;have o2:=putNode_next (x:=x) (y:=y) (H:=H) (Y:=Y) (V:=V) (o:=(.cells #[.string x.name,.int .i64 x.room,.string x.zone] 40)) (by assumption))
        | (go_at_call 59;(with_reducible refine(rkeyNode_eq y _).mono ?_);rintro e w2 ⟨rfl,rfl⟩;have o2:=putNode_next (x:=x) (y:=y) (H:=H) (Y:=Y) (V:=V) (o:=(.cells #[.string y.name,.int .i64 y.room,.string y.zone] 40)) (by assumption)))
      all_goals
       rename_i o2
       obtain⟨W1,hW1,own,BV,oX,oY⟩:=putNode_after PV.out o2
       clear o1 o2 PV
       try rw[hW1]
       have e0:=objAt_cell oX 0 rfl
       have e1:=objAt_cell oX 1 rfl
       have e2:=objAt_cell oX 2 rfl
       have el:=objAt_lt oX
       have hs2:=BV.size
       have PV:=Lib.hid (And.intro BV (And.intro oX oY))
       clear BV oX oY
       go_wp2_with (at_builtin;refine wpList_append_own _ rfl _ _ 23 rfl W0.heap.size 40 i0 _ 3 40 Tryz.underlying23 Hi.out Hz0.out Hz1.out Hz2.out rfl (by decide) _ _ _ rfl (own.alloc _) ⟨W1.heap.size,0,none⟩ 1 1 (cNode x) rfl rfl ?c1 ?c2 ?c3 ?c4 ?c5 ?_)
       case c1=>exact node_new W1 x _
       case c2=>exact node_ones x
       case c3=>unfold maxLen;omega
       case c4=>omega
       case c5=>simp;omega
       intro v3 w2_ own3 hg3 _
       obtain⟨BV,oX,oY⟩:=PV.out
       have bN:=below_one W1 (.cells #[.string x.name,.int .i64 x.room,.string x.zone] 40)
       have oX:=objAt_grown (objAt_next oX bN) hg3 (fun e=>HXl.out _ e.symm rfl)
       have oY:=objAt_grown (objAt_next oY bN) hg3 (fun e=>HYl.out _ e.symm rfl)
       have BV:=(below_trans BV bN BV.size).grown hg3 (by have:=BV.size;rw[World.size_alloc];omega) (fun k hk=>(own.lt k hk).1)
       obtain⟨ad3,cap3,rfl⟩:=ownRow_slice own3
       rw[←cNodes_one,←cNodes_append] at own3
       clear own bN hg3 el PV hs2 e0 e1 e2
       have own:=own3
       clear own3
       have o1:=putNode_all (w:=w2_.drew) (V:=w2_) (objAt_drew oX) (objAt_drew oY) ((Below.refl w2_.heap.size w2_).drew)
       skip
       have PV:=Lib.hid (And.intro own BV)
       clear own BV oX oY
       go_wp2_with fail
       go_region_held3 (fun w'=>((w'.cell? ⟨H,0,none⟩=some (.string x.name)∧w'.cell? ⟨H,1,none⟩=some (.int .i64 x.room)∧w'.cell? ⟨H,2,none⟩=some (.string x.zone))∧(w'.cell? ⟨Y,0,none⟩=some (.string y.name)∧w'.cell? ⟨Y,1,none⟩=some (.int .i64 y.room)∧w'.cell? ⟨Y,2,none⟩=some (.string y.zone)))∧ObjAt H #[.string x.name,.int .i64 x.room,.string x.zone] 40 w'∧ObjAt Y #[.string y.name,.int .i64 y.room,.string y.zone] 40 w'∧Below w2_.heap.size w2_ w')
        (first | assumption | exact o1 | exact o1' _)
        (first
         | (go_at_call 59;(with_reducible refine(rkeyNode_eq x _).mono ?_);rintro e w2 ⟨rfl,rfl⟩;have o2:=putNode_next (x:=x) (y:=y) (H:=H) (Y:=Y) (V:=w2_) (o:=(.cells #[.string x.name,.int .i64 x.room,.string x.zone] 40)) (by assumption))
         | (go_at_call 59;(with_reducible refine(rkeyNode_eq y _).mono ?_);rintro e w2 ⟨rfl,rfl⟩;have o2:=putNode_next (x:=x) (y:=y) (H:=H) (Y:=Y) (V:=w2_) (o:=(.cells #[.string y.name,.int .i64 y.room,.string y.zone] 40)) (by assumption)))
       all_goals
        rename_i o2
        obtain⟨W2,hW2,own,BV,oX,oY⟩:=putNode_after PV.out o2
        clear o1 o2 PV
        try rw[hW2]
        clear oY
        have Q:=Lib.hid (And.intro own BV)
        clear own BV oX
        go_wp2
        go_roundw
        case rel =>
         obtain⟨own,BV⟩:=Q.out
         exact⟨i+1,true,out ++ [x],by simp,rfl,by omega,HP2,by simpa [List.length_append] using own,BV⟩
        case measure=>simp[intOf];omega
     ·have l4:(y.name.toList==x.name.toList)=false:=by rw[same_lists];simpa using heq
      have hP2:=put_above hil HP.out (by rw[HYI.out];exact hlt) (by rw[HYI.out];exact heq)
      rw[HYI.out] at hP2
      have HP2:Hid (PutP (·.name) x l (i+1) true (out ++ [x] ++ [y])):=hP2
      clear hP2 hlt heq HP
      have o1:=putNode_all (w:=V.drew) (V:=V) (objAt_drew oX) (objAt_drew oY) ((Below.refl V.heap.size V).drew)
      skip
      have PV:=Lib.hid (And.intro own BV)
      clear own BV oX oY
      go_wp2_with fail
      go_region_held3 (fun w'=>((w'.cell? ⟨H,0,none⟩=some (.string x.name)∧w'.cell? ⟨H,1,none⟩=some (.int .i64 x.room)∧w'.cell? ⟨H,2,none⟩=some (.string x.zone))∧(w'.cell? ⟨Y,0,none⟩=some (.string y.name)∧w'.cell? ⟨Y,1,none⟩=some (.int .i64 y.room)∧w'.cell? ⟨Y,2,none⟩=some (.string y.zone)))∧ObjAt H #[.string x.name,.int .i64 x.room,.string x.zone] 40 w'∧ObjAt Y #[.string y.name,.int .i64 y.room,.string y.zone] 40 w'∧Below V.heap.size V w')
       (first | assumption | exact o1 | exact o1' _)
       (first
        | (go_at_call 59;(with_reducible refine(rkeyNode_eq x _).mono ?_);rintro e w2 ⟨rfl,rfl⟩;have o2:=putNode_next (x:=x) (y:=y) (H:=H) (Y:=Y) (V:=V) (o:=(.cells #[.string x.name,.int .i64 x.room,.string x.zone] 40)) (by assumption))
        | (go_at_call 59;(with_reducible refine(rkeyNode_eq y _).mono ?_);rintro e w2 ⟨rfl,rfl⟩;have o2:=putNode_next (x:=x) (y:=y) (H:=H) (Y:=Y) (V:=V) (o:=(.cells #[.string y.name,.int .i64 y.room,.string y.zone] 40)) (by assumption)))
      all_goals
       rename_i o2
       obtain⟨W1,hW1,own,BV,oX,oY⟩:=putNode_after PV.out o2
       clear o1 o2 PV
       try rw[hW1]
       have e0:=objAt_cell oX 0 rfl
       have e1:=objAt_cell oX 1 rfl
       have e2:=objAt_cell oX 2 rfl
       have el:=objAt_lt oX
       have hs2:=BV.size
       have PV:=Lib.hid (And.intro BV (And.intro oX oY))
       clear BV oX oY
       go_wp2_with (at_builtin;refine wpList_append_own _ rfl _ _ 23 rfl W0.heap.size 40 i0 _ 3 40 Tryz.underlying23 Hi.out Hz0.out Hz1.out Hz2.out rfl (by decide) _ _ _ rfl (own.alloc _) ⟨W1.heap.size,0,none⟩ 1 1 (cNode x) rfl rfl ?c1 ?c2 ?c3 ?c4 ?c5 ?_)
       case c1=>exact node_new W1 x _
       case c2=>exact node_ones x
       case c3=>unfold maxLen;omega
       case c4=>omega
       case c5=>simp;omega
       intro v3 w2_ own3 hg3 _
       obtain⟨BV,oX,oY⟩:=PV.out
       have bN:=below_one W1 (.cells #[.string x.name,.int .i64 x.room,.string x.zone] 40)
       have oX:=objAt_grown (objAt_next oX bN) hg3 (fun e=>HXl.out _ e.symm rfl)
       have oY:=objAt_grown (objAt_next oY bN) hg3 (fun e=>HYl.out _ e.symm rfl)
       have BV:=(below_trans BV bN BV.size).grown hg3 (by have:=BV.size;rw[World.size_alloc];omega) (fun k hk=>(own.lt k hk).1)
       obtain⟨ad3,cap3,rfl⟩:=ownRow_slice own3
       rw[←cNodes_one,←cNodes_append] at own3
       clear own bN hg3 el PV hs2 e0 e1 e2
       have own:=own3
       clear own3
       have o1:=putNode_all (w:=w2_.drew) (V:=w2_) (objAt_drew oX) (objAt_drew oY) ((Below.refl w2_.heap.size w2_).drew)
       skip
       have PV:=Lib.hid (And.intro own BV)
       clear own BV oX oY
       go_wp2_with fail
       go_region_held3 (fun w'=>((w'.cell? ⟨H,0,none⟩=some (.string x.name)∧w'.cell? ⟨H,1,none⟩=some (.int .i64 x.room)∧w'.cell? ⟨H,2,none⟩=some (.string x.zone))∧(w'.cell? ⟨Y,0,none⟩=some (.string y.name)∧w'.cell? ⟨Y,1,none⟩=some (.int .i64 y.room)∧w'.cell? ⟨Y,2,none⟩=some (.string y.zone)))∧ObjAt H #[.string x.name,.int .i64 x.room,.string x.zone] 40 w'∧ObjAt Y #[.string y.name,.int .i64 y.room,.string y.zone] 40 w'∧Below w2_.heap.size w2_ w')
        (first | assumption | exact o1 | exact o1' _)
        (first
         | (go_at_call 59;(with_reducible refine(rkeyNode_eq x _).mono ?_);rintro e w2 ⟨rfl,rfl⟩;have o2:=putNode_next (x:=x) (y:=y) (H:=H) (Y:=Y) (V:=w2_) (o:=(.cells #[.string x.name,.int .i64 x.room,.string x.zone] 40)) (by assumption))
         | (go_at_call 59;(with_reducible refine(rkeyNode_eq y _).mono ?_);rintro e w2 ⟨rfl,rfl⟩;have o2:=putNode_next (x:=x) (y:=y) (H:=H) (Y:=Y) (V:=w2_) (o:=(.cells #[.string y.name,.int .i64 y.room,.string y.zone] 40)) (by assumption)))
       all_goals
        rename_i o2
        obtain⟨W2,hW2,own,BV,oX,oY⟩:=putNode_after PV.out o2
        clear o1 o2 PV
        try rw[hW2]
        have HXl:Hid (∀k,(Value.slice ad3 (out.length+1) cap3).ownBlock=some k→k≠H):=fun k hk hY'=>by have:=(own.lt k hk).1;have:=S0.out;omega
        have e0:=objAt_cell oY 0 rfl
        have e1:=objAt_cell oY 1 rfl
        have e2:=objAt_cell oY 2 rfl
        have el:=objAt_lt oY
        have hs2:=BV.size
        have PV:=Lib.hid (And.intro BV (And.intro oX oY))
        clear BV oX oY
        go_wp2_with (at_builtin;refine wpList_append_own _ rfl _ _ 23 rfl W0.heap.size 40 i0 _ 3 40 Tryz.underlying23 Hi.out Hz0.out Hz1.out Hz2.out rfl (by decide) _ _ _ rfl (own.alloc _) ⟨W2.heap.size,0,none⟩ 1 1 (cNode y) rfl rfl ?c1 ?c2 ?c3 ?c4 ?c5 ?_)
        case c1=>exact node_new W2 y _
        case c2=>exact node_ones y
        case c3=>unfold maxLen;omega
        case c4=>omega
        case c5=>simp;omega
        intro v3 w3 own3 hg3 _
        obtain⟨BV,oX,oY⟩:=PV.out
        have bN:=below_one W2 (.cells #[.string y.name,.int .i64 y.room,.string y.zone] 40)
        have oX:=objAt_grown (objAt_next oX bN) hg3 (fun e=>HXl.out _ e.symm rfl)
        clear oY
        have BV:=(below_trans BV bN BV.size).grown hg3 (by have:=BV.size;rw[World.size_alloc];omega) (fun k hk=>(own.lt k hk).1)
        obtain⟨ad3,cap3,rfl⟩:=ownRow_slice own3
        rw[←cNodes_one,←cNodes_append] at own3
        clear own bN hg3 el PV hs2 e0 e1 e2
        have own:=own3
        clear own3
        have Q:=Lib.hid (And.intro own BV)
        clear own BV oX
        go_wp2
        go_roundw
        case rel =>
         obtain⟨own,BV⟩:=Q.out
         exact⟨i+1,true,out ++ [x] ++ [y],by simp,rfl,by omega,HP2,by simpa [List.length_append] using own,BV⟩
        case measure=>simp[intOf];omega
  case neg =>
   obtain rfl:i=l.length:=by omega
   have oX:=objAt_next O0.out hbr
   have BF0:=below_trans B0.out hbr B0.out.size
   have hlo:w.heap.size≤W0.heap.size:=B0.out.size
   clear hi h
   cases dn with
   | true =>
    have hE:=put_full HP.out
    subst hE
    have Q:=Lib.hid (And.intro (ownsRow_low hown hlo) BF0)
    rw[hH] at Q
    clear hown hbr BF0 oX HP
    go_wp2
    go_ret
    exact⟨pad,pcap,rfl,by first | exact Q.out | (have z:=Q.out;rw[←hH] at z;exact z)⟩
   | false =>
    have hE:=put_last HP.out
    have HE:=Lib.hid hE
    have own:=hown
    have hs2:=hbr.size
    have Q:=Lib.hid (And.intro BF0 hlo)
    have e0:=objAt_cell oX 0 rfl
    have e1:=objAt_cell oX 1 rfl
    have e2:=objAt_cell oX 2 rfl
    have el:=objAt_lt oX
    obtain⟨W2,hW2⟩:∃W,W=wr:=⟨_,rfl⟩
    subst hW2
    clear hown hbr BF0 hE oX HP hlo
    go_wp2_with (at_builtin;refine wpList_append_own _ rfl _ _ 23 rfl W0.heap.size 40 i0 _ 3 40 Tryz.underlying23 Hi.out Hz0.out Hz1.out Hz2.out rfl (by decide) _ _ _ rfl (own.alloc _) ⟨W2.heap.size,0,none⟩ 1 1 (cNode x) rfl rfl ?c1 ?c2 ?c3 ?c4 ?c5 ?_)
    case c1=>exact node_new W2 x _
    case c2=>exact node_ones x
    case c3=>unfold maxLen;omega
    case c4=>omega
    case c5=>simp;omega
    intro v3 w3 own3 hg3 _
    have BF:=(below_trans Q.out.1 (below_one W2 (.cells #[.string x.name,.int .i64 x.room,.string x.zone] 40)) Q.out.1.size).grown hg3 (by have:=Q.out.1.size;rw[World.size_alloc];omega) (fun k hk=>by have:=(own.lt k hk).1;have:=Q.out.2;omega)
    obtain⟨ad3,cap3,rfl⟩:=ownRow_slice own3
    rw[←cNodes_one,←cNodes_append] at own3
    have hln:out.length+1=(putL (·.name) x l).length:=by rw[←HE.out,List.length_append];rfl
    rw[HE.out,hln] at own3
    have Z:=Lib.hid (And.intro (ownsRow_low own3 Q.out.2) BF)
    rw[hH] at Z
    have HLN:=Lib.hid hln
    clear own own3 hg3 BF el hln e0 e1 e2
    go_wp2
    go_ret
    exact⟨ad3,cap3,by rw[←HLN.out];rfl,by first | exact Z.out | (have z:=Z.out;rw[←hH] at z;exact z)⟩
theorem rkeyLease_eq (x:LeaseD) (w:World):Calls Tryz.prog 68 #[.agg #[.string x.job,.string x.node,.int .i64 x.til]] w fun e w'=>e = .returned (.string x.job)∧w'=w.alloc (.cells #[.string x.job,.string x.node,.int .i64 x.til] 42):=by
 go_enter Tryz.func68,Tryz.ntmps68
 go_wp2
 go_ret
 exact⟨rfl,rfl⟩
theorem putLease_all {x y:LeaseD}{H Y:Nat}{V w:World} (hx:ObjAt H #[.string x.job,.string x.node,.int .i64 x.til] 42 w) (hy:ObjAt Y #[.string y.job,.string y.node,.int .i64 y.til] 42 w) (hb:Below V.heap.size V w):((w.cell? ⟨H,0,none⟩=some (.string x.job)∧w.cell? ⟨H,1,none⟩=some (.string x.node)∧w.cell? ⟨H,2,none⟩=some (.int .i64 x.til))∧(w.cell? ⟨Y,0,none⟩=some (.string y.job)∧w.cell? ⟨Y,1,none⟩=some (.string y.node)∧w.cell? ⟨Y,2,none⟩=some (.int .i64 y.til)))∧ObjAt H #[.string x.job,.string x.node,.int .i64 x.til] 42 w∧ObjAt Y #[.string y.job,.string y.node,.int .i64 y.til] 42 w∧Below V.heap.size V w :=
 ⟨⟨⟨objAt_cell hx 0 rfl,objAt_cell hx 1 rfl,objAt_cell hx 2 rfl⟩,⟨objAt_cell hy 0 rfl,objAt_cell hy 1 rfl,objAt_cell hy 2 rfl⟩⟩,hx,hy,hb⟩
theorem putLease_next {x y:LeaseD}{H Y:Nat}{V w:World}{o:Obj} (h:((w.cell? ⟨H,0,none⟩=some (.string x.job)∧w.cell? ⟨H,1,none⟩=some (.string x.node)∧w.cell? ⟨H,2,none⟩=some (.int .i64 x.til))∧(w.cell? ⟨Y,0,none⟩=some (.string y.job)∧w.cell? ⟨Y,1,none⟩=some (.string y.node)∧w.cell? ⟨Y,2,none⟩=some (.int .i64 y.til)))∧ObjAt H #[.string x.job,.string x.node,.int .i64 x.til] 42 w∧ObjAt Y #[.string y.job,.string y.node,.int .i64 y.til] 42 w∧Below V.heap.size V w):(((w.alloc o).cell? ⟨H,0,none⟩=some (.string x.job)∧(w.alloc o).cell? ⟨H,1,none⟩=some (.string x.node)∧(w.alloc o).cell? ⟨H,2,none⟩=some (.int .i64 x.til))∧((w.alloc o).cell? ⟨Y,0,none⟩=some (.string y.job)∧(w.alloc o).cell? ⟨Y,1,none⟩=some (.string y.node)∧(w.alloc o).cell? ⟨Y,2,none⟩=some (.int .i64 y.til)))∧ObjAt H #[.string x.job,.string x.node,.int .i64 x.til] 42 (w.alloc o)∧ObjAt Y #[.string y.job,.string y.node,.int .i64 y.til] 42 (w.alloc o)∧Below V.heap.size V (w.alloc o) :=
 putLease_all (objAt_next h.2.1 (below_one _ _)) (objAt_next h.2.2.1 (below_one _ _)) (below_trans h.2.2.2 (below_one _ _) h.2.2.2.size)
theorem putLease_after {x y:LeaseD}{H Y:Nat}{V w W0:World}{v:Value}{k:Nat}{cs:List Value} (hp:V.ownsRow W0.heap.size 42 3 v k cs∧Below W0.heap.size W0 V) (h:((w.cell? ⟨H,0,none⟩=some (.string x.job)∧w.cell? ⟨H,1,none⟩=some (.string x.node)∧w.cell? ⟨H,2,none⟩=some (.int .i64 x.til))∧(w.cell? ⟨Y,0,none⟩=some (.string y.job)∧w.cell? ⟨Y,1,none⟩=some (.string y.node)∧w.cell? ⟨Y,2,none⟩=some (.int .i64 y.til)))∧ObjAt H #[.string x.job,.string x.node,.int .i64 x.til] 42 w∧ObjAt Y #[.string y.job,.string y.node,.int .i64 y.til] 42 w∧Below V.heap.size V w):∃W2,w=W2∧W2.ownsRow W0.heap.size 42 3 v k cs∧Below W0.heap.size W0 W2∧ObjAt H #[.string x.job,.string x.node,.int .i64 x.til] 42 W2∧ObjAt Y #[.string y.job,.string y.node,.int .i64 y.til] 42 W2 :=
 ⟨w,rfl,own_next hp.1 h.2.2.2,below_trans hp.2 h.2.2.2 hp.2.size,h.2.1,h.2.2.1⟩
theorem putLease_is (l:List LeaseD) (ad:Option Addr) (cap:Nat) (hl:l.length≤100) (ha:Asc (·.job) l) (x:LeaseD) (w:World) (hx:LeasesAt w ad l) :
  Calls Tryz.prog 67 #[.slice ad l.length cap,.agg #[.string x.job,.string x.node,.int .i64 x.til],.func (.func 68) #[] #[]] w fun e w'=>∃ad' cap',e = .returned (.slice ad' (putL (·.job) x l).length cap')∧w'.ownsRow w.heap.size 42 3 (.slice ad' (putL (·.job) x l).length cap') (putL (·.job) x l).length (cLeases (putL (·.job) x l))∧Below w.heap.size w w':=by
 obtain⟨i0,qi,qz0,qz1,qz2⟩:=info_parts' Tryz.info_lease
 have Hi:=Lib.hid qi
 have Hz0:=Lib.hid qz0
 have Hz1:=Lib.hid qz1
 have Hz2:=Lib.hid qz2
 obtain⟨H,hH⟩:∃H,w.heap.size=H:=⟨_,rfl⟩
 obtain⟨W0,hW0⟩:∃W,w.alloc (.cells #[.string x.job,.string x.node,.int .i64 x.til] 42)=W:=⟨_,rfl⟩
 have b0:=below_one w (.cells #[.string x.job,.string x.node,.int .i64 x.til] 42)
 have o0:=objAt_new w #[.string x.job,.string x.node,.int .i64 x.til] 42
 have s0:W0.heap.size=H+1:=by rw[←hW0,World.size_alloc,hH]
 rw[hW0] at b0 o0
 have HX:=Lib.hid (leasesAt_next hx b0)
 rw[hH] at o0
 have O0:=Lib.hid o0
 have B0:=Lib.hid b0
 have HA:=Lib.hid ha
 have HP0:=Lib.hid (put_start (key:=(·.job)) x l)
 have S0:=Lib.hid s0
 clear qi qz0 qz1 qz2 hx b0 o0 ha s0
 go_enter Tryz.func67,Tryz.ntmps67
 go_wp2
 go_loopw [7,8,13] (fun pv dv iv wr=>∃(i:Nat) (dn:Bool) (out:List LeaseD),iv = .int .i64 (i:Int)∧dv = .bool dn∧i≤l.length∧Hid (PutP (·.job) x l i dn out)∧wr.ownsRow W0.heap.size 42 3 pv out.length (cLeases out)∧Below W0.heap.size W0 wr) (fun _ _ iv _=>l.length - (intOf iv).toNat)
 case atStart=>exact⟨0,false,[],rfl,rfl,Nat.zero_le _,HP0,by exact World.ownsRow_nil _ _ _ _,Below.refl _ _⟩
 case round =>
  obtain⟨i,dn,out,rfl,rfl,hi,HP,hown,hbr⟩:=hrel
  obtain⟨pad,pcap,rfl⟩:=ownRow_slice hown
  have hcnt:=put_len HP.out
  by_cases h:(i:Int)<(l.length:Int)
  case pos =>
   have hil:i<l.length:=by omega
   obtain⟨a,rfl,hal,k0,k1,k2⟩:=leasesAt_next HX.out hbr i hil
   obtain⟨y,hyi⟩:∃x,l[i]=x:=⟨_,rfl⟩
   rw[hyi] at k0 k1 k2
   have HYI:=Lib.hid hyi
   obtain⟨Y,hY⟩:∃L,wr.heap.size=L:=⟨_,rfl⟩
   obtain⟨V,hV⟩:∃V,wr.alloc (.cells #[.string y.job,.string y.node,.int .i64 y.til] 42)=V:=⟨_,rfl⟩
   have bA:=below_one wr (.cells #[.string y.job,.string y.node,.int .i64 y.til] 42)
   have oY:=objAt_new wr #[.string y.job,.string y.node,.int .i64 y.til] 42
   rw[hV] at bA oY
   rw[hY] at oY
   have BV:=below_trans hbr bA hbr.size
   have oX:=objAt_next O0.out BV
   have hownV:=own_next hown bA
   have sV:=BV.size
   have hown0:=hown
   clear bA hown hbr hyi
   have HYl:Hid (∀k,(Value.slice pad out.length pcap).ownBlock=some k→k≠Y):=fun k hk hY'=>by have:=(hown0.lt k hk).2;omega
   have HXl:Hid (∀k,(Value.slice pad out.length pcap).ownBlock=some k→k≠H):=fun k hk hY'=>by have:=(hown0.lt k hk).1;have:=S0.out;omega
   have own:=hownV
   clear hown0 hownV
   cases dn with
   | true =>
    obtain⟨hne,hP2⟩:=put_done HA.out hil HP.out
    rw[HYI.out] at hne hP2
    have l4:(y.job.toList==x.job.toList)=false:=by rw[same_lists];simpa using hne
    have HP2:Hid (PutP (·.job) x l (i+1) true (out ++ [y])):=hP2
    clear hne hP2 HP
    skip
    have o1:=putLease_all (w:=V.drew) (V:=V) (objAt_drew oX) (objAt_drew oY) ((Below.refl V.heap.size V).drew)
    have o1':=fun nq=>putLease_all (w:=(V.drewN nq).drew) (V:=V) (show ObjAt H _ _ _ from oX) (show ObjAt Y _ _ _ from oY) (show Below V.heap.size V (V.drewN nq) from⟨rfl,rfl,rfl,Nat.le_refl _,fun _ _=>rfl⟩).drew
    have PV:=Lib.hid (And.intro own BV)
    clear own BV oX oY
    go_wp2_with fail
    go_quiet (fail)
    go_wp2_with fail
    go_region_held3 (fun w'=>((w'.cell? ⟨H,0,none⟩=some (.string x.job)∧w'.cell? ⟨H,1,none⟩=some (.string x.node)∧w'.cell? ⟨H,2,none⟩=some (.int .i64 x.til))∧(w'.cell? ⟨Y,0,none⟩=some (.string y.job)∧w'.cell? ⟨Y,1,none⟩=some (.string y.node)∧w'.cell? ⟨Y,2,none⟩=some (.int .i64 y.til)))∧ObjAt H #[.string x.job,.string x.node,.int .i64 x.til] 42 w'∧ObjAt Y #[.string y.job,.string y.node,.int .i64 y.til] 42 w'∧Below V.heap.size V w')
     (first | assumption | exact o1 | exact o1' _)
     (first
      | (go_at_call 68;(with_reducible refine(rkeyLease_eq x _).mono ?_);rintro e w2 ⟨rfl,rfl⟩;have o2:=putLease_next (x:=x) (y:=y) (H:=H) (Y:=Y) (V:=V) (o:=(.cells #[.string x.job,.string x.node,.int .i64 x.til] 42)) (by assumption))
      | (go_at_call 68;(with_reducible refine(rkeyLease_eq y _).mono ?_);rintro e w2 ⟨rfl,rfl⟩;have o2:=putLease_next (x:=x) (y:=y) (H:=H) (Y:=Y) (V:=V) (o:=(.cells #[.string y.job,.string y.node,.int .i64 y.til] 42)) (by assumption)))
    all_goals
     rename_i o2
     obtain⟨W2,hW2,own,BV,oX,oY⟩:=putLease_after PV.out o2
     clear o1 o2 PV o1'
     try rw[hW2]
     have e0:=objAt_cell oY 0 rfl
     have e1:=objAt_cell oY 1 rfl
     have e2:=objAt_cell oY 2 rfl
     have el:=objAt_lt oY
     have hs2:=BV.size
     have PV:=Lib.hid (And.intro BV (And.intro oX oY))
     clear BV oX oY
     go_wp2_with (at_builtin;refine wpList_append_own _ rfl _ _ 24 rfl W0.heap.size 42 i0 _ 3 40 Tryz.underlying24 Hi.out Hz0.out Hz1.out Hz2.out rfl (by decide) _ _ _ rfl (own.alloc _) ⟨W2.heap.size,0,none⟩ 1 1 (cLease y) rfl rfl ?c1 ?c2 ?c3 ?c4 ?c5 ?_)
     case c1=>exact lease_new W2 y _
     case c2=>exact lease_ones y
     case c3=>unfold maxLen;omega
     case c4=>omega
     case c5=>simp;omega
     intro v3 w3 own3 hg3 _
     obtain⟨BV,oX,oY⟩:=PV.out
     have bN:=below_one W2 (.cells #[.string y.job,.string y.node,.int .i64 y.til] 42)
     have oX:=objAt_grown (objAt_next oX bN) hg3 (fun e=>HXl.out _ e.symm rfl)
     clear oY
     have BV:=(below_trans BV bN BV.size).grown hg3 (by have:=BV.size;rw[World.size_alloc];omega) (fun k hk=>(own.lt k hk).1)
     obtain⟨ad3,cap3,rfl⟩:=ownRow_slice own3
     rw[←cLeases_one,←cLeases_append] at own3
     clear own bN hg3 el PV hs2 e0 e1 e2
     have own:=own3
     clear own3
     have Q:=Lib.hid (And.intro own BV)
     clear own BV oX
     go_wp2
     go_roundw
     case rel =>
      obtain⟨own,BV⟩:=Q.out
      exact⟨i+1,true,out ++ [y],by simp,rfl,by omega,HP2,by simpa [List.length_append] using own,BV⟩
     case measure=>simp[intOf];omega
   | false =>
    by_cases hlt:lt y.job x.job
    ·have l3:Op.bytesLess y.job.toList x.job.toList=true:=by rw[less_toList];simpa using hlt
     have hP2:=put_less hil HP.out (by rw[HYI.out];exact hlt)
     rw[HYI.out] at hP2
     have HP2:Hid (PutP (·.job) x l (i+1) false (out ++ [y])):=hP2
     have l4:(y.job.toList==x.job.toList)=false:=by rw[same_lists];simpa using lt_ne hlt
     clear hP2 hlt HP
     have o1:=putLease_all (w:=V.drew) (V:=V) (objAt_drew oX) (objAt_drew oY) ((Below.refl V.heap.size V).drew)
     skip
     have PV:=Lib.hid (And.intro own BV)
     clear own BV oX oY
     go_wp2_with fail
     go_region_held3 (fun w'=>((w'.cell? ⟨H,0,none⟩=some (.string x.job)∧w'.cell? ⟨H,1,none⟩=some (.string x.node)∧w'.cell? ⟨H,2,none⟩=some (.int .i64 x.til))∧(w'.cell? ⟨Y,0,none⟩=some (.string y.job)∧w'.cell? ⟨Y,1,none⟩=some (.string y.node)∧w'.cell? ⟨Y,2,none⟩=some (.int .i64 y.til)))∧ObjAt H #[.string x.job,.string x.node,.int .i64 x.til] 42 w'∧ObjAt Y #[.string y.job,.string y.node,.int .i64 y.til] 42 w'∧Below V.heap.size V w')
      (first | assumption | exact o1 | exact o1' _)
      (first
       | (go_at_call 68;(with_reducible refine(rkeyLease_eq x _).mono ?_);rintro e w2 ⟨rfl,rfl⟩;have o2:=putLease_next (x:=x) (y:=y) (H:=H) (Y:=Y) (V:=V) (o:=(.cells #[.string x.job,.string x.node,.int .i64 x.til] 42)) (by assumption))
       | (go_at_call 68;(with_reducible refine(rkeyLease_eq y _).mono ?_);rintro e w2 ⟨rfl,rfl⟩;have o2:=putLease_next (x:=x) (y:=y) (H:=H) (Y:=Y) (V:=V) (o:=(.cells #[.string y.job,.string y.node,.int .i64 y.til] 42)) (by assumption)))
     all_goals
      rename_i o2
      obtain⟨W1,hW1,own,BV,oX,oY⟩:=putLease_after PV.out o2
      clear o1 o2 PV
      try rw[hW1]
      have o1:=putLease_all (w:=W1.drew) (V:=W1) (objAt_drew oX) (objAt_drew oY) ((Below.refl W1.heap.size W1).drew)
      skip
      have PV:=Lib.hid (And.intro own BV)
      clear own BV oX oY
      go_wp2_with fail
      go_region_held3 (fun w'=>((w'.cell? ⟨H,0,none⟩=some (.string x.job)∧w'.cell? ⟨H,1,none⟩=some (.string x.node)∧w'.cell? ⟨H,2,none⟩=some (.int .i64 x.til))∧(w'.cell? ⟨Y,0,none⟩=some (.string y.job)∧w'.cell? ⟨Y,1,none⟩=some (.string y.node)∧w'.cell? ⟨Y,2,none⟩=some (.int .i64 y.til)))∧ObjAt H #[.string x.job,.string x.node,.int .i64 x.til] 42 w'∧ObjAt Y #[.string y.job,.string y.node,.int .i64 y.til] 42 w'∧Below W1.heap.size W1 w')
       (first | assumption | exact o1 | exact o1' _)
       (first
        | (go_at_call 68;(with_reducible refine(rkeyLease_eq x _).mono ?_);rintro e w2 ⟨rfl,rfl⟩;have o2:=putLease_next (x:=x) (y:=y) (H:=H) (Y:=Y) (V:=W1) (o:=(.cells #[.string x.job,.string x.node,.int .i64 x.til] 42)) (by assumption))
        | (go_at_call 68;(with_reducible refine(rkeyLease_eq y _).mono ?_);rintro e w2 ⟨rfl,rfl⟩;have o2:=putLease_next (x:=x) (y:=y) (H:=H) (Y:=Y) (V:=W1) (o:=(.cells #[.string y.job,.string y.node,.int .i64 y.til] 42)) (by assumption)))
      all_goals
       rename_i o2
       obtain⟨W2,hW2,own,BV,oX,oY⟩:=putLease_after PV.out o2
       clear o1 o2 PV
       try rw[hW2]
       have e0:=objAt_cell oY 0 rfl
       have e1:=objAt_cell oY 1 rfl
       have e2:=objAt_cell oY 2 rfl
       have el:=objAt_lt oY
       have hs2:=BV.size
       have PV:=Lib.hid (And.intro BV (And.intro oX oY))
       clear BV oX oY
       go_wp2_with (at_builtin;refine wpList_append_own _ rfl _ _ 24 rfl W0.heap.size 42 i0 _ 3 40 Tryz.underlying24 Hi.out Hz0.out Hz1.out Hz2.out rfl (by decide) _ _ _ rfl (own.alloc _) ⟨W2.heap.size,0,none⟩ 1 1 (cLease y) rfl rfl ?c1 ?c2 ?c3 ?c4 ?c5 ?_)
       case c1=>exact lease_new W2 y _
       case c2=>exact lease_ones y
       case c3=>unfold maxLen;omega
       case c4=>omega
       case c5=>simp;omega
       intro v3 w3 own3 hg3 _
       obtain⟨BV,oX,oY⟩:=PV.out
       have bN:=below_one W2 (.cells #[.string y.job,.string y.node,.int .i64 y.til] 42)
       have oX:=objAt_grown (objAt_next oX bN) hg3 (fun e=>HXl.out _ e.symm rfl)
       clear oY
       have BV:=(below_trans BV bN BV.size).grown hg3 (by have:=BV.size;rw[World.size_alloc];omega) (fun k hk=>(own.lt k hk).1)
       obtain⟨ad3,cap3,rfl⟩:=ownRow_slice own3
       rw[←cLeases_one,←cLeases_append] at own3
       clear own bN hg3 el PV hs2 e0 e1 e2
       have own:=own3
       clear own3
       have Q:=Lib.hid (And.intro own BV)
       clear own BV oX
       go_wp2
       go_roundw
       case rel =>
        obtain⟨own,BV⟩:=Q.out
        exact⟨i+1,false,out ++ [y],by simp,rfl,by omega,HP2,by simpa [List.length_append] using own,BV⟩
       case measure=>simp[intOf];omega
    ·have l3:Op.bytesLess y.job.toList x.job.toList=false:=by rw[less_toList];simpa using hlt
     by_cases heq:y.job=x.job
     ·have l4:(y.job.toList==x.job.toList)=true:=by rw[same_lists];simpa using heq
      have hP2:=put_same hil HP.out (by rw[HYI.out];exact heq)
      have HP2:Hid (PutP (·.job) x l (i+1) true (out ++ [x])):=hP2
      clear hP2 hlt heq HP
      have o1:=putLease_all (w:=V.drew) (V:=V) (objAt_drew oX) (objAt_drew oY) ((Below.refl V.heap.size V).drew)
      skip
      have PV:=Lib.hid (And.intro own BV)
      clear own BV oX oY
      go_wp2_with fail
      go_region_held3 (fun w'=>((w'.cell? ⟨H,0,none⟩=some (.string x.job)∧w'.cell? ⟨H,1,none⟩=some (.string x.node)∧w'.cell? ⟨H,2,none⟩=some (.int .i64 x.til))∧(w'.cell? ⟨Y,0,none⟩=some (.string y.job)∧w'.cell? ⟨Y,1,none⟩=some (.string y.node)∧w'.cell? ⟨Y,2,none⟩=some (.int .i64 y.til)))∧ObjAt H #[.string x.job,.string x.node,.int .i64 x.til] 42 w'∧ObjAt Y #[.string y.job,.string y.node,.int .i64 y.til] 42 w'∧Below V.heap.size V w')
       (first | assumption | exact o1 | exact o1' _)
       (first
        | (go_at_call 68;(with_reducible refine(rkeyLease_eq x _).mono ?_);rintro e w2 ⟨rfl,rfl⟩;have o2:=putLease_next (x:=x) (y:=y) (H:=H) (Y:=Y) (V:=V) (o:=(.cells #[.string x.job,.string x.node,.int .i64 x.til] 42)) (by assumption))
        | (go_at_call 68;(with_reducible refine(rkeyLease_eq y _).mono ?_);rintro e w2 ⟨rfl,rfl⟩;have o2:=putLease_next (x:=x) (y:=y) (H:=H) (Y:=Y) (V:=V) (o:=(.cells #[.string y.job,.string y.node,.int .i64 y.til] 42)) (by assumption)))
      all_goals
       rename_i o2
       obtain⟨W1,hW1,own,BV,oX,oY⟩:=putLease_after PV.out o2
       clear o1 o2 PV
       try rw[hW1]
       have e0:=objAt_cell oX 0 rfl
       have e1:=objAt_cell oX 1 rfl
       have e2:=objAt_cell oX 2 rfl
       have el:=objAt_lt oX
       have hs2:=BV.size
       have PV:=Lib.hid (And.intro BV (And.intro oX oY))
       clear BV oX oY
       go_wp2_with (at_builtin;refine wpList_append_own _ rfl _ _ 24 rfl W0.heap.size 42 i0 _ 3 40 Tryz.underlying24 Hi.out Hz0.out Hz1.out Hz2.out rfl (by decide) _ _ _ rfl (own.alloc _) ⟨W1.heap.size,0,none⟩ 1 1 (cLease x) rfl rfl ?c1 ?c2 ?c3 ?c4 ?c5 ?_)
       case c1=>exact lease_new W1 x _
       case c2=>exact lease_ones x
       case c3=>unfold maxLen;omega
       case c4=>omega
       case c5=>simp;omega
       intro v3 w2_ own3 hg3 _
       obtain⟨BV,oX,oY⟩:=PV.out
       have bN:=below_one W1 (.cells #[.string x.job,.string x.node,.int .i64 x.til] 42)
       have oX:=objAt_grown (objAt_next oX bN) hg3 (fun e=>HXl.out _ e.symm rfl)
       have oY:=objAt_grown (objAt_next oY bN) hg3 (fun e=>HYl.out _ e.symm rfl)
       have BV:=(below_trans BV bN BV.size).grown hg3 (by have:=BV.size;rw[World.size_alloc];omega) (fun k hk=>(own.lt k hk).1)
       obtain⟨ad3,cap3,rfl⟩:=ownRow_slice own3
       rw[←cLeases_one,←cLeases_append] at own3
       clear own bN hg3 el PV hs2 e0 e1 e2
       have own:=own3
       clear own3
       have o1:=putLease_all (w:=w2_.drew) (V:=w2_) (objAt_drew oX) (objAt_drew oY) ((Below.refl w2_.heap.size w2_).drew)
       skip
       have PV:=Lib.hid (And.intro own BV)
       clear own BV oX oY
       go_wp2_with fail
       go_region_held3 (fun w'=>((w'.cell? ⟨H,0,none⟩=some (.string x.job)∧w'.cell? ⟨H,1,none⟩=some (.string x.node)∧w'.cell? ⟨H,2,none⟩=some (.int .i64 x.til))∧(w'.cell? ⟨Y,0,none⟩=some (.string y.job)∧w'.cell? ⟨Y,1,none⟩=some (.string y.node)∧w'.cell? ⟨Y,2,none⟩=some (.int .i64 y.til)))∧ObjAt H #[.string x.job,.string x.node,.int .i64 x.til] 42 w'∧ObjAt Y #[.string y.job,.string y.node,.int .i64 y.til] 42 w'∧Below w2_.heap.size w2_ w')
        (first | assumption | exact o1 | exact o1' _)
        (first
         | (go_at_call 68;(with_reducible refine(rkeyLease_eq x _).mono ?_);rintro e w2 ⟨rfl,rfl⟩;have o2:=putLease_next (x:=x) (y:=y) (H:=H) (Y:=Y) (V:=w2_) (o:=(.cells #[.string x.job,.string x.node,.int .i64 x.til] 42)) (by assumption))
         | (go_at_call 68;(with_reducible refine(rkeyLease_eq y _).mono ?_);rintro e w2 ⟨rfl,rfl⟩;have o2:=putLease_next (x:=x) (y:=y) (H:=H) (Y:=Y) (V:=w2_) (o:=(.cells #[.string y.job,.string y.node,.int .i64 y.til] 42)) (by assumption)))
       all_goals
        rename_i o2
        obtain⟨W2,hW2,own,BV,oX,oY⟩:=putLease_after PV.out o2
        clear o1 o2 PV
        try rw[hW2]
        clear oY
        have Q:=Lib.hid (And.intro own BV)
        clear own BV oX
        go_wp2
        go_roundw
        case rel =>
         obtain⟨own,BV⟩:=Q.out
         exact⟨i+1,true,out ++ [x],by simp,rfl,by omega,HP2,by simpa [List.length_append] using own,BV⟩
        case measure=>simp[intOf];omega
     ·have l4:(y.job.toList==x.job.toList)=false:=by rw[same_lists];simpa using heq
      have hP2:=put_above hil HP.out (by rw[HYI.out];exact hlt) (by rw[HYI.out];exact heq)
      rw[HYI.out] at hP2
      have HP2:Hid (PutP (·.job) x l (i+1) true (out ++ [x] ++ [y])):=hP2
      clear hP2 hlt heq HP
      have o1:=putLease_all (w:=V.drew) (V:=V) (objAt_drew oX) (objAt_drew oY) ((Below.refl V.heap.size V).drew)
      skip
      have PV:=Lib.hid (And.intro own BV)
      clear own BV oX oY
      go_wp2_with fail
      go_region_held3 (fun w'=>((w'.cell? ⟨H,0,none⟩=some (.string x.job)∧w'.cell? ⟨H,1,none⟩=some (.string x.node)∧w'.cell? ⟨H,2,none⟩=some (.int .i64 x.til))∧(w'.cell? ⟨Y,0,none⟩=some (.string y.job)∧w'.cell? ⟨Y,1,none⟩=some (.string y.node)∧w'.cell? ⟨Y,2,none⟩=some (.int .i64 y.til)))∧ObjAt H #[.string x.job,.string x.node,.int .i64 x.til] 42 w'∧ObjAt Y #[.string y.job,.string y.node,.int .i64 y.til] 42 w'∧Below V.heap.size V w')
       (first | assumption | exact o1 | exact o1' _)
       (first
        | (go_at_call 68;(with_reducible refine(rkeyLease_eq x _).mono ?_);rintro e w2 ⟨rfl,rfl⟩;have o2:=putLease_next (x:=x) (y:=y) (H:=H) (Y:=Y) (V:=V) (o:=(.cells #[.string x.job,.string x.node,.int .i64 x.til] 42)) (by assumption))
        | (go_at_call 68;(with_reducible refine(rkeyLease_eq y _).mono ?_);rintro e w2 ⟨rfl,rfl⟩;have o2:=putLease_next (x:=x) (y:=y) (H:=H) (Y:=Y) (V:=V) (o:=(.cells #[.string y.job,.string y.node,.int .i64 y.til] 42)) (by assumption)))
      all_goals
       rename_i o2
       obtain⟨W1,hW1,own,BV,oX,oY⟩:=putLease_after PV.out o2
       clear o1 o2 PV
       try rw[hW1]
       have e0:=objAt_cell oX 0 rfl
       have e1:=objAt_cell oX 1 rfl
       have e2:=objAt_cell oX 2 rfl
       have el:=objAt_lt oX
       have hs2:=BV.size
       have PV:=Lib.hid (And.intro BV (And.intro oX oY))
       clear BV oX oY
       go_wp2_with (at_builtin;refine wpList_append_own _ rfl _ _ 24 rfl W0.heap.size 42 i0 _ 3 40 Tryz.underlying24 Hi.out Hz0.out Hz1.out Hz2.out rfl (by decide) _ _ _ rfl (own.alloc _) ⟨W1.heap.size,0,none⟩ 1 1 (cLease x) rfl rfl ?c1 ?c2 ?c3 ?c4 ?c5 ?_)
       case c1=>exact lease_new W1 x _
       case c2=>exact lease_ones x
       case c3=>unfold maxLen;omega
       case c4=>omega
       case c5=>simp;omega
       intro v3 w2_ own3 hg3 _
       obtain⟨BV,oX,oY⟩:=PV.out
       have bN:=below_one W1 (.cells #[.string x.job,.string x.node,.int .i64 x.til] 42)
       have oX:=objAt_grown (objAt_next oX bN) hg3 (fun e=>HXl.out _ e.symm rfl)
       have oY:=objAt_grown (objAt_next oY bN) hg3 (fun e=>HYl.out _ e.symm rfl)
       have BV:=(below_trans BV bN BV.size).grown hg3 (by have:=BV.size;rw[World.size_alloc];omega) (fun k hk=>(own.lt k hk).1)
       obtain⟨ad3,cap3,rfl⟩:=ownRow_slice own3
       rw[←cLeases_one,←cLeases_append] at own3
       clear own bN hg3 el PV hs2 e0 e1 e2
       have own:=own3
       clear own3
       have o1:=putLease_all (w:=w2_.drew) (V:=w2_) (objAt_drew oX) (objAt_drew oY) ((Below.refl w2_.heap.size w2_).drew)
       skip
       have PV:=Lib.hid (And.intro own BV)
       clear own BV oX oY
       go_wp2_with fail
       go_region_held3 (fun w'=>((w'.cell? ⟨H,0,none⟩=some (.string x.job)∧w'.cell? ⟨H,1,none⟩=some (.string x.node)∧w'.cell? ⟨H,2,none⟩=some (.int .i64 x.til))∧(w'.cell? ⟨Y,0,none⟩=some (.string y.job)∧w'.cell? ⟨Y,1,none⟩=some (.string y.node)∧w'.cell? ⟨Y,2,none⟩=some (.int .i64 y.til)))∧ObjAt H #[.string x.job,.string x.node,.int .i64 x.til] 42 w'∧ObjAt Y #[.string y.job,.string y.node,.int .i64 y.til] 42 w'∧Below w2_.heap.size w2_ w')
        (first | assumption | exact o1 | exact o1' _)
        (first
         | (go_at_call 68;(with_reducible refine(rkeyLease_eq x _).mono ?_);rintro e w2 ⟨rfl,rfl⟩;have o2:=putLease_next (x:=x) (y:=y) (H:=H) (Y:=Y) (V:=w2_) (o:=(.cells #[.string x.job,.string x.node,.int .i64 x.til] 42)) (by assumption))
         | (go_at_call 68;(with_reducible refine(rkeyLease_eq y _).mono ?_);rintro e w2 ⟨rfl,rfl⟩;have o2:=putLease_next (x:=x) (y:=y) (H:=H) (Y:=Y) (V:=w2_) (o:=(.cells #[.string y.job,.string y.node,.int .i64 y.til] 42)) (by assumption)))
       all_goals
        rename_i o2
        obtain⟨W2,hW2,own,BV,oX,oY⟩:=putLease_after PV.out o2
        clear o1 o2 PV
        try rw[hW2]
        have HXl:Hid (∀k,(Value.slice ad3 (out.length+1) cap3).ownBlock=some k→k≠H):=fun k hk hY'=>by have:=(own.lt k hk).1;have:=S0.out;omega
        have e0:=objAt_cell oY 0 rfl
        have e1:=objAt_cell oY 1 rfl
        have e2:=objAt_cell oY 2 rfl
        have el:=objAt_lt oY
        have hs2:=BV.size
        have PV:=Lib.hid (And.intro BV (And.intro oX oY))
        clear BV oX oY
        go_wp2_with (at_builtin;refine wpList_append_own _ rfl _ _ 24 rfl W0.heap.size 42 i0 _ 3 40 Tryz.underlying24 Hi.out Hz0.out Hz1.out Hz2.out rfl (by decide) _ _ _ rfl (own.alloc _) ⟨W2.heap.size,0,none⟩ 1 1 (cLease y) rfl rfl ?c1 ?c2 ?c3 ?c4 ?c5 ?_)
        case c1=>exact lease_new W2 y _
        case c2=>exact lease_ones y
        case c3=>unfold maxLen;omega
        case c4=>omega
        case c5=>simp;omega
        intro v3 w3 own3 hg3 _
        obtain⟨BV,oX,oY⟩:=PV.out
        have bN:=below_one W2 (.cells #[.string y.job,.string y.node,.int .i64 y.til] 42)
        have oX:=objAt_grown (objAt_next oX bN) hg3 (fun e=>HXl.out _ e.symm rfl)
        clear oY
        have BV:=(below_trans BV bN BV.size).grown hg3 (by have:=BV.size;rw[World.size_alloc];omega) (fun k hk=>(own.lt k hk).1)
        obtain⟨ad3,cap3,rfl⟩:=ownRow_slice own3
        rw[←cLeases_one,←cLeases_append] at own3
        clear own bN hg3 el PV hs2 e0 e1 e2
        have own:=own3
        clear own3
        have Q:=Lib.hid (And.intro own BV)
        clear own BV oX
        go_wp2
        go_roundw
        case rel =>
         obtain⟨own,BV⟩:=Q.out
         exact⟨i+1,true,out ++ [x] ++ [y],by simp,rfl,by omega,HP2,by simpa [List.length_append] using own,BV⟩
        case measure=>simp[intOf];omega
  case neg =>
   obtain rfl:i=l.length:=by omega
   have oX:=objAt_next O0.out hbr
   have BF0:=below_trans B0.out hbr B0.out.size
   have hlo:w.heap.size≤W0.heap.size:=B0.out.size
   clear hi h
   cases dn with
   | true =>
    have hE:=put_full HP.out
    subst hE
    have Q:=Lib.hid (And.intro (ownsRow_low hown hlo) BF0)
    rw[hH] at Q
    clear hown hbr BF0 oX HP
    go_wp2
    go_ret
    exact⟨pad,pcap,rfl,by first | exact Q.out | (have z:=Q.out;rw[←hH] at z;exact z)⟩
   | false =>
    have hE:=put_last HP.out
    have HE:=Lib.hid hE
    have own:=hown
    have hs2:=hbr.size
    have Q:=Lib.hid (And.intro BF0 hlo)
    have e0:=objAt_cell oX 0 rfl
    have e1:=objAt_cell oX 1 rfl
    have e2:=objAt_cell oX 2 rfl
    have el:=objAt_lt oX
    obtain⟨W2,hW2⟩:∃W,W=wr:=⟨_,rfl⟩
    subst hW2
    clear hown hbr BF0 hE oX HP hlo
    go_wp2_with (at_builtin;refine wpList_append_own _ rfl _ _ 24 rfl W0.heap.size 42 i0 _ 3 40 Tryz.underlying24 Hi.out Hz0.out Hz1.out Hz2.out rfl (by decide) _ _ _ rfl (own.alloc _) ⟨W2.heap.size,0,none⟩ 1 1 (cLease x) rfl rfl ?c1 ?c2 ?c3 ?c4 ?c5 ?_)
    case c1=>exact lease_new W2 x _
    case c2=>exact lease_ones x
    case c3=>unfold maxLen;omega
    case c4=>omega
    case c5=>simp;omega
    intro v3 w3 own3 hg3 _
    have BF:=(below_trans Q.out.1 (below_one W2 (.cells #[.string x.job,.string x.node,.int .i64 x.til] 42)) Q.out.1.size).grown hg3 (by have:=Q.out.1.size;rw[World.size_alloc];omega) (fun k hk=>by have:=(own.lt k hk).1;have:=Q.out.2;omega)
    obtain⟨ad3,cap3,rfl⟩:=ownRow_slice own3
    rw[←cLeases_one,←cLeases_append] at own3
    have hln:out.length+1=(putL (·.job) x l).length:=by rw[←HE.out,List.length_append];rfl
    rw[HE.out,hln] at own3
    have Z:=Lib.hid (And.intro (ownsRow_low own3 Q.out.2) BF)
    rw[hH] at Z
    have HLN:=Lib.hid hln
    clear own own3 hg3 BF el hln e0 e1 e2
    go_wp2
    go_ret
    exact⟨ad3,cap3,by rw[←HLN.out];rfl,by first | exact Z.out | (have z:=Z.out;rw[←hH] at z;exact z)⟩
end Go.Proofs.YtiekgafopalfmaaGreatDoor
