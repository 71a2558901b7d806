import Derived.Test.YtiekgafopalfmaaGreatDoorPPkSt1
import Derived.Test.YtiekgafopalfmaaGreatDoorPPkWi1
import Derived.Sort.KeysCollected
namespace Go.Proofs.YtiekgafopalfmaaGreatDoor
section
variable {α : Type} {key : α → ByteArray}
theorem asc_ext:∀ {l m:List α},Asc key l→Asc key m→(∀x,x∈l↔x∈m)→l=m
 | [],[],_,_,_=>rfl
 | [],y :: m,_,_,h=>by have:=(h y).2 (List.mem_cons_self ..);cases this
 | x :: l,[],_,_,h=>by have:=(h x).1 (List.mem_cons_self ..);cases this
 | x :: l,y :: m,hl,hm,h=>by
  have hl':=List.pairwise_cons.1 hl
  have hm':=List.pairwise_cons.1 hm
  have hxy:x=y:=by
   rcases List.mem_cons.1 ((h x).1 (List.mem_cons_self ..)) with e | e
   ·exact e
   ·rcases List.mem_cons.1 ((h y).2 (List.mem_cons_self ..)) with e' | e'
    ·exact e'.symm
    ·exact absurd (lt_trans (hl'.1 y e') (hm'.1 x e)) (lt_irrefl _)
  subst hxy
  refine congrArg (x :: ·) (asc_ext hl'.2 hm'.2 (fun z=>⟨fun hz=>?_,fun hz=>?_⟩))
  ·rcases List.mem_cons.1 ((h z).1 (List.mem_cons_of_mem _ hz)) with rfl | e
   ·exact absurd (hl'.1 z hz) (lt_irrefl _)
   ·exact e
  ·rcases List.mem_cons.1 ((h z).2 (List.mem_cons_of_mem _ hz)) with rfl | e
   ·exact absurd (hm'.1 z hz) (lt_irrefl _)
   ·exact e
open Classical in
noncomputable def putL (key:α→ByteArray) (x:α):List α→List α
 | [] => [x]
 | y :: l=>if lt (key y) (key x) then y :: putL key x l else if key y=key x then x :: l else x :: y :: l
theorem put_mem:∀ {l:List α},Asc key l→∀(x z:α),z∈putL key x l↔z=x∨(z∈l∧key z≠key x)
 | [],_,x,z=>by simp[putL]
 | y :: l,h,x,z=>by
  have h':=List.pairwise_cons.1 h
  unfold putL
  by_cases h1:lt (key y) (key x)
  ·rw[if_pos h1,List.mem_cons,put_mem h'.2 x z,List.mem_cons]
   constructor
   ·rintro (rfl | rfl | ⟨a,b⟩)
    ·exact .inr ⟨.inl rfl,lt_ne h1⟩
    ·exact .inl rfl
    ·exact .inr ⟨.inr a,b⟩
   ·rintro (rfl | ⟨rfl | a,b⟩)
    ·exact .inr (.inl rfl)
    ·exact .inl rfl
    ·exact .inr (.inr ⟨a,b⟩)
  ·rw[if_neg h1]
   by_cases h2:key y=key x
   ·rw[if_pos h2,List.mem_cons,List.mem_cons]
    constructor
    ·rintro (rfl | a)
     ·exact .inl rfl
     ·exact .inr ⟨.inr a,fun e=>lt_ne (h'.1 z a) (by rw[h2,e])⟩
    ·rintro (rfl | ⟨rfl | a,b⟩)
     ·exact .inl rfl
     ·exact absurd h2 b
     ·exact .inr a
   ·rw[if_neg h2,List.mem_cons,List.mem_cons]
    have h3:lt (key x) (key y):=by
     rcases lt_or h2 with h | h
     ·exact absurd h h1
     ·exact h
    constructor
    ·rintro (rfl | rfl | a)
     ·exact .inl rfl
     ·exact .inr ⟨.inl rfl,h2⟩
     ·exact .inr ⟨.inr a,fun e=>lt_ne (lt_trans h3 (h'.1 z a)) e.symm⟩
    ·rintro (rfl | ⟨a,_⟩)
     ·exact .inl rfl
     ·exact .inr a
open Classical in
noncomputable def lessL (key:α→ByteArray) (l:List α) (gone:List ByteArray):List α:=l.filter fun x=>decide (key x∉gone)
open Classical in
noncomputable def newL (a b:List α):List α:=b.filter fun x=>decide (x∉a)
open Classical in
noncomputable def goneL (key:α→ByteArray) (a b:List α):List ByteArray:=(a.filter fun x=>decide (∀y∈b,key y≠key x)).map key
end
end Go.Proofs.YtiekgafopalfmaaGreatDoor
namespace Go.Proofs.YtiekgafopalfmaaGreatDoor
structure DelD where
 frm:Int
 til:Int
 jobs:List JobD
 nodes:List NodeD
 leases:List LeaseD
 gj:List ByteArray
 gn:List ByteArray
 gl:List ByteArray
def zeroDel:DelD:=⟨0,0,[],[],[],[],[],[]⟩
section
variable (U : ByteArray → Bool)
def leaseCE (l:LeaseD):Nat:=if isName U l.job&&isName U l.node then(if inR l.til 0 1099511627776 then 0 else 1) else 4
end
noncomputable def diffS (a b:StD):DelD:=⟨a.rev,b.rev,newL a.jobs b.jobs,newL a.nodes b.nodes,newL a.leases b.leases,goneL (·.name) a.jobs b.jobs,goneL (·.name) a.nodes b.nodes,goneL (·.job) a.leases b.leases⟩
section
variable {U : ByteArray → Bool}
theorem gone_length {α:Type} (key:α→ByteArray) (a b:List α):(goneL key a b).length≤a.length:=by
 unfold goneL;rw[List.length_map];exact List.length_filter_le _ _
end
end Go.Proofs.YtiekgafopalfmaaGreatDoor
namespace Go.Proofs.YtiekgafopalfmaaGreatDoor
open Go.ChangeShapes Go.WideShapes Go.RowKit Go.Joins Go.Deep
def NmsAt (w:World) (ad:Option Addr) (xs:List ByteArray):Prop:=∀i (h:i<xs.length),∃a,ad=some a∧a.block<w.heap.size∧w.cell? (a.add i)=some (.string xs[i])
theorem nmsAt_next {w w':World}{ad:Option Addr}{xs:List ByteArray} (h:NmsAt w ad xs) (hb:Below w.heap.size w w'):NmsAt w' ad xs:=by
 intro i hi
 obtain⟨a,ha,hl,h0⟩:=h i hi
 exact⟨a,ha,Nat.lt_of_lt_of_le hl hb.size,by rw[hb.cell (by rw[add_block];exact hl)];exact h0⟩
def cNms (xs:List ByteArray):List Value:=xs.map Value.string
theorem cNms_append (a b:List ByteArray):cNms (a++b)=cNms a++cNms b:=List.map_append
theorem ownNms {w:World}{B n:Nat}{ad:Option Addr}{cap:Nat}{xs:List ByteArray} (h:w.ownsRow B 9 1 (.slice ad n cap) n (cNms xs)) (hn:n=xs.length):NmsAt w ad xs:=by
 subst hn
 intro i hi
 rcases h.2 with ⟨_,h0⟩ | ⟨g,cap',cur,hv,_⟩
 ·omega
 ·simp only[Value.slice.injEq] at hv
  obtain⟨rfl,_⟩:=hv
  exact⟨⟨g,0,none⟩,rfl,(h.lt g rfl).2,h.cells (g:=g) rfl i _ (by simp[cNms,hi])⟩
structure DlM where
 aj:Option Addr
 cj:Nat
 an:Option Addr
 cn:Nat
 al:Option Addr
 cl:Nat
 gj:Option Addr
 hj:Nat
 gn:Option Addr
 hn:Nat
 gl:Option Addr
 hl:Nat
def dlC (M:DlM) (d:DelD):Array Value:=#[.int .i64 d.frm,.int .i64 d.til,.slice M.aj d.jobs.length M.cj,.slice M.an d.nodes.length M.cn,.slice M.al d.leases.length M.cl,.slice M.gj d.gj.length M.hj,.slice M.gn d.gn.length M.hn,.slice M.gl d.gl.length M.hl]
def DeltaAt (w:World) (M:DlM) (d:DelD):Prop:=(JobsAt w M.aj d.jobs∧NodesAt w M.an d.nodes∧LeasesAt w M.al d.leases)∧NmsAt w M.gj d.gj∧NmsAt w M.gn d.gn∧NmsAt w M.gl d.gl
end Go.Proofs.YtiekgafopalfmaaGreatDoor
namespace Go.Proofs.YtiekgafopalfmaaGreatDoor
open Go.RowKit
def delF (f:ByteArray→Option Value) (k:ByteArray):ByteArray→Option Value:=fun s=>if k=s then none else f s
theorem delF_at {D:DataW Value}{f:ByteArray→Option Value} (h:∀s:ByteArray,Maps.has D (keyL s)=(f s).isSome∧∀z,D.atKey (keyL s) (.held z) = .held ((f s).getD z)) (k:ByteArray) :
  ∀s:ByteArray,Maps.has (D.del (keyL k)) (keyL s)=(delF f k s).isSome∧∀z,(D.del (keyL k)).atKey (keyL s) (.held z) = .held ((delF f k s).getD z):=by
 intro s
 unfold delF
 by_cases e:k=s
 ·subst e
  rw[if_pos rfl]
  exact⟨Maps.has_del_same,fun z=>Maps.atKey_del_same _⟩
 ·rw[if_neg e]
  have e':keyL s≠keyL k:=fun h=>e (keyL_inj h).symm
  exact⟨(Maps.has_del_other e').trans (h s).1,fun z=>(Maps.atKey_del_other e' _).trans ((h s).2 z)⟩
theorem turned_grown {w w':World}{b:Nat} (h:w.mapTurned w' b):w.grownBy w' (some b):=h.grown
theorem wpList_del (w:World){ops:Array Oper}{rest:List Oper}{o:Oper}{a:Act}{Q:Exit→Act→World→Prop} (hg:o.guard=none) (m x:Operand) (t:TypeId) (hop:o.op=Op.call { callee:=Callee.builtin Builtin.delete,args:=#[m,x],argTypes:=#[t,9] })
  (e:TypeId) (ht:Tryz.prog.underlying t=some (.map 9 e)) (b n:Nat) (f:ByteArray→Option Value) (hm:a.eval m = .map (some b)) (hown:MapAt w b n f) (s:ByteArray) (hx:a.eval x = .string s) (hs:s.size≤maxLen)
  (hK:∀w',MapAt w' b n (delF f s)→w.grownBy w' (some b)→wpList Tryz.prog ops Q rest (a.put o.dst (.tuple #[])) w'):wpList Tryz.prog ops Q (o :: rest) a w:=by
 obtain⟨D,h1,h2⟩:=hown
 exact wpList_delete_own w hg m x t 9 hop e strKeyed ht selfE b n D hm h1 (.string s) (keyL s) hx (strKey hs) (fun w' h3 h4=>hK w' ⟨_,h3,delF_at h2 s⟩ (turned_grown h4))
section
variable {α : Type} {key : α → ByteArray} {V : α → Value}
theorem lastD_asc {l:List α} (h:Asc key l) (s:ByteArray) (x:α):lastD key l s=some x↔x∈l∧key x=s:=by
 constructor
 ·exact lastD_mem
 ·rintro ⟨h1,h2⟩
  have h3:(lastD key l s).isSome=true:=by
   rw[lastD_isSome,List.any_eq_true]
   exact⟨x,h1,by simpa using h2⟩
  obtain⟨y,hy⟩:=Option.isSome_iff_exists.1 h3
  obtain⟨m1,m2⟩:=lastD_mem hy
  rw[hy,asc_one h m1 h1 (by rw[m2,h2])]
theorem tabF_ext {l m:List α} (hl:Asc key l) (hm:Asc key m) (s:ByteArray) (h:∀x,key x=s→(x∈l↔x∈m)):tabF key V l s=tabF key V m s:=by
 unfold tabF
 have e:lastD key l s=lastD key m s:=by
  ext x
  rw[lastD_asc hl,lastD_asc hm]
  constructor
  ·rintro ⟨a,b⟩;exact⟨(h x b).1 a,b⟩
  ·rintro ⟨a,b⟩;exact⟨(h x b).2 a,b⟩
 rw[e]
theorem tabF_none {l:List α} (hl:Asc key l) (s:ByteArray) (h:∀x∈l,key x≠s):tabF key V l s=none:=by
 unfold tabF
 cases e:lastD key l s with
 | none=>rfl
 | some x=>exact absurd ((lastD_asc hl s x).1 e).2 (h x ((lastD_asc hl s x).1 e).1)
theorem tabF_some {l:List α} (hl:Asc key l){x:α} (h:x∈l):tabF key V l (key x)=some (V x):=by
 unfold tabF
 rw[(lastD_asc hl (key x) x).2 ⟨h,rfl⟩]
 rfl
def dropL (key:α→ByteArray) (k:ByteArray) (l:List α):List α:=l.filter fun x => !decide (key x=k)
theorem drop_mem (k:ByteArray) (l:List α) (x:α):x∈dropL key k l↔x∈l∧key x≠k:=by simp[dropL]
theorem drop_asc {l:List α} (h:Asc key l) (k:ByteArray):Asc key (dropL key k l):=asc_sub h List.filter_sublist
theorem tabF_drop {l:List α} (hl:Asc key l) (k s:ByteArray):delF (tabF key V l) k s=tabF key V (dropL key k l) s:=by
 unfold delF
 by_cases e:k=s
 ·rw[if_pos e,tabF_none (drop_asc hl k) s (fun x hx=>by rw[←e];exact((drop_mem k l x).1 hx).2)]
 ·rw[if_neg e]
  exact tabF_ext hl (drop_asc hl k) s (fun x hx=>by rw[drop_mem];exact⟨fun h=>⟨h,by rw[hx];exact fun c=>e c.symm⟩,fun h=>h.1⟩)
def lessN (key:α→ByteArray) (l:List α) (k:List ByteArray) (i:Nat):List α:=l.filter fun x => !(k.take i).any fun s=>decide (key x=s)
theorem lessN_mem (l:List α) (k:List ByteArray) (i:Nat) (x:α):x∈lessN key l k i↔x∈l∧key x∉k.take i:=by
 simp only[lessN,List.mem_filter,Bool.not_eq_true',List.any_eq_false,decide_eq_true_eq]
 constructor
 ·rintro ⟨a,b⟩;exact⟨a,fun c=>b _ c rfl⟩
 ·rintro ⟨a,b⟩;exact⟨a,fun y hy e=>b (by rw[e];exact hy)⟩
theorem lessN_asc {l:List α} (h:Asc key l) (k:List ByteArray) (i:Nat):Asc key (lessN key l k i):=asc_sub h List.filter_sublist
theorem lessN_zero (l:List α) (k:List ByteArray):lessN key l k 0=l:=by
 unfold lessN
 rw[List.filter_eq_self]
 intro x _
 rfl
theorem lessN_step {l:List α} (k:List ByteArray) (i:Nat) (hi:i<k.length):dropL key k[i] (lessN key l k i)=lessN key l k (i+1):=by
 unfold dropL lessN
 rw[List.filter_filter]
 congr 1
 funext x
 rw[List.take_succ_eq_append_getElem hi,List.any_append]
 simp only[List.any_cons,List.any_nil,Bool.or_false,Bool.not_or]
 exact Bool.and_comm _ _
open Classical in
theorem lessN_end (l:List α) (k:List ByteArray):lessN key l k k.length=lessL key l k:=by
 unfold lessN lessL
 rw[List.take_length]
 congr 1
 funext x
 by_cases h:key x∈k
 ·have h1:(k.any fun s=>decide (key x=s))=true:=List.any_eq_true.2 ⟨_,h,by simp⟩
  rw[h1]
  simp[h]
 ·have h1:(k.any fun s=>decide (key x=s))=false:=List.any_eq_false.2 (fun y hy e=>h (by simp only[decide_eq_true_eq] at e;rw[e];exact hy))
  rw[h1]
  simp[h]
theorem lessN_size {l:List α} (k:List ByteArray) (i:Nat):(lessN key l k i).length≤l.length:=List.length_filter_le _ _
end
section
variable {α : Type} {key : α → ByteArray} {V : α → Value}
def bytesK (key:α→ByteArray) (x:α):List UInt8:=(key x).data.toList
theorem bytesK_inj {x y:α} (h:bytesK key x=bytesK key y):key x=key y:=by
 unfold bytesK at h
 generalize key x=a at h
 generalize key y=b at h
 cases a;cases b;simp only[ByteArray.mk.injEq];exact Array.toList_inj.1 h
theorem dtab_at {l:List α}{D:DataW Value} (hD:∀s:ByteArray,Maps.has D (keyL s)=(tabF key V l s).isSome∧∀z,D.atKey (keyL s) (.held z) = .held ((tabF key V l s).getD z)) (hl:Asc key l){k:List UInt8}{v:Value} (hat:∀zd,D.atKey (.string k) zd = .held v):∃x∈l,v=V x∧bytesK key x=k:=by
 have ek:keyL ⟨k.toArray⟩ = .string k:=by simp[keyL]
 obtain⟨h1,h2⟩:=hD ⟨k.toArray⟩
 rw[ek] at h1 h2
 have hh:Maps.has D (.string k)=true:=Maps.has_true_of_atKey hat
 rw[hh] at h1
 obtain⟨u,hu⟩:=Option.isSome_iff_exists.1 h1.symm
 have h3:=h2 v
 rw[hat,hu] at h3
 simp only[Option.getD_some,DataW.held.injEq] at h3
 subst h3
 unfold tabF at hu
 rw[Option.map_eq_some_iff] at hu
 obtain⟨x,hx,rfl⟩:=hu
 obtain⟨m1,m2⟩:=(lastD_asc hl _ x).1 hx
 exact⟨x,m1,rfl,by unfold bytesK;rw[m2]⟩
theorem dtab_all {l xs:List α}{D:DataW Value} (hD:∀s:ByteArray,Maps.has D (keyL s)=(tabF key V l s).isSome∧∀z,D.atKey (keyL s) (.held z) = .held ((tabF key V l s).getD z)) (hl:Asc key l) (hsub:∀x∈xs,x∈l) (hC:Collected D (fun _=>false) (xs.map (bytesK key))):xs.Perm l:=by
 have nl:l.Nodup:=hl.imp (fun {a b} h e=>by rw[e] at h;exact lt_irrefl _ h)
 have nx:xs.Nodup:=by
  have h1:=hC.1
  unfold List.Nodup at h1⊢
  rw[List.pairwise_map] at h1
  exact h1.imp (fun {a b} h e=>h (by rw[e]))
 rw[List.perm_ext_iff_of_nodup nx nl]
 intro x
 refine⟨hsub x,fun hx=>?_⟩
 have hs:Maps.has D (.string (bytesK key x))=true:=by
  have:=(hD (key x)).1
  rw[tabF_some hl hx] at this
  exact this
 obtain⟨y,hy,e⟩:=List.mem_map.1 ((hC.2 (bytesK key x)).2 ⟨hs,rfl⟩)
 rw[asc_one hl hx (hsub y hy) (bytesK_inj e.symm)]
 exact hy
theorem sorted_is {l xs:List α} (hl:Asc key l) (hp:xs.Perm l) (hs:xs.Pairwise (fun x y=>¬lt (key y) (key x))):xs=l:=by
 refine asc_ext ?_ hl (fun x=>hp.mem_iff)
 have nk:xs.Pairwise (fun x y=>key x≠key y):=by
  have h1:l.Pairwise (fun x y=>key x≠key y):=hl.imp (fun {a b} h=>lt_ne h)
  exact(hp.pairwise_iff (fun {a b} h e=>h e.symm)).2 h1
 exact(hs.and nk).imp (fun {a b} ⟨h1,h2⟩=>by
  rcases lt_or h2 with h | h
  ·exact h
  ·exact absurd h h1)
end
end Go.Proofs.YtiekgafopalfmaaGreatDoor
