import Derived.Test.YtiekgafopalfmaaGreatDoorRows
import Derived.Test.YtiekgafopalfmaaGreatDoorPPkNum
import Derived.Test.YtiekgafopalfmaaGreatDoorPPkSt1
import Derived.Test.YtiekgafopalfmaaGreatDoorPPkTxt
namespace Go.Proofs.YtiekgafopalfmaaGreatDoor
abbrev Dec (α:Type):=List UInt8→Sum Nat (α×List UInt8)
def pureD {α:Type} (a:α):Dec α:=fun l=>.inr (a,l)
def bindD {α β:Type} (d:Dec α) (f:α→Dec β):Dec β:=fun l=>match d l with | .inl e=>.inl e | .inr (a,m)=>f a m
theorem bindD_ok {α β:Type}{d:Dec α}{f:α→Dec β}{l m:List UInt8}{a:α} (h:d l = .inr (a,m)):bindD d f l=f a m:=by simp[bindD,h]
theorem bindD_err {α β:Type}{d:Dec α}{f:α→Dec β}{l:List UInt8}{e:Nat} (h:d l = .inl e):bindD d f l = .inl e:=by simp[bindD,h]
theorem bindD_inv {α β:Type}{d:Dec α}{f:α→Dec β}{l r:List UInt8}{b:β} (h:bindD d f l = .inr (b,r)):∃a m,d l = .inr (a,m)∧f a m = .inr (b,r):=by
 unfold bindD at h
 cases hd:d l with
 | inl e=>rw[hd] at h;cases h
 | inr x=>rw[hd] at h;exact⟨x.1,x.2,rfl,h⟩
structure Codec {α:Type} (P:α→Prop) (enc:α→List UInt8) (dec:Dec α):Prop where
 back:∀a m,P a→dec (enc a++m) = .inr (a,m)
 sound:∀l a m,dec l = .inr (a,m)→P a∧l=enc a++m
 cut:∀a k,P a→k<(enc a).length→dec ((enc a).take k) = .inl 3
theorem Codec.seq {α β:Type}{P:α→Prop}{ea:α→List UInt8}{da:Dec α}{Q:α→β→Prop}{eb:α→β→List UInt8}{db:α→Dec β} (ca:Codec P ea da) (cb:∀a,P a→Codec (Q a) (eb a) (db a)) :
  Codec (fun x:α×β=>P x.1∧Q x.1 x.2) (fun x=>ea x.1++eb x.1 x.2) (bindD da fun a=>bindD (db a) fun b=>pureD (a,b)) where
 back:=by
  rintro ⟨a,b⟩ m ⟨hp,hq⟩
  simp only[List.append_assoc]
  rw[bindD_ok (ca.back a _ hp),bindD_ok ((cb a hp).back b m hq)]
  rfl
 sound:=by
  rintro l ⟨a,b⟩ m h
  obtain⟨a',m',h1,h2⟩:=bindD_inv h
  obtain⟨b',m'',h3,h4⟩:=bindD_inv h2
  simp only[pureD,Sum.inr.injEq,Prod.mk.injEq] at h4
  obtain⟨⟨rfl,rfl⟩,rfl⟩:=h4
  obtain⟨hp,rfl⟩:=ca.sound _ _ _ h1
  obtain⟨hq,rfl⟩:=(cb a' hp).sound _ _ _ h3
  exact⟨⟨hp,hq⟩,by rw[List.append_assoc]⟩
 cut:=by
  rintro ⟨a,b⟩ k ⟨hp,hq⟩ hk
  simp only[List.length_append] at hk hp hq⊢
  by_cases h:k<(ea a).length
  ·rw[List.take_append_of_le_length (by omega),bindD_err (ca.cut a k hp h)]
  ·rw[List.take_append,List.take_of_length_le (by omega),bindD_ok (ca.back a _ hp),bindD_err ((cb a hp).cut b _ hq (by omega))]
theorem Codec.iso {α β:Type}{P:α→Prop}{ea:α→List UInt8}{da:Dec α} (ca:Codec P ea da) (f:α→β) (g:β→α) (Q:β→Prop) (hg:∀b,Q b→P (g b)∧f (g b)=b) (hf:∀a,P a→Q (f a)∧g (f a)=a) :
  Codec Q (fun b=>ea (g b)) (bindD da fun a=>pureD (f a)) where
 back:=by
  intro b m hq
  rw[bindD_ok (ca.back _ m (hg b hq).1)]
  simp[pureD,(hg b hq).2]
 sound:=by
  intro l b m h
  obtain⟨a,m',h1,h2⟩:=bindD_inv h
  simp only[pureD,Sum.inr.injEq,Prod.mk.injEq] at h2
  obtain⟨rfl,rfl⟩:=h2
  obtain⟨hp,rfl⟩:=ca.sound _ _ _ h1
  exact⟨(hf a hp).1,by rw[(hf a hp).2]⟩
 cut:=by
  intro b k hq hk
  rw[bindD_err (ca.cut _ k (hg b hq).1 hk)]
theorem Codec.none {α:Type} (z:α):Codec (fun a=>a=z) (fun _ => []) (pureD z) where
 back:=by rintro a m rfl;rfl
 sound:=by
  intro l a m h
  simp only[pureD,Sum.inr.injEq,Prod.mk.injEq] at h
  exact⟨h.1.symm,by simp[h.2]⟩
 cut:=by intro a k _ hk;simp at hk
def repD {α:Type} (d:Dec α):Nat→Dec (List α)
 | 0=>pureD []
 | n+1=>bindD d fun a=>bindD (repD d n) fun r=>pureD (a :: r)
theorem Codec.rep {α:Type}{P:α→Prop}{enc:α→List UInt8}{dec:Dec α} (c:Codec P enc dec) (n:Nat):Codec (fun l:List α=>l.length=n∧∀x∈l,P x) (fun l=>l.flatMap enc) (repD dec n):=by
 induction n with
 | zero =>
  constructor
  ·rintro a m ⟨h,_⟩
   obtain rfl:=List.eq_nil_of_length_eq_zero h
   rfl
  ·intro l a m h
   simp only[repD,pureD,Sum.inr.injEq,Prod.mk.injEq] at h
   obtain⟨rfl,rfl⟩:=h
   exact⟨⟨rfl,fun x hx=>(by cases hx)⟩,rfl⟩
  ·rintro a k ⟨h,_⟩ hk
   obtain rfl:=List.eq_nil_of_length_eq_zero h
   simp at hk
 | succ n ih =>
  constructor
  ·rintro a m ⟨h,hp⟩
   cases a with
   | nil=>simp at h
   | cons x r =>
    have hr:r.length=n∧∀y∈r,P y:=⟨by simpa using h,fun y hy=>hp y (by simp[hy])⟩
    simp only[List.flatMap_cons,List.append_assoc,repD]
    rw[bindD_ok (c.back x _ (hp x (by simp))),bindD_ok (ih.back r m hr)]
    rfl
  ·intro l a m h
   simp only[repD] at h
   obtain⟨x,m',h1,h2⟩:=bindD_inv h
   obtain⟨r,m'',h3,h4⟩:=bindD_inv h2
   simp only[pureD,Sum.inr.injEq,Prod.mk.injEq] at h4
   obtain⟨rfl,rfl⟩:=h4
   obtain⟨hp,rfl⟩:=c.sound _ _ _ h1
   obtain⟨⟨hl,hq⟩,rfl⟩:=ih.sound _ _ _ h3
   refine⟨⟨by simp[hl],fun y hy=>?_⟩,by simp only[List.flatMap_cons,List.append_assoc]⟩
   rcases List.mem_cons.1 hy with rfl | hy
   ·exact hp
   ·exact hq y hy
  ·rintro a k ⟨h,hp⟩ hk
   cases a with
   | nil=>simp at h
   | cons x r =>
    have hr:r.length=n∧∀y∈r,P y:=⟨by simpa using h,fun y hy=>hp y (by simp[hy])⟩
    simp only[List.flatMap_cons,List.length_append] at hk
    simp only[List.flatMap_cons,repD]
    by_cases h2:k<(enc x).length
    ·rw[List.take_append_of_le_length (by omega),bindD_err (c.cut x k (hp x (by simp)) h2)]
    ·rw[List.take_append,List.take_of_length_le (by omega),bindD_ok (c.back x _ (hp x (by simp))),bindD_err (ih.cut r _ hr (by omega))]
theorem Codec.inj {α:Type}{P:α→Prop}{enc:α→List UInt8}{dec:Dec α} (c:Codec P enc dec){a b:α} (ha:P a) (hb:P b) (h:enc a=enc b):a=b:=by
 have h1:=c.back a [] ha
 rw[h,c.back b [] hb] at h1
 simp only[Sum.inr.injEq,Prod.mk.injEq,and_true] at h1
 exact h1.symm
end Go.Proofs.YtiekgafopalfmaaGreatDoor
namespace Go.Proofs.YtiekgafopalfmaaGreatDoor
def numD (most:Nat):Dec Nat:=fun l=>if (rd l).2.2≠0 then .inl (rd l).2.2 else if most<(rd l).1 then .inl 2 else .inr ((rd l).1,l.drop (rd l).2.1)
theorem numC (most:Nat) (h:most<18446744073709551616):Codec (fun n:Nat=>n≤most) num (numD most) where
 back:=by
  intro n m hn
  unfold numD
  rw[rd_num (by omega) m,if_neg (by simp),if_neg (by omega)]
  simp
 sound:=by
  intro l n m hd
  unfold numD at hd
  by_cases h0:(rd l).2.2≠0
  ·rw[if_pos h0] at hd;cases hd
  ·rw[if_neg h0] at hd
   by_cases h1:most<(rd l).1
   ·rw[if_pos h1] at hd;cases hd
   ·rw[if_neg h1] at hd
    simp only[Sum.inr.injEq,Prod.mk.injEq] at hd
    obtain⟨rfl,rfl⟩:=hd
    have h2:=rd_ok (by simpa using h0)
    refine⟨by omega,?_⟩
    rw[h2.2.2.2.1,List.take_append_drop]
 cut:=by
  intro n k hn hk
  have h2:=rd_ok (l:=num n) (by have:=rd_num (n:=n) (by omega) [];rw[List.append_nil] at this;rw[this])
  have h3:rd (num n)=(n,(num n).length,0):=by have:=rd_num (n:=n) (by omega) [];rwa [List.append_nil] at this
  have h4:=h2.2.2.2.2 k (by rw[h3];exact hk)
  unfold numD
  rw[h4];simp
section
variable (U : ByteArray → Bool)
end
end Go.Proofs.YtiekgafopalfmaaGreatDoor
namespace Go.Proofs.YtiekgafopalfmaaGreatDoor
theorem bindD_assoc {α β γ:Type} (d:Dec α) (f:α→Dec β) (g:β→Dec γ):bindD (bindD d f) g=bindD d fun a=>bindD (f a) g:=by
 funext l
 unfold bindD
 cases d l <;> rfl
def rowsD {α:Type} (most:Nat) (d:Dec α):Dec (List α):=bindD (numD most) fun n=>repD d n
def rowsE' {α:Type} (e:α→List UInt8) (l:List α):List UInt8:=num l.length++l.flatMap e
theorem Codec.rows {α:Type}{P:α→Prop}{enc:α→List UInt8}{dec:Dec α} (c:Codec P enc dec) (most:Nat) (h:most<18446744073709551616):Codec (fun l:List α=>l.length≤most∧∀x∈l,P x) (rowsE' enc) (rowsD most dec):=by
 have c1:=Codec.seq (numC most h) (fun n _=>c.rep n)
 have c2:=Codec.iso c1 (fun x=>x.2) (fun l=>(l.length,l)) (fun l:List α=>l.length≤most∧∀x∈l,P x) (fun l hl=>⟨⟨hl.1,rfl,hl.2⟩,rfl⟩) (fun x hx=>by
  obtain⟨n,l⟩:=x
  obtain⟨h1,h2,h3⟩:=hx
  simp only at h1 h2 h3
  subst h2
  exact⟨⟨h1,h3⟩,rfl⟩)
 have e:rowsD most dec=bindD (bindD (numD most) fun a=>bindD (repD dec a) fun b=>pureD (a,b)) fun a=>pureD a.2:=by
  unfold rowsD
  rw[bindD_assoc]
  congr 1
  funext n
  rw[bindD_assoc]
  funext l
  unfold bindD
  cases repD dec n l <;> rfl
 rw[e]
 exact c2
section
variable (U : ByteArray → Bool) (v : Int)
def okJob (j:JobD):Prop:=isNote U j.name=true∧zig j.prio≤4611686018427387904∧(0≤j.need∧j.need≤4611686018427387904)∧(if decide (1<v) then(0≤j.tries∧j.tries≤4611686018427387904) else j.tries=0)∧(if decide (2<v) then isNote U j.tag=true else j.tag=⟨#[]⟩)
def okNode (n:NodeD):Prop:=isNote U n.name=true∧(0≤n.room∧n.room≤4611686018427387904)∧(if decide (1<v) then isNote U n.zone=true else n.zone=⟨#[]⟩)
def okLease (l:LeaseD):Prop:=isNote U l.job=true∧isNote U l.node=true∧(0≤l.til∧l.til≤4611686018427387904)
def okSt (s:StD):Prop:=(if decide (2<v) then(0≤s.rev∧s.rev≤4611686018427387904) else s.rev=0)∧(s.jobs.length≤40∧∀x∈s.jobs,okJob U v x)∧(s.nodes.length≤20∧∀x∈s.nodes,okNode U v x)∧(s.leases.length≤40∧∀x∈s.leases,okLease U x)
end
theorem empty_of_size {s:ByteArray} (h:s.size=0):s=⟨#[]⟩:=by
 cases s with
 | mk d =>
  have:d.size=0:=h
  rw[Array.eq_empty_of_size_eq_zero this]
theorem isName_note {U:ByteArray→Bool}{s:ByteArray} (h:isName U s=true):isNote U s=true:=by
 unfold isName at h
 exact(Bool.and_eq_true _ _ ▸ h).2
theorem ok_of_valid {U:ByteArray→Bool}{v:Int}{s:StD} (h:Valid U s) (hf:fitsD s v=true):okSt U v s:=by
 simp only[fitsD,Bool.and_eq_true,Bool.or_eq_true,List.all_eq_true,decide_eq_true_eq] at hf
 obtain⟨⟨f1,f2⟩,f3⟩:=hf
 obtain⟨h1,⟨h2,h3,h4⟩,⟨hj,_⟩,⟨hn,_⟩,⟨hl,_⟩,_⟩:=h
 have noteJ:∀x,hasJob s.jobs x=true→isNote U x=true:=fun x hx=>by
  obtain⟨j,hj1,rfl⟩:=(hasJob_iff _ _).1 hx
  exact isName_note ((jobE_zero U j).1 (hj j hj1)).1.1
 have noteN:∀x,hasNode s.nodes x=true→isNote U x=true:=fun x hx=>by
  obtain⟨n,hn1,rfl⟩:=(hasNode_iff _ _).1 hx
  exact isName_note ((nodeE_zero U n).1 (hn n hn1)).1.1
 refine⟨?_,⟨h2,fun j hj'=>?_⟩,⟨h4,fun n hn'=>?_⟩,h3,fun l hl'=>?_⟩
 ·by_cases hv:2<v
  ·simp only[hv,decide_true,if_true];omega
  ·simp only[hv,decide_false,Bool.false_eq_true,if_false];omega
 ·have z:=(jobE_zero U j).1 (hj j hj')
  have f:=f2 j hj'
  refine⟨isName_note z.1.1,by unfold zig;split <;> omega,by omega,?_,?_⟩
  ·by_cases hv:1<v
   ·simp only[hv,decide_true,if_true];omega
   ·simp only[hv,decide_false,Bool.false_eq_true,if_false];omega
  ·by_cases hv:2<v
   ·simp only[hv,decide_true,if_true];exact z.1.2
   ·simp only[hv,decide_false,Bool.false_eq_true,if_false];exact empty_of_size (by omega)
 ·have z:=(nodeE_zero U n).1 (hn n hn')
  have f:=f3 n hn'
  refine⟨isName_note z.1.1,by omega,?_⟩
  by_cases hv:1<v
  ·simp only[hv,decide_true,if_true];exact z.1.2
  ·simp only[hv,decide_false,Bool.false_eq_true,if_false];exact empty_of_size (by omega)
 ·have z:=(leaseE_zero _ _ _).1 (hl l hl')
  exact⟨noteJ _ z.1,noteN _ z.2.1,by omega⟩
section
variable {U : ByteArray → Bool} {v : Int}
end
end Go.Proofs.YtiekgafopalfmaaGreatDoor
namespace Go.Proofs.YtiekgafopalfmaaGreatDoor
def NZ {α:Type} (d:Dec α):Prop:=∀l e,d l = .inl e→e≠0
end Go.Proofs.YtiekgafopalfmaaGreatDoor
namespace Go.Proofs.YtiekgafopalfmaaGreatDoor
open Go.RowKit Go.Lib
structure M where
 reading:Bool
 gs:List UInt8
 rest:ByteArray
 e:Nat
def M.fail (m:M) (e:Nat):M:={ m with e:=if m.e=0 then e else m.e }
def zJob:JobD:=⟨⟨#[]⟩,0,0,0,⟨#[]⟩⟩
def zNode:NodeD:=⟨⟨#[]⟩,0,⟨#[]⟩⟩
def zLease:LeaseD:=⟨⟨#[]⟩,⟨#[]⟩,0⟩
end Go.Proofs.YtiekgafopalfmaaGreatDoor
