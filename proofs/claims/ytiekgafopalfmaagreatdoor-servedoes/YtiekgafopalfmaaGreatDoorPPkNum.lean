import Derived.Laws.BitsAllLaws
import Derived.Laws.Bits64
import Derived.IntWalk
import Derived.Test.YtiekgafopalfmaaGreatDoorRows
import Derived.WalkKit
import Derived.WalkSpells
import Derived.ProofKit
import Derived.Below
import Derived.Lib.Hide
import Derived.Laws.IdiomStrings
namespace Go.Proofs.YtiekgafopalfmaaGreatDoor
open Go.RowKit
def zig (n:Int):Int:=if n<0 then -2*n - 1 else 2*n
def num (n:Nat):List UInt8:=if n<128 then [UInt8.ofNat n] else UInt8.ofNat (n % 128+128) :: num (n / 128)
termination_by n
decreasing_by omega
def rdGo:List UInt8→Nat→Nat→Nat×Nat×Nat
 | [],_,_=>(0,0,3)
 | c :: r,i,n=>if (c.toNat=0∧0<i)∨(i=9∧2≤c.toNat) then(0,0,4) else if c.toNat<128 then(n+c.toNat*128 ^ i,i+1,0) else rdGo r (i+1) (n+c.toNat % 128*128 ^ i)
def rd (s:List UInt8):Nat×Nat×Nat:=rdGo s 0 0
theorem num_lt {n:Nat} (h:n<128):num n = [UInt8.ofNat n]:=by rw[num,if_pos h]
theorem num_ge {n:Nat} (h:¬n<128):num n=UInt8.ofNat (n % 128+128) :: num (n / 128):=by rw[num,if_neg h]
theorem rdGo_num:∀(k n i m:Nat) (more:List UInt8),n<128 ^ (k+1)→(0<i→n≠0)→i+k≤9→n*128 ^ i<18446744073709551616→rdGo (num n++more) i m=(m+n*128 ^ i,i+(num n).length,0):=by
 intro k
 induction k with
 | zero =>
  intro n i m more h h0 hk hn
  have h1:n<128:=by omega
  rw[num_lt h1]
  have e:(UInt8.ofNat n).toNat=n:=by simp;omega
  have h9:i=9→n<2:=by
   intro hi;subst hi
   have:(128:Nat) ^ 9=9223372036854775808:=by decide
   rw[this] at hn;omega
  simp only[List.singleton_append,rdGo,e]
  rw[if_neg (by omega),if_pos h1];simp
 | succ k ih =>
  intro n i m more h h0 hk hn
  by_cases h1:n<128
  ·rw[num_lt h1]
   have e:(UInt8.ofNat n).toNat=n:=by simp;omega
   have h9:i=9→n<2:=by omega
   simp only[List.singleton_append,rdGo,e]
   rw[if_neg (by omega),if_pos h1];simp
  ·rw[num_ge h1]
   have e:(UInt8.ofNat (n % 128+128)).toNat=n % 128+128:=by simp;omega
   simp only[List.cons_append,rdGo,e]
   rw[if_neg (by omega),if_neg (by omega)]
   have hlt:n / 128<128 ^ (k+1):=by rw[Nat.div_lt_iff_lt_mul (by omega)];rwa [Nat.pow_succ] at h
   have e2:n / 128*128 ^ (i+1)=(n / 128*128)*128 ^ i:=by rw[Nat.pow_succ];rw[Nat.mul_comm (128 ^ i) 128,Nat.mul_assoc]
   have hle:n / 128*128 ^ (i+1)≤n*128 ^ i:=by rw[e2];exact Nat.mul_le_mul_right _ (by omega)
   rw[ih (n / 128) (i+1) _ more hlt (by omega) (by omega) (by omega)]
   have e3:(n % 128+128) % 128=n % 128:=by omega
   rw[e3,e2]
   have e4:m+n % 128*128 ^ i+n / 128*128*128 ^ i=m+n*128 ^ i:=by
    have:n*128 ^ i=(n % 128+n / 128*128)*128 ^ i:=by congr 1;omega
    rw[this,Nat.add_mul];omega
   rw[e4];simp;omega
theorem rd_num {n:Nat} (h:n<18446744073709551616) (more:List UInt8):rd (num n++more)=(n,(num n).length,0):=by
 have:=rdGo_num 9 n 0 0 more (by omega) (by omega) (by omega) (by omega)
 simpa [rd] using this
end Go.Proofs.YtiekgafopalfmaaGreatDoor
namespace Go.Proofs.YtiekgafopalfmaaGreatDoor
theorem rdGo_ok:∀(l:List UInt8) (i m:Nat),i≤9→m<128 ^ i→(rdGo l i m).2.2=0 →
  ∃v,(rdGo l i m).1=m+v*128 ^ i∧(rdGo l i m).2.1=i+(num v).length∧(num v).length≤l.length∧num v=l.take (num v).length∧(0<i→v≠0)∧v*128 ^ i<18446744073709551616∧m+v*128 ^ i<18446744073709551616∧∀j m',j<(num v).length→rdGo (l.take j) i m'=(0,0,3):=by
 intro l
 induction l with
 | nil=>intro i m _ _ h;simp[rdGo] at h
 | cons c r ih =>
  intro i m hi hm h
  have hc:=c.toNat_lt
  have p9:i<9→(128:Nat) ^ i*128≤9223372036854775808:=by
   intro h9
   have:(128:Nat) ^ i≤128 ^ 8:=Nat.pow_le_pow_right (by omega) (by omega)
   omega
  have e9:(128:Nat) ^ 9=9223372036854775808:=by decide
  rw[rdGo] at h⊢
  by_cases h1:(c.toNat=0∧0<i)∨(i=9∧2≤c.toNat)
  ·rw[if_pos h1] at h;simp at h
  ·rw[if_neg h1] at h⊢
   by_cases h2:c.toNat<128
   ·rw[if_pos h2]
    have hn:num c.toNat = [c]:=by rw[num_lt h2];simp
    have hb:m+c.toNat*128 ^ i<18446744073709551616:=by
     by_cases h9:i<9
     ·have:=p9 h9
      have:c.toNat*128 ^ i≤127*128 ^ i:=Nat.mul_le_mul_right _ (by omega)
      omega
     ·obtain rfl:i=9:=by omega
      rw[e9] at *
      have:c.toNat*9223372036854775808≤1*9223372036854775808:=Nat.mul_le_mul_right _ (by omega)
      omega
    refine⟨c.toNat,rfl,by rw[hn];rfl,by rw[hn];simp,by rw[hn];simp,by omega,by omega,hb,?_⟩
    intro j m' hj
    rw[hn] at hj
    obtain rfl:j=0:=by simp at hj;omega
    simp[rdGo]
   ·rw[if_neg h2] at h⊢
    have hi9:i<9:=by omega
    have hm':m+c.toNat % 128*128 ^ i<128 ^ (i+1):=by
     have:c.toNat % 128*128 ^ i≤127*128 ^ i:=Nat.mul_le_mul_right _ (by omega)
     rw[Nat.pow_succ];omega
    obtain⟨v,a1,a2,a3,a4,a5,a6,a7,a8⟩:=ih (i+1) (m+c.toNat % 128*128 ^ i) (by omega) hm' h
    have hv:=a5 (by omega)
    have hnum:num (c.toNat % 128+128*v)=c :: num v:=by
     rw[num_ge (by omega)]
     have e1:(c.toNat % 128+128*v) / 128=v:=by omega
     have e2:(c.toNat % 128+128*v) % 128+128=c.toNat:=by omega
     rw[e1,e2];simp
    have e3:(c.toNat % 128+128*v)*128 ^ i=c.toNat % 128*128 ^ i+v*128 ^ (i+1):=by
     rw[Nat.add_mul,Nat.pow_succ,Nat.mul_comm 128 v,Nat.mul_assoc,Nat.mul_comm 128 (128 ^ i)]
    refine⟨c.toNat % 128+128*v,by rw[a1,e3];omega,by rw[a2,hnum];simp;omega,by rw[hnum];simpa using a3,by rw[hnum];simpa using a4,by omega,by rw[e3];omega,by rw[e3];omega,?_⟩
    intro j m' hj
    rw[hnum] at hj
    cases j with
    | zero=>simp[rdGo]
    | succ j =>
     rw[List.take_succ_cons,rdGo,if_neg h1,if_neg h2]
     exact a8 j _ (by simpa using hj)
theorem rd_ok {l:List UInt8} (h:(rd l).2.2=0):(rd l).1<18446744073709551616∧(rd l).2.1=(num (rd l).1).length∧(rd l).2.1≤l.length∧num (rd l).1=l.take (rd l).2.1∧∀j,j<(rd l).2.1→rd (l.take j)=(0,0,3):=by
 obtain⟨v,a1,a2,a3,a4,_,_,a7,a8⟩:=rdGo_ok l 0 0 (by omega) (by omega) h
 have e:(rd l).1=v:=by show(rdGo l 0 0).1=v;rw[a1];omega
 have e2:(rd l).2.1=(num v).length:=by show(rdGo l 0 0).2.1=_;rw[a2];omega
 rw[e,e2]
 exact⟨by omega,rfl,a3,a4,fun j hj=>a8 j 0 hj⟩
end Go.Proofs.YtiekgafopalfmaaGreatDoor
namespace Go.Proofs.YtiekgafopalfmaaGreatDoor
open Go.RowKit
end Go.Proofs.YtiekgafopalfmaaGreatDoor
namespace Go.Proofs.YtiekgafopalfmaaGreatDoor
open Go.RowKit
end Go.Proofs.YtiekgafopalfmaaGreatDoor
namespace Go.Proofs.YtiekgafopalfmaaGreatDoor
open Go.RowKit
end Go.Proofs.YtiekgafopalfmaaGreatDoor
namespace Go.Proofs.YtiekgafopalfmaaGreatDoor
open Go.RowKit
end Go.Proofs.YtiekgafopalfmaaGreatDoor
namespace Go.Proofs.YtiekgafopalfmaaGreatDoor
open Go.RowKit
end Go.Proofs.YtiekgafopalfmaaGreatDoor
