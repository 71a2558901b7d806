import Derived.Test.YtiekgafopalfmaaGreatDoorPPkWi3
import Derived.Deep.RegionLaw
namespace Go.Proofs.YtiekgafopalfmaaGreatDoor
open Go.RowKit
theorem ownsRow_low {w:World}{B B' e size n:Nat}{v:Value}{xs:List Value} (h:w.ownsRow B e size v n xs) (hb:B'≤B):w.ownsRow B' e size v n xs:=by
 refine⟨h.1,?_⟩
 rcases h.2 with h0 | ⟨g,cap,cur,hv,hbg,r⟩
 ·exact .inl h0
 ·exact .inr ⟨g,cap,cur,hv,by omega,r⟩
end Go.Proofs.YtiekgafopalfmaaGreatDoor
namespace Go.Proofs.YtiekgafopalfmaaGreatDoor
open Go.RowKit
end Go.Proofs.YtiekgafopalfmaaGreatDoor
namespace Go.Proofs.YtiekgafopalfmaaGreatDoor
open Go.RowKit
theorem zag_in {n:Int} (h:zig n≤4611686018427387904):(Lit.int .i64 n).wf=true:=by
 unfold zig at h
 simp[Lit.wf,IntKind.min,IntKind.max,IntKind.signed,IntKind.bits]
 split at h <;> omega
theorem int_in {n:Int} (h:0≤n∧n≤4611686018427387904):(Lit.int .i64 n).wf=true:=by
 simp[Lit.wf,IntKind.min,IntKind.max,IntKind.signed,IntKind.bits];omega
theorem note_max {s:ByteArray} (h:isNote V8 s=true):s.size≤maxLen:=by have:=note_size h;unfold maxLen;omega
theorem wState_ok {v:Int}{s:StD} (h:okSt V8 v s):wState s:=by
 obtain⟨h1,⟨_,h2⟩,⟨_,h3⟩,⟨_,h4⟩⟩:=h
 refine⟨?_,fun x hx=>?_,fun x hx=>?_,fun x hx=>?_⟩
 ·split at h1
  ·exact int_in h1
  ·rw[h1];decide
 ·obtain⟨a,b,c,d,e⟩:=h2 x hx
  refine⟨note_max a,zag_in b,int_in c,?_,?_⟩
  ·split at d
   ·exact int_in d
   ·rw[d];decide
  ·split at e
   ·exact note_max e
   ·rw[e];exact Nat.zero_le _
 ·obtain⟨a,b,c⟩:=h3 x hx
  refine⟨note_max a,int_in b,?_⟩
  split at c
  ·exact note_max c
  ·rw[c];exact Nat.zero_le _
 ·obtain⟨a,b,c⟩:=h4 x hx
  exact⟨note_max a,note_max b,int_in c⟩
end Go.Proofs.YtiekgafopalfmaaGreatDoor
