import Derived.Test.YtiekgafopalfmaaGreatDoorPPkWi1
import Derived.Test.YtiekgafopalfmaaGreatDoorPPkNum
import Derived.Test.YtiekgafopalfmaaGreatDoorPPkSt1
import Derived.Lib.AppendStr
import Derived.Deep.RegionLaw
import Derived.Test.YtiekgafopalfmaaGreatDoorPPkTxt
import Derived.Test.YtiekgafopalfmaaGreatDoorPPkSt2
namespace Go.Proofs.YtiekgafopalfmaaGreatDoor
open Go.RowKit Go.Lib
def ObjAt (b:Nat) (vs:Array Value) (t:TypeId) (w:World):Prop:=w.heap[b]?=some (.cells vs t (0,0))
theorem objAt_new (w:World) (vs:Array Value) (t:TypeId):ObjAt w.heap.size vs t (w.alloc (.cells vs t)):=heap_alloc_new w _
theorem objAt_lt {b:Nat}{vs:Array Value}{t:TypeId}{w:World} (h:ObjAt b vs t w):b<w.heap.size:=(Array.getElem?_eq_some_iff.1 h).1
theorem objAt_cell {b:Nat}{vs:Array Value}{t:TypeId}{w:World} (h:ObjAt b vs t w) (j:Nat){v:Value} (hj:vs[j]?=some v):w.cell? ⟨b,j,none⟩=some v:=by
 unfold World.cell?
 rw[show w.heap[(⟨b,j,none⟩:Addr).block]?=some (.cells vs t (0,0)) from h]
 exact hj
theorem objAt_free {b:Nat}{vs:Array Value}{t:TypeId}{w:World} (h:ObjAt b vs t w) (j:Nat):w.frozen? ⟨b,j,none⟩=false:=by
 unfold World.frozen?
 rw[show w.heap[(⟨b,j,none⟩:Addr).block]?=some (.cells vs t (0,0)) from h]
 simp
theorem objAt_set {b:Nat}{vs:Array Value}{t:TypeId}{w:World} (h:ObjAt b vs t w) (j:Nat) (u:Value):ObjAt b (vs.setIfInBounds j u) t (w.setCell ⟨b,j,none⟩ u):=by
 unfold ObjAt World.setCell
 simp only[Array.getElem?_modify,if_true]
 rw[show w.heap[b]?=some (.cells vs t (0,0)) from h]
 rfl
theorem objAt_other {b c:Nat}{vs:Array Value}{t:TypeId}{w:World} (h:ObjAt b vs t w) (hne:b≠c) (j:Nat) (u:Value):ObjAt b vs t (w.setCell ⟨c,j,none⟩ u):=by
 unfold ObjAt at h⊢
 rw[Below.heap_setCell w ⟨c,j,none⟩ u b (by exact hne)]
 exact h
theorem objAt_next {b:Nat}{vs:Array Value}{t:TypeId}{w w':World} (h:ObjAt b vs t w) (hb:Below w.heap.size w w'):ObjAt b vs t w':=by
 unfold ObjAt at h⊢
 rw[hb.block b (objAt_lt h)]
 exact h
theorem objAt_drew {b:Nat}{vs:Array Value}{t:TypeId}{w:World} (h:ObjAt b vs t w):ObjAt b vs t w.drew:=h
end Go.Proofs.YtiekgafopalfmaaGreatDoor
namespace Go.Proofs.YtiekgafopalfmaaGreatDoor
open Go.RowKit Go.Lib
theorem ownRow_slice {w:World}{base e sz n:Nat}{v:Value}{xs:List Value} (h:w.ownsRow base e sz v n xs):∃ad cap,v = .slice ad n cap:=by
 rcases h.2 with ⟨rfl,rfl⟩ | ⟨g,cap,cur,rfl,_⟩
 ·exact⟨_,_,rfl⟩
 ·exact⟨_,_,rfl⟩
end Go.Proofs.YtiekgafopalfmaaGreatDoor
namespace Go.Proofs.YtiekgafopalfmaaGreatDoor
open Go.RowKit Go.Lib
theorem note_size {s:ByteArray} (h:isNote V8 s=true):s.size≤16:=by
 simp only[isNote,Bool.and_eq_true,decide_eq_true_eq] at h
 exact h.1
end Go.Proofs.YtiekgafopalfmaaGreatDoor
