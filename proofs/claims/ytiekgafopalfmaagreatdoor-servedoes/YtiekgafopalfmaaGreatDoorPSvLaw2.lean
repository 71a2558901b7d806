import Derived.Test.YtiekgafopalfmaaGreatDoorPPkSv5
import Derived.Test.YtiekgafopalfmaaGreatDoorPPkSv2
namespace Go.Proofs.YtiekgafopalfmaaGreatDoor
open Go.RowKit Go.Lib
def DoTo (b:Nat) (X X':World):Prop:=∃v w5,SvAt b v X∧X.grownBy w5 (some b)∧Below w5.heap.size w5 X'
theorem doTo_obj {b N:Nat}{X X':World}{vs:Array Value}{t:TypeId} (h:DoTo b X X') (o:ObjAt N vs t X) (ht:t≠59):ObjAt N vs t X':=by
 obtain⟨v,w5,sv,g,k⟩:=h
 exact objAt_next (objAt_gN o (svNe sv o ht) g) k
theorem do_done {w0 X w5:World}{b:Nat}{v:SvD}{q:ReqD} (h:SvIn w0 b v X) (s5:SvAt b (doR V8 v.s v.now q).1 w5) (g:X.grownBy w5 (some b)) (rc dc:Array Value) :
  SvIn w0 b (doR V8 v.s v.now q).1 ((w5.alloc (.cells rc 46)).alloc (.cells dc 49))∧DoTo b X ((w5.alloc (.cells rc 46)).alloc (.cells dc 49))∧ObjAt w5.heap.size rc 46 ((w5.alloc (.cells rc 46)).alloc (.cells dc 49)):=by
 have b1:=below_one w5 (.cells rc 46)
 have b2:=below_one (w5.alloc (.cells rc 46)) (.cells dc 49)
 have bx:=below_trans b1 b2 (by simp)
 exact⟨svIn_next (svIn_do h s5 g) bx,⟨v,w5,h.1,g,bx⟩,objAt_next (objAt_new w5 rc 46) b2⟩
theorem small4 {s:StD} (h:checkE V8 s=0):s.jobs.length≤140737488355328∧s.nodes.length≤140737488355328∧s.leases.length≤140737488355328:=by
 have:=(small_sv h).1
 omega
theorem svState_in {w0 X:World}{b:Nat}{v:SvD} (h:SvIn w0 b v X):Calls Tryz.prog 12 #[.pointer (some ⟨b,0,none⟩)] X fun e w'=>∃aj an al cj cn cl,e = .returned (.agg #[.int .i64 v.s.rev,.slice aj v.s.jobs.length cj,.slice an v.s.nodes.length cn,.slice al v.s.leases.length cl])∧OwnS X.heap.size aj an al cj cn cl v.s w'∧Below X.heap.size X w' :=
 svState_is b v h.2.1 X h.1
end Go.Proofs.YtiekgafopalfmaaGreatDoor
