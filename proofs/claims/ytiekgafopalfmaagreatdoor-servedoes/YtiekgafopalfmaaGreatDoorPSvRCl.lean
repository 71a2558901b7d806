import Derived.Test.YtiekgafopalfmaaGreatDoorPSvRWith
import Derived.Test.YtiekgafopalfmaaGreatDoorPPkSv1
import Derived.Test.YtiekgafopalfmaaGreatDoorPPkRq2
import Derived.Test.YtiekgafopalfmaaGreatDoorPPkWi5
set_option maxHeartbeats 1000000
namespace Go.Proofs.YtiekgafopalfmaaGreatDoor
open Go.RowKit Go.Lib
set_option linter.unusedVariables false
theorem nxBy2_is (x:JobD) (q:ReqD) (B:Nat) (w:World) (hq:ObjAt B #[.int .i64 q.kind,.string q.job.name,.int .i64 q.job.prio,.int .i64 q.job.need,.int .i64 q.job.tries,.string q.job.tag,.string q.node.name,.int .i64 q.node.room,.string q.node.zone,.string q.lease.job,.string q.lease.node,.int .i64 q.lease.til,.string q.name,.int .i64 q.n] 44 w):Calls Tryz.prog 61 #[.agg #[.string x.name,.int .i64 x.prio,.int .i64 x.need,.int .i64 x.tries,.string x.tag],.pointer (some ⟨B,0,none⟩)] w fun e w'=>e = .returned (.bool (decide (x.name=q.name)))∧Below w.heap.size w w':=by
 have bA:=below_one w (.cells #[.string x.name,.int .i64 x.prio,.int .i64 x.need,.int .i64 x.tries,.string x.tag] 38)
 have oX:=objAt_new w #[.string x.name,.int .i64 x.prio,.int .i64 x.need,.int .i64 x.tries,.string x.tag] 38
 have oQ:=objAt_next hq bA
 have d5:=objAt_cell oQ 12 rfl
 have x0:=objAt_cell oX 0 rfl
 have dl:=objAt_lt oQ
 have xl:=objAt_lt oX
 have BA:=Lib.hid bA
 clear bA oX oQ hq
 by_cases h:x.name=q.name
 ·have hd:decide (x.name=q.name)=true:=decide_eq_true h
  have hb:(x.name.toList==q.name.toList)=true:=by rw[h];simp
  rw[hd]
  clear h hd
  go_enter Tryz.func61,Tryz.ntmps61
  go_wp2
  go_ret
  exact⟨rfl,BA.out⟩
 ·have hd:decide (x.name=q.name)=false:=decide_eq_false h
  have hb:(x.name.toList==q.name.toList)=false:=lists_ne h
  rw[hd]
  clear h hd
  go_enter Tryz.func61,Tryz.ntmps61
  go_wp2
  go_ret
  exact⟨rfl,BA.out⟩
theorem nxBy3_is (x:LeaseD) (q:ReqD) (B:Nat) (w:World) (hq:ObjAt B #[.int .i64 q.kind,.string q.job.name,.int .i64 q.job.prio,.int .i64 q.job.need,.int .i64 q.job.tries,.string q.job.tag,.string q.node.name,.int .i64 q.node.room,.string q.node.zone,.string q.lease.job,.string q.lease.node,.int .i64 q.lease.til,.string q.name,.int .i64 q.n] 44 w):Calls Tryz.prog 62 #[.agg #[.string x.job,.string x.node,.int .i64 x.til],.pointer (some ⟨B,0,none⟩)] w fun e w'=>e = .returned (.bool (decide (x.job=q.name)))∧Below w.heap.size w w':=by
 have bA:=below_one w (.cells #[.string x.job,.string x.node,.int .i64 x.til] 42)
 have oX:=objAt_new w #[.string x.job,.string x.node,.int .i64 x.til] 42
 have oQ:=objAt_next hq bA
 have d5:=objAt_cell oQ 12 rfl
 have x0:=objAt_cell oX 0 rfl
 have dl:=objAt_lt oQ
 have xl:=objAt_lt oX
 have BA:=Lib.hid bA
 clear bA oX oQ hq
 by_cases h:x.job=q.name
 ·have hd:decide (x.job=q.name)=true:=decide_eq_true h
  have hb:(x.job.toList==q.name.toList)=true:=by rw[h];simp
  rw[hd]
  clear h hd
  go_enter Tryz.func62,Tryz.ntmps62
  go_wp2
  go_ret
  exact⟨rfl,BA.out⟩
 ·have hd:decide (x.job=q.name)=false:=decide_eq_false h
  have hb:(x.job.toList==q.name.toList)=false:=lists_ne h
  rw[hd]
  clear h hd
  go_enter Tryz.func62,Tryz.ntmps62
  go_wp2
  go_ret
  exact⟨rfl,BA.out⟩
theorem nxBy4_is (x:NodeD) (q:ReqD) (B:Nat) (w:World) (hq:ObjAt B #[.int .i64 q.kind,.string q.job.name,.int .i64 q.job.prio,.int .i64 q.job.need,.int .i64 q.job.tries,.string q.job.tag,.string q.node.name,.int .i64 q.node.room,.string q.node.zone,.string q.lease.job,.string q.lease.node,.int .i64 q.lease.til,.string q.name,.int .i64 q.n] 44 w):Calls Tryz.prog 64 #[.agg #[.string x.name,.int .i64 x.room,.string x.zone],.pointer (some ⟨B,0,none⟩)] w fun e w'=>e = .returned (.bool (decide (x.name=q.name)))∧Below w.heap.size w w':=by
 have bA:=below_one w (.cells #[.string x.name,.int .i64 x.room,.string x.zone] 40)
 have oX:=objAt_new w #[.string x.name,.int .i64 x.room,.string x.zone] 40
 have oQ:=objAt_next hq bA
 have d5:=objAt_cell oQ 12 rfl
 have x0:=objAt_cell oX 0 rfl
 have dl:=objAt_lt oQ
 have xl:=objAt_lt oX
 have BA:=Lib.hid bA
 clear bA oX oQ hq
 by_cases h:x.name=q.name
 ·have hd:decide (x.name=q.name)=true:=decide_eq_true h
  have hb:(x.name.toList==q.name.toList)=true:=by rw[h];simp
  rw[hd]
  clear h hd
  go_enter Tryz.func64,Tryz.ntmps64
  go_wp2
  go_ret
  exact⟨rfl,BA.out⟩
 ·have hd:decide (x.name=q.name)=false:=decide_eq_false h
  have hb:(x.name.toList==q.name.toList)=false:=lists_ne h
  rw[hd]
  clear h hd
  go_enter Tryz.func64,Tryz.ntmps64
  go_wp2
  go_ret
  exact⟨rfl,BA.out⟩
theorem nxBy5_is (x:LeaseD) (q:ReqD) (B:Nat) (w:World) (hq:ObjAt B #[.int .i64 q.kind,.string q.job.name,.int .i64 q.job.prio,.int .i64 q.job.need,.int .i64 q.job.tries,.string q.job.tag,.string q.node.name,.int .i64 q.node.room,.string q.node.zone,.string q.lease.job,.string q.lease.node,.int .i64 q.lease.til,.string q.name,.int .i64 q.n] 44 w):Calls Tryz.prog 65 #[.agg #[.string x.job,.string x.node,.int .i64 x.til],.pointer (some ⟨B,0,none⟩)] w fun e w'=>e = .returned (.bool (decide (x.node=q.name)))∧Below w.heap.size w w':=by
 have bA:=below_one w (.cells #[.string x.job,.string x.node,.int .i64 x.til] 42)
 have oX:=objAt_new w #[.string x.job,.string x.node,.int .i64 x.til] 42
 have oQ:=objAt_next hq bA
 have d5:=objAt_cell oQ 12 rfl
 have x0:=objAt_cell oX 1 rfl
 have dl:=objAt_lt oQ
 have xl:=objAt_lt oX
 have BA:=Lib.hid bA
 clear bA oX oQ hq
 by_cases h:x.node=q.name
 ·have hd:decide (x.node=q.name)=true:=decide_eq_true h
  have hb:(x.node.toList==q.name.toList)=true:=by rw[h];simp
  rw[hd]
  clear h hd
  go_enter Tryz.func65,Tryz.ntmps65
  go_wp2
  go_ret
  exact⟨rfl,BA.out⟩
 ·have hd:decide (x.node=q.name)=false:=decide_eq_false h
  have hb:(x.node.toList==q.name.toList)=false:=lists_ne h
  rw[hd]
  clear h hd
  go_enter Tryz.func65,Tryz.ntmps65
  go_wp2
  go_ret
  exact⟨rfl,BA.out⟩
theorem nxBy6_is (x:LeaseD) (q:ReqD) (B:Nat) (w:World) (hq:ObjAt B #[.int .i64 q.kind,.string q.job.name,.int .i64 q.job.prio,.int .i64 q.job.need,.int .i64 q.job.tries,.string q.job.tag,.string q.node.name,.int .i64 q.node.room,.string q.node.zone,.string q.lease.job,.string q.lease.node,.int .i64 q.lease.til,.string q.name,.int .i64 q.n] 44 w):Calls Tryz.prog 69 #[.agg #[.string x.job,.string x.node,.int .i64 x.til],.pointer (some ⟨B,0,none⟩)] w fun e w'=>e = .returned (.bool (decide (x.job=q.name)))∧Below w.heap.size w w':=by
 have bA:=below_one w (.cells #[.string x.job,.string x.node,.int .i64 x.til] 42)
 have oX:=objAt_new w #[.string x.job,.string x.node,.int .i64 x.til] 42
 have oQ:=objAt_next hq bA
 have d5:=objAt_cell oQ 12 rfl
 have x0:=objAt_cell oX 0 rfl
 have dl:=objAt_lt oQ
 have xl:=objAt_lt oX
 have BA:=Lib.hid bA
 clear bA oX oQ hq
 by_cases h:x.job=q.name
 ·have hd:decide (x.job=q.name)=true:=decide_eq_true h
  have hb:(x.job.toList==q.name.toList)=true:=by rw[h];simp
  rw[hd]
  clear h hd
  go_enter Tryz.func69,Tryz.ntmps69
  go_wp2
  go_ret
  exact⟨rfl,BA.out⟩
 ·have hd:decide (x.job=q.name)=false:=decide_eq_false h
  have hb:(x.job.toList==q.name.toList)=false:=lists_ne h
  rw[hd]
  clear h hd
  go_enter Tryz.func69,Tryz.ntmps69
  go_wp2
  go_ret
  exact⟨rfl,BA.out⟩
theorem nxBy7_is (x:LeaseD) (t:Int) (B:Nat) (w:World) (hq:ObjAt B #[.int .i64 t] 3 w):Calls Tryz.prog 70 #[.agg #[.string x.job,.string x.node,.int .i64 x.til],.pointer (some ⟨B,0,none⟩)] w fun e w'=>e = .returned (.bool (decide (x.til≤t)))∧Below w.heap.size w w':=by
 have bA:=below_one w (.cells #[.string x.job,.string x.node,.int .i64 x.til] 42)
 have oX:=objAt_new w #[.string x.job,.string x.node,.int .i64 x.til] 42
 have oQ:=objAt_next hq bA
 have d5:=objAt_cell oQ 0 rfl
 have x0:=objAt_cell oX 2 rfl
 have dl:=objAt_lt oQ
 have xl:=objAt_lt oX
 have BA:=Lib.hid bA
 clear bA oX oQ hq
 go_enter Tryz.func70,Tryz.ntmps70
 go_wp2
 go_ret
 exact⟨rfl,BA.out⟩
theorem nxLeases_is (g:Nat) (lb:Array Value) (eg:∀args w,(callFunc g args).run Tryz.prog w = .ok (.enter g args) w) (p:LeaseD→Bool) (l:List LeaseD) (al:Option Addr) (cl:Nat) (hl:l.length≤80) (S N:Nat) (a0 a1 a2 a4 t0 t1 t2 t3:Value) (w:World)
  (hp:∀x W,Below w.heap.size w W→Calls Tryz.prog g (#[.agg #[.string x.job,.string x.node,.int .i64 x.til]]++lb) W fun e w'=>e = .returned (.bool (p x))∧Below W.heap.size W w') (hx:LeasesAt w al l) (hs:ObjAt S #[a0,a1,a2,.slice al l.length cl,a4] 36 w) (hn:ObjAt N #[t0,t1,t2,t3] 26 w) :
  Calls Tryz.prog 54 #[.func (.func g) #[] lb,.pointer (some ⟨S,0,none⟩),.pointer (some ⟨N,0,none⟩)] w fun e w'=>∃W ad' cap',e = .returned (.tuple #[])∧W.ownsRow w.heap.size 42 3 (.slice ad' (l.filter fun x => !p x).length cap') (l.filter fun x => !p x).length (cLeases (l.filter fun x => !p x))∧Below w.heap.size w W∧w'=W.setCell ⟨N,3,none⟩ (.slice ad' (l.filter fun x => !p x).length cap'):=by
 have CW:=Lib.hid (rwithoutLease_is g lb eg p l al cl hl w hp hx)
 have s3:=objAt_cell hs 3 rfl
 have sl:=objAt_lt hs
 have HN:=Lib.hid hn
 clear hp hx hs hn
 go_enter Tryz.func54,Tryz.ntmps54
 go_wp2_with fail
 refine CW.out.mono ?_
 rintro e W ⟨ad',cap',rfl,o,b⟩
 have oN:=objAt_next HN.out b
 have n3:=objAt_cell oN 3 rfl
 have f3:=objAt_free oN 3
 have nl:=objAt_lt oN
 have OO:=Lib.hid o
 have BB:=Lib.hid b
 clear o b oN s3 sl CW
 go_wp2
 exact bodyPost_end (results_none rfl _ _ _) rfl ⟨W,ad',cap',rfl,OO.out,BB.out,rfl⟩
end Go.Proofs.YtiekgafopalfmaaGreatDoor
