import Derived.Test.YtiekgafopalfmaaGreatDoorPPkDl2
import Derived.Test.YtiekgafopalfmaaGreatDoorPPkStR
namespace Go.Proofs.YtiekgafopalfmaaGreatDoor
open Go.RowKit
set_option maxRecDepth 100000 in
set_option maxHeartbeats 1000000 in
theorem rleaseCheck_is (x:LeaseD) (w:World):Calls Tryz.prog 91 #[.agg #[.string x.job,.string x.node,.int .i64 x.til]] w fun e w'=>e = .returned (.int .i64 (leaseCE V8 x:Nat))∧Below w.heap.size w w':=by
 have bW:=below_one w (.cells #[.string x.job,.string x.node,.int .i64 x.til] 42)
 have H1:=Lib.hid (risName_is x.job)
 have H2:=Lib.hid (risName_is x.node)
 have H3:=Lib.hid (outside_is x.til 0 1099511627776)
 obtain⟨c1,h1⟩:∃c,isName V8 x.job=c:=⟨_,rfl⟩
 obtain⟨c2,h2⟩:∃c,isName V8 x.node=c:=⟨_,rfl⟩
 obtain⟨d0,g0⟩:∃d,inR x.til 0 1099511627776=d:=⟨_,rfl⟩
 have HE:Hid (leaseCE V8 x=if (c1&&c2)=true then(if d0=true then 0 else 1) else 4):=by show _=_;rw[leaseCE,h1,h2,g0]
 obtain⟨R,hR⟩:∃R,leaseCE V8 x=R:=⟨_,rfl⟩
 rw[hR] at HE⊢
 rw[h1] at H1
 rw[h2] at H2
 rw[g0] at H3
 clear h1 h2 hR g0
 cases c1 with
 | false =>
  go_enter Tryz.func91,Tryz.ntmps91
  go_wp2_with fail
  refine(H1.out _).mono ?_
  rintro e w1 ⟨rfl,rfl⟩
  go_wp2
  go_ret
  exact⟨by rw[HE.out];rfl,bW⟩
 | true =>
  go_enter Tryz.func91,Tryz.ntmps91
  go_wp2_with fail
  refine(H1.out _).mono ?_
  rintro e w1 ⟨rfl,rfl⟩
  go_wp2_with fail
  refine(H2.out _).mono ?_
  rintro e w1 ⟨rfl,rfl⟩
  cases c2 with
  | false =>
   go_wp2
   go_ret
   exact⟨by rw[HE.out];rfl,bW⟩
  | true =>
   go_wp2_with fail
   refine(H3.out _).mono ?_
   rintro e w1 ⟨rfl,rfl⟩
   cases d0 with
   | false =>
    go_wp2
    go_ret
    exact⟨by rw[HE.out];rfl,bW⟩
   | true =>
    go_wp2
    go_ret
    exact⟨by rw[HE.out];rfl,bW⟩
end Go.Proofs.YtiekgafopalfmaaGreatDoor
