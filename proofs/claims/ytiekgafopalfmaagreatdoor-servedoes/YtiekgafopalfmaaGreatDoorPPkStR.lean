import Derived.Test.YtiekgafopalfmaaGreatDoorPPkSt2
import Derived.Test.YtiekgafopalfmaaGreatDoorPPkRef
import Derived.Test.YtiekgafopalfmaaGreatDoorPPkSt1
import Derived.Deep.QuietTactic
import Derived.BigQuiet
set_option maxRecDepth 100000
set_option maxHeartbeats 8000000
namespace Go.Proofs.YtiekgafopalfmaaGreatDoor
open Go.RowKit Go.Lib
theorem outside_is (n lo hi:Int) (w:World) :
  Calls Tryz.prog 17 #[.int .i64 n,.int .i64 lo,.int .i64 hi] w fun e w'=>e = .returned (.bool (!inR n lo hi))∧w=w':=by
 unfold inR
 by_cases h:lo≤n
 ·by_cases h2:n≤hi
  ·have h1:decide (n<lo)=false:=by simp;omega
   have h3:decide (hi<n)=false:=by simp;omega
   rw[decide_eq_true h,decide_eq_true h2]
   go_enter Tryz.func17,Tryz.ntmps17
   go_wp2
   go_ret
   exact⟨rfl,rfl⟩
  ·have h1:decide (n<lo)=false:=by simp;omega
   have h3:decide (hi<n)=true:=by simp;omega
   rw[decide_eq_true h,decide_eq_false h2]
   clear h2
   go_enter Tryz.func17,Tryz.ntmps17
   go_wp2
   go_ret
   exact⟨rfl,rfl⟩
 ·have h1:decide (n<lo)=true:=by simp;omega
  rw[decide_eq_false h]
  clear h
  go_enter Tryz.func17,Tryz.ntmps17
  go_wp2
  go_ret
  exact⟨by simp,rfl⟩
theorem risNote_is (s:ByteArray) (w:World):Calls Tryz.prog 80 #[.string s] w fun e w'=>e = .returned (.bool (isNote V8 s))∧w=w':=by
 by_cases h:s.size≤16
 ·have HV:=Lib.hid (isUTF8_is s (by omega) w)
  rw[note_yes h]
  change Hid (Calls _ _ _ _ fun e w'=>e = .returned (.bool (V8 s))∧_)at HV
  generalize V8 s=c at *
  go_enter Tryz.func80,Tryz.ntmps80
  go_wp2_with fail
  refine HV.out.mono ?_
  rintro e w1 ⟨rfl,rfl⟩
  go_wp2
  go_ret
  exact⟨rfl,rfl⟩
 ·rw[note_no h]
  go_enter Tryz.func80,Tryz.ntmps80
  go_wp2
  go_ret
  exact⟨rfl,rfl⟩
theorem risName_is (s:ByteArray) (w:World):Calls Tryz.prog 79 #[.string s] w fun e w'=>e = .returned (.bool (isName V8 s))∧w=w':=by
 by_cases h:s.size≠0
 ·have HV:=Lib.hid (risNote_is s w)
  rw[name_yes h]
  generalize isNote V8 s=c at *
  obtain⟨h1,h2⟩:=not_empty h
  clear h
  go_enter Tryz.func79,Tryz.ntmps79
  go_wp2_with fail
  refine HV.out.mono ?_
  rintro e w1 ⟨rfl,rfl⟩
  go_wp2
  go_ret
  exact⟨rfl,rfl⟩
 ·rw[name_no h]
  obtain rfl:=empty_size h
  go_enter Tryz.func79,Tryz.ntmps79
  go_wp2
  go_ret
  exact⟨rfl,rfl⟩
theorem rjobCheck_is (x:JobD) (w:World):Calls Tryz.prog 49 #[.agg #[.string x.name,.int .i64 x.prio,.int .i64 x.need,.int .i64 x.tries,.string x.tag]] w fun e w'=>e = .returned (.int .i64 (jobE V8 x:Nat))∧Below w.heap.size w w':=by
 obtain⟨c1,h1⟩:∃c,isName V8 x.name=c:=⟨_,rfl⟩
 obtain⟨c2,h2⟩:∃c,isNote V8 x.tag=c:=⟨_,rfl⟩
 have H1:=Lib.hid (risName_is x.name)
 have H2:=Lib.hid (risNote_is x.tag)
 rw[h1] at H1
 rw[h2] at H2
 obtain⟨d0,g0⟩:∃d,inR x.prio (-1000) 1000=d:=⟨_,rfl⟩
 have G0:=Lib.hid (outside_is x.prio (-1000) 1000)
 rw[g0] at G0
 obtain⟨d1,g1⟩:∃d,inR x.need (0) 1000000=d:=⟨_,rfl⟩
 have G1:=Lib.hid (outside_is x.need (0) 1000000)
 rw[g1] at G1
 obtain⟨d2,g2⟩:∃d,inR x.tries (0) 100=d:=⟨_,rfl⟩
 have G2:=Lib.hid (outside_is x.tries (0) 100)
 rw[g2] at G2
 have HE:Hid (jobE V8 x=if (c1&&c2)=true then(if (d0&&d1&&d2)=true then 0 else 1) else 4):=by show _=_;rw[jobE,h1,h2,g0,g1,g2]
 obtain⟨R,hR⟩:∃R,jobE V8 x=R:=⟨_,rfl⟩
 rw[hR] at HE⊢
 clear h1 h2 hR g0 g1 g2
 cases c1 with
 | false =>
  go_enter Tryz.func49,Tryz.ntmps49
  go_wp2_with fail
  refine(H1.out _).mono ?_
  rintro e w1 ⟨rfl,rfl⟩
  go_wp2
  go_ret
  exact⟨by rw[HE.out];rfl,below_one _ _⟩
 | true =>
  cases c2 with
  | false =>
   go_enter Tryz.func49,Tryz.ntmps49
   go_wp2_with fail
   refine(H1.out _).mono ?_
   rintro e w1 ⟨rfl,rfl⟩
   go_wp2_with fail
   refine(H2.out _).mono ?_
   rintro e w1 ⟨rfl,rfl⟩
   go_wp2
   go_ret
   exact⟨by rw[HE.out];rfl,below_one _ _⟩
  | true =>
   cases d0 with
   | false =>
    go_enter Tryz.func49,Tryz.ntmps49
    go_wp2_with fail
    refine(H1.out _).mono ?_
    rintro e w1 ⟨rfl,rfl⟩
    go_wp2_with fail
    refine(H2.out _).mono ?_
    rintro e w1 ⟨rfl,rfl⟩
    go_wp2_with fail
    refine(G0.out _).mono ?_
    rintro e w1 ⟨rfl,rfl⟩
    go_wp2
    go_ret
    exact⟨by rw[HE.out];rfl,below_one _ _⟩
   | true =>
    cases d1 with
    | false =>
     go_enter Tryz.func49,Tryz.ntmps49
     go_wp2_with fail
     refine(H1.out _).mono ?_
     rintro e w1 ⟨rfl,rfl⟩
     go_wp2_with fail
     refine(H2.out _).mono ?_
     rintro e w1 ⟨rfl,rfl⟩
     go_wp2_with fail
     refine(G0.out _).mono ?_
     rintro e w1 ⟨rfl,rfl⟩
     go_wp2_with fail
     refine(G1.out _).mono ?_
     rintro e w1 ⟨rfl,rfl⟩
     go_wp2
     go_ret
     exact⟨by rw[HE.out];rfl,below_one _ _⟩
    | true =>
     cases d2 with
     | false =>
      go_enter Tryz.func49,Tryz.ntmps49
      go_wp2_with fail
      refine(H1.out _).mono ?_
      rintro e w1 ⟨rfl,rfl⟩
      go_wp2_with fail
      refine(H2.out _).mono ?_
      rintro e w1 ⟨rfl,rfl⟩
      go_wp2_with fail
      refine(G0.out _).mono ?_
      rintro e w1 ⟨rfl,rfl⟩
      go_wp2_with fail
      refine(G1.out _).mono ?_
      rintro e w1 ⟨rfl,rfl⟩
      go_wp2_with fail
      refine(G2.out _).mono ?_
      rintro e w1 ⟨rfl,rfl⟩
      go_wp2
      go_ret
      exact⟨by rw[HE.out];rfl,below_one _ _⟩
     | true =>
      go_enter Tryz.func49,Tryz.ntmps49
      go_wp2_with fail
      refine(H1.out _).mono ?_
      rintro e w1 ⟨rfl,rfl⟩
      go_wp2_with fail
      refine(H2.out _).mono ?_
      rintro e w1 ⟨rfl,rfl⟩
      go_wp2_with fail
      refine(G0.out _).mono ?_
      rintro e w1 ⟨rfl,rfl⟩
      go_wp2_with fail
      refine(G1.out _).mono ?_
      rintro e w1 ⟨rfl,rfl⟩
      go_wp2_with fail
      refine(G2.out _).mono ?_
      rintro e w1 ⟨rfl,rfl⟩
      go_wp2
      go_ret
      exact⟨by rw[HE.out];rfl,below_one _ _⟩
theorem rnodeCheck_is (x:NodeD) (w:World):Calls Tryz.prog 50 #[.agg #[.string x.name,.int .i64 x.room,.string x.zone]] w fun e w'=>e = .returned (.int .i64 (nodeE V8 x:Nat))∧Below w.heap.size w w':=by
 obtain⟨c1,h1⟩:∃c,isName V8 x.name=c:=⟨_,rfl⟩
 obtain⟨c2,h2⟩:∃c,isNote V8 x.zone=c:=⟨_,rfl⟩
 have H1:=Lib.hid (risName_is x.name)
 have H2:=Lib.hid (risNote_is x.zone)
 rw[h1] at H1
 rw[h2] at H2
 obtain⟨d0,g0⟩:∃d,inR x.room (0) 1000000=d:=⟨_,rfl⟩
 have G0:=Lib.hid (outside_is x.room (0) 1000000)
 rw[g0] at G0
 have HE:Hid (nodeE V8 x=if (c1&&c2)=true then(if (d0)=true then 0 else 1) else 4):=by show _=_;rw[nodeE,h1,h2,g0]
 obtain⟨R,hR⟩:∃R,nodeE V8 x=R:=⟨_,rfl⟩
 rw[hR] at HE⊢
 clear h1 h2 hR g0
 cases c1 with
 | false =>
  go_enter Tryz.func50,Tryz.ntmps50
  go_wp2_with fail
  refine(H1.out _).mono ?_
  rintro e w1 ⟨rfl,rfl⟩
  go_wp2
  go_ret
  exact⟨by rw[HE.out];rfl,below_one _ _⟩
 | true =>
  cases c2 with
  | false =>
   go_enter Tryz.func50,Tryz.ntmps50
   go_wp2_with fail
   refine(H1.out _).mono ?_
   rintro e w1 ⟨rfl,rfl⟩
   go_wp2_with fail
   refine(H2.out _).mono ?_
   rintro e w1 ⟨rfl,rfl⟩
   go_wp2
   go_ret
   exact⟨by rw[HE.out];rfl,below_one _ _⟩
  | true =>
   cases d0 with
   | false =>
    go_enter Tryz.func50,Tryz.ntmps50
    go_wp2_with fail
    refine(H1.out _).mono ?_
    rintro e w1 ⟨rfl,rfl⟩
    go_wp2_with fail
    refine(H2.out _).mono ?_
    rintro e w1 ⟨rfl,rfl⟩
    go_wp2_with fail
    refine(G0.out _).mono ?_
    rintro e w1 ⟨rfl,rfl⟩
    go_wp2
    go_ret
    exact⟨by rw[HE.out];rfl,below_one _ _⟩
   | true =>
    go_enter Tryz.func50,Tryz.ntmps50
    go_wp2_with fail
    refine(H1.out _).mono ?_
    rintro e w1 ⟨rfl,rfl⟩
    go_wp2_with fail
    refine(H2.out _).mono ?_
    rintro e w1 ⟨rfl,rfl⟩
    go_wp2_with fail
    refine(G0.out _).mono ?_
    rintro e w1 ⟨rfl,rfl⟩
    go_wp2
    go_ret
    exact⟨by rw[HE.out];rfl,below_one _ _⟩
end Go.Proofs.YtiekgafopalfmaaGreatDoor
namespace Go.Proofs.YtiekgafopalfmaaGreatDoor
open Go.RowKit
theorem below_drewN {B:Nat}{w w':World} (h:Below B w w'){n:Nat}:Below B w (w'.drewN n):=by
 induction n with
 | zero=>exact h
 | succ n ih=>exact ih.drew
theorem jobsCheck_is (xs:List JobD) (ad:Option Addr) (cap:Nat) (hlen:xs.length≤40) (w:World) (hx:JobsAt w ad xs) :
  Calls Tryz.prog 18 #[.slice ad xs.length cap] w fun e w'=>e = .returned (.int .i64 (rowsE (jobE V8) (·.name) none xs:Nat))∧Below w.heap.size w w':=by
 obtain⟨R,hR⟩:∃R,rowsE (jobE V8) (·.name) none xs=R:=⟨_,rfl⟩
 rw[hR]
 have HR0:Hid (rowsE (jobE V8) (·.name) (prevK (·.name) xs 0) (xs.drop 0)=R):=hR
 have HX:=Lib.hid hx
 clear hR hx
 go_enter Tryz.func18,Tryz.ntmps18
 go_wp2
 go_loopw [8] (fun iv wr=>∃(i:Nat),iv = .int .i64 (i:Int)∧i≤xs.length∧Below w.heap.size w wr∧Hid (rowsE (jobE V8) (·.name) (prevK (·.name) xs i) (xs.drop i)=R)) (fun iv _=>xs.length - (intOf iv).toNat)
 case atStart=>exact⟨0,rfl,by omega,Below.refl _ _,HR0⟩
 case round =>
  obtain⟨i,rfl,hi,hbr,HR⟩:=hrel
  by_cases h:(i:Int)<(xs.length:Int)
  ·have hil:i<xs.length:=by omega
   obtain⟨a,rfl,hal,k0,k1,k2,k3,k4⟩:=jobsAt_next HX.out hbr i hil
   obtain⟨x,hxi⟩:∃x,xs[i]=x:=⟨_,rfl⟩
   rw[hxi] at k0 k1 k2 k3 k4
   have HCx:=Lib.hid (rjobCheck_is x (wr.alloc (.cells #[.string x.name,.int .i64 x.prio,.int .i64 x.need,.int .i64 x.tries,.string x.tag] 38)))
   obtain⟨e0,he0⟩:∃e0,jobE V8 x=e0:=⟨_,rfl⟩
   rw[he0] at HCx
   have Hxi:=Lib.hid hxi
   clear hxi
   go_wp2_with fail
   refine HCx.out.mono ?_
   rintro e w1 ⟨rfl,b1⟩
   have bx:=box_next (box_new5 wr (.string x.name) (.int .i64 x.prio) (.int .i64 x.need) (.int .i64 x.tries) (.string x.tag) 38) b1
   have hb1:Below w.heap.size w w1:=below_trans (hbr.alloc hbr.size _) b1 (by have:=hbr.size;simp;omega)
   by_cases h0:e0≠0
   ·have HR1:Hid (R=e0):=rows_stop hil HR.out (by rw[Hxi.out];exact he0) h0
    have hc:((e0:Int)!=0)=true:=by simp;omega
    go_wp2
    go_ret
    exact⟨by rw[HR1.out];rfl,hb1⟩
   ·have h0:e0=0:=by simpa using h0
    subst h0
    have c0:=bx.1 0 _ rfl
    have HE0:Hid (jobE V8 x=0):=he0
    clear he0 HCx k0 k1 k2 k3 k4 hal
    cases i with
    | zero =>
     have HR1:Hid (rowsE (jobE V8) (·.name) (prevK (·.name) xs 1) (xs.drop 1)=R):=rows_first hil HR.out (by rw[Hxi.out];exact HE0.out)
     go_wp2_with fail
     go_quiet (fail)
     go_wp2
     go_roundw
     case rel=>exact⟨1,by simp,by omega,below_drewN hb1,HR1⟩
     case measure=>simp[intOf];omega
    | succ m =>
     obtain⟨a',ha',hal,p0,p1,p2,p3,p4⟩:=jobsAt_next HX.out hb1 m (by omega)
     cases ha'
     obtain⟨y,hy⟩:∃y,xs[m]=y:=⟨_,rfl⟩
     rw[hy] at p0
     have hwr:IntKind.i64.wrap (m:Int)=(m:Int):=IntWalk.i64_in _ (by omega)
     have hm0:(0:Int)≤(m:Int):=by omega
     have hm1:(m:Int)<(xs.length:Int):=by omega
     have HY:Hid (xs[m]=y):=hy
     clear hy bx b1 hal
     have hl:=less_toList y.name x.name
     go_wp2_with fail
     by_cases hlt:lt y.name x.name
     ·have HR1:Hid (rowsE (jobE V8) (·.name) (prevK (·.name) xs (m+1+1)) (xs.drop (m+1+1))=R):=rows_on hil HR.out (by rw[Hxi.out];exact HE0.out) (by rw[HY.out,Hxi.out];exact hlt)
      rw[decide_eq_true hlt] at hl
      clear hlt
      go_quiet (fail)
      go_wp2
      go_roundw
      case rel=>exact⟨m+1+1,by simp,by omega,below_drewN hb1,HR1⟩
      case measure=>simp[intOf];omega
     ·have HR1:Hid (R=8):=rows_bad hil HR.out (by rw[Hxi.out];exact HE0.out) (by rw[HY.out,Hxi.out];exact hlt)
      rw[decide_eq_false hlt] at hl
      clear hlt
      go_quiet (fail)
      go_wp2
      go_ret
      exact⟨by rw[HR1.out];rfl,below_drewN hb1⟩
  ·obtain rfl:i=xs.length:=by omega
   have HR1:Hid (0=R):=by have:=HR.out;rw[rowsE_end] at this;exact this
   go_wp2
   go_ret
   exact⟨by rw[←HR1.out];rfl,hbr⟩
theorem nodesCheck_is (xs:List NodeD) (ad:Option Addr) (cap:Nat) (hlen:xs.length≤40) (w:World) (hx:NodesAt w ad xs) :
  Calls Tryz.prog 19 #[.slice ad xs.length cap] w fun e w'=>e = .returned (.int .i64 (rowsE (nodeE V8) (·.name) none xs:Nat))∧Below w.heap.size w w':=by
 obtain⟨R,hR⟩:∃R,rowsE (nodeE V8) (·.name) none xs=R:=⟨_,rfl⟩
 rw[hR]
 have HR0:Hid (rowsE (nodeE V8) (·.name) (prevK (·.name) xs 0) (xs.drop 0)=R):=hR
 have HX:=Lib.hid hx
 clear hR hx
 go_enter Tryz.func19,Tryz.ntmps19
 go_wp2
 go_loopw [8] (fun iv wr=>∃(i:Nat),iv = .int .i64 (i:Int)∧i≤xs.length∧Below w.heap.size w wr∧Hid (rowsE (nodeE V8) (·.name) (prevK (·.name) xs i) (xs.drop i)=R)) (fun iv _=>xs.length - (intOf iv).toNat)
 case atStart=>exact⟨0,rfl,by omega,Below.refl _ _,HR0⟩
 case round =>
  obtain⟨i,rfl,hi,hbr,HR⟩:=hrel
  by_cases h:(i:Int)<(xs.length:Int)
  ·have hil:i<xs.length:=by omega
   obtain⟨a,rfl,hal,k0,k1,k2⟩:=nodesAt_next HX.out hbr i hil
   obtain⟨x,hxi⟩:∃x,xs[i]=x:=⟨_,rfl⟩
   rw[hxi] at k0 k1 k2
   have HCx:=Lib.hid (rnodeCheck_is x (wr.alloc (.cells #[.string x.name,.int .i64 x.room,.string x.zone] 40)))
   obtain⟨e0,he0⟩:∃e0,nodeE V8 x=e0:=⟨_,rfl⟩
   rw[he0] at HCx
   have Hxi:=Lib.hid hxi
   clear hxi
   go_wp2_with fail
   refine HCx.out.mono ?_
   rintro e w1 ⟨rfl,b1⟩
   have bx:=box_next (box_new3 wr (.string x.name) (.int .i64 x.room) (.string x.zone) 40) b1
   have hb1:Below w.heap.size w w1:=below_trans (hbr.alloc hbr.size _) b1 (by have:=hbr.size;simp;omega)
   by_cases h0:e0≠0
   ·have HR1:Hid (R=e0):=rows_stop hil HR.out (by rw[Hxi.out];exact he0) h0
    have hc:((e0:Int)!=0)=true:=by simp;omega
    go_wp2
    go_ret
    exact⟨by rw[HR1.out];rfl,hb1⟩
   ·have h0:e0=0:=by simpa using h0
    subst h0
    have c0:=bx.1 0 _ rfl
    have HE0:Hid (nodeE V8 x=0):=he0
    clear he0 HCx k0 k1 k2 hal
    cases i with
    | zero =>
     have HR1:Hid (rowsE (nodeE V8) (·.name) (prevK (·.name) xs 1) (xs.drop 1)=R):=rows_first hil HR.out (by rw[Hxi.out];exact HE0.out)
     go_wp2_with fail
     go_quiet (fail)
     go_wp2
     go_roundw
     case rel=>exact⟨1,by simp,by omega,below_drewN hb1,HR1⟩
     case measure=>simp[intOf];omega
    | succ m =>
     obtain⟨a',ha',hal,p0,p1,p2⟩:=nodesAt_next HX.out hb1 m (by omega)
     cases ha'
     obtain⟨y,hy⟩:∃y,xs[m]=y:=⟨_,rfl⟩
     rw[hy] at p0
     have hwr:IntKind.i64.wrap (m:Int)=(m:Int):=IntWalk.i64_in _ (by omega)
     have hm0:(0:Int)≤(m:Int):=by omega
     have hm1:(m:Int)<(xs.length:Int):=by omega
     have HY:Hid (xs[m]=y):=hy
     clear hy bx b1 hal
     have hl:=less_toList y.name x.name
     go_wp2_with fail
     by_cases hlt:lt y.name x.name
     ·have HR1:Hid (rowsE (nodeE V8) (·.name) (prevK (·.name) xs (m+1+1)) (xs.drop (m+1+1))=R):=rows_on hil HR.out (by rw[Hxi.out];exact HE0.out) (by rw[HY.out,Hxi.out];exact hlt)
      rw[decide_eq_true hlt] at hl
      clear hlt
      go_quiet (fail)
      go_wp2
      go_roundw
      case rel=>exact⟨m+1+1,by simp,by omega,below_drewN hb1,HR1⟩
      case measure=>simp[intOf];omega
     ·have HR1:Hid (R=8):=rows_bad hil HR.out (by rw[Hxi.out];exact HE0.out) (by rw[HY.out,Hxi.out];exact hlt)
      rw[decide_eq_false hlt] at hl
      clear hlt
      go_quiet (fail)
      go_wp2
      go_ret
      exact⟨by rw[HR1.out];rfl,below_drewN hb1⟩
  ·obtain rfl:i=xs.length:=by omega
   have HR1:Hid (0=R):=by have:=HR.out;rw[rowsE_end] at this;exact this
   go_wp2
   go_ret
   exact⟨by rw[←HR1.out];rfl,hbr⟩
end Go.Proofs.YtiekgafopalfmaaGreatDoor
namespace Go.Proofs.YtiekgafopalfmaaGreatDoor
open Go.RowKit
theorem jobAt_is (xs:List JobD) (ad:Option Addr) (cap:Nat) (hlen:xs.length≤140737488355328) (n:ByteArray) (w:World) (hx:JobsAt w ad xs) :
  Calls Tryz.prog 20 #[.slice ad xs.length cap,.string n] w fun e w'=>∃r,e = .returned (.int .i64 r)∧At (·.name) xs n r∧Below w.heap.size w w':=by
 have HX:=Lib.hid hx
 clear hx
 go_enter Tryz.func20,Tryz.ntmps20
 go_wp2
 go_loopw [9] (fun iv wr=>∃(i:Nat),iv = .int .i64 (i:Int)∧i≤xs.length∧Below w.heap.size w wr∧Hid (∀j,(hj:j<xs.length)→j<i→xs[j].name≠n)) (fun iv _=>xs.length - (intOf iv).toNat)
 case atStart=>exact⟨0,rfl,by omega,Below.refl _ _,fun j _ hj=>by omega⟩
 case round =>
  obtain⟨i,rfl,hi,hbr,HS⟩:=hrel
  by_cases h:(i:Int)<(xs.length:Int)
  ·have hil:i<xs.length:=by omega
   obtain⟨a,rfl,hal,k0,k1,k2,k3,k4⟩:=jobsAt_next HX.out hbr i hil
   obtain⟨x,hxi⟩:∃x,xs[i]=x:=⟨_,rfl⟩
   rw[hxi] at k0 k1 k2 k3 k4
   have Hxi:=Lib.hid hxi
   have hb2:=hbr.alloc hbr.size (.cells #[.string x.name,.int .i64 x.prio,.int .i64 x.need,.int .i64 x.tries,.string x.tag] 38)
   have hwr:IntKind.i64.wrap ((i:Int)+1)=(i:Int)+1:=IntWalk.i64_in _ (by omega)
   clear hxi
   by_cases hn:x.name=n
   ·have hl:(x.name.toList==n.toList)=true:=by rw[same_lists,decide_eq_true hn]
    have HR:Hid (At (·.name) xs n (i:Int)):=.inr ⟨i,hil,rfl,by rw[Hxi.out];exact hn,fun j hj=>HS.out j (by omega) hj⟩
    clear hn
    go_wp2
    go_ret
    exact⟨_,rfl,HR.out,hb2⟩
   ·have hl:(x.name.toList==n.toList)=false:=by rw[same_lists,decide_eq_false hn]
    have HS2:Hid (∀j,(hj:j<xs.length)→j<i+1→xs[j].name≠n):=by
     intro j hj hji
     by_cases e:j=i
     ·subst e;rw[Hxi.out];exact hn
     ·exact HS.out j hj (by omega)
    clear hn
    go_wp2
    go_roundw
    case rel=>exact⟨i+1,by simp,by omega,hb2,HS2⟩
    case measure=>simp[intOf];omega
  ·obtain rfl:i=xs.length:=by omega
   have HR:Hid (At (·.name) xs n (-1)):=.inl ⟨rfl,fun j hj=>HS.out j hj hj⟩
   go_wp2
   go_ret
   exact⟨-1,rfl,HR.out,hbr⟩
theorem nodeAt_is (xs:List NodeD) (ad:Option Addr) (cap:Nat) (hlen:xs.length≤140737488355328) (n:ByteArray) (w:World) (hx:NodesAt w ad xs) :
  Calls Tryz.prog 21 #[.slice ad xs.length cap,.string n] w fun e w'=>∃r,e = .returned (.int .i64 r)∧At (·.name) xs n r∧Below w.heap.size w w':=by
 have HX:=Lib.hid hx
 clear hx
 go_enter Tryz.func21,Tryz.ntmps21
 go_wp2
 go_loopw [9] (fun iv wr=>∃(i:Nat),iv = .int .i64 (i:Int)∧i≤xs.length∧Below w.heap.size w wr∧Hid (∀j,(hj:j<xs.length)→j<i→xs[j].name≠n)) (fun iv _=>xs.length - (intOf iv).toNat)
 case atStart=>exact⟨0,rfl,by omega,Below.refl _ _,fun j _ hj=>by omega⟩
 case round =>
  obtain⟨i,rfl,hi,hbr,HS⟩:=hrel
  by_cases h:(i:Int)<(xs.length:Int)
  ·have hil:i<xs.length:=by omega
   obtain⟨a,rfl,hal,k0,k1,k2⟩:=nodesAt_next HX.out hbr i hil
   obtain⟨x,hxi⟩:∃x,xs[i]=x:=⟨_,rfl⟩
   rw[hxi] at k0 k1 k2
   have Hxi:=Lib.hid hxi
   have hb2:=hbr.alloc hbr.size (.cells #[.string x.name,.int .i64 x.room,.string x.zone] 40)
   have hwr:IntKind.i64.wrap ((i:Int)+1)=(i:Int)+1:=IntWalk.i64_in _ (by omega)
   clear hxi
   by_cases hn:x.name=n
   ·have hl:(x.name.toList==n.toList)=true:=by rw[same_lists,decide_eq_true hn]
    have HR:Hid (At (·.name) xs n (i:Int)):=.inr ⟨i,hil,rfl,by rw[Hxi.out];exact hn,fun j hj=>HS.out j (by omega) hj⟩
    clear hn
    go_wp2
    go_ret
    exact⟨_,rfl,HR.out,hb2⟩
   ·have hl:(x.name.toList==n.toList)=false:=by rw[same_lists,decide_eq_false hn]
    have HS2:Hid (∀j,(hj:j<xs.length)→j<i+1→xs[j].name≠n):=by
     intro j hj hji
     by_cases e:j=i
     ·subst e;rw[Hxi.out];exact hn
     ·exact HS.out j hj (by omega)
    clear hn
    go_wp2
    go_roundw
    case rel=>exact⟨i+1,by simp,by omega,hb2,HS2⟩
    case measure=>simp[intOf];omega
  ·obtain rfl:i=xs.length:=by omega
   have HR:Hid (At (·.name) xs n (-1)):=.inl ⟨rfl,fun j hj=>HS.out j hj hj⟩
   go_wp2
   go_ret
   exact⟨-1,rfl,HR.out,hbr⟩
theorem leaseAt_is (xs:List LeaseD) (ad:Option Addr) (cap:Nat) (hlen:xs.length≤140737488355328) (n:ByteArray) (w:World) (hx:LeasesAt w ad xs) :
  Calls Tryz.prog 66 #[.slice ad xs.length cap,.string n] w fun e w'=>∃r,e = .returned (.int .i64 r)∧At (·.job) xs n r∧Below w.heap.size w w':=by
 have HX:=Lib.hid hx
 clear hx
 go_enter Tryz.func66,Tryz.ntmps66
 go_wp2
 go_loopw [9] (fun iv wr=>∃(i:Nat),iv = .int .i64 (i:Int)∧i≤xs.length∧Below w.heap.size w wr∧Hid (∀j,(hj:j<xs.length)→j<i→xs[j].job≠n)) (fun iv _=>xs.length - (intOf iv).toNat)
 case atStart=>exact⟨0,rfl,by omega,Below.refl _ _,fun j _ hj=>by omega⟩
 case round =>
  obtain⟨i,rfl,hi,hbr,HS⟩:=hrel
  by_cases h:(i:Int)<(xs.length:Int)
  ·have hil:i<xs.length:=by omega
   obtain⟨a,rfl,hal,k0,k1,k2⟩:=leasesAt_next HX.out hbr i hil
   obtain⟨x,hxi⟩:∃x,xs[i]=x:=⟨_,rfl⟩
   rw[hxi] at k0 k1 k2
   have Hxi:=Lib.hid hxi
   have hb2:=hbr.alloc hbr.size (.cells #[.string x.job,.string x.node,.int .i64 x.til] 42)
   have hwr:IntKind.i64.wrap ((i:Int)+1)=(i:Int)+1:=IntWalk.i64_in _ (by omega)
   clear hxi
   by_cases hn:x.job=n
   ·have hl:(x.job.toList==n.toList)=true:=by rw[same_lists,decide_eq_true hn]
    have HR:Hid (At (·.job) xs n (i:Int)):=.inr ⟨i,hil,rfl,by rw[Hxi.out];exact hn,fun j hj=>HS.out j (by omega) hj⟩
    clear hn
    go_wp2
    go_ret
    exact⟨_,rfl,HR.out,hb2⟩
   ·have hl:(x.job.toList==n.toList)=false:=by rw[same_lists,decide_eq_false hn]
    have HS2:Hid (∀j,(hj:j<xs.length)→j<i+1→xs[j].job≠n):=by
     intro j hj hji
     by_cases e:j=i
     ·subst e;rw[Hxi.out];exact hn
     ·exact HS.out j hj (by omega)
    clear hn
    go_wp2
    go_roundw
    case rel=>exact⟨i+1,by simp,by omega,hb2,HS2⟩
    case measure=>simp[intOf];omega
  ·obtain rfl:i=xs.length:=by omega
   have HR:Hid (At (·.job) xs n (-1)):=.inl ⟨rfl,fun j hj=>HS.out j hj hj⟩
   go_wp2
   go_ret
   exact⟨-1,rfl,HR.out,hbr⟩
end Go.Proofs.YtiekgafopalfmaaGreatDoor
namespace Go.Proofs.YtiekgafopalfmaaGreatDoor
open Go.RowKit
theorem used_same {jobs:List JobD}{leases:List LeaseD}{i:Nat}{node:ByteArray} (h:i<leases.length){x:LeaseD} (hx:leases[i]=x) (hz:x.node≠node∨needOf jobs x.job=0):usedD jobs (leases.take (i+1)) node=usedD jobs (leases.take i) node:=by
 rw[used_step jobs leases i h node,hx]
 rcases hz with hz | hz
 ·rw[if_neg hz];omega
 ·rw[hz];split <;> omega
theorem used_more {jobs:List JobD}{leases:List LeaseD}{i:Nat}{node:ByteArray} (h:i<leases.length){x:LeaseD} (hx:leases[i]=x) (hz:x.node=node):usedD jobs (leases.take (i+1)) node=usedD jobs (leases.take i) node+needOf jobs x.job:=by
 rw[used_step jobs leases i h node,hx,if_pos hz]
theorem rused_is (U:ByteArray→Bool) (rev:Int) (aj an al:Option Addr) (cj cn cl:Nat) (jobs:List JobD) (nodes:List NodeD) (leases:List LeaseD) (node:ByteArray) (hJ:∀j∈jobs,jobE U j=0) (hj:jobs.length≤40) (hl:leases.length≤40) (w:World) (hmj:JobsAt w aj jobs) (hml:LeasesAt w al leases) :
  Calls Tryz.prog 22 #[.agg #[.int .i64 rev,.slice aj jobs.length cj,.slice an nodes.length cn,.slice al leases.length cl],.string node] w fun e w'=>e = .returned (.int .i64 (usedD jobs leases node))∧Below w.heap.size w w':=by
 have bW:=below_one w (.cells #[.int .i64 rev,.slice aj jobs.length cj,.slice an nodes.length cn,.slice al leases.length cl] 26)
 have q:=box_new4 w (.int .i64 rev) (.slice aj jobs.length cj) (.slice an nodes.length cn) (.slice al leases.length cl) 26
 have HMJ:=Lib.hid hmj
 have HML:=Lib.hid hml
 have HJ:=Lib.hid hJ
 clear hmj hml hJ
 go_enter Tryz.func22,Tryz.ntmps22
 go_wp2
 go_loopw [5,12] (fun sv iv wr=>∃(i:Nat) (c:Int),iv = .int .i64 (i:Int)∧sv = .int .i64 c∧i≤leases.length∧(0≤c∧c≤40000000)∧Hid (c=usedD jobs (leases.take i) node)∧Box w.heap.size [.int .i64 rev,.slice aj jobs.length cj,.slice an nodes.length cn,.slice al leases.length cl] wr∧Below w.heap.size w wr) (fun _ iv _=>leases.length - (intOf iv).toNat)
 case atStart=>exact⟨0,0,rfl,rfl,by omega,by omega,rfl,q,bW⟩
 case round =>
  clear q bW
  obtain⟨i,c,rfl,rfl,hi,hc,HC,q,hb⟩:=hrel
  by_cases h:(i:Int)<(leases.length:Int)
  ·have hil:i<leases.length:=by omega
   obtain⟨a,rfl,hal,k0,k1,k2⟩:=leasesAt_next HML.out hb i hil
   obtain⟨x,hxi⟩:∃x,leases[i]=x:=⟨_,rfl⟩
   rw[hxi] at k0 k1 k2
   have Hxi:=Lib.hid hxi
   have hwr:IntKind.i64.wrap ((i:Int)+1)=(i:Int)+1:=IntWalk.i64_in _ (by omega)
   have g1:=(box_alloc q (.cells #[.string x.job,.string x.node,.int .i64 x.til] 42)).1 1 _ rfl
   have HA:=Lib.hid (jobAt_is jobs aj cj (by omega) x.job (wr.alloc (.cells #[.string x.job,.string x.node,.int .i64 x.til] 42)) (jobsAt_next HMJ.out (hb.alloc hb.size _)))
   clear hxi
   go_wp2_with fail
   refine HA.out.mono ?_
   rintro e w1 ⟨r,rfl,hr,b1⟩
   have q1:=box_next (box_alloc q _) b1
   have p1:=box_next (box_new3 wr (.string x.job) (.string x.node) (.int .i64 x.til) 42) b1
   have hb1:=below_trans (hb.alloc hb.size _) b1 (by have:=hb.size;simp;omega)
   have HR:=Lib.hid hr
   clear q g1 k0 k1 k2 hr HA b1
   have k1:=q1.1 1 _ rfl
   have j1:=p1.1 1 _ rfl
   by_cases hn:x.node=node
   ·have hl1:(x.node.toList==node.toList)=true:=by rw[same_lists,decide_eq_true hn]
    have HN:=Lib.hid hn
    clear hn
    rcases HR.out with ⟨rfl,hno⟩ | ⟨k,hk,rfl,hkn,hfirst⟩
    ·have HZ:Hid (c=usedD jobs (leases.take (i+1)) node):=by
      show _=_
      rw[used_same hil Hxi.out (.inr (needOf_none (by have:=(at_job HR.out).1;simpa using this)))]
      exact HC.out
     clear hno
     go_wp2
     go_roundw
     case rel=>exact⟨i+1,c,by simp,rfl,by omega,hc,HZ,q1,hb1⟩
     case measure=>simp[intOf];omega
    ·obtain⟨_,hneed⟩:=(at_job HR.out).2 k rfl
     obtain⟨b,rfl,hbl,m0,m1,m2,m3,m4⟩:=jobsAt_next HMJ.out hb1 k hk
     have HZ:Hid (c+jobs[k].need=usedD jobs (leases.take (i+1)) node):=by
      show _=_
      rw[used_more hil Hxi.out HN.out,hneed,←HC.out]
     have hbd:=used_take_bd U HJ.out node leases hl (i+1)
     rw[←HZ.out] at hbd
     obtain⟨d,hd⟩:∃d,d=jobs[k].need:=⟨_,rfl⟩
     rw[←hd] at m2 HZ hbd
     have hk0:(0:Int)≤(k:Int):=by omega
     have hk1:(k:Int)<(jobs.length:Int):=by omega
     have hws:IntKind.i64.wrap (c+d)=c+d:=IntWalk.i64_in _ (by omega)
     clear hkn hfirst hneed hd m0 m1 m3 m4
     go_wp2
     go_roundw
     case rel=>exact⟨i+1,c+d,by simp,rfl,by omega,hbd,HZ,q1,hb1⟩
     case measure=>simp[intOf];omega
   ·have hl1:(x.node.toList==node.toList)=false:=by rw[same_lists,decide_eq_false hn]
    have HZ:Hid (c=usedD jobs (leases.take (i+1)) node):=by
     show _=_
     rw[used_same hil Hxi.out (.inl hn)]
     exact HC.out
    clear hn
    go_wp2
    go_roundw
    case rel=>exact⟨i+1,c,by simp,rfl,by omega,hc,HZ,q1,hb1⟩
    case measure=>simp[intOf];omega
  ·obtain rfl:i=leases.length:=by omega
   have HZ:Hid (c=usedD jobs leases node):=by have:=HC.out;rw[List.take_length] at this;exact this
   go_wp2
   go_ret
   exact⟨by rw[←HZ.out];rfl,hb⟩
end Go.Proofs.YtiekgafopalfmaaGreatDoor
namespace Go.Proofs.YtiekgafopalfmaaGreatDoor
open Go.RowKit
theorem rowS_chk {b p:Nat}{v0 v1 v2 v3 u0 u1 u2:Value}{w w1 w2:World} (b2:Below w1.heap.size w1 w2)
  (h:((w1.cell? ⟨b,0,none⟩=some v0∧w1.cell? ⟨b,1,none⟩=some v1∧w1.cell? ⟨b,2,none⟩=some v2∧w1.cell? ⟨b,3,none⟩=some v3)∧(w1.cell? ⟨p,0,none⟩=some u0∧w1.cell? ⟨p,1,none⟩=some u1∧w1.cell? ⟨p,2,none⟩=some u2))∧(b<w1.heap.size∧p<w1.heap.size)∧Below w.heap.size w w1) :
  ((w2.cell? ⟨b,0,none⟩=some v0∧w2.cell? ⟨b,1,none⟩=some v1∧w2.cell? ⟨b,2,none⟩=some v2∧w2.cell? ⟨b,3,none⟩=some v3)∧(w2.cell? ⟨p,0,none⟩=some u0∧w2.cell? ⟨p,1,none⟩=some u1∧w2.cell? ⟨p,2,none⟩=some u2))∧(b<w2.heap.size∧p<w2.heap.size)∧Below w.heap.size w w2:=by
 obtain⟨⟨⟨c0,c1,c2,c3⟩,⟨p0,p1,p2⟩⟩,⟨h1,h2⟩,h3⟩:=h
 have hs:=b2.size
 exact⟨⟨⟨by rw[b2.cell (p:=⟨b,0,none⟩) h1];exact c0,by rw[b2.cell (p:=⟨b,1,none⟩) h1];exact c1,by rw[b2.cell (p:=⟨b,2,none⟩) h1];exact c2,by rw[b2.cell (p:=⟨b,3,none⟩) h1];exact c3⟩,
  ⟨by rw[b2.cell (p:=⟨p,0,none⟩) h2];exact p0,by rw[b2.cell (p:=⟨p,1,none⟩) h2];exact p1,by rw[b2.cell (p:=⟨p,2,none⟩) h2];exact p2⟩⟩,⟨by omega,by omega⟩,below_trans h3 b2 h3.size⟩
theorem at_neg (r:Int):decide (r<0) = !decide (0≤r):=by
 by_cases h:0≤r
 ·simp[h]
 ·simp[h];omega
theorem rcheck_any (rev:Int) (aj an al:Option Addr) (cj cn cl:Nat) (jobs:List JobD) (nodes:List NodeD) (leases:List LeaseD) (w:World) (hmj:JobsAt w aj jobs) (hmn:NodesAt w an nodes) (hml:LeasesAt w al leases) :
  Calls Tryz.prog 6 #[.agg #[.int .i64 rev,.slice aj jobs.length cj,.slice an nodes.length cn,.slice al leases.length cl]] w fun e w'=>e = .returned (.int .i64 (checkE V8 ⟨rev,jobs,nodes,leases⟩:Nat))∧Below w.heap.size w w':=by
 obtain⟨R,hR⟩:∃R,checkE V8 ⟨rev,jobs,nodes,leases⟩=R:=⟨_,rfl⟩
 rw[hR]
 have HR:=Lib.hid hR
 obtain⟨c,hc⟩:∃c,inR rev 0 1099511627776=c:=⟨_,rfl⟩
 have G:=Lib.hid (outside_is rev 0 1099511627776)
 rw[hc] at G
 have HC:=Lib.hid hc
 obtain⟨W,hW⟩:∃W,w.alloc (.cells #[.int .i64 rev,.slice aj jobs.length cj,.slice an nodes.length cn,.slice al leases.length cl] 26)=W:=⟨_,rfl⟩
 have bW:Below w.heap.size w W:=by rw[←hW];exact below_one _ _
 have q:=box_new4 w (.int .i64 rev) (.slice aj jobs.length cj) (.slice an nodes.length cn) (.slice al leases.length cl) 26
 rw[hW] at q
 have HMJ:=Lib.hid hmj
 have HMN:=Lib.hid hmn
 have HML:=Lib.hid hml
 have k0:=q.1 0 _ rfl
 have k1:=q.1 1 _ rfl
 have k2:=q.1 2 _ rfl
 have k3:=q.1 3 _ rfl
 clear hR hc hmj hmn hml
 go_enter Tryz.func6,Tryz.ntmps6
 go_wp2_with fail
 refine(G.out _).mono ?_
 rintro e w0 ⟨rfl,rfl⟩
 cases c with
 | false =>
  have HR1:Hid (R=1):=HR.out.symm.trans (check_rev HC.out)
  go_wp2
  go_ret
  exact⟨by rw[HR1.out];rfl,bW⟩
 | true =>
 by_cases hj:¬jobs.length≤40
 ·have HR1:Hid (R=2):=HR.out.symm.trans (check_large HC.out (fun k=>hj k.1))
  go_wp2
  go_ret
  exact⟨by rw[HR1.out];rfl,bW⟩
 have hj:jobs.length≤40:=by omega
 by_cases hl:¬leases.length≤40
 ·have HR1:Hid (R=2):=HR.out.symm.trans (check_large HC.out (fun k=>hl k.2.1))
  go_wp2
  go_ret
  exact⟨by rw[HR1.out];rfl,bW⟩
 have hl:leases.length≤40:=by omega
 by_cases hn:¬nodes.length≤20
 ·have HR1:Hid (R=2):=HR.out.symm.trans (check_large HC.out (fun k=>hn k.2.2))
  go_wp2
  go_ret
  exact⟨by rw[HR1.out];rfl,bW⟩
 have hn:nodes.length≤20:=by omega
 have HR1:=Lib.hid (HR.out.symm.trans (check_rows HC.out ⟨hj,hl,hn⟩))
 clear HR HC G
 simp only at HR1
 have HJ:=Lib.hid (jobsCheck_is jobs aj cj hj W (jobsAt_next HMJ.out bW))
 go_wp2_with fail
 refine HJ.out.mono ?_
 rintro e w1 ⟨rfl,b1⟩
 have q1:=box_next q b1
 have hb1:=below_trans bW b1 bW.size
 clear q k0 k1 k2 k3
 have k2:=q1.1 2 _ rfl
 obtain⟨ej,hej⟩:∃ej,rowsE (jobE V8) (·.name) none jobs=ej:=⟨_,rfl⟩
 have HEJ:=Lib.hid hej
 rw[hej] at HR1⊢
 clear hej HJ
 by_cases h0:ej≠0
 ·have HR2:Hid (R=ej):=HR1.out.trans (orE_stop h0)
  have hc:((ej:Int)!=0)=true:=by simp;omega
  go_wp2
  go_ret
  exact⟨by rw[HR2.out];rfl,hb1⟩
 have h0:ej=0:=by simpa using h0
 subst h0
 have HR2:=Lib.hid (HR1.out.trans (orE_go _))
 clear HR1
 have HN:=Lib.hid (nodesCheck_is nodes an cn (by omega) w1 (nodesAt_next HMN.out hb1))
 go_wp2_with fail
 refine HN.out.mono ?_
 rintro e w2 ⟨rfl,b2⟩
 have q2:=box_next q1 b2
 have hb2:=below_trans hb1 b2 hb1.size
 clear q1 k2
 have k3:=q2.1 3 _ rfl
 obtain⟨en,hen⟩:∃en,rowsE (nodeE V8) (·.name) none nodes=en:=⟨_,rfl⟩
 rw[hen] at HR2⊢
 clear hen HN
 by_cases h0:en≠0
 ·have HR3:Hid (R=en):=HR2.out.trans (orE_stop h0)
  have hc:((en:Int)!=0)=true:=by simp;omega
  go_wp2
  go_ret
  exact⟨by rw[HR3.out];rfl,hb2⟩
 have h0:en=0:=by simpa using h0
 subst h0
 have HR3:=Lib.hid (HR2.out.trans (orE_go _))
 clear HR2
 obtain⟨RL,hRL⟩:∃RL,rowsE (leaseE jobs nodes) (·.job) none leases=RL:=⟨_,rfl⟩
 have HRL:Hid (rowsE (leaseE jobs nodes) (·.job) (prevK (·.job) leases 0) (leases.drop 0)=RL):=hRL
 rw[hRL] at HR3
 have HZJ:=Lib.hid ((rowsE_zero (jobE V8) (·.name) none jobs).1 HEJ.out).1
 clear hRL HEJ
 go_wp2
 go_loopw [43] (fun iv wr=>∃(i:Nat),iv = .int .i64 (i:Int)∧i≤leases.length∧Box w.heap.size [.int .i64 rev,.slice aj jobs.length cj,.slice an nodes.length cn,.slice al leases.length cl] wr∧Below w.heap.size w wr∧Hid (rowsE (leaseE jobs nodes) (·.job) (prevK (·.job) leases i) (leases.drop i)=RL)) (fun iv _=>leases.length - (intOf iv).toNat)
 case atStart=>exact⟨0,rfl,by omega,q2,hb2,HRL⟩
 case round =>
  clear q2 hb2 k3 b2 b1 hb1 bW
  obtain⟨i,rfl,hi,q,hbr,HS⟩:=hrel
  by_cases h:(i:Int)<(leases.length:Int)
  ·have hil:i<leases.length:=by omega
   obtain⟨a,rfl,hal,m0,m1,m2⟩:=leasesAt_next HML.out hbr i hil
   obtain⟨x,hxi⟩:∃x,leases[i]=x:=⟨_,rfl⟩
   rw[hxi] at m0 m1 m2
   have Hxi:=Lib.hid hxi
   have hbA:=hbr.alloc hbr.size (.cells #[.string x.job,.string x.node,.int .i64 x.til] 42)
   have g1:=(box_alloc q (.cells #[.string x.job,.string x.node,.int .i64 x.til] 42)).1 1 _ rfl
   have HA:=Lib.hid (jobAt_is jobs aj cj (by omega) x.job _ (jobsAt_next HMJ.out hbA))
   obtain⟨c1,hc1⟩:∃c,hasJob jobs x.job=c:=⟨_,rfl⟩
   obtain⟨c2,hc2⟩:∃c,hasNode nodes x.node=c:=⟨_,rfl⟩
   obtain⟨d,hd⟩:∃d,inR x.til 0 1099511627776=d:=⟨_,rfl⟩
   have HE:=Lib.hid (leaseE_is hc1 hc2 hd)
   have HC1:=Lib.hid hc1
   have HC2:=Lib.hid hc2
   have G:=Lib.hid (outside_is x.til 0 1099511627776)
   rw[hd] at G
   clear hxi hc1 hc2 hd
   go_wp2_with fail
   refine HA.out.mono ?_
   rintro e v1 ⟨r1,rfl,hr1,b1⟩
   have q1:=box_next (box_alloc q _) b1
   have p1:=box_next (box_new3 wr (.string x.job) (.string x.node) (.int .i64 x.til) 42) b1
   have hb1:=below_trans hbA b1 hbA.size
   have hr0:decide (r1<0) = !c1:=by rw[at_neg r1,←HC1.out,(at_job hr1).1]
   clear q g1 m0 m1 m2 HA b1 hr1 hbA
   have k2:=q1.1 2 _ rfl
   have j1:=p1.1 1 _ rfl
   cases c1 with
   | false =>
    have HZ:Hid (RL=6):=rows_stop hil HS.out (by rw[Hxi.out];exact HE.out) (by simp)
    have HR4:Hid (R=6):=by have:=HR3.out;rw[HZ.out] at this;exact this.trans (orE_stop (by simp))
    have hr0:decide (r1<0)=true:=hr0
    go_wp2
    go_ret
    exact⟨by rw[HR4.out];rfl,hb1⟩
   | true =>
    have hr0:decide (r1<0)=false:=hr0
    have HA:=Lib.hid (nodeAt_is nodes an cn (by omega) x.node v1 (nodesAt_next HMN.out hb1))
    go_wp2_with fail
    refine HA.out.mono ?_
    rintro e v2 ⟨r2,rfl,hr2,b2⟩
    have q2:=box_next q1 b2
    have p2:=box_next p1 b2
    have hb2:=below_trans hb1 b2 hb1.size
    have hr3:decide (r2<0) = !c2:=by rw[at_neg r2,←HC2.out,at_node hr2]
    clear q1 p1 k2 j1 HA b2 hr2 hb1
    have k3:=q2.1 3 _ rfl
    have j0:=p2.1 0 _ rfl
    have j2:=p2.1 2 _ rfl
    cases c2 with
    | false =>
     have HZ:Hid (RL=6):=rows_stop hil HS.out (by rw[Hxi.out];exact HE.out) (by simp)
     have HR4:Hid (R=6):=by have:=HR3.out;rw[HZ.out] at this;exact this.trans (orE_stop (by simp))
     have hr3:decide (r2<0)=true:=hr3
     go_wp2
     go_ret
     exact⟨by rw[HR4.out];rfl,hb2⟩
    | true =>
     have hr3:decide (r2<0)=false:=hr3
     go_wp2_with fail
     refine(G.out _).mono ?_
     rintro e v3 ⟨rfl,rfl⟩
     cases d with
     | false =>
      have HZ:Hid (RL=1):=rows_stop hil HS.out (by rw[Hxi.out];exact HE.out) (by simp)
      have HR4:Hid (R=1):=by have:=HR3.out;rw[HZ.out] at this;exact this.trans (orE_stop (by simp))
      go_wp2
      go_ret
      exact⟨by rw[HR4.out];rfl,hb2⟩
     | true =>
      have HE0:Hid (leaseE jobs nodes leases[i]=0):=by show _=_;rw[Hxi.out];exact HE.out
      cases i with
      | zero =>
       have HZ:Hid (rowsE (leaseE jobs nodes) (·.job) (prevK (·.job) leases 1) (leases.drop 1)=RL):=rows_first hil HS.out HE0.out
       go_wp2_with fail
       go_quiet (fail)
       go_wp2
       go_roundw
       case rel=>exact⟨1,by simp,by omega,q2,below_drewN hb2,HZ⟩
       case measure=>simp[intOf];omega
      | succ m =>
       obtain⟨a',ha',hal',n0,n1,n2⟩:=leasesAt_next HML.out hb2 m (by omega)
       cases ha'
       obtain⟨y,hy⟩:∃y,leases[m]=y:=⟨_,rfl⟩
       rw[hy] at n0
       have hwr:IntKind.i64.wrap (m:Int)=(m:Int):=IntWalk.i64_in _ (by omega)
       have hm0:(0:Int)≤(m:Int):=by omega
       have hm1:(m:Int)<(leases.length:Int):=by omega
       have HY:Hid (leases[m]=y):=hy
       have hll:=less_toList y.job x.job
       clear hy n1 n2 hal hal'
       go_wp2_with fail
       by_cases hlt:lt y.job x.job
       ·have HZ:Hid (rowsE (leaseE jobs nodes) (·.job) (prevK (·.job) leases (m+1+1)) (leases.drop (m+1+1))=RL):=rows_on hil HS.out HE0.out (by rw[HY.out,Hxi.out];exact hlt)
        rw[decide_eq_true hlt] at hll
        clear hlt
        go_quiet (fail)
        go_wp2
        go_roundw
        case rel=>exact⟨m+1+1,by simp,by omega,q2,below_drewN hb2,HZ⟩
        case measure=>simp[intOf];omega
       ·have HZ:Hid (RL=8):=rows_bad hil HS.out HE0.out (by rw[HY.out,Hxi.out];exact hlt)
        have HR4:Hid (R=8):=by have:=HR3.out;rw[HZ.out] at this;exact this.trans (orE_stop (by simp))
        rw[decide_eq_false hlt] at hll
        clear hlt
        go_quiet (fail)
        go_wp2
        go_ret
        exact⟨by rw[HR4.out];rfl,below_drewN hb2⟩
  ·obtain rfl:i=leases.length:=by omega
   have HR4:Hid (R=roomE jobs leases nodes):=by
    have h1:=HS.out
    rw[rowsE_end] at h1
    have h2:=HR3.out
    rw[←h1] at h2
    exact h2.trans (orE_go _)
   have k2:=q.1 2 _ rfl
   clear HS HR3
   go_wp2
   go_loopw [83] (fun iv wr=>∃(i:Nat),iv = .int .i64 (i:Int)∧i≤nodes.length∧Box w.heap.size [.int .i64 rev,.slice aj jobs.length cj,.slice an nodes.length cn,.slice al leases.length cl] wr∧Below w.heap.size w wr∧Hid (∀j,(hj:j<nodes.length)→j<i→usedD jobs leases nodes[j].name≤nodes[j].room)) (fun iv _=>nodes.length - (intOf iv).toNat)
   case atStart=>exact⟨0,rfl,by omega,q,hbr,fun j _ hj=>by omega⟩
   case round =>
    clear q hbr k2 h hi
    obtain⟨i,rfl,hi,q,hbr,HS⟩:=hrel
    by_cases h:(i:Int)<(nodes.length:Int)
    ·have hil:i<nodes.length:=by omega
     obtain⟨a,rfl,hal,m0,m1,m2⟩:=nodesAt_next HMN.out hbr i hil
     obtain⟨x,hxi⟩:∃x,nodes[i]=x:=⟨_,rfl⟩
     rw[hxi] at m0 m1 m2
     have Hxi:=Lib.hid hxi
     obtain⟨W2,hW2⟩:∃W2,wr.alloc (.cells #[.string x.name,.int .i64 x.room,.string x.zone] 40)=W2:=⟨_,rfl⟩
     have hb2:Below w.heap.size w W2:=by rw[←hW2];exact hbr.alloc hbr.size _
     have q2:Box w.heap.size [.int .i64 rev,.slice aj jobs.length cj,.slice (some a) nodes.length cn,.slice al leases.length cl] W2:=by rw[←hW2];exact box_alloc q _
     have p2:=box_new3 wr (.string x.name) (.int .i64 x.room) (.string x.zone) 40
     rw[hW2] at p2
     have HU:=Lib.hid (fun v (hv:Below w.heap.size w v)=>rused_is V8 rev aj (some a) al cj cn cl jobs nodes leases x.name HZJ.out hj hl v (jobsAt_next HMJ.out hv) (leasesAt_next HML.out hv))
     obtain⟨c,hc⟩:∃c,usedD jobs leases x.name=c:=⟨_,rfl⟩
     rw[hc] at HU
     have HCc:=Lib.hid hc
     clear hxi hc
     have k0:=q2.1 0 _ rfl
     have k1:=q2.1 1 _ rfl
     have k2:=q2.1 2 _ rfl
     have k3:=q2.1 3 _ rfl
     have j0:=p2.1 0 _ rfl
     have j1:=p2.1 1 _ rfl
     have j2:=p2.1 2 _ rfl
     have hlt1:=q2.2
     have hlt2:=p2.2
     clear q p2 hal
     go_wp2_with fail
     clear m0 m1 m2
     have o1:=And.intro (And.intro (And.intro k0 (And.intro k1 (And.intro k2 k3))) (And.intro j0 (And.intro j1 j2))) (And.intro (And.intro hlt1 hlt2) hb2)
     clear k0 k1 k2 k3 j0 j1 j2
     go_region_held3 (fun w'=>((w'.cell? ⟨w.heap.size,0,none⟩=some (.int .i64 rev)∧w'.cell? ⟨w.heap.size,1,none⟩=some (.slice aj jobs.length cj)∧w'.cell? ⟨w.heap.size,2,none⟩=some (.slice (some a) nodes.length cn)∧w'.cell? ⟨w.heap.size,3,none⟩=some (.slice al leases.length cl))∧(w'.cell? ⟨wr.heap.size,0,none⟩=some (.string x.name)∧w'.cell? ⟨wr.heap.size,1,none⟩=some (.int .i64 x.room)∧w'.cell? ⟨wr.heap.size,2,none⟩=some (.string x.zone)))∧(w.heap.size<w'.heap.size∧wr.heap.size<w'.heap.size)∧Below w.heap.size w w')
      (first | assumption | exact⟨o1.1,o1.2.1,o1.2.2.drew⟩)
      (first | (go_at_call 22;(with_reducible refine(HU.out _ (o1.2.2.drew)).mono ?_);rintro e w3 ⟨rfl,b3⟩;have o3:=rowS_chk (w:=w) b3 (by first | assumption | exact⟨o1.1,o1.2.1,o1.2.2.drew⟩)))
     rename_i w3 o3
     have hb3:=o3.2.2
     have q3:Box w.heap.size [.int .i64 rev,.slice aj jobs.length cj,.slice (some a) nodes.length cn,.slice al leases.length cl] w3:=by
      obtain⟨⟨⟨c0,c1,c2,c3⟩,_⟩,⟨l1,_⟩,_⟩:=o3
      refine⟨fun j v hj=>?_,l1⟩
      match j with
      | 0=>simp at hj;subst hj;exact c0
      | 1=>simp at hj;subst hj;exact c1
      | 2=>simp at hj;subst hj;exact c2
      | 3=>simp at hj;subst hj;exact c3
      | j+4=>simp at hj
     clear o3 o1
     by_cases hr:x.room<c
     ·have HZ:Hid (R=9):=HR4.out.trans (roomE_no i hil (by rw[Hxi.out,HCc.out];exact hr))
      go_wp2
      go_ret
      exact⟨by rw[HZ.out];rfl,hb3⟩
     ·have HS2:Hid (∀j,(hj:j<nodes.length)→j<i+1→usedD jobs leases nodes[j].name≤nodes[j].room):=by
       intro j hj hji
       by_cases e:j=i
       ·subst e;rw[Hxi.out,HCc.out];omega
       ·exact HS.out j hj (by omega)
      go_wp2
      go_roundw
      case rel=>exact⟨i+1,by simp,by omega,q3,hb3,HS2⟩
      case measure=>simp[intOf];omega
    ·obtain rfl:i=nodes.length:=by omega
     have HZ:Hid (R=0):=HR4.out.trans (roomE_yes (fun j hj=>HS.out j hj hj))
     go_wp2
     go_ret
     exact⟨by rw[HZ.out];rfl,hbr⟩
end Go.Proofs.YtiekgafopalfmaaGreatDoor
namespace Go.Proofs.YtiekgafopalfmaaGreatDoor
open Go.RowKit
end Go.Proofs.YtiekgafopalfmaaGreatDoor
