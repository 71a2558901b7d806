import Derived.Test.YtiekgafopalfmaaGreatDoorPPkTxt
import Derived.Test.YtiekgafopalfmaaGreatDoorPPkSt1
import Derived.Laws.OwnMore
import Derived.OwnWalk
import Derived.Maps.AppendAt
import Derived.Deep.AppendLies
set_option maxRecDepth 100000
set_option maxHeartbeats 4000000
namespace Go.Proofs.YtiekgafopalfmaaGreatDoor
open Go.RowKit Go.Lib
theorem note_no {s:ByteArray} (h:¬s.size≤16):isNote V8 s=false:=by unfold isNote;rw[decide_eq_false h];rfl
theorem note_yes {s:ByteArray} (h:s.size≤16):isNote V8 s=V8 s:=by unfold isNote;rw[decide_eq_true h];rfl
theorem name_yes {s:ByteArray} (h:s.size≠0):isName V8 s=isNote V8 s:=by unfold isName;rw[decide_eq_true h];rfl
theorem name_no {s:ByteArray} (h:¬s.size≠0):isName V8 s=false:=by unfold isName;rw[decide_eq_false h];rfl
theorem empty_size {s:ByteArray} (h:¬s.size≠0):s=⟨#[]⟩:=by
 have h:s.size=0:=by simpa using h
 cases s with
 | mk d =>
  have:d.size=0:=h
  rw[Array.eq_empty_of_size_eq_zero this]
theorem not_empty {s:ByteArray} (h:s.size≠0):s.toList.isEmpty=false∧¬s.toList = []:=by
 have:¬s.toList = []:=by
  intro e
  have e2:=congrArg List.length e
  rw[ByteArray.toList_eq] at e2
  exact h (by simpa using e2)
 exact⟨by simpa using this,this⟩
theorem isNote_is (s:ByteArray) (w:World) (hT:Tabs w):Calls Tryz.prog 75 #[.string s] w fun e w'=>e = .returned (.bool (isNote V8 s))∧Below w.heap.size w w':=by
 by_cases h:s.size≤16
 ·have HV:=Lib.hid (valid_is s (by omega) w hT)
  rw[note_yes h]
  change Hid (Calls _ _ _ _ fun e w'=>e = .returned (.bool (V8 s))∧_)at HV
  generalize V8 s=c at *
  clear hT
  go_enter Tryz.func75,Tryz.ntmps75
  go_wp2_with fail
  refine HV.out.mono ?_
  rintro e w1 ⟨rfl,b1⟩
  go_wp2
  go_ret
  exact⟨rfl,b1⟩
 ·rw[note_no h]
  clear hT
  go_enter Tryz.func75,Tryz.ntmps75
  go_wp2
  go_ret
  exact⟨rfl,Below.refl _ _⟩
theorem isName_is (s:ByteArray) (w:World) (hT:Tabs w):Calls Tryz.prog 74 #[.string s] w fun e w'=>e = .returned (.bool (isName V8 s))∧Below w.heap.size w w':=by
 by_cases h:s.size≠0
 ·have HV:=Lib.hid (isNote_is s w hT)
  rw[name_yes h]
  generalize isNote V8 s=c at *
  obtain⟨h1,h2⟩:=not_empty h
  clear hT h
  go_enter Tryz.func74,Tryz.ntmps74
  go_wp2_with fail
  refine HV.out.mono ?_
  rintro e w1 ⟨rfl,b1⟩
  go_wp2
  go_ret
  exact⟨rfl,b1⟩
 ·rw[name_no h]
  obtain rfl:=empty_size h
  clear hT
  go_enter Tryz.func74,Tryz.ntmps74
  go_wp2
  go_ret
  exact⟨rfl,Below.refl _ _⟩
theorem checkJob_is (x:JobD) (w:World) (hT:Tabs w):Calls Tryz.prog 33 #[.agg #[.string x.name,.int .i64 x.prio,.int .i64 x.need,.int .i64 x.tries,.string x.tag]] w fun e w'=>e = .returned (.int .i64 (jobE V8 x:Nat))∧Below w.heap.size w w':=by
 have H1:=Lib.hid (isName_is x.name (w.alloc (.cells #[.string x.name,.int .i64 x.prio,.int .i64 x.need,.int .i64 x.tries,.string x.tag] 38)) (hT.below (below_one _ _)))
 have HN:=Lib.hid isNote_is
 have HT:=Lib.hid (hT.below (below_one w (.cells #[.string x.name,.int .i64 x.prio,.int .i64 x.need,.int .i64 x.tries,.string x.tag] 38)))
 obtain⟨c1,h1⟩:∃c,isName V8 x.name=c:=⟨_,rfl⟩
 obtain⟨c2,h2⟩:∃c,isNote V8 x.tag=c:=⟨_,rfl⟩
 obtain⟨d0,g0⟩:∃d,inR x.prio (-1000) 1000=d:=⟨_,rfl⟩
 have G0:=Lib.hid (within_is x.prio (-1000) 1000)
 rw[g0] at G0
 obtain⟨d1,g1⟩:∃d,inR x.need (0) 1000000=d:=⟨_,rfl⟩
 have G1:=Lib.hid (within_is x.need (0) 1000000)
 rw[g1] at G1
 obtain⟨d2,g2⟩:∃d,inR x.tries (0) 100=d:=⟨_,rfl⟩
 have G2:=Lib.hid (within_is x.tries (0) 100)
 rw[g2] at G2
 have HE:Hid (jobE V8 x=if (c1&&c2)=true then(if (d0&&d1&&d2)=true then 0 else 1) else 4):=by show _=_;rw[jobE,h1,h2,g0,g1,g2]
 obtain⟨R,hR⟩:∃R,jobE V8 x=R:=⟨_,rfl⟩
 rw[hR] at HE⊢
 rw[h1] at H1
 have H2:Hid (isNote V8 x.tag=c2):=h2
 clear hT h1 h2 hR g0 g1 g2
 cases c1 with
 | false =>
  go_enter Tryz.func33,Tryz.ntmps33
  go_wp2_with fail
  refine H1.out.mono ?_
  rintro e w1 ⟨rfl,b1⟩
  go_wp2
  go_ret
  exact⟨by rw[HE.out];rfl,below_trans (below_one _ _) b1 (by simp)⟩
 | true =>
  cases c2 with
  | false =>
   go_enter Tryz.func33,Tryz.ntmps33
   go_wp2_with fail
   refine H1.out.mono ?_
   rintro e w1 ⟨rfl,b1⟩
   have bx:=box_next (box_new5 w (.string x.name) (.int .i64 x.prio) (.int .i64 x.need) (.int .i64 x.tries) (.string x.tag) 38) b1
   have HT1:=HT.out.below b1
   have hb1:=below_trans (below_one _ _) b1 (by simp)
   clear b1
   have k0:=bx.1 0 _ rfl
   have k1:=bx.1 1 _ rfl
   have k2:=bx.1 2 _ rfl
   have k3:=bx.1 3 _ rfl
   have k4:=bx.1 4 _ rfl
   go_wp2_with fail
   refine(HN.out x.tag w1 HT1).mono ?_
   rintro e w2 ⟨rfl,b2⟩
   rw[H2.out]
   have bx2:=box_next bx b2
   have hb2:=below_trans hb1 b2 hb1.size
   clear b2 bx k0 k1 k2 k3 k4
   have k0:=bx2.1 0 _ rfl
   have k1:=bx2.1 1 _ rfl
   have k2:=bx2.1 2 _ rfl
   have k3:=bx2.1 3 _ rfl
   have k4:=bx2.1 4 _ rfl
   go_wp2
   go_ret
   exact⟨by rw[HE.out];rfl,hb2⟩
  | true =>
   cases d0 with
   | false =>
    go_enter Tryz.func33,Tryz.ntmps33
    go_wp2_with fail
    refine H1.out.mono ?_
    rintro e w1 ⟨rfl,b1⟩
    have bx:=box_next (box_new5 w (.string x.name) (.int .i64 x.prio) (.int .i64 x.need) (.int .i64 x.tries) (.string x.tag) 38) b1
    have HT1:=HT.out.below b1
    have hb1:=below_trans (below_one _ _) b1 (by simp)
    clear b1
    have k0:=bx.1 0 _ rfl
    have k1:=bx.1 1 _ rfl
    have k2:=bx.1 2 _ rfl
    have k3:=bx.1 3 _ rfl
    have k4:=bx.1 4 _ rfl
    go_wp2_with fail
    refine(HN.out x.tag w1 HT1).mono ?_
    rintro e w2 ⟨rfl,b2⟩
    rw[H2.out]
    have bx2:=box_next bx b2
    have hb2:=below_trans hb1 b2 hb1.size
    clear b2 bx k0 k1 k2 k3 k4
    have k0:=bx2.1 0 _ rfl
    have k1:=bx2.1 1 _ rfl
    have k2:=bx2.1 2 _ rfl
    have k3:=bx2.1 3 _ rfl
    have k4:=bx2.1 4 _ rfl
    go_wp2_with fail
    refine(G0.out _).mono ?_
    rintro e w3 ⟨rfl,rfl⟩
    go_wp2
    go_ret
    exact⟨by rw[HE.out];rfl,hb2⟩
   | true =>
    cases d1 with
    | false =>
     go_enter Tryz.func33,Tryz.ntmps33
     go_wp2_with fail
     refine H1.out.mono ?_
     rintro e w1 ⟨rfl,b1⟩
     have bx:=box_next (box_new5 w (.string x.name) (.int .i64 x.prio) (.int .i64 x.need) (.int .i64 x.tries) (.string x.tag) 38) b1
     have HT1:=HT.out.below b1
     have hb1:=below_trans (below_one _ _) b1 (by simp)
     clear b1
     have k0:=bx.1 0 _ rfl
     have k1:=bx.1 1 _ rfl
     have k2:=bx.1 2 _ rfl
     have k3:=bx.1 3 _ rfl
     have k4:=bx.1 4 _ rfl
     go_wp2_with fail
     refine(HN.out x.tag w1 HT1).mono ?_
     rintro e w2 ⟨rfl,b2⟩
     rw[H2.out]
     have bx2:=box_next bx b2
     have hb2:=below_trans hb1 b2 hb1.size
     clear b2 bx k0 k1 k2 k3 k4
     have k0:=bx2.1 0 _ rfl
     have k1:=bx2.1 1 _ rfl
     have k2:=bx2.1 2 _ rfl
     have k3:=bx2.1 3 _ rfl
     have k4:=bx2.1 4 _ rfl
     go_wp2_with fail
     refine(G0.out _).mono ?_
     rintro e w3 ⟨rfl,rfl⟩
     go_wp2_with fail
     refine(G1.out _).mono ?_
     rintro e w3 ⟨rfl,rfl⟩
     go_wp2
     go_ret
     exact⟨by rw[HE.out];rfl,hb2⟩
    | true =>
     cases d2 with
     | false =>
      go_enter Tryz.func33,Tryz.ntmps33
      go_wp2_with fail
      refine H1.out.mono ?_
      rintro e w1 ⟨rfl,b1⟩
      have bx:=box_next (box_new5 w (.string x.name) (.int .i64 x.prio) (.int .i64 x.need) (.int .i64 x.tries) (.string x.tag) 38) b1
      have HT1:=HT.out.below b1
      have hb1:=below_trans (below_one _ _) b1 (by simp)
      clear b1
      have k0:=bx.1 0 _ rfl
      have k1:=bx.1 1 _ rfl
      have k2:=bx.1 2 _ rfl
      have k3:=bx.1 3 _ rfl
      have k4:=bx.1 4 _ rfl
      go_wp2_with fail
      refine(HN.out x.tag w1 HT1).mono ?_
      rintro e w2 ⟨rfl,b2⟩
      rw[H2.out]
      have bx2:=box_next bx b2
      have hb2:=below_trans hb1 b2 hb1.size
      clear b2 bx k0 k1 k2 k3 k4
      have k0:=bx2.1 0 _ rfl
      have k1:=bx2.1 1 _ rfl
      have k2:=bx2.1 2 _ rfl
      have k3:=bx2.1 3 _ rfl
      have k4:=bx2.1 4 _ rfl
      go_wp2_with fail
      refine(G0.out _).mono ?_
      rintro e w3 ⟨rfl,rfl⟩
      go_wp2_with fail
      refine(G1.out _).mono ?_
      rintro e w3 ⟨rfl,rfl⟩
      go_wp2_with fail
      refine(G2.out _).mono ?_
      rintro e w3 ⟨rfl,rfl⟩
      go_wp2
      go_ret
      exact⟨by rw[HE.out];rfl,hb2⟩
     | true =>
      go_enter Tryz.func33,Tryz.ntmps33
      go_wp2_with fail
      refine H1.out.mono ?_
      rintro e w1 ⟨rfl,b1⟩
      have bx:=box_next (box_new5 w (.string x.name) (.int .i64 x.prio) (.int .i64 x.need) (.int .i64 x.tries) (.string x.tag) 38) b1
      have HT1:=HT.out.below b1
      have hb1:=below_trans (below_one _ _) b1 (by simp)
      clear b1
      have k0:=bx.1 0 _ rfl
      have k1:=bx.1 1 _ rfl
      have k2:=bx.1 2 _ rfl
      have k3:=bx.1 3 _ rfl
      have k4:=bx.1 4 _ rfl
      go_wp2_with fail
      refine(HN.out x.tag w1 HT1).mono ?_
      rintro e w2 ⟨rfl,b2⟩
      rw[H2.out]
      have bx2:=box_next bx b2
      have hb2:=below_trans hb1 b2 hb1.size
      clear b2 bx k0 k1 k2 k3 k4
      have k0:=bx2.1 0 _ rfl
      have k1:=bx2.1 1 _ rfl
      have k2:=bx2.1 2 _ rfl
      have k3:=bx2.1 3 _ rfl
      have k4:=bx2.1 4 _ rfl
      go_wp2_with fail
      refine(G0.out _).mono ?_
      rintro e w3 ⟨rfl,rfl⟩
      go_wp2_with fail
      refine(G1.out _).mono ?_
      rintro e w3 ⟨rfl,rfl⟩
      go_wp2_with fail
      refine(G2.out _).mono ?_
      rintro e w3 ⟨rfl,rfl⟩
      go_wp2
      go_ret
      exact⟨by rw[HE.out];rfl,hb2⟩
theorem checkNode_is (x:NodeD) (w:World) (hT:Tabs w):Calls Tryz.prog 36 #[.agg #[.string x.name,.int .i64 x.room,.string x.zone]] w fun e w'=>e = .returned (.int .i64 (nodeE V8 x:Nat))∧Below w.heap.size w w':=by
 have H1:=Lib.hid (isName_is x.name (w.alloc (.cells #[.string x.name,.int .i64 x.room,.string x.zone] 40)) (hT.below (below_one _ _)))
 have HN:=Lib.hid isNote_is
 have HT:=Lib.hid (hT.below (below_one w (.cells #[.string x.name,.int .i64 x.room,.string x.zone] 40)))
 obtain⟨c1,h1⟩:∃c,isName V8 x.name=c:=⟨_,rfl⟩
 obtain⟨c2,h2⟩:∃c,isNote V8 x.zone=c:=⟨_,rfl⟩
 obtain⟨d0,g0⟩:∃d,inR x.room (0) 1000000=d:=⟨_,rfl⟩
 have G0:=Lib.hid (within_is x.room (0) 1000000)
 rw[g0] at G0
 have HE:Hid (nodeE V8 x=if (c1&&c2)=true then(if (d0)=true then 0 else 1) else 4):=by show _=_;rw[nodeE,h1,h2,g0]
 obtain⟨R,hR⟩:∃R,nodeE V8 x=R:=⟨_,rfl⟩
 rw[hR] at HE⊢
 rw[h1] at H1
 have H2:Hid (isNote V8 x.zone=c2):=h2
 clear hT h1 h2 hR g0
 cases c1 with
 | false =>
  go_enter Tryz.func36,Tryz.ntmps36
  go_wp2_with fail
  refine H1.out.mono ?_
  rintro e w1 ⟨rfl,b1⟩
  go_wp2
  go_ret
  exact⟨by rw[HE.out];rfl,below_trans (below_one _ _) b1 (by simp)⟩
 | true =>
  cases c2 with
  | false =>
   go_enter Tryz.func36,Tryz.ntmps36
   go_wp2_with fail
   refine H1.out.mono ?_
   rintro e w1 ⟨rfl,b1⟩
   have bx:=box_next (box_new3 w (.string x.name) (.int .i64 x.room) (.string x.zone) 40) b1
   have HT1:=HT.out.below b1
   have hb1:=below_trans (below_one _ _) b1 (by simp)
   clear b1
   have k0:=bx.1 0 _ rfl
   have k1:=bx.1 1 _ rfl
   have k2:=bx.1 2 _ rfl
   go_wp2_with fail
   refine(HN.out x.zone w1 HT1).mono ?_
   rintro e w2 ⟨rfl,b2⟩
   rw[H2.out]
   have bx2:=box_next bx b2
   have hb2:=below_trans hb1 b2 hb1.size
   clear b2 bx k0 k1 k2
   have k0:=bx2.1 0 _ rfl
   have k1:=bx2.1 1 _ rfl
   have k2:=bx2.1 2 _ rfl
   go_wp2
   go_ret
   exact⟨by rw[HE.out];rfl,hb2⟩
  | true =>
   cases d0 with
   | false =>
    go_enter Tryz.func36,Tryz.ntmps36
    go_wp2_with fail
    refine H1.out.mono ?_
    rintro e w1 ⟨rfl,b1⟩
    have bx:=box_next (box_new3 w (.string x.name) (.int .i64 x.room) (.string x.zone) 40) b1
    have HT1:=HT.out.below b1
    have hb1:=below_trans (below_one _ _) b1 (by simp)
    clear b1
    have k0:=bx.1 0 _ rfl
    have k1:=bx.1 1 _ rfl
    have k2:=bx.1 2 _ rfl
    go_wp2_with fail
    refine(HN.out x.zone w1 HT1).mono ?_
    rintro e w2 ⟨rfl,b2⟩
    rw[H2.out]
    have bx2:=box_next bx b2
    have hb2:=below_trans hb1 b2 hb1.size
    clear b2 bx k0 k1 k2
    have k0:=bx2.1 0 _ rfl
    have k1:=bx2.1 1 _ rfl
    have k2:=bx2.1 2 _ rfl
    go_wp2_with fail
    refine(G0.out _).mono ?_
    rintro e w3 ⟨rfl,rfl⟩
    go_wp2
    go_ret
    exact⟨by rw[HE.out];rfl,hb2⟩
   | true =>
    go_enter Tryz.func36,Tryz.ntmps36
    go_wp2_with fail
    refine H1.out.mono ?_
    rintro e w1 ⟨rfl,b1⟩
    have bx:=box_next (box_new3 w (.string x.name) (.int .i64 x.room) (.string x.zone) 40) b1
    have HT1:=HT.out.below b1
    have hb1:=below_trans (below_one _ _) b1 (by simp)
    clear b1
    have k0:=bx.1 0 _ rfl
    have k1:=bx.1 1 _ rfl
    have k2:=bx.1 2 _ rfl
    go_wp2_with fail
    refine(HN.out x.zone w1 HT1).mono ?_
    rintro e w2 ⟨rfl,b2⟩
    rw[H2.out]
    have bx2:=box_next bx b2
    have hb2:=below_trans hb1 b2 hb1.size
    clear b2 bx k0 k1 k2
    have k0:=bx2.1 0 _ rfl
    have k1:=bx2.1 1 _ rfl
    have k2:=bx2.1 2 _ rfl
    go_wp2_with fail
    refine(G0.out _).mono ?_
    rintro e w3 ⟨rfl,rfl⟩
    go_wp2
    go_ret
    exact⟨by rw[HE.out];rfl,hb2⟩
end Go.Proofs.YtiekgafopalfmaaGreatDoor
namespace Go.Proofs.YtiekgafopalfmaaGreatDoor
open Go.RowKit
theorem leaseE_is {jobs:List JobD}{nodes:List NodeD}{x:LeaseD}{c1 c2 d:Bool} (h1:hasJob jobs x.job=c1) (h2:hasNode nodes x.node=c2) (h3:inR x.til 0 1099511627776=d):leaseE jobs nodes x=if (c1&&c2)=true then(if d=true then 0 else 1) else 6:=by rw[leaseE,h1,h2,h3]
def TabsAt (bj bn:Nat) (jobs:List JobD) (nodes:List NodeD) (w:World):Prop:=MapAt w bj 40 (tabF (·.name) jobV jobs)∧MapAt w bn 20 (tabF (·.name) nodeV nodes)
theorem tabsAt_next {bj bn:Nat}{jobs:List JobD}{nodes:List NodeD}:∀w w',TabsAt bj bn jobs nodes w→Below w.heap.size w w'→TabsAt bj bn jobs nodes w':=fun _ _ h hb=>⟨mapAt_below h.1 hb,mapAt_below h.2 hb⟩
theorem checkUntil_is (x:LeaseD) (d:Bool) (h:inR x.til 0 1099511627776=d) (w:World) :
  Calls Tryz.prog 76 #[.agg #[.string x.job,.string x.node,.int .i64 x.til]] w fun e w'=>e = .returned (.int .i64 ((if d=true then 0 else 1:Nat):Int))∧Below w.heap.size w w':=by
 have G:=Lib.hid (within_is x.til 0 1099511627776)
 rw[h] at G
 have bel:=below_one w (.cells #[.string x.job,.string x.node,.int .i64 x.til] 42)
 clear h
 go_enter Tryz.func76,Tryz.ntmps76
 go_wp2_with fail
 refine(G.out _).mono ?_
 rintro e w1 ⟨rfl,rfl⟩
 cases d with
 | false =>
  go_wp2
  go_ret
  exact⟨rfl,bel⟩
 | true =>
  go_wp2
  go_ret
  exact⟨rfl,bel⟩
theorem checkLease_is (bj bn:Nat) (jobs:List JobD) (nodes:List NodeD) (x:LeaseD) (hw0:x.job.size≤maxLen) (hw1:x.node.size≤maxLen) (w:World) (hT:TabsAt bj bn jobs nodes w) :
  Calls Tryz.prog 40 #[.agg #[.map (some bj),.map (some bn)],.agg #[.string x.job,.string x.node,.int .i64 x.til]] w fun e w'=>e = .returned (.int .i64 (leaseE jobs nodes x:Nat))∧Below w.heap.size w w':=by
 obtain⟨c1,h1⟩:∃c,hasJob jobs x.job=c:=⟨_,rfl⟩
 obtain⟨c2,h2⟩:∃c,hasNode nodes x.node=c:=⟨_,rfl⟩
 obtain⟨d,h3⟩:∃d,inR x.til 0 1099511627776=d:=⟨_,rfl⟩
 have HE:=Lib.hid (leaseE_is h1 h2 h3)
 obtain⟨R,hR⟩:∃R,leaseE jobs nodes x=R:=⟨_,rfl⟩
 rw[hR] at HE⊢
 have G:=Lib.hid (checkUntil_is x d h3)
 have m1:=mapAt_alloc (mapAt_alloc hT.1 (.cells #[.map (some bj),.map (some bn)] 84)) (.cells #[.string x.job,.string x.node,.int .i64 x.til] 42)
 have m2:=mapAt_alloc (mapAt_alloc hT.2 (.cells #[.map (some bj),.map (some bn)] 84)) (.cells #[.string x.job,.string x.node,.int .i64 x.til] 42)
 obtain⟨y,hy⟩:∃y,y=pickJ jobs x.job:=⟨_,rfl⟩
 obtain⟨z,hz⟩:∃z,z=pickN nodes x.node:=⟨_,rfl⟩
 have Z1:Hid ((tabF (·.name) jobV jobs x.job).getD (jobV zeroJ) = .agg #[.string y.name,.int .i64 y.prio,.int .i64 y.need,.int .i64 y.tries,.string y.tag]):=by show _=_;rw[tabF_pickJ,hy];rfl
 have Z2:Hid ((tabF (·.name) nodeV nodes x.node).getD (nodeV zeroN) = .agg #[.string z.name,.int .i64 z.room,.string z.zone]):=by show _=_;rw[tabF_pickN,hz];rfl
 have Y1:Hid ((tabF (·.name) jobV jobs x.job).isSome=c1):=by show _=_;rw[tabF_job];exact h1
 have Y2:Hid ((tabF (·.name) nodeV nodes x.node).isSome=c2):=by show _=_;rw[tabF_node];exact h2
 have m2':=mapAt_alloc m2 (.cells #[.string y.name,.int .i64 y.prio,.int .i64 y.need,.int .i64 y.tries,.string y.tag] 38)
 clear hT h1 h2 h3 hR hy hz m2
 go_enter Tryz.func40,Tryz.ntmps40
 have bel:Below w.heap.size w ((((w.alloc (.cells #[.map (some bj),.map (some bn)] 84)).alloc (.cells #[.string x.job,.string x.node,.int .i64 x.til] 42)).alloc (.cells #[.string y.name,.int .i64 y.prio,.int .i64 y.need,.int .i64 y.tries,.string y.tag] 38)).alloc (.cells #[.string z.name,.int .i64 z.room,.string z.zone] 40)) :=
  ((((below_one _ _).alloc (by simp) _).alloc (by simp;omega) _).alloc (by simp;omega) _)
 cases c1 with
 | false =>
  go_wp2_with (first
   | (at_lookup;refine wpList_look_ok _ rfl _ _ 81 rfl 38 Tryz.underlying81 (zeroJob _) _ _ _ rfl m1 x.job rfl hw0 _ _ Z1.out Y1.out ?_)
   | (at_lookup;refine wpList_look_ok _ rfl _ _ 82 rfl 40 Tryz.underlying82 (zeroNode _) _ _ _ rfl m2' x.node rfl hw1 _ _ Z2.out Y2.out ?_))
  go_ret
  exact⟨by rw[HE.out];rfl,bel⟩
 | true =>
  cases c2 with
  | false =>
   go_wp2_with (first
    | (at_lookup;refine wpList_look_ok _ rfl _ _ 81 rfl 38 Tryz.underlying81 (zeroJob _) _ _ _ rfl m1 x.job rfl hw0 _ _ Z1.out Y1.out ?_)
    | (at_lookup;refine wpList_look_ok _ rfl _ _ 82 rfl 40 Tryz.underlying82 (zeroNode _) _ _ _ rfl m2' x.node rfl hw1 _ _ Z2.out Y2.out ?_))
   go_ret
   exact⟨by rw[HE.out];rfl,bel⟩
  | true =>
   go_wp2_with (first
    | (at_lookup;refine wpList_look_ok _ rfl _ _ 81 rfl 38 Tryz.underlying81 (zeroJob _) _ _ _ rfl m1 x.job rfl hw0 _ _ Z1.out Y1.out ?_)
    | (at_lookup;refine wpList_look_ok _ rfl _ _ 82 rfl 40 Tryz.underlying82 (zeroNode _) _ _ _ rfl m2' x.node rfl hw1 _ _ Z2.out Y2.out ?_))
   refine(G.out _).mono ?_
   rintro e w1 ⟨rfl,b1⟩
   have hB:=Lib.hid (below_trans bel b1 bel.size)
   clear b1
   cases d with
   | false =>
    simp only[Bool.false_eq_true,if_false]
    go_wp2
    go_ret
    exact⟨by rw[HE.out];rfl,hB.out⟩
   | true =>
    simp only[if_true]
    go_wp2
    go_ret
    exact⟨by rw[HE.out];rfl,hB.out⟩
theorem checkRoom_is (U:ByteArray→Bool) (bj bn:Nat) (rev:Int) (aj an al:Option Addr) (cj cn cl:Nat) (jobs:List JobD) (nodes:List NodeD) (leases:List LeaseD) (hJ:∀j∈jobs,jobE U j=0) (hA:Asc (·.name) jobs) (hl:leases.length≤40) (hn:nodes.length≤20)
  (hwn:∀x∈nodes,wNode x) (hwl:∀x∈leases,wLease x) (w:World) (hmn:NodesAt w an nodes) (hml:LeasesAt w al leases) (hM:MapAt w bj 40 (tabF (·.name) jobV jobs)) :
  Calls Tryz.prog 42 #[.agg #[.map (some bj),.map (some bn)],.agg #[.int .i64 rev,.slice aj jobs.length cj,.slice an nodes.length cn,.slice al leases.length cl]] w fun e w'=>e = .returned (.int .i64 (roomE jobs leases nodes:Nat))∧Below w.heap.size w w':=by
 obtain⟨W,hW⟩:∃W,(w.alloc (.cells #[.map (some bj),.map (some bn)] 84)).alloc (.cells #[.int .i64 rev,.slice aj jobs.length cj,.slice an nodes.length cn,.slice al leases.length cl] 26)=W:=⟨_,rfl⟩
 have hbW:Below w.heap.size w W:=by rw[←hW];exact(below_one _ _).alloc (by simp) _
 have q2:=box_new4 (w.alloc (.cells #[.map (some bj),.map (some bn)] 84)) (.int .i64 rev) (.slice aj jobs.length cj) (.slice an nodes.length cn) (.slice al leases.length cl) 26
 rw[World.size_alloc,hW] at q2
 have HU:=Lib.hid (used_is U bj bn jobs hJ hA al cl leases hl hwl W (leasesAt_next hml hbW) (mapAt_below hM hbW))
 have HMN:=Lib.hid (nodesAt_next hmn hbW)
 have HWN:=Lib.hid hwn
 have HJ:=Lib.hid hJ
 have HW:=Lib.hid hW
 clear hJ hA hwn hwl hmn hml hM hW
 go_enter Tryz.func42,Tryz.ntmps42
 go_wp2_with fail
 rw[HW.out]
 refine HU.out.mono ?_
 rintro e w1 ⟨bs,rfl,ms,b1⟩
 have q3:=box_next q2 b1
 have c2:=q3.1 2 _ rfl
 have hb1:=below_trans hbW b1 hbW.size
 clear HU HW
 go_wp2
 go_loopw [15] (fun iv wr=>∃(i:Nat),iv = .int .i64 (i:Int)∧i≤nodes.length∧Below w1.heap.size w1 wr∧Hid (∀j,(hj:j<nodes.length)→j<i→usedD jobs leases nodes[j].name≤nodes[j].room)) (fun iv _=>nodes.length - (intOf iv).toNat)
 case atStart=>exact⟨0,rfl,Nat.zero_le _,Below.refl _ _,fun j _ hj=>by omega⟩
 case round =>
  obtain⟨i,rfl,hi,hbr,HS⟩:=hrel
  by_cases h:(i:Int)<(nodes.length:Int)
  ·have hil:i<nodes.length:=by omega
   obtain⟨a,rfl,hal,k0,k1,k2⟩:=nodesAt_next (nodesAt_next HMN.out b1) hbr i hil
   have hbd:=used_take_bd U HJ.out nodes[i].name leases hl leases.length
   rw[List.take_length] at hbd
   obtain⟨x,hxi⟩:∃x,nodes[i]=x:=⟨_,rfl⟩
   rw[hxi] at k0 k1 k2 hbd
   have hwx:=HWN.out x (by rw[←hxi];exact List.getElem_mem _)
   have hw0:x.name.size≤maxLen:=hwx.1
   obtain⟨c,hc⟩:∃c,c=usedD jobs leases x.name:=⟨_,rfl⟩
   have Z1:Hid ((sumF jobs leases x.name).getD (.int .i64 0) = .int .i64 c):=by show _=_;rw[hc];exact sumF_get _ _ _
   have m1:=mapAt_alloc (mapAt_below ms hbr) (.cells #[.string x.name,.int .i64 x.room,.string x.zone] 40)
   have HC:=Lib.hid hc
   have HX:=Lib.hid hxi
   have hb2:=(below_trans hb1 hbr hb1.size).alloc (Nat.le_trans hb1.size hbr.size) (.cells #[.string x.name,.int .i64 x.room,.string x.zone] 40)
   clear hc hxi hwx q2 q3 c2
   by_cases hr:x.room<c
   ·have HR:Hid (roomE jobs leases nodes=9):=roomE_no i hil (by rw[HX.out,←HC.out];exact hr)
    go_wp2_with (at_lookup;refine wpList_look _ rfl _ _ 116 rfl 3 Tryz.underlying116 (zeroInt _) _ _ _ rfl m1 x.name rfl hw0 _ Z1.out ?_)
    go_ret
    exact⟨by rw[HR.out];rfl,hb2⟩
   ·have HS2:Hid (∀j,(hj:j<nodes.length)→j<i+1→usedD jobs leases nodes[j].name≤nodes[j].room):=by
     intro j hj hji
     by_cases e:j=i
     ·subst e;rw[HX.out,←HC.out];omega
     ·exact HS.out j hj (by omega)
    go_wp2_with (at_lookup;refine wpList_look _ rfl _ _ 116 rfl 3 Tryz.underlying116 (zeroInt _) _ _ _ rfl m1 x.name rfl hw0 _ Z1.out ?_)
    go_roundw
    case rel=>exact⟨i+1,by simp,by omega,hbr.alloc hbr.size _,HS2⟩
    case measure=>simp[intOf];omega
  ·obtain rfl:i=nodes.length:=by omega
   have HR:Hid (roomE jobs leases nodes=0):=roomE_yes (fun j hj=>HS.out j hj hj)
   go_wp2
   go_ret
   exact⟨by rw[HR.out];rfl,below_trans hb1 hbr hb1.size⟩
theorem orE_stop {a b:Nat} (h:a≠0):orE a b=a:=if_pos h
theorem orE_go (b:Nat):orE 0 b=b:=if_neg (by simp)
theorem check_rev {s:StD} (h:inR s.rev 0 1099511627776=false):checkE V8 s=1:=by
 unfold checkE headSE
 rw[h];rfl
theorem check_large {s:StD} (h:inR s.rev 0 1099511627776=true) (h2:¬(s.jobs.length≤40∧s.leases.length≤40∧s.nodes.length≤20)):checkE V8 s=2:=by
 unfold checkE headSE
 rw[if_pos h,if_neg h2];rfl
theorem check_rows {s:StD} (h:inR s.rev 0 1099511627776=true) (h2:s.jobs.length≤40∧s.leases.length≤40∧s.nodes.length≤20) :
  checkE V8 s=orE (rowsE (jobE V8) (·.name) none s.jobs) (orE (rowsE (nodeE V8) (·.name) none s.nodes) (orE (rowsE (leaseE s.jobs s.nodes) (·.job) none s.leases) (roomE s.jobs s.leases s.nodes))):=by
 unfold checkE headSE
 rw[if_pos h,if_pos h2,orE_go]
end Go.Proofs.YtiekgafopalfmaaGreatDoor
namespace Go.Proofs.YtiekgafopalfmaaGreatDoor
open Go.RowKit
theorem check_any (rev:Int) (aj an al:Option Addr) (cj cn cl:Nat) (jobs:List JobD) (nodes:List NodeD) (leases:List LeaseD) (hw:wState ⟨rev,jobs,nodes,leases⟩) (w:World) (hT:Tabs w) (hmj:JobsAt w aj jobs) (hmn:NodesAt w an nodes) (hml:LeasesAt w al leases) :
  Calls Tryz.prog 15 #[.agg #[.int .i64 rev,.slice aj jobs.length cj,.slice an nodes.length cn,.slice al leases.length cl]] w fun e w'=>e = .returned (.int .i64 (checkE V8 ⟨rev,jobs,nodes,leases⟩:Nat))∧Below w.heap.size w w':=by
 obtain⟨R,hR⟩:∃R,checkE V8 ⟨rev,jobs,nodes,leases⟩=R:=⟨_,rfl⟩
 rw[hR]
 have HR:=Lib.hid hR
 obtain⟨hw0,hwj,hwn,hwl⟩:=hw
 obtain⟨c,hc⟩:∃c,inR rev 0 1099511627776=c:=⟨_,rfl⟩
 have G:=Lib.hid (within_is rev 0 1099511627776)
 rw[hc] at G
 have HC:=Lib.hid hc
 obtain⟨W,hW⟩:∃W,w.alloc (.cells #[.int .i64 rev,.slice aj jobs.length cj,.slice an nodes.length cn,.slice al leases.length cl] 26)=W:=⟨_,rfl⟩
 have bW:Below w.heap.size w W:=by rw[←hW];exact below_one _ _
 have q:=box_new4 w (.int .i64 rev) (.slice aj jobs.length cj) (.slice an nodes.length cn) (.slice al leases.length cl) 26
 rw[hW] at q
 have hTW:=Lib.hid (hT.below bW)
 have hmjW:=Lib.hid (jobsAt_next hmj bW)
 have hmnW:=Lib.hid (nodesAt_next hmn bW)
 have hmlW:=Lib.hid (leasesAt_next hml bW)
 have hwj:=Lib.hid hwj
 have hwn:=Lib.hid hwn
 have hwl:=Lib.hid hwl
 have hmf:∀(fn:Fn) (first cap:Array Value) (w:World),(Instr.makeFunc fn first cap).run Tryz.prog w = .ok (.func fn first cap) w:=fun _ _ _ _=>rfl
 have k0:=q.1 0 _ rfl
 have k1:=q.1 1 _ rfl
 have k2:=q.1 2 _ rfl
 have k3:=q.1 3 _ rfl
 clear hR hc hT hmj hmn hml hw0
 go_enter Tryz.func15,Tryz.ntmps15
 go_wp2_with fail
 refine(G.out _).mono ?_
 rintro e w0 ⟨rfl,rfl⟩
 cases c with
 | false =>
  have HR1:Hid (R=1):=HR.out.symm.trans (check_rev HC.out)
  go_wp2
  go_ret
  exact⟨by rw[HR1.out];rfl,bW⟩
 | true =>
 by_cases hj:¬jobs.length≤40
 ·have HR1:Hid (R=2):=HR.out.symm.trans (check_large HC.out (fun k=>hj k.1))
  go_wp2
  go_ret
  exact⟨by rw[HR1.out];rfl,bW⟩
 have hj:jobs.length≤40:=by omega
 by_cases hl:¬leases.length≤40
 ·have HR1:Hid (R=2):=HR.out.symm.trans (check_large HC.out (fun k=>hl k.2.1))
  go_wp2
  go_ret
  exact⟨by rw[HR1.out];rfl,bW⟩
 have hl:leases.length≤40:=by omega
 by_cases hn:¬nodes.length≤20
 ·have HR1:Hid (R=2):=HR.out.symm.trans (check_large HC.out (fun k=>hn k.2.2))
  go_wp2
  go_ret
  exact⟨by rw[HR1.out];rfl,bW⟩
 have hn:nodes.length≤20:=by omega
 have HR1:=Lib.hid (HR.out.symm.trans (check_rows HC.out ⟨hj,hl,hn⟩))
 clear HR HC G
 simp only at HR1
 have HJ:=Lib.hid (checkRows_job Tabs tabs_next (jobE V8) jobs (fun x _ w hT=>checkJob_is x w hT) aj cj hj W hTW.out hmjW.out)
 go_wp2_with fail
 refine HJ.out.mono ?_
 rintro e w1 ⟨rfl,b1⟩
 have q1:=box_next q b1
 have hb1:=below_trans bW b1 bW.size
 clear q k0 k1 k2 k3
 have k0:=q1.1 0 _ rfl
 have k1:=q1.1 1 _ rfl
 have k2:=q1.1 2 _ rfl
 have k3:=q1.1 3 _ rfl
 obtain⟨ej,hej⟩:∃ej,rowsE (jobE V8) (·.name) none jobs=ej:=⟨_,rfl⟩
 have HEJ:=Lib.hid hej
 rw[hej] at HR1⊢
 clear hej HJ
 by_cases h0:ej≠0
 ·have HR2:Hid (R=ej):=HR1.out.trans (orE_stop h0)
  have hc:((ej:Int)!=0)=true:=by simp;omega
  go_wp2
  go_ret
  exact⟨by rw[HR2.out];rfl,hb1⟩
 have h0:ej=0:=by simpa using h0
 subst h0
 have HR2:=Lib.hid (HR1.out.trans (orE_go _))
 clear HR1
 have HN:=Lib.hid (checkRows_node Tabs tabs_next (nodeE V8) nodes (fun x _ w hT=>checkNode_is x w hT) an cn (by omega) w1 (hTW.out.below b1) (nodesAt_next hmnW.out b1))
 go_wp2_with fail
 refine HN.out.mono ?_
 rintro e w2 ⟨rfl,b2⟩
 have q2:=box_next q1 b2
 have hb2:=below_trans hb1 b2 hb1.size
 clear q1 k0 k1 k2 k3
 have k0:=q2.1 0 _ rfl
 have k1:=q2.1 1 _ rfl
 have k2:=q2.1 2 _ rfl
 have k3:=q2.1 3 _ rfl
 obtain⟨en,hen⟩:∃en,rowsE (nodeE V8) (·.name) none nodes=en:=⟨_,rfl⟩
 rw[hen] at HR2⊢
 clear hen HN
 by_cases h0:en≠0
 ·have HR3:Hid (R=en):=HR2.out.trans (orE_stop h0)
  have hc:((en:Int)!=0)=true:=by simp;omega
  go_wp2
  go_ret
  exact⟨by rw[HR3.out];rfl,hb2⟩
 have h0:en=0:=by simpa using h0
 subst h0
 have HR3:=Lib.hid (HR2.out.trans (orE_go _))
 clear HR2
 have HTa:=Lib.hid (tablesOf_is rev aj an al cj cn cl jobs nodes leases hj hn hwj.out hwn.out w2 (jobsAt_next (jobsAt_next hmjW.out b1) b2) (nodesAt_next (nodesAt_next hmnW.out b1) b2))
 go_wp2_with fail
 refine HTa.out.mono ?_
 rintro e w3 ⟨bj,bn,rfl,m1,m2,b3⟩
 obtain⟨W4,hW4⟩:∃W4,w3.alloc (.cells #[.map (some bj),.map (some bn)] 84)=W4:=⟨_,rfl⟩
 have b4:Below w3.heap.size w3 W4:=by rw[←hW4];exact below_one _ _
 have q4:=box_next (box_next q2 b3) b4
 have p4:=box_new2 w3 (.map (some bj)) (.map (some bn)) 84
 rw[hW4] at p4
 have hb3:=below_trans hb2 b3 hb2.size
 have hb4:=below_trans hb3 b4 hb3.size
 have mT:TabsAt bj bn jobs nodes W4:=⟨mapAt_below m1 b4,mapAt_below m2 b4⟩
 clear q2 k0 k1 k2 k3 HTa
 have k0:=q4.1 0 _ rfl
 have k1:=q4.1 1 _ rfl
 have k2:=q4.1 2 _ rfl
 have k3:=q4.1 3 _ rfl
 have j0:=p4.1 0 _ rfl
 have j1:=p4.1 1 _ rfl
 have HL:=Lib.hid (checkRows_lease bj bn (TabsAt bj bn jobs nodes) tabsAt_next (leaseE jobs nodes) leases (fun x hx w hT=>checkLease_is bj bn jobs nodes x (hwl.out x hx).1 (hwl.out x hx).2.1 w hT) al cl hl W4 mT (leasesAt_next (leasesAt_next (leasesAt_next (leasesAt_next hmlW.out b1) b2) b3) b4))
 go_wp2_with fail
 refine HL.out.mono ?_
 rintro e w5 ⟨rfl,b5⟩
 have q5:=box_next q4 b5
 have p5:=box_next p4 b5
 have hb5:=below_trans hb4 b5 hb4.size
 have mT5:=tabsAt_next _ _ mT b5
 clear q4 p4 k0 k1 k2 k3 j0 j1
 have k0:=q5.1 0 _ rfl
 have k1:=q5.1 1 _ rfl
 have k2:=q5.1 2 _ rfl
 have k3:=q5.1 3 _ rfl
 have j0:=p5.1 0 _ rfl
 have j1:=p5.1 1 _ rfl
 obtain⟨el,hel⟩:∃el,rowsE (leaseE jobs nodes) (·.job) none leases=el:=⟨_,rfl⟩
 rw[hel] at HR3⊢
 clear hel HL
 by_cases h0:el≠0
 ·have HR4:Hid (R=el):=HR3.out.trans (orE_stop h0)
  have hc:((el:Int)!=0)=true:=by simp;omega
  go_wp2
  go_ret
  exact⟨by rw[HR4.out];rfl,hb5⟩
 have h0:el=0:=by simpa using h0
 subst h0
 have HR4:=Lib.hid (HR3.out.trans (orE_go _))
 clear HR3
 have hz:=(rowsE_zero (jobE V8) (·.name) none jobs).1 HEJ.out
 have HRo:=Lib.hid (checkRoom_is V8 bj bn rev aj an al cj cn cl jobs nodes leases hz.1 hz.2.2 hl hn hwn.out hwl.out w5 (nodesAt_next (nodesAt_next (nodesAt_next (nodesAt_next (nodesAt_next hmnW.out b1) b2) b3) b4) b5) (leasesAt_next (leasesAt_next (leasesAt_next (leasesAt_next (leasesAt_next hmlW.out b1) b2) b3) b4) b5) mT5.1)
 clear hz
 go_wp2_with fail
 refine HRo.out.mono ?_
 rintro e w6 ⟨rfl,b6⟩
 have hb6:=below_trans hb5 b6 hb5.size
 rw[←HR4.out]
 go_wp2
 go_ret
 exact⟨rfl,hb6⟩
end Go.Proofs.YtiekgafopalfmaaGreatDoor
namespace Go.Proofs.YtiekgafopalfmaaGreatDoor
open Go.RowKit
def tagged (j:JobD):Bool:=decide (j.tag.size≠0)
def tried (j:JobD):Bool:=decide (j.tries≠0)
def zoned (n:NodeD):Bool:=decide (n.zone.size≠0)
def n3 (s:StD):Bool:=decide (s.rev≠0)||s.jobs.any tagged
def n2 (s:StD):Bool:=s.jobs.any tried||s.nodes.any zoned
end Go.Proofs.YtiekgafopalfmaaGreatDoor
namespace Go.Proofs.YtiekgafopalfmaaGreatDoor
open Go.RowKit
end Go.Proofs.YtiekgafopalfmaaGreatDoor
namespace Go.Proofs.YtiekgafopalfmaaGreatDoor
open Go.RowKit Go.Lib
theorem grown_of_below {w w':World} (k:Below w.heap.size w w') (row:Option Nat):w.grownBy w' row:=⟨k.os,k.tape,k.output,k.size,fun i hi _=>k.block i hi⟩
theorem grown_set (w:World) (b j:Nat) (u:Value):w.grownBy (w.setCell ⟨b,j,none⟩ u) (some b) :=
 ⟨rfl,rfl,rfl,by simp[World.setCell],fun k _ hr=>Below.heap_setCell _ _ _ _ (by simp at hr;exact hr)⟩
theorem own_next {W W':World}{B e size n:Nat}{v:Value}{xs:List Value} (h:W.ownsRow B e size v n xs) (hb:Below W.heap.size W W'):W'.ownsRow B e size v n xs :=
 h.kept (grown_of_below hb none) (by cases v.ownBlock <;> simp)
theorem own_set {w:World}{B e size n b:Nat}{v:Value}{xs:List Value} (h:w.ownsRow B e size v n xs) (hb:b<B) (j:Nat) (u:Value):(w.setCell ⟨b,j,none⟩ u).ownsRow B e size v n xs:=by
 refine h.kept (grown_set w b j u) ?_
 cases hk:v.ownBlock with
 | none=>exact .inl rfl
 | some k =>
  right
  intro he
  have h1:=(h.lt k hk).1
  simp at he
  omega
theorem info_parts' {P:Program}{e:TypeId}{z:Value}{n b:Nat} (h:(P.info? e).map (fun i=>(i.zero,i.size,i.bytes))=some (some z,n,b)):∃i,P.info? e=some i∧i.zero=some z∧i.size=n∧i.bytes=b:=by
 cases hi:P.info? e with
 | none=>rw[hi] at h;simp at h
 | some i=>rw[hi] at h;simp only[Option.map_some,Option.some.injEq,Prod.mk.injEq] at h;exact⟨i,rfl,h.1,h.2.1,h.2.2⟩
theorem bad_is (w:World):Calls Tryz.prog 7 #[] w fun e w'=>e = .returned (.agg #[.int .i64 (-1),.slice none 0 0,.slice none 0 0,.slice none 0 0])∧Below w.heap.size w w':=by
 go_enter Tryz.func7,Tryz.ntmps7
 go_wp2
 exact bodyPost_ret (v:=.agg #[.int .i64 (-1),.slice none 0 0,.slice none 0 0,.slice none 0 0]) (by simp[results,Tryz.results7,go_sem]) rfl ⟨rfl,below_one _ _⟩
theorem v1 (b:UInt8) (h:b.toNat<128):V8 ⟨#[b]⟩=true:=by
 show validD [b]=true
 rw[validD_cons b [] h];rfl
theorem v0:V8 ⟨#[]⟩=true:=rfl
end Go.Proofs.YtiekgafopalfmaaGreatDoor
namespace Go.Proofs.YtiekgafopalfmaaGreatDoor
open Go.RowKit
theorem run_app_nil {w:World} (base:Nat) (t ty e:TypeId) (i:TypeInfo) (size:Nat) (ht:Tryz.prog.underlying t=some (.slice e)) (hi:Tryz.prog.info? e=some i) (v:Value) (n:Nat) (xs:List Value) (hown:w.ownsRow base e size v n xs) (c:Nat) :
  (Builtin.append_ #[t,t] ty #[v,.slice none 0 c]).run Tryz.prog w = .ok v w:=by
 rcases hown.2 with ⟨rfl,rfl⟩ | ⟨g,cap,cur,rfl,_,_,hnc,_⟩
 ·simp[Builtin.append_,run_underlying ht,sizeOf,typeInfo,hi,Builtin.lenOf,Builtin.firstCells]
 ·simp[Builtin.append_,run_underlying ht,sizeOf,typeInfo,hi,Builtin.lenOf,Builtin.firstCells,hnc,storeCells]
theorem run_app {w:World} (base:Nat) (t ty e:TypeId) (i:TypeInfo) (z:Value) (size bytes:Nat) (ht:Tryz.prog.underlying t=some (.slice e)) (hi:Tryz.prog.info? e=some i) (hz:i.zero=some z)
  (hsize:i.size=size) (hby:i.bytes=bytes) (hzs:z.cells.size=size) (hsz:0<size)
  (v:Value) (n:Nat) (xs:List Value) (hown:w.ownsRow base e size v n xs)
  (ad:Option Addr) (m c:Nat) (news:List Value) (hl:news.length=m*size) (hnews:∀j u,news[j]?=some u→∃a,ad=some a∧w.cell? (a.add j)=some u) (h1:∀u∈news,u.oneCell'=true)
  (h63:n+m≤maxLen) (hbytes:(n+m)*bytes≤140737488355328) (hbase:base≤w.heap.size) :
  ∃v' w',(Builtin.append_ #[t,t] ty #[v,.slice ad m c]).run Tryz.prog w = .ok v' w'∧w'.ownsRow base e size v' (n+m) (xs++news)∧w.grownBy w' v.ownBlock∧(v'.ownBlock=v.ownBlock∨v'.ownBlock=some w.heap.size):=by
 cases ad with
 | none =>
  have hn:news = []:=by
   cases news with
   | nil=>rfl
   | cons u l=>obtain⟨a,ha,_⟩:=hnews 0 u rfl;cases ha
  subst hn
  have hm:m=0:=by
   simp only[List.length_nil] at hl
   rcases Nat.mul_eq_zero.1 hl.symm with h | h
   ·exact h
   ·omega
  subst hm
  exact⟨v,w,run_app_nil base t ty e i size ht hi v n xs hown c,by simpa using hown,⟨rfl,rfl,rfl,Nat.le_refl _,fun _ _ _=>rfl⟩,.inl rfl⟩
 | some a =>
  obtain⟨v',w',hr,h2,h3,_,h5⟩:=run_append_own_at (P:=Tryz.prog) w base t ty e i z size bytes ht hi hz hsize hby hzs hsz v n xs hown a m c news hl (fun j u hj=>by obtain⟨a',ha,hc⟩:=hnews j u hj;cases ha;exact hc) h1 h63 hbytes hbase
  exact⟨v',w',hr,h2,h3,h5⟩
theorem wp_app {w:World}{o:Oper}{a:Act}{K:Act→World→Prop}{Q:Exit→Act→World→Prop} (s x:Operand) (t:TypeId)
  (ho:o.op = .call { callee:=.builtin .append,args:=#[s,x],argTypes:=#[t,t] })
  (base:Nat) (e:TypeId) (i:TypeInfo) (z:Value) (size bytes:Nat) (ht:Tryz.prog.underlying t=some (.slice e)) (hi:Tryz.prog.info? e=some i) (hz:i.zero=some z)
  (hsize:i.size=size) (hby:i.bytes=bytes) (hzs:z.cells.size=size) (hsz:0<size)
  (v:Value) (n:Nat) (xs:List Value) (hs:a.eval s=v) (hown:w.ownsRow base e size v n xs)
  (ad:Option Addr) (m c:Nat) (news:List Value) (hx:a.eval x = .slice ad m c) (hl:news.length=m*size) (hnews:∀j u,news[j]?=some u→∃a,ad=some a∧w.cell? (a.add j)=some u) (h1:∀u∈news,u.oneCell'=true)
  (h63:n+m≤maxLen) (hbytes:(n+m)*bytes≤140737488355328) (hbase:base≤w.heap.size)
  (h:∀v' w',w'.ownsRow base e size v' (n+m) (xs++news)→w.grownBy w' v.ownBlock→(v'.ownBlock=v.ownBlock∨v'.ownBlock=some w.heap.size)→K (a.put o.dst v') w'):Oper.wp Tryz.prog o a w K Q:=by
 obtain⟨v',w',hr,h2,h3,h5⟩:=run_app (w:=w) base t o.type e i z size bytes ht hi hz hsize hby hzs hsz v n xs hown ad m c news hl hnews h1 h63 hbytes hbase
 unfold Oper.wp
 simp only[execOp,ho,resolve,invoke,builtin,Sem.run_bind,Sem.run_pure,Result.andThen_ok,List.map_toArray,List.map_cons,List.map_nil,hs,hx,hr]
 exact h v' w' h2 h3 h5
theorem wpList_app {w:World}{ops:Array Oper}{rest:List Oper}{o:Oper}{a:Act}{Q:Exit→Act→World→Prop} (hgd:o.guard=none) (s x:Operand) (t:TypeId)
  (ho:o.op = .call { callee:=.builtin .append,args:=#[s,x],argTypes:=#[t,t] })
  (base:Nat) (e:TypeId) (i:TypeInfo) (z:Value) (size bytes:Nat) (ht:Tryz.prog.underlying t=some (.slice e)) (hi:Tryz.prog.info? e=some i) (hz:i.zero=some z)
  (hsize:i.size=size) (hby:i.bytes=bytes) (hzs:z.cells.size=size) (hsz:0<size)
  (v:Value) (n:Nat) (xs:List Value) (hs:a.eval s=v) (hown:w.ownsRow base e size v n xs)
  (ad:Option Addr) (m c:Nat) (news:List Value) (hx:a.eval x = .slice ad m c) (hl:news.length=m*size) (hnews:∀j u,news[j]?=some u→∃a,ad=some a∧w.cell? (a.add j)=some u) (h1:∀u∈news,u.oneCell'=true)
  (h63:n+m≤maxLen) (hbytes:(n+m)*bytes≤140737488355328) (hbase:base≤w.heap.size)
  (h:∀v' w',w'.ownsRow base e size v' (n+m) (xs++news)→w.grownBy w' v.ownBlock→(v'.ownBlock=v.ownBlock∨v'.ownBlock=some w.heap.size)→wpList Tryz.prog ops Q rest (a.put o.dst v') w'):wpList Tryz.prog ops Q (o :: rest) a w :=
 wpList_plain hgd fun _ hK=>wp_app s x t ho base e i z size bytes ht hi hz hsize hby hzs hsz v n xs hs hown ad m c news hx hl hnews h1 h63 hbytes hbase fun v' w' h2 h3 h4=>hK _ _ (h v' w' h2 h3 h4)
theorem add_add' (a:Addr) (i j:Nat):(a.add i).add j=a.add (i+j):=by
 unfold Addr.add
 split <;> split <;> split <;> first | rfl | omega | (simp;omega) | simp
theorem jobsAt_cells {w:World}{a:Addr}{xs:List JobD} (h:JobsAt w (some a) xs):∀j u,(cJobs xs)[j]?=some u→w.cell? (a.add j)=some u:=by
 intro j u hj
 have hjl:j<xs.length*5:=by
  rw[←cJobs_length]
  exact(List.getElem?_eq_some_iff.1 hj).1
 have hr:j % 5<5:=Nat.mod_lt _ (by omega)
 have hi:j / 5<xs.length:=by omega
 have e:j / 5*5+j % 5=j:=by omega
 have hc:=cJobs_at xs (j / 5) hi (j % 5) hr
 rw[e,hj] at hc
 obtain⟨a',ha',_,k0,k1,k2,k3,k4⟩:=h (j / 5) hi
 cases ha'
 rw[←e]
 generalize j / 5=i at *
 generalize j % 5=r at *
 match r,hr with
 | 0,_=>rw[Nat.add_zero];simp[cJob] at hc;subst hc;exact k0
 | 1,_=>rw[add_next a (i*5) 0];simp[cJob] at hc;subst hc;exact k1
 | 2,_=>rw[add_next a (i*5) 1];simp[cJob] at hc;subst hc;exact k2
 | 3,_=>rw[add_next a (i*5) 2];simp[cJob] at hc;subst hc;exact k3
 | 4,_=>rw[add_next a (i*5) 3];simp[cJob] at hc;subst hc;exact k4
theorem jobsAt_drop {w:World}{a:Addr}{xs:List JobD} (h:JobsAt w (some a) xs) (l:Nat):JobsAt w (some (a.add (l*5))) (xs.drop l):=by
 intro i hi
 rw[List.length_drop] at hi
 obtain⟨a',ha',hl,k0,k1,k2,k3,k4⟩:=h (l+i) (by omega)
 cases ha'
 refine⟨_,rfl,by rw[add_block];exact hl,?_⟩
 have e:(a.add (l*5)).add (i*5)=a.add ((l+i)*5):=by rw[add_add'];congr 1;omega
 simp only[List.getElem_drop,e]
 exact⟨k0,k1,k2,k3,k4⟩
theorem jobsAt_take {w:World}{ad:Option Addr}{xs:List JobD} (h:JobsAt w ad xs) (n:Nat):JobsAt w ad (xs.take n):=by
 intro i hi
 rw[List.length_take] at hi
 obtain⟨a',ha',hl,hk⟩:=h i (by omega)
 refine⟨a',ha',hl,?_⟩
 simp only[List.getElem_take]
 exact hk
theorem src_job {w:World}{ad:Option Addr}{xs:List JobD} (h:JobsAt w ad xs):∀j u,(cJobs xs)[j]?=some u→∃a,ad=some a∧w.cell? (a.add j)=some u:=by
 intro j u hj
 cases xs with
 | nil=>simp[cJobs] at hj
 | cons x l =>
  obtain⟨a,ha,_⟩:=h 0 (by simp)
  subst ha
  exact⟨a,rfl,jobsAt_cells h j u hj⟩
theorem Tryz.info_job:(Tryz.prog.info? 38).map (fun i=>(i.zero,i.size,i.bytes))=some (some (.agg #[.string ⟨#[]⟩,.int .i64 0,.int .i64 0,.int .i64 0,.string ⟨#[]⟩]),5,56):=by kernel_rfl
theorem own_jobs {w:World}{B:Nat}{v:Value}{xs:List JobD} (h:w.ownsRow B 38 5 v xs.length (cJobs xs)):∃ad cap,v = .slice ad xs.length cap∧JobsAt w ad xs:=by
 rcases h.2 with ⟨rfl,hn⟩ | ⟨g,cap,cur,rfl,_⟩
 ·have:xs = []:=List.eq_nil_of_length_eq_zero hn
  subst this
  exact⟨none,0,rfl,fun i hi=>by simp at hi⟩
 ·exact⟨_,_,rfl,ownJobs h rfl⟩
theorem job_new (w:World) (x:JobD) (t:TypeId):∀j u,(cJob x)[j]?=some u→(w.alloc (.cells #[.string x.name,.int .i64 x.prio,.int .i64 x.need,.int .i64 x.tries,.string x.tag] t)).cell? ((⟨w.heap.size,0,none⟩:Addr).add j)=some u:=by
 intro j u hj
 rw[addr_add]
 exact(box_new5 w (.string x.name) (.int .i64 x.prio) (.int .i64 x.need) (.int .i64 x.tries) (.string x.tag) t).1 j u hj
theorem job_ones (x:JobD):∀u:Value,u∈cJob x→u.oneCell'=true:=fun u hu=>cJobs_ones [x] u (by rw[cJobs_one];exact hu)
theorem nodesAt_cells {w:World}{a:Addr}{xs:List NodeD} (h:NodesAt w (some a) xs):∀j u,(cNodes xs)[j]?=some u→w.cell? (a.add j)=some u:=by
 intro j u hj
 have hjl:j<xs.length*3:=by
  rw[←cNodes_length]
  exact(List.getElem?_eq_some_iff.1 hj).1
 have hr:j % 3<3:=Nat.mod_lt _ (by omega)
 have hi:j / 3<xs.length:=by omega
 have e:j / 3*3+j % 3=j:=by omega
 have hc:=cNodes_at xs (j / 3) hi (j % 3) hr
 rw[e,hj] at hc
 obtain⟨a',ha',_,k0,k1,k2⟩:=h (j / 3) hi
 cases ha'
 rw[←e]
 generalize j / 3=i at *
 generalize j % 3=r at *
 match r,hr with
 | 0,_=>rw[Nat.add_zero];simp[cNode] at hc;subst hc;exact k0
 | 1,_=>rw[add_next a (i*3) 0];simp[cNode] at hc;subst hc;exact k1
 | 2,_=>rw[add_next a (i*3) 1];simp[cNode] at hc;subst hc;exact k2
theorem nodesAt_drop {w:World}{a:Addr}{xs:List NodeD} (h:NodesAt w (some a) xs) (l:Nat):NodesAt w (some (a.add (l*3))) (xs.drop l):=by
 intro i hi
 rw[List.length_drop] at hi
 obtain⟨a',ha',hl,k0,k1,k2⟩:=h (l+i) (by omega)
 cases ha'
 refine⟨_,rfl,by rw[add_block];exact hl,?_⟩
 have e:(a.add (l*3)).add (i*3)=a.add ((l+i)*3):=by rw[add_add'];congr 1;omega
 simp only[List.getElem_drop,e]
 exact⟨k0,k1,k2⟩
theorem nodesAt_take {w:World}{ad:Option Addr}{xs:List NodeD} (h:NodesAt w ad xs) (n:Nat):NodesAt w ad (xs.take n):=by
 intro i hi
 rw[List.length_take] at hi
 obtain⟨a',ha',hl,hk⟩:=h i (by omega)
 refine⟨a',ha',hl,?_⟩
 simp only[List.getElem_take]
 exact hk
theorem src_node {w:World}{ad:Option Addr}{xs:List NodeD} (h:NodesAt w ad xs):∀j u,(cNodes xs)[j]?=some u→∃a,ad=some a∧w.cell? (a.add j)=some u:=by
 intro j u hj
 cases xs with
 | nil=>simp[cNodes] at hj
 | cons x l =>
  obtain⟨a,ha,_⟩:=h 0 (by simp)
  subst ha
  exact⟨a,rfl,nodesAt_cells h j u hj⟩
theorem Tryz.info_node:(Tryz.prog.info? 40).map (fun i=>(i.zero,i.size,i.bytes))=some (some (.agg #[.string ⟨#[]⟩,.int .i64 0,.string ⟨#[]⟩]),3,40):=by kernel_rfl
theorem own_nodes {w:World}{B:Nat}{v:Value}{xs:List NodeD} (h:w.ownsRow B 40 3 v xs.length (cNodes xs)):∃ad cap,v = .slice ad xs.length cap∧NodesAt w ad xs:=by
 rcases h.2 with ⟨rfl,hn⟩ | ⟨g,cap,cur,rfl,_⟩
 ·have:xs = []:=List.eq_nil_of_length_eq_zero hn
  subst this
  exact⟨none,0,rfl,fun i hi=>by simp at hi⟩
 ·exact⟨_,_,rfl,ownNodes h rfl⟩
theorem node_new (w:World) (x:NodeD) (t:TypeId):∀j u,(cNode x)[j]?=some u→(w.alloc (.cells #[.string x.name,.int .i64 x.room,.string x.zone] t)).cell? ((⟨w.heap.size,0,none⟩:Addr).add j)=some u:=by
 intro j u hj
 rw[addr_add]
 exact(box_new3 w (.string x.name) (.int .i64 x.room) (.string x.zone) t).1 j u hj
theorem node_ones (x:NodeD):∀u:Value,u∈cNode x→u.oneCell'=true:=fun u hu=>cNodes_ones [x] u (by rw[cNodes_one];exact hu)
theorem leasesAt_cells {w:World}{a:Addr}{xs:List LeaseD} (h:LeasesAt w (some a) xs):∀j u,(cLeases xs)[j]?=some u→w.cell? (a.add j)=some u:=by
 intro j u hj
 have hjl:j<xs.length*3:=by
  rw[←cLeases_length]
  exact(List.getElem?_eq_some_iff.1 hj).1
 have hr:j % 3<3:=Nat.mod_lt _ (by omega)
 have hi:j / 3<xs.length:=by omega
 have e:j / 3*3+j % 3=j:=by omega
 have hc:=cLeases_at xs (j / 3) hi (j % 3) hr
 rw[e,hj] at hc
 obtain⟨a',ha',_,k0,k1,k2⟩:=h (j / 3) hi
 cases ha'
 rw[←e]
 generalize j / 3=i at *
 generalize j % 3=r at *
 match r,hr with
 | 0,_=>rw[Nat.add_zero];simp[cLease] at hc;subst hc;exact k0
 | 1,_=>rw[add_next a (i*3) 0];simp[cLease] at hc;subst hc;exact k1
 | 2,_=>rw[add_next a (i*3) 1];simp[cLease] at hc;subst hc;exact k2
theorem leasesAt_drop {w:World}{a:Addr}{xs:List LeaseD} (h:LeasesAt w (some a) xs) (l:Nat):LeasesAt w (some (a.add (l*3))) (xs.drop l):=by
 intro i hi
 rw[List.length_drop] at hi
 obtain⟨a',ha',hl,k0,k1,k2⟩:=h (l+i) (by omega)
 cases ha'
 refine⟨_,rfl,by rw[add_block];exact hl,?_⟩
 have e:(a.add (l*3)).add (i*3)=a.add ((l+i)*3):=by rw[add_add'];congr 1;omega
 simp only[List.getElem_drop,e]
 exact⟨k0,k1,k2⟩
theorem leasesAt_take {w:World}{ad:Option Addr}{xs:List LeaseD} (h:LeasesAt w ad xs) (n:Nat):LeasesAt w ad (xs.take n):=by
 intro i hi
 rw[List.length_take] at hi
 obtain⟨a',ha',hl,hk⟩:=h i (by omega)
 refine⟨a',ha',hl,?_⟩
 simp only[List.getElem_take]
 exact hk
theorem src_lease {w:World}{ad:Option Addr}{xs:List LeaseD} (h:LeasesAt w ad xs):∀j u,(cLeases xs)[j]?=some u→∃a,ad=some a∧w.cell? (a.add j)=some u:=by
 intro j u hj
 cases xs with
 | nil=>simp[cLeases] at hj
 | cons x l =>
  obtain⟨a,ha,_⟩:=h 0 (by simp)
  subst ha
  exact⟨a,rfl,leasesAt_cells h j u hj⟩
theorem Tryz.info_lease:(Tryz.prog.info? 42).map (fun i=>(i.zero,i.size,i.bytes))=some (some (.agg #[.string ⟨#[]⟩,.string ⟨#[]⟩,.int .i64 0]),3,40):=by kernel_rfl
theorem own_leases {w:World}{B:Nat}{v:Value}{xs:List LeaseD} (h:w.ownsRow B 42 3 v xs.length (cLeases xs)):∃ad cap,v = .slice ad xs.length cap∧LeasesAt w ad xs:=by
 rcases h.2 with ⟨rfl,hn⟩ | ⟨g,cap,cur,rfl,_⟩
 ·have:xs = []:=List.eq_nil_of_length_eq_zero hn
  subst this
  exact⟨none,0,rfl,fun i hi=>by simp at hi⟩
 ·exact⟨_,_,rfl,ownLeases h rfl⟩
theorem lease_new (w:World) (x:LeaseD) (t:TypeId):∀j u,(cLease x)[j]?=some u→(w.alloc (.cells #[.string x.job,.string x.node,.int .i64 x.til] t)).cell? ((⟨w.heap.size,0,none⟩:Addr).add j)=some u:=by
 intro j u hj
 rw[addr_add]
 exact(box_new3 w (.string x.job) (.string x.node) (.int .i64 x.til) t).1 j u hj
theorem lease_ones (x:LeaseD):∀u:Value,u∈cLease x→u.oneCell'=true:=fun u hu=>cLeases_ones [x] u (by rw[cLeases_one];exact hu)
end Go.Proofs.YtiekgafopalfmaaGreatDoor
