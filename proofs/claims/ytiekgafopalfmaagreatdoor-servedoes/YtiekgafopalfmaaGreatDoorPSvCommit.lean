import Derived.Test.YtiekgafopalfmaaGreatDoorPPkSv2
import Derived.Test.YtiekgafopalfmaaGreatDoorPPkSv1
import Derived.Test.YtiekgafopalfmaaGreatDoorPPkUp4
import Derived.Test.YtiekgafopalfmaaGreatDoorPPkDl5
import Derived.Deep.RegionHeld3
import Derived.Deep.RegionLaw
set_option maxRecDepth 100000
set_option maxHeartbeats 8000000
namespace Go.Proofs.YtiekgafopalfmaaGreatDoor
open Go.RowKit Go.Lib
def CmAt (H:Nat) (ta:Array Value) (w V:World):Prop:=ObjAt H ta 96 V∧ObjAt (H+1) #[.int .i64 0,.int .i64 0,.slice none 0 0,.slice none 0 0,.slice none 0 0,.slice none 0 0,.slice none 0 0,.slice none 0 0] 49 V∧Below H w V
theorem cm_next {H:Nat}{ta:Array Value}{w V V':World} (h:CmAt H ta w V) (b:Below V.heap.size V V'):CmAt H ta w V':=⟨objAt_next h.1 b,objAt_next h.2.1 b,below_trans h.2.2 b (by have:=objAt_lt h.1;omega)⟩
theorem cm_drew {H:Nat}{ta:Array Value}{w V:World} (h:CmAt H ta w V):CmAt H ta w V.drew:=⟨objAt_drew h.1,objAt_drew h.2.1,h.2.2.drew⟩
theorem cm_size {H:Nat}{ta:Array Value}{w V:World} (h:CmAt H ta w V):H+2≤V.heap.size:=by have:=objAt_lt h.2.1;omega
theorem held8b {W V V':World}{b c:Nat}{a0 a1 a2 a3 c0 c1 c2 c3:Value} (hb:b<W.heap.size) (hc:c<W.heap.size) (h:(V.cell? ⟨b,0,none⟩=some a0∧V.cell? ⟨b,1,none⟩=some a1∧V.cell? ⟨b,2,none⟩=some a2∧V.cell? ⟨b,3,none⟩=some a3∧V.cell? ⟨c,0,none⟩=some c0∧V.cell? ⟨c,1,none⟩=some c1∧V.cell? ⟨c,2,none⟩=some c2∧V.cell? ⟨c,3,none⟩=some c3)∧Below W.heap.size W V) (k:Below V.heap.size V V'):(V'.cell? ⟨b,0,none⟩=some a0∧V'.cell? ⟨b,1,none⟩=some a1∧V'.cell? ⟨b,2,none⟩=some a2∧V'.cell? ⟨b,3,none⟩=some a3∧V'.cell? ⟨c,0,none⟩=some c0∧V'.cell? ⟨c,1,none⟩=some c1∧V'.cell? ⟨c,2,none⟩=some c2∧V'.cell? ⟨c,3,none⟩=some c3)∧Below W.heap.size W V':=by
 have hs:=h.2.size
 obtain⟨⟨h0,h1,h2,h3,h4,h5,h6,h7⟩,hB⟩:=h
 exact⟨⟨by rw[k.cell (p:=⟨b,0,none⟩) (by show b<_;omega)];exact h0,by rw[k.cell (p:=⟨b,1,none⟩) (by show b<_;omega)];exact h1,by rw[k.cell (p:=⟨b,2,none⟩) (by show b<_;omega)];exact h2,by rw[k.cell (p:=⟨b,3,none⟩) (by show b<_;omega)];exact h3,by rw[k.cell (p:=⟨c,0,none⟩) (by show c<_;omega)];exact h4,by rw[k.cell (p:=⟨c,1,none⟩) (by show c<_;omega)];exact h5,by rw[k.cell (p:=⟨c,2,none⟩) (by show c<_;omega)];exact h6,by rw[k.cell (p:=⟨c,3,none⟩) (by show c<_;omega)];exact h7⟩,below_trans hB k hs⟩
theorem rowT_dl:RowT 49:=by unfold RowT;decide
abbrev put8 (w:World) (N:Nat) (x0 x1 x2 x3 x4 x5 x6 x7:Value):World:=((((((((w.setCell ⟨N,0,none⟩ x0).setCell ⟨N,1,none⟩ x1).setCell ⟨N,2,none⟩ x2).setCell ⟨N,3,none⟩ x3).setCell ⟨N,4,none⟩ x4).setCell ⟨N,5,none⟩ x5).setCell ⟨N,6,none⟩ x6).setCell ⟨N,7,none⟩ x7)
theorem other_put8 {w:World}{N b:Nat}{vs:Array Value}{t:TypeId} (h:ObjAt b vs t w) (hn:b≠N) (x0 x1 x2 x3 x4 x5 x6 x7:Value):ObjAt b vs t (put8 w N x0 x1 x2 x3 x4 x5 x6 x7):=objAt_other (objAt_other (objAt_other (objAt_other (objAt_other (objAt_other (objAt_other (objAt_other h hn _ _) hn _ _) hn _ _) hn _ _) hn _ _) hn _ _) hn _ _) hn _ _
theorem ownS_put8 {B N:Nat}{aj an al:Option Addr}{cj cn cl:Nat}{s:StD}{w:World}{a0 a1 a2 a3 a4 a5 a6 a7:Value}{t:TypeId} (h:OwnS B aj an al cj cn cl s w) (ho:ObjAt N #[a0,a1,a2,a3,a4,a5,a6,a7] t w) (ht:RowT t) (x0 x1 x2 x3 x4 x5 x6 x7:Value):OwnS B aj an al cj cn cl s (put8 w N x0 x1 x2 x3 x4 x5 x6 x7):=⟨own_put8 h.1 ho ht.1 x0 x1 x2 x3 x4 x5 x6 x7,own_put8 h.2.1 ho ht.2.1 x0 x1 x2 x3 x4 x5 x6 x7,own_put8 h.2.2 ho ht.2.2 x0 x1 x2 x3 x4 x5 x6 x7⟩
theorem gN_put8 {N b:Nat}{w w0:World} (h:w0.grownBy w (some b)) (hn:w0.heap.size≤N) (x0 x1 x2 x3 x4 x5 x6 x7:Value):w0.grownBy (put8 w N x0 x1 x2 x3 x4 x5 x6 x7) (some b):=gN_app (gN_app (gN_app (gN_app (gN_app (gN_app (gN_app (gN_app h (grown_set w N 0 x0) (by intro k hk;cases hk;exact hn)) (grown_set _ N 1 x1) (by intro k hk;cases hk;exact hn)) (grown_set _ N 2 x2) (by intro k hk;cases hk;exact hn)) (grown_set _ N 3 x3) (by intro k hk;cases hk;exact hn)) (grown_set _ N 4 x4) (by intro k hk;cases hk;exact hn)) (grown_set _ N 5 x5) (by intro k hk;cases hk;exact hn)) (grown_set _ N 6 x6) (by intro k hk;cases hk;exact hn)) (grown_set _ N 7 x7) (by intro k hk;cases hk;exact hn)
abbrev put5 (w:World) (N:Nat) (x0 x1 x2 x3 x4:Value):World:=(((((w.setCell ⟨N,0,none⟩ x0).setCell ⟨N,1,none⟩ x1).setCell ⟨N,2,none⟩ x2).setCell ⟨N,3,none⟩ x3).setCell ⟨N,4,none⟩ x4)
theorem obj_put5 {w:World}{N:Nat}{a0 a1 a2 a3 a4:Value}{t:TypeId} (h:ObjAt N #[a0,a1,a2,a3,a4] t w) (x0 x1 x2 x3 x4:Value):ObjAt N #[x0,x1,x2,x3,x4] t (put5 w N x0 x1 x2 x3 x4):=by
 have h1:ObjAt N #[x0,a1,a2,a3,a4] t _:=objAt_set h 0 x0
 have h2:ObjAt N #[x0,x1,a2,a3,a4] t _:=objAt_set h1 1 x1
 have h3:ObjAt N #[x0,x1,x2,a3,a4] t _:=objAt_set h2 2 x2
 have h4:ObjAt N #[x0,x1,x2,x3,a4] t _:=objAt_set h3 3 x3
 exact objAt_set h4 4 x4
theorem other_put5 {w:World}{N b:Nat}{vs:Array Value}{t:TypeId} (h:ObjAt b vs t w) (hn:b≠N) (x0 x1 x2 x3 x4:Value):ObjAt b vs t (put5 w N x0 x1 x2 x3 x4):=objAt_other (objAt_other (objAt_other (objAt_other (objAt_other h hn _ _) hn _ _) hn _ _) hn _ _) hn _ _
theorem own_put5 {w:World}{B e sz n N:Nat}{v:Value}{xs:List Value}{a0 a1 a2 a3 a4:Value}{t:TypeId} (h:w.ownsRow B e sz v n xs) (ho:ObjAt N #[a0,a1,a2,a3,a4] t w) (ht:t≠e) (x0 x1 x2 x3 x4:Value):(put5 w N x0 x1 x2 x3 x4).ownsRow B e sz v n xs:=by
 have h1:ObjAt N #[x0,a1,a2,a3,a4] t _:=objAt_set ho 0 x0
 have h2:ObjAt N #[x0,x1,a2,a3,a4] t _:=objAt_set h1 1 x1
 have h3:ObjAt N #[x0,x1,x2,a3,a4] t _:=objAt_set h2 2 x2
 have h4:ObjAt N #[x0,x1,x2,x3,a4] t _:=objAt_set h3 3 x3
 exact own_box (own_box (own_box (own_box (own_box h ho ht 0 x0) h1 ht 1 x1) h2 ht 2 x2) h3 ht 3 x3) h4 ht 4 x4
theorem ownD_put5 {w:World}{B N:Nat}{M:DlM}{d:DelD}{a0 a1 a2 a3 a4:Value} (h:OwnD B M d w) (ho:ObjAt N #[a0,a1,a2,a3,a4] 59 w) (x0 x1 x2 x3 x4:Value):OwnD B M d (put5 w N x0 x1 x2 x3 x4):=⟨own_put5 h.1 ho (by decide) x0 x1 x2 x3 x4,own_put5 h.2.1 ho (by decide) x0 x1 x2 x3 x4,own_put5 h.2.2.1 ho (by decide) x0 x1 x2 x3 x4,own_put5 h.2.2.2.1 ho (by decide) x0 x1 x2 x3 x4,own_put5 h.2.2.2.2.1 ho (by decide) x0 x1 x2 x3 x4,own_put5 h.2.2.2.2.2 ho (by decide) x0 x1 x2 x3 x4⟩
theorem gN_put5 {N:Nat}{w w0:World} (h:w0.grownBy w (some N)) (x0 x1 x2 x3 x4:Value):w0.grownBy (put5 w N x0 x1 x2 x3 x4) (some N):=gN_set (gN_set (gN_set (gN_set (gN_set h _ _) _ _) _ _) _ _) _ _
def CmRel (H:Nat) (ta:Array Value) (w:World) (D:DelD) (p e:Value) (wc:World):Prop:=∃(L:Nat) (M:DlM),p = .pointer (some ⟨L,0,none⟩)∧e = .int .i64 0∧H+2≤L∧ObjAt L #[.int .i64 D.frm,.int .i64 D.til,.slice M.aj D.jobs.length M.cj,.slice M.an D.nodes.length M.cn,.slice M.al D.leases.length M.cl,.slice M.gj D.gj.length M.hj,.slice M.gn D.gn.length M.hn,.slice M.gl D.gl.length M.hl] 49 wc∧OwnD H M D wc∧CmAt H ta w wc
theorem cm_new {H:Nat}{ta:Array Value}{w x:World}{D:DelD}{M:DlM} (o:OwnD H M D x) (c:CmAt H ta w x):CmRel H ta w D (.pointer (some ⟨x.heap.size,0,none⟩)) (.int .i64 0) (x.alloc (.cells #[.int .i64 D.frm,.int .i64 D.til,.slice M.aj D.jobs.length M.cj,.slice M.an D.nodes.length M.cn,.slice M.al D.leases.length M.cl,.slice M.gj D.gj.length M.hj,.slice M.gn D.gn.length M.hn,.slice M.gl D.gl.length M.hl] 49)):=⟨x.heap.size,M,rfl,rfl,cm_size c,objAt_new x _ _,ownD_next o (below_one _ _),cm_next c (below_one _ _)⟩
theorem cm_put {H L:Nat}{ta:Array Value}{w x:World}{D:DelD}{M:DlM}{a0 a1 a2 a3 a4 a5 a6 a7:Value} (z:ObjAt L #[a0,a1,a2,a3,a4,a5,a6,a7] 49 x) (hL:H+2≤L) (o:OwnD H M D x) (c:CmAt H ta w x):CmRel H ta w D (.pointer (some ⟨L,0,none⟩)) (.int .i64 0) (put8 x L (.int .i64 D.frm) (.int .i64 D.til) (.slice M.aj D.jobs.length M.cj) (.slice M.an D.nodes.length M.cn) (.slice M.al D.leases.length M.cl) (.slice M.gj D.gj.length M.hj) (.slice M.gn D.gn.length M.hn) (.slice M.gl D.gl.length M.hl)):=⟨L,M,rfl,rfl,hL,obj_put8 z (.int .i64 D.frm) (.int .i64 D.til) (.slice M.aj D.jobs.length M.cj) (.slice M.an D.nodes.length M.cn) (.slice M.al D.leases.length M.cl) (.slice M.gj D.gj.length M.hj) (.slice M.gn D.gn.length M.hn) (.slice M.gl D.gl.length M.hl),ownD_put8 o z (.int .i64 D.frm) (.int .i64 D.til) (.slice M.aj D.jobs.length M.cj) (.slice M.an D.nodes.length M.cn) (.slice M.al D.leases.length M.cl) (.slice M.gj D.gj.length M.hj) (.slice M.gn D.gn.length M.hn) (.slice M.gl D.gl.length M.hl),other_put8 c.1 (by omega) (.int .i64 D.frm) (.int .i64 D.til) (.slice M.aj D.jobs.length M.cj) (.slice M.an D.nodes.length M.cn) (.slice M.al D.leases.length M.cl) (.slice M.gj D.gj.length M.hj) (.slice M.gn D.gn.length M.hn) (.slice M.gl D.gl.length M.hl),other_put8 c.2.1 (by omega) (.int .i64 D.frm) (.int .i64 D.til) (.slice M.aj D.jobs.length M.cj) (.slice M.an D.nodes.length M.cn) (.slice M.al D.leases.length M.cl) (.slice M.gj D.gj.length M.hj) (.slice M.gn D.gn.length M.hn) (.slice M.gl D.gl.length M.hl),below_put8 c.2.2 (by omega) (.int .i64 D.frm) (.int .i64 D.til) (.slice M.aj D.jobs.length M.cj) (.slice M.an D.nodes.length M.cn) (.slice M.al D.leases.length M.cl) (.slice M.gj D.gj.length M.hj) (.slice M.gn D.gn.length M.hn) (.slice M.gl D.gl.length M.hl)⟩
theorem commit_same (v t:SvD) (hv:checkE V8 v.s=0) (ht:checkE V8 t.s=0) (hr:t.s.rev=v.s.rev) (hh:SameRows v.s t.s) (b:Nat) (bj bn bl:Option Addr) (dj dn dl:Nat) (w:World) (hT:Tabs w) (hS:SvAt b v w) (hX:OwnS 0 bj bn bl dj dn dl t.s w) :
  Calls Tryz.prog 52 #[.pointer (some ⟨b,0,none⟩),.agg #[.int .i64 t.s.rev,.slice bj t.s.jobs.length dj,.slice bn t.s.nodes.length dn,.slice bl t.s.leases.length dl,.int .i64 t.now]] w fun e w'=>e = .returned (.tuple #[.agg #[.int .i64 0,.int .i64 0,.slice none 0 0,.slice none 0 0,.slice none 0 0,.slice none 0 0,.slice none 0 0,.slice none 0 0],.bool false,.int .i64 0])∧SvAt b ⟨v.s,t.now⟩ w'∧w.grownBy w' (some b):=by
 have hS0:=Lib.hid hS
 have HR:=Lib.hid hr
 clear hr
 obtain⟨aj,an,al,cj,cn,cl,oS,xS⟩:=hS
 unfold svC at oS
 have hbw:=objAt_lt oS
 obtain⟨W,hW⟩:∃W,(w.alloc (.cells #[.int .i64 t.s.rev,.slice bj t.s.jobs.length dj,.slice bn t.s.nodes.length dn,.slice bl t.s.leases.length dl,.int .i64 t.now] 96)).alloc (.cells #[.int .i64 0,.int .i64 0,.slice none 0 0,.slice none 0 0,.slice none 0 0,.slice none 0 0,.slice none 0 0,.slice none 0 0] 49)=W:=⟨_,rfl⟩
 have bW:Below w.heap.size w W:=by rw[←hW];exact below_trans (below_one _ _) (below_one _ _) (by simp)
 have oT:ObjAt w.heap.size #[.int .i64 t.s.rev,.slice bj t.s.jobs.length dj,.slice bn t.s.nodes.length dn,.slice bl t.s.leases.length dl,.int .i64 t.now] 96 W:=by rw[←hW];exact objAt_next (objAt_new w _ _) (below_one _ _)
 have oD:ObjAt (w.heap.size+1) #[.int .i64 0,.int .i64 0,.slice none 0 0,.slice none 0 0,.slice none 0 0,.slice none 0 0,.slice none 0 0,.slice none 0 0] 49 W:=by
  rw[←hW]
  have:=objAt_new (w.alloc (.cells #[.int .i64 t.s.rev,.slice bj t.s.jobs.length dj,.slice bn t.s.nodes.length dn,.slice bl t.s.leases.length dl,.int .i64 t.now] 96)) #[.int .i64 0,.int .i64 0,.slice none 0 0,.slice none 0 0,.slice none 0 0,.slice none 0 0,.slice none 0 0,.slice none 0 0] 49
  rwa [World.size_alloc] at this
 have oB:=objAt_next oS bW
 have xB:=ownS_next xS bW
 have xT:=ownS_next hX bW
 have lB:=objAt_lt oB
 have lT:=objAt_lt oT
 obtain⟨hl,_⟩:=small_sv hv
 have HF:=Lib.hid (fun(V:World) (h:((V.cell? ⟨b,0,none⟩=some (.int .i64 v.s.rev)∧V.cell? ⟨b,1,none⟩=some (.slice aj v.s.jobs.length cj)∧V.cell? ⟨b,2,none⟩=some (.slice an v.s.nodes.length cn)∧V.cell? ⟨b,3,none⟩=some (.slice al v.s.leases.length cl)∧V.cell? ⟨w.heap.size,0,none⟩=some (.int .i64 t.s.rev)∧V.cell? ⟨w.heap.size,1,none⟩=some (.slice bj t.s.jobs.length dj)∧V.cell? ⟨w.heap.size,2,none⟩=some (.slice bn t.s.nodes.length dn)∧V.cell? ⟨w.heap.size,3,none⟩=some (.slice bl t.s.leases.length dl))∧Below W.heap.size W V))=>svSame_is v.s t.s aj an al bj bn bl cj cn cl dj dn dl (by omega) V (jobsAt_next (ownS_at xB).1 h.2) (nodesAt_next (ownS_at xB).2.1 h.2) (leasesAt_next (ownS_at xB).2.2 h.2) (jobsAt_next (ownS_at xT).1 h.2) (nodesAt_next (ownS_at xT).2.1 h.2) (leasesAt_next (ownS_at xT).2.2 h.2))
 have s0:((W.drew.cell? ⟨b,0,none⟩=some (.int .i64 v.s.rev)∧W.drew.cell? ⟨b,1,none⟩=some (.slice aj v.s.jobs.length cj)∧W.drew.cell? ⟨b,2,none⟩=some (.slice an v.s.nodes.length cn)∧W.drew.cell? ⟨b,3,none⟩=some (.slice al v.s.leases.length cl)∧W.drew.cell? ⟨w.heap.size,0,none⟩=some (.int .i64 t.s.rev)∧W.drew.cell? ⟨w.heap.size,1,none⟩=some (.slice bj t.s.jobs.length dj)∧W.drew.cell? ⟨w.heap.size,2,none⟩=some (.slice bn t.s.nodes.length dn)∧W.drew.cell? ⟨w.heap.size,3,none⟩=some (.slice bl t.s.leases.length dl))∧Below W.heap.size W W.drew):=⟨⟨objAt_cell oB 0 rfl,objAt_cell oB 1 rfl,objAt_cell oB 2 rfl,objAt_cell oB 3 rfl,objAt_cell oT 0 rfl,objAt_cell oT 1 rfl,objAt_cell oT 2 rfl,objAt_cell oT 3 rfl⟩,(Below.refl _ _).drew⟩
 have BW:=Lib.hid bW
 have OT:=Lib.hid oT
 have OD:=Lib.hid oD
 have OB:=Lib.hid oB
 have XB:=Lib.hid xB
 have XT:=Lib.hid xT
 have HH:=Lib.hid hh
 have HT:=Lib.hid hT
 have HV:=Lib.hid hv
 have HTV:=Lib.hid ht
 have HX:=Lib.hid hX
 have HXS:=Lib.hid xS
 have HOS:=Lib.hid oS
 clear oB xB xT oT oD bW hT hX oS xS hh hl
 go_enter Tryz.func52,Tryz.ntmps52
 go_wp2_with fail
 go_region_held3 (fun w'=>((w'.cell? ⟨b,0,none⟩=some (.int .i64 v.s.rev)∧w'.cell? ⟨b,1,none⟩=some (.slice aj v.s.jobs.length cj)∧w'.cell? ⟨b,2,none⟩=some (.slice an v.s.nodes.length cn)∧w'.cell? ⟨b,3,none⟩=some (.slice al v.s.leases.length cl)∧w'.cell? ⟨w.heap.size,0,none⟩=some (.int .i64 t.s.rev)∧w'.cell? ⟨w.heap.size,1,none⟩=some (.slice bj t.s.jobs.length dj)∧w'.cell? ⟨w.heap.size,2,none⟩=some (.slice bn t.s.nodes.length dn)∧w'.cell? ⟨w.heap.size,3,none⟩=some (.slice bl t.s.leases.length dl))∧Below W.heap.size W w'))
  (first | assumption | exact s0)
  (first
   | (go_at_call 89;(with_reducible refine(HF.out _ (by assumption)).mono ?_);rintro e w2 ⟨ch,rfl,hch,b2⟩;have o2:=held8b lB lT (by assumption) b2))
 rename_i o3
 have b3:=o3.2
 clear o3 s0
 obtain rfl:ch=true:=hch.2 HH.out
 have oT3:=objAt_next OT.out b3
 have oD3:=objAt_next OD.out b3
 have oB3:=objAt_next OB.out b3
 have xB3:=ownS_next XB.out b3
 have xT3:=ownS_next XT.out b3
 have B3:=below_trans BW.out b3 BW.out.size
 have lB3:=objAt_lt oB3
 have lT3:=objAt_lt oT3
 have lD3:=objAt_lt oD3
 clear hch b3
 have k4:=objAt_cell oT3 4 rfl
 have e4:=objAt_cell oB3 4 rfl
 have f4:=objAt_free oB3 4
 obtain⟨U,hU⟩:∃U,w2.setCell ⟨b,4,none⟩ (.int .i64 t.now)=U:=⟨_,rfl⟩
 have oU:ObjAt b #[.int .i64 v.s.rev,.slice aj v.s.jobs.length cj,.slice an v.s.nodes.length cn,.slice al v.s.leases.length cl,.int .i64 t.now] 59 U:=by rw[←hU];exact objAt_set oB3 4 _
 have oDU:ObjAt (w.heap.size+1) #[.int .i64 0,.int .i64 0,.slice none 0 0,.slice none 0 0,.slice none 0 0,.slice none 0 0,.slice none 0 0,.slice none 0 0] 49 U:=by rw[←hU];exact objAt_other oD3 (by omega) _ _
 have xU:OwnS 0 aj an al cj cn cl v.s U:=by rw[←hU];exact ownS_set1 xB3 oB3 rowT_sv 4 _
 have gU:w.grownBy U (some b):=by rw[←hU];exact gN_set (gN_of_below B3) _ _
 have lDU:=objAt_lt oDU
 have z0:=objAt_cell oDU 0 rfl
 have y0:=objAt_free oDU 0
 have z1:=objAt_cell oDU 1 rfl
 have y1:=objAt_free oDU 1
 have z2:=objAt_cell oDU 2 rfl
 have y2:=objAt_free oDU 2
 have z3:=objAt_cell oDU 3 rfl
 have y3:=objAt_free oDU 3
 have z4:=objAt_cell oDU 4 rfl
 have y4:=objAt_free oDU 4
 have z5:=objAt_cell oDU 5 rfl
 have y5:=objAt_free oDU 5
 have z6:=objAt_cell oDU 6 rfl
 have y6:=objAt_free oDU 6
 have z7:=objAt_cell oDU 7 rfl
 have y7:=objAt_free oDU 7
 have oF:=obj_put8 oDU (.int .i64 0) (.int .i64 0) (.slice none 0 0) (.slice none 0 0) (.slice none 0 0) (.slice none 0 0) (.slice none 0 0) (.slice none 0 0)
 have TT:=Lib.hid (And.intro (objAt_cell oF 0 rfl) (And.intro (objAt_cell oF 1 rfl) (And.intro (objAt_cell oF 2 rfl) (And.intro (objAt_cell oF 3 rfl) (And.intro (objAt_cell oF 4 rfl) (And.intro (objAt_cell oF 5 rfl) (And.intro (objAt_cell oF 6 rfl) (objAt_cell oF 7 rfl))))))))
 have RS:Hid (SvAt b ⟨v.s,t.now⟩ (put8 U (w.heap.size+1) (.int .i64 0) (.int .i64 0) (.slice none 0 0) (.slice none 0 0) (.slice none 0 0) (.slice none 0 0) (.slice none 0 0) (.slice none 0 0))):=⟨aj,an,al,cj,cn,cl,other_put8 oU (by omega) (.int .i64 0) (.int .i64 0) (.slice none 0 0) (.slice none 0 0) (.slice none 0 0) (.slice none 0 0) (.slice none 0 0) (.slice none 0 0),ownS_put8 xU oDU rowT_dl (.int .i64 0) (.int .i64 0) (.slice none 0 0) (.slice none 0 0) (.slice none 0 0) (.slice none 0 0) (.slice none 0 0) (.slice none 0 0)⟩
 have RG:Hid (w.grownBy (put8 U (w.heap.size+1) (.int .i64 0) (.int .i64 0) (.slice none 0 0) (.slice none 0 0) (.slice none 0 0) (.slice none 0 0) (.slice none 0 0) (.slice none 0 0)) (some b)):=gN_put8 gU (by omega) (.int .i64 0) (.int .i64 0) (.slice none 0 0) (.slice none 0 0) (.slice none 0 0) (.slice none 0 0) (.slice none 0 0) (.slice none 0 0)
 clear oU oDU xU gU oF oT3 oD3 oB3 xB3 xT3 B3
 go_wp2
 obtain⟨t0,t1,t2,t3,t4,t5,t6,t7⟩:=TT.out
 exact bodyPost_ret (v:=.tuple #[.agg #[.int .i64 0,.int .i64 0,.slice none 0 0,.slice none 0 0,.slice none 0 0,.slice none 0 0,.slice none 0 0,.slice none 0 0],.bool false,.int .i64 0]) (by simp[results,Tryz.results52,go_sem,t0,t1,t2,t3,t4,t5,t6,t7]) rfl ⟨rfl,RS.out,RG.out⟩
theorem commit_full (v t:SvD) (hv:checkE V8 v.s=0) (ht:checkE V8 t.s=0) (hr:t.s.rev=v.s.rev) (hh:¬SameRows v.s t.s) (hm:v.s.rev=1099511627776) (b:Nat) (bj bn bl:Option Addr) (dj dn dl:Nat) (w:World) (hT:Tabs w) (hS:SvAt b v w) (hX:OwnS 0 bj bn bl dj dn dl t.s w) :
  Calls Tryz.prog 52 #[.pointer (some ⟨b,0,none⟩),.agg #[.int .i64 t.s.rev,.slice bj t.s.jobs.length dj,.slice bn t.s.nodes.length dn,.slice bl t.s.leases.length dl,.int .i64 t.now]] w fun e w'=>e = .returned (.tuple #[.agg #[.int .i64 0,.int .i64 0,.slice none 0 0,.slice none 0 0,.slice none 0 0,.slice none 0 0,.slice none 0 0,.slice none 0 0],.bool false,.int .i64 2])∧Below w.heap.size w w':=by
 have hS0:=Lib.hid hS
 have HR:=Lib.hid hr
 have HM:=Lib.hid hm
 clear hm
 clear hr
 obtain⟨aj,an,al,cj,cn,cl,oS,xS⟩:=hS
 unfold svC at oS
 have hbw:=objAt_lt oS
 obtain⟨W,hW⟩:∃W,(w.alloc (.cells #[.int .i64 t.s.rev,.slice bj t.s.jobs.length dj,.slice bn t.s.nodes.length dn,.slice bl t.s.leases.length dl,.int .i64 t.now] 96)).alloc (.cells #[.int .i64 0,.int .i64 0,.slice none 0 0,.slice none 0 0,.slice none 0 0,.slice none 0 0,.slice none 0 0,.slice none 0 0] 49)=W:=⟨_,rfl⟩
 have bW:Below w.heap.size w W:=by rw[←hW];exact below_trans (below_one _ _) (below_one _ _) (by simp)
 have oT:ObjAt w.heap.size #[.int .i64 t.s.rev,.slice bj t.s.jobs.length dj,.slice bn t.s.nodes.length dn,.slice bl t.s.leases.length dl,.int .i64 t.now] 96 W:=by rw[←hW];exact objAt_next (objAt_new w _ _) (below_one _ _)
 have oD:ObjAt (w.heap.size+1) #[.int .i64 0,.int .i64 0,.slice none 0 0,.slice none 0 0,.slice none 0 0,.slice none 0 0,.slice none 0 0,.slice none 0 0] 49 W:=by
  rw[←hW]
  have:=objAt_new (w.alloc (.cells #[.int .i64 t.s.rev,.slice bj t.s.jobs.length dj,.slice bn t.s.nodes.length dn,.slice bl t.s.leases.length dl,.int .i64 t.now] 96)) #[.int .i64 0,.int .i64 0,.slice none 0 0,.slice none 0 0,.slice none 0 0,.slice none 0 0,.slice none 0 0,.slice none 0 0] 49
  rwa [World.size_alloc] at this
 have oB:=objAt_next oS bW
 have xB:=ownS_next xS bW
 have xT:=ownS_next hX bW
 have lB:=objAt_lt oB
 have lT:=objAt_lt oT
 obtain⟨hl,_⟩:=small_sv hv
 have HF:=Lib.hid (fun(V:World) (h:((V.cell? ⟨b,0,none⟩=some (.int .i64 v.s.rev)∧V.cell? ⟨b,1,none⟩=some (.slice aj v.s.jobs.length cj)∧V.cell? ⟨b,2,none⟩=some (.slice an v.s.nodes.length cn)∧V.cell? ⟨b,3,none⟩=some (.slice al v.s.leases.length cl)∧V.cell? ⟨w.heap.size,0,none⟩=some (.int .i64 t.s.rev)∧V.cell? ⟨w.heap.size,1,none⟩=some (.slice bj t.s.jobs.length dj)∧V.cell? ⟨w.heap.size,2,none⟩=some (.slice bn t.s.nodes.length dn)∧V.cell? ⟨w.heap.size,3,none⟩=some (.slice bl t.s.leases.length dl))∧Below W.heap.size W V))=>svSame_is v.s t.s aj an al bj bn bl cj cn cl dj dn dl (by omega) V (jobsAt_next (ownS_at xB).1 h.2) (nodesAt_next (ownS_at xB).2.1 h.2) (leasesAt_next (ownS_at xB).2.2 h.2) (jobsAt_next (ownS_at xT).1 h.2) (nodesAt_next (ownS_at xT).2.1 h.2) (leasesAt_next (ownS_at xT).2.2 h.2))
 have s0:((W.drew.cell? ⟨b,0,none⟩=some (.int .i64 v.s.rev)∧W.drew.cell? ⟨b,1,none⟩=some (.slice aj v.s.jobs.length cj)∧W.drew.cell? ⟨b,2,none⟩=some (.slice an v.s.nodes.length cn)∧W.drew.cell? ⟨b,3,none⟩=some (.slice al v.s.leases.length cl)∧W.drew.cell? ⟨w.heap.size,0,none⟩=some (.int .i64 t.s.rev)∧W.drew.cell? ⟨w.heap.size,1,none⟩=some (.slice bj t.s.jobs.length dj)∧W.drew.cell? ⟨w.heap.size,2,none⟩=some (.slice bn t.s.nodes.length dn)∧W.drew.cell? ⟨w.heap.size,3,none⟩=some (.slice bl t.s.leases.length dl))∧Below W.heap.size W W.drew):=⟨⟨objAt_cell oB 0 rfl,objAt_cell oB 1 rfl,objAt_cell oB 2 rfl,objAt_cell oB 3 rfl,objAt_cell oT 0 rfl,objAt_cell oT 1 rfl,objAt_cell oT 2 rfl,objAt_cell oT 3 rfl⟩,(Below.refl _ _).drew⟩
 have BW:=Lib.hid bW
 have OT:=Lib.hid oT
 have OD:=Lib.hid oD
 have OB:=Lib.hid oB
 have XB:=Lib.hid xB
 have XT:=Lib.hid xT
 have HH:=Lib.hid hh
 have HT:=Lib.hid hT
 have HV:=Lib.hid hv
 have HTV:=Lib.hid ht
 have HX:=Lib.hid hX
 have HXS:=Lib.hid xS
 have HOS:=Lib.hid oS
 clear oB xB xT oT oD bW hT hX oS xS hh hl
 go_enter Tryz.func52,Tryz.ntmps52
 go_wp2_with fail
 go_region_held3 (fun w'=>((w'.cell? ⟨b,0,none⟩=some (.int .i64 v.s.rev)∧w'.cell? ⟨b,1,none⟩=some (.slice aj v.s.jobs.length cj)∧w'.cell? ⟨b,2,none⟩=some (.slice an v.s.nodes.length cn)∧w'.cell? ⟨b,3,none⟩=some (.slice al v.s.leases.length cl)∧w'.cell? ⟨w.heap.size,0,none⟩=some (.int .i64 t.s.rev)∧w'.cell? ⟨w.heap.size,1,none⟩=some (.slice bj t.s.jobs.length dj)∧w'.cell? ⟨w.heap.size,2,none⟩=some (.slice bn t.s.nodes.length dn)∧w'.cell? ⟨w.heap.size,3,none⟩=some (.slice bl t.s.leases.length dl))∧Below W.heap.size W w'))
  (first | assumption | exact s0)
  (first
   | (go_at_call 89;(with_reducible refine(HF.out _ (by assumption)).mono ?_);rintro e w2 ⟨ch,rfl,hch,b2⟩;have o2:=held8b lB lT (by assumption) b2))
 rename_i o3
 have b3:=o3.2
 clear o3 s0
 obtain rfl:ch=false:=by
  cases ch with
  | false=>rfl
  | true=>exact absurd (hch.1 rfl) HH.out
 have oT3:=objAt_next OT.out b3
 have oD3:=objAt_next OD.out b3
 have oB3:=objAt_next OB.out b3
 have xB3:=ownS_next XB.out b3
 have xT3:=ownS_next XT.out b3
 have B3:=below_trans BW.out b3 BW.out.size
 have lB3:=objAt_lt oB3
 have lT3:=objAt_lt oT3
 have lD3:=objAt_lt oD3
 clear hch b3
 have k0:=objAt_cell oT3 0 rfl
 have hrb:(t.s.rev==1099511627776)=true:=by rw[HR.out,HM.out];rfl
 have z0:=objAt_cell oD3 0 rfl
 have y0:=objAt_free oD3 0
 have z1:=objAt_cell oD3 1 rfl
 have y1:=objAt_free oD3 1
 have z2:=objAt_cell oD3 2 rfl
 have y2:=objAt_free oD3 2
 have z3:=objAt_cell oD3 3 rfl
 have y3:=objAt_free oD3 3
 have z4:=objAt_cell oD3 4 rfl
 have y4:=objAt_free oD3 4
 have z5:=objAt_cell oD3 5 rfl
 have y5:=objAt_free oD3 5
 have z6:=objAt_cell oD3 6 rfl
 have y6:=objAt_free oD3 6
 have z7:=objAt_cell oD3 7 rfl
 have y7:=objAt_free oD3 7
 have oF:=obj_put8 oD3 (.int .i64 0) (.int .i64 0) (.slice none 0 0) (.slice none 0 0) (.slice none 0 0) (.slice none 0 0) (.slice none 0 0) (.slice none 0 0)
 have TT:=Lib.hid (And.intro (objAt_cell oF 0 rfl) (And.intro (objAt_cell oF 1 rfl) (And.intro (objAt_cell oF 2 rfl) (And.intro (objAt_cell oF 3 rfl) (And.intro (objAt_cell oF 4 rfl) (And.intro (objAt_cell oF 5 rfl) (And.intro (objAt_cell oF 6 rfl) (objAt_cell oF 7 rfl))))))))
 have RB:Hid (Below w.heap.size w (put8 w2 (w.heap.size+1) (.int .i64 0) (.int .i64 0) (.slice none 0 0) (.slice none 0 0) (.slice none 0 0) (.slice none 0 0) (.slice none 0 0) (.slice none 0 0))):=below_put8 B3 (by omega) (.int .i64 0) (.int .i64 0) (.slice none 0 0) (.slice none 0 0) (.slice none 0 0) (.slice none 0 0) (.slice none 0 0) (.slice none 0 0)
 clear oF oT3 oD3 oB3 xB3 xT3 B3
 go_wp2
 obtain⟨t0,t1,t2,t3,t4,t5,t6,t7⟩:=TT.out
 exact bodyPost_ret (v:=.tuple #[.agg #[.int .i64 0,.int .i64 0,.slice none 0 0,.slice none 0 0,.slice none 0 0,.slice none 0 0,.slice none 0 0,.slice none 0 0],.bool false,.int .i64 2]) (by simp[results,Tryz.results52,go_sem,t0,t1,t2,t3,t4,t5,t6,t7]) rfl ⟨rfl,RB.out⟩
theorem commit_new (v t:SvD) (hv:checkE V8 v.s=0) (ht:checkE V8 t.s=0) (hr:t.s.rev=v.s.rev) (hh:¬SameRows v.s t.s) (hm:v.s.rev≠1099511627776) (b:Nat) (bj bn bl:Option Addr) (dj dn dl:Nat) (w:World) (hT:Tabs w) (hS:SvAt b v w) (hX:OwnS 0 bj bn bl dj dn dl t.s w) :
  Calls Tryz.prog 52 #[.pointer (some ⟨b,0,none⟩),.agg #[.int .i64 t.s.rev,.slice bj t.s.jobs.length dj,.slice bn t.s.nodes.length dn,.slice bl t.s.leases.length dl,.int .i64 t.now]] w fun e w'=>∃M:DlM,e = .returned (.tuple #[.agg #[.int .i64 (diffS v.s (bump t.s)).frm,.int .i64 (diffS v.s (bump t.s)).til,.slice M.aj (diffS v.s (bump t.s)).jobs.length M.cj,.slice M.an (diffS v.s (bump t.s)).nodes.length M.cn,.slice M.al (diffS v.s (bump t.s)).leases.length M.cl,.slice M.gj (diffS v.s (bump t.s)).gj.length M.hj,.slice M.gn (diffS v.s (bump t.s)).gn.length M.hn,.slice M.gl (diffS v.s (bump t.s)).gl.length M.hl],.bool true,.int .i64 0])∧SvAt b ⟨bump t.s,t.now⟩ w'∧OwnD w.heap.size M (diffS v.s (bump t.s)) w'∧w.grownBy w' (some b):=by
 have hS0:=Lib.hid hS
 have HR:=Lib.hid hr
 have HM:=Lib.hid hm
 clear hm
 clear hr
 obtain⟨aj,an,al,cj,cn,cl,oS,xS⟩:=hS
 unfold svC at oS
 have hbw:=objAt_lt oS
 obtain⟨W,hW⟩:∃W,(w.alloc (.cells #[.int .i64 t.s.rev,.slice bj t.s.jobs.length dj,.slice bn t.s.nodes.length dn,.slice bl t.s.leases.length dl,.int .i64 t.now] 96)).alloc (.cells #[.int .i64 0,.int .i64 0,.slice none 0 0,.slice none 0 0,.slice none 0 0,.slice none 0 0,.slice none 0 0,.slice none 0 0] 49)=W:=⟨_,rfl⟩
 have bW:Below w.heap.size w W:=by rw[←hW];exact below_trans (below_one _ _) (below_one _ _) (by simp)
 have oT:ObjAt w.heap.size #[.int .i64 t.s.rev,.slice bj t.s.jobs.length dj,.slice bn t.s.nodes.length dn,.slice bl t.s.leases.length dl,.int .i64 t.now] 96 W:=by rw[←hW];exact objAt_next (objAt_new w _ _) (below_one _ _)
 have oD:ObjAt (w.heap.size+1) #[.int .i64 0,.int .i64 0,.slice none 0 0,.slice none 0 0,.slice none 0 0,.slice none 0 0,.slice none 0 0,.slice none 0 0] 49 W:=by
  rw[←hW]
  have:=objAt_new (w.alloc (.cells #[.int .i64 t.s.rev,.slice bj t.s.jobs.length dj,.slice bn t.s.nodes.length dn,.slice bl t.s.leases.length dl,.int .i64 t.now] 96)) #[.int .i64 0,.int .i64 0,.slice none 0 0,.slice none 0 0,.slice none 0 0,.slice none 0 0,.slice none 0 0,.slice none 0 0] 49
  rwa [World.size_alloc] at this
 have oB:=objAt_next oS bW
 have xB:=ownS_next xS bW
 have xT:=ownS_next hX bW
 have lB:=objAt_lt oB
 have lT:=objAt_lt oT
 obtain⟨hl,_⟩:=small_sv hv
 have HF:=Lib.hid (fun(V:World) (h:((V.cell? ⟨b,0,none⟩=some (.int .i64 v.s.rev)∧V.cell? ⟨b,1,none⟩=some (.slice aj v.s.jobs.length cj)∧V.cell? ⟨b,2,none⟩=some (.slice an v.s.nodes.length cn)∧V.cell? ⟨b,3,none⟩=some (.slice al v.s.leases.length cl)∧V.cell? ⟨w.heap.size,0,none⟩=some (.int .i64 t.s.rev)∧V.cell? ⟨w.heap.size,1,none⟩=some (.slice bj t.s.jobs.length dj)∧V.cell? ⟨w.heap.size,2,none⟩=some (.slice bn t.s.nodes.length dn)∧V.cell? ⟨w.heap.size,3,none⟩=some (.slice bl t.s.leases.length dl))∧Below W.heap.size W V))=>svSame_is v.s t.s aj an al bj bn bl cj cn cl dj dn dl (by omega) V (jobsAt_next (ownS_at xB).1 h.2) (nodesAt_next (ownS_at xB).2.1 h.2) (leasesAt_next (ownS_at xB).2.2 h.2) (jobsAt_next (ownS_at xT).1 h.2) (nodesAt_next (ownS_at xT).2.1 h.2) (leasesAt_next (ownS_at xT).2.2 h.2))
 have s0:((W.drew.cell? ⟨b,0,none⟩=some (.int .i64 v.s.rev)∧W.drew.cell? ⟨b,1,none⟩=some (.slice aj v.s.jobs.length cj)∧W.drew.cell? ⟨b,2,none⟩=some (.slice an v.s.nodes.length cn)∧W.drew.cell? ⟨b,3,none⟩=some (.slice al v.s.leases.length cl)∧W.drew.cell? ⟨w.heap.size,0,none⟩=some (.int .i64 t.s.rev)∧W.drew.cell? ⟨w.heap.size,1,none⟩=some (.slice bj t.s.jobs.length dj)∧W.drew.cell? ⟨w.heap.size,2,none⟩=some (.slice bn t.s.nodes.length dn)∧W.drew.cell? ⟨w.heap.size,3,none⟩=some (.slice bl t.s.leases.length dl))∧Below W.heap.size W W.drew):=⟨⟨objAt_cell oB 0 rfl,objAt_cell oB 1 rfl,objAt_cell oB 2 rfl,objAt_cell oB 3 rfl,objAt_cell oT 0 rfl,objAt_cell oT 1 rfl,objAt_cell oT 2 rfl,objAt_cell oT 3 rfl⟩,(Below.refl _ _).drew⟩
 have BW:=Lib.hid bW
 have OT:=Lib.hid oT
 have OD:=Lib.hid oD
 have OB:=Lib.hid oB
 have XB:=Lib.hid xB
 have XT:=Lib.hid xT
 have HH:=Lib.hid hh
 have HT:=Lib.hid hT
 have HV:=Lib.hid hv
 have HTV:=Lib.hid ht
 have HX:=Lib.hid hX
 have HXS:=Lib.hid xS
 have HOS:=Lib.hid oS
 clear oB xB xT oT oD bW hT hX oS xS hh hl
 go_enter Tryz.func52,Tryz.ntmps52
 go_wp2_with fail
 go_region_held3 (fun w'=>((w'.cell? ⟨b,0,none⟩=some (.int .i64 v.s.rev)∧w'.cell? ⟨b,1,none⟩=some (.slice aj v.s.jobs.length cj)∧w'.cell? ⟨b,2,none⟩=some (.slice an v.s.nodes.length cn)∧w'.cell? ⟨b,3,none⟩=some (.slice al v.s.leases.length cl)∧w'.cell? ⟨w.heap.size,0,none⟩=some (.int .i64 t.s.rev)∧w'.cell? ⟨w.heap.size,1,none⟩=some (.slice bj t.s.jobs.length dj)∧w'.cell? ⟨w.heap.size,2,none⟩=some (.slice bn t.s.nodes.length dn)∧w'.cell? ⟨w.heap.size,3,none⟩=some (.slice bl t.s.leases.length dl))∧Below W.heap.size W w'))
  (first | assumption | exact s0)
  (first
   | (go_at_call 89;(with_reducible refine(HF.out _ (by assumption)).mono ?_);rintro e w2 ⟨ch,rfl,hch,b2⟩;have o2:=held8b lB lT (by assumption) b2))
 rename_i o3
 have b3:=o3.2
 clear o3 s0
 obtain rfl:ch=false:=by
  cases ch with
  | false=>rfl
  | true=>exact absurd (hch.1 rfl) HH.out
 have oT3:=objAt_next OT.out b3
 have oD3:=objAt_next OD.out b3
 have oB3:=objAt_next OB.out b3
 have xB3:=ownS_next XB.out b3
 have xT3:=ownS_next XT.out b3
 have B3:=below_trans BW.out b3 BW.out.size
 have lB3:=objAt_lt oB3
 have lT3:=objAt_lt oT3
 have lD3:=objAt_lt oD3
 clear hch b3
 have k0:=objAt_cell oT3 0 rfl
 have f0:=objAt_free oT3 0
 have hrb:(t.s.rev==1099511627776)=false:=by rw[HR.out];simpa using HM.out
 have hvv:=(check_zero V8 _).1 HV.out
 have hwr:IntKind.i64.wrap (t.s.rev+1)=t.s.rev+1:=IntWalk.i64_in _ (by have:=hvv.1;have:=HR.out;omega)
 obtain⟨U,hU⟩:∃U,w2.setCell ⟨w.heap.size,0,none⟩ (.int .i64 (t.s.rev+1))=U:=⟨_,rfl⟩
 have cU:CmAt w.heap.size #[.int .i64 (t.s.rev+1),.slice bj t.s.jobs.length dj,.slice bn t.s.nodes.length dn,.slice bl t.s.leases.length dl,.int .i64 t.now] w U:=by rw[←hU];exact⟨objAt_set oT3 0 _,objAt_other oD3 (by omega) _ _,B3.setCell (p:=⟨w.heap.size,0,none⟩) (Nat.le_refl _) _⟩
 have vb:checkE V8 (bump t.s)=0:=(check_zero V8 _).2 (valid_bump ((check_zero V8 _).1 HTV.out) (by rw[HR.out];exact HM.out))
 have e0:diffR V8 v.s (bump t.s)=(diffS v.s (bump t.s),0):=diffR_ok HV.out vb (by show v.s.rev<t.s.rev+1;have:=HR.out;omega)
 have VB:=Lib.hid vb
 have E0:=Lib.hid e0
 have oBU:=objAt_next HOS.out cU.2.2
 have lBU:=objAt_lt oBU
 have lTU:=objAt_lt cU.1
 obtain⟨D,hD⟩:∃D,diffS v.s (bump t.s)=D:=⟨_,rfl⟩
 rw[hD] at e0
 have kb0:=objAt_cell oBU 0 rfl
 have jt0:=objAt_cell cU.1 0 rfl
 have kb1:=objAt_cell oBU 1 rfl
 have jt1:=objAt_cell cU.1 1 rfl
 have kb2:=objAt_cell oBU 2 rfl
 have jt2:=objAt_cell cU.1 2 rfl
 have kb3:=objAt_cell oBU 3 rfl
 have jt3:=objAt_cell cU.1 3 rfl
 have HC:∀V:World,CmAt w.heap.size #[.int .i64 (t.s.rev+1),.slice bj t.s.jobs.length dj,.slice bn t.s.nodes.length dn,.slice bl t.s.leases.length dl,.int .i64 t.now] w V→Calls Tryz.prog 90 #[.agg #[.int .i64 v.s.rev,.slice aj v.s.jobs.length cj,.slice an v.s.nodes.length cn,.slice al v.s.leases.length cl],.agg #[.int .i64 (t.s.rev+1),.slice bj t.s.jobs.length dj,.slice bn t.s.nodes.length dn,.slice bl t.s.leases.length dl]] V fun e w'=>∃M:DlM,e = .returned (.tuple #[.agg #[.int .i64 D.frm,.int .i64 D.til,.slice M.aj D.jobs.length M.cj,.slice M.an D.nodes.length M.cn,.slice M.al D.leases.length M.cl,.slice M.gj D.gj.length M.hj,.slice M.gn D.gn.length M.hn,.slice M.gl D.gl.length M.hl],.int .i64 0])∧OwnD V.heap.size M D w'∧Below V.heap.size V w':=by
  intro V h
  have q:=ddiff_any v.s (bump t.s) aj an al bj bn bl cj cn cl dj dn dl (wState_sv HV.out) (wState_sv vb) V (HT.out.below h.2.2) ⟨jobsAt_next (ownS_at HXS.out).1 h.2.2,nodesAt_next (ownS_at HXS.out).2.1 h.2.2,leasesAt_next (ownS_at HXS.out).2.2 h.2.2⟩ ⟨jobsAt_next (ownS_at HX.out).1 h.2.2,nodesAt_next (ownS_at HX.out).2.1 h.2.2,leasesAt_next (ownS_at HX.out).2.2 h.2.2⟩
  rw[e0] at q
  exact q
 have HC:=Lib.hid HC
 have CU:=Lib.hid cU
 have HD:=Lib.hid hD
 clear oT3 oD3 oB3 xB3 xT3 B3 hvv vb e0 lB3 lT3 lD3 cU oBU hD
 have hUs:w.heap.size+2≤U.heap.size:=cm_size CU.out
 go_wp2_with fail
 clear k0 f0 hrb
 go_cut [7,8] from 43 (fun p e wc=>CmRel w.heap.size #[.int .i64 (t.s.rev+1),.slice bj t.s.jobs.length dj,.slice bn t.s.nodes.length dn,.slice bl t.s.leases.length dl,.int .i64 t.now] w D p e wc)
 case first =>
  go_region_law (first | (go_simp;go_at_call 90;(first | (with_reducible refine(HC.out _ (cm_drew CU.out)).mono ?_) | (with_reducible refine(HC.out _ (cm_drew (cm_next CU.out (below_one _ _)))).mono ?_));rintro e x2 ⟨M,rfl,OD4,b4⟩;have C4:=Lib.hid (cm_next (by first | exact cm_drew CU.out | exact cm_drew (cm_next CU.out (below_one _ _))) b4);(first | (have Z4:=objAt_next (objAt_drew (objAt_new U #[.int .i64 0,.int .i64 0,.slice none 0 0,.slice none 0 0,.slice none 0 0,.slice none 0 0,.slice none 0 0,.slice none 0 0] 49)) b4;have zl:=objAt_lt Z4;have z0:=objAt_cell Z4 0 rfl;have y0:=objAt_free Z4 0;have z1:=objAt_cell Z4 1 rfl;have y1:=objAt_free Z4 1;have z2:=objAt_cell Z4 2 rfl;have y2:=objAt_free Z4 2;have z3:=objAt_cell Z4 3 rfl;have y3:=objAt_free Z4 3;have z4:=objAt_cell Z4 4 rfl;have y4:=objAt_free Z4 4;have z5:=objAt_cell Z4 5 rfl;have y5:=objAt_free Z4 5;have z6:=objAt_cell Z4 6 rfl;have y6:=objAt_free Z4 6;have z7:=objAt_cell Z4 7 rfl;have y7:=objAt_free Z4 7) | skip)))
  all_goals
   have OD5:=ownD_low (B':=w.heap.size) OD4 (by first | exact(cm_drew CU.out).2.2.size | exact(cm_drew (cm_next CU.out (below_one _ _))).2.2.size)
   go_wp2_with fail
   go_meet
   case rel =>
    first
     | (have R:=cm_put Z4 hUs OD5 C4.out;with_reducible exact R)
     | (have R:=cm_new OD5 C4.out;with_reducible exact R)
 case rest =>
  obtain⟨L,M,rfl,rfl,hL,oL,OD,C⟩:=hcut
  have oBc:=objAt_next HOS.out C.2.2
  have lBc:=objAt_lt oBc
  have lLc:=objAt_lt oL
  have lTc:=objAt_lt C.1
  have lDc:=objAt_lt C.2.1
  have jc0:=objAt_cell C.1 0 rfl
  have jc1:=objAt_cell C.1 1 rfl
  have jc2:=objAt_cell C.1 2 rfl
  have jc3:=objAt_cell C.1 3 rfl
  have jc4:=objAt_cell C.1 4 rfl
  obtain⟨hl,hz⟩:=small_sv HTV.out
  have d5:Below wc.heap.size wc wc.drew:=(Below.refl _ _).drew
  have C5:Calls Tryz.prog 16 #[.agg #[.int .i64 (t.s.rev+1),.slice bj t.s.jobs.length dj,.slice bn t.s.nodes.length dn,.slice bl t.s.leases.length dl]] wc.drew fun e w'=>∃aj' cj' an' cn' al' cl',e = .returned (.agg #[.int .i64 (t.s.rev+1),.slice aj' t.s.jobs.length cj',.slice an' t.s.nodes.length cn',.slice al' t.s.leases.length cl'])∧w'.ownsRow wc.drew.heap.size 38 5 (.slice aj' t.s.jobs.length cj') t.s.jobs.length (cJobs t.s.jobs)∧w'.ownsRow wc.drew.heap.size 40 3 (.slice an' t.s.nodes.length cn') t.s.nodes.length (cNodes t.s.nodes)∧w'.ownsRow wc.drew.heap.size 42 3 (.slice al' t.s.leases.length cl') t.s.leases.length (cLeases t.s.leases)∧Below wc.drew.heap.size wc.drew w':=copy_is (bump t.s) bj bn bl dj dn dl hl hz wc.drew (jobsAt_next (ownS_at HX.out).1 C.2.2.drew) (nodesAt_next (ownS_at HX.out).2.1 C.2.2.drew) (leasesAt_next (ownS_at HX.out).2.2 C.2.2.drew)
  have C5:=Lib.hid C5
  have CC:=Lib.hid (cm_next C d5)
  have OL:=Lib.hid (objAt_next oL d5)
  have ODD:=Lib.hid (ownD_next OD d5)
  have OBC:=Lib.hid (objAt_next oBc d5)
  clear d5 hl hz C oL OD oBc
  go_wp2_with fail
  go_region_law (first | (go_simp;go_at_call 16;(with_reducible refine C5.out.mono ?_);rintro e x3 ⟨aj',cj',an',cn',al',cl',rfl,r1,r2,r3,b5⟩;have lb3:=objAt_lt (objAt_next OBC.out b5);have jd4:=objAt_cell (cm_next CC.out b5).1 4 rfl;have lt3:=objAt_lt (cm_next CC.out b5).1;have eb0:=objAt_cell (objAt_next OBC.out b5) 0 rfl;have gb0:=objAt_free (objAt_next OBC.out b5) 0;have eb1:=objAt_cell (objAt_next OBC.out b5) 1 rfl;have gb1:=objAt_free (objAt_next OBC.out b5) 1;have eb2:=objAt_cell (objAt_next OBC.out b5) 2 rfl;have gb2:=objAt_free (objAt_next OBC.out b5) 2;have eb3:=objAt_cell (objAt_next OBC.out b5) 3 rfl;have gb3:=objAt_free (objAt_next OBC.out b5) 3;have eb4:=objAt_cell (objAt_next OBC.out b5) 4 rfl;have gb4:=objAt_free (objAt_next OBC.out b5) 4))
  all_goals
   have oBx:=objAt_next OBC.out b5
   have cx:=cm_next CC.out b5
   have oLx:=objAt_next OL.out b5
   have oDx:=ownD_next ODD.out b5
   obtain⟨V,hV⟩:∃V,put5 x3 b (.int .i64 (t.s.rev+1)) (.slice aj' t.s.jobs.length cj') (.slice an' t.s.nodes.length cn') (.slice al' t.s.leases.length cl') (.int .i64 t.now)=V:=⟨_,rfl⟩
   have oV:ObjAt b #[.int .i64 (t.s.rev+1),.slice aj' t.s.jobs.length cj',.slice an' t.s.nodes.length cn',.slice al' t.s.leases.length cl',.int .i64 t.now] 59 V:=by rw[←hV];exact obj_put5 oBx (.int .i64 (t.s.rev+1)) (.slice aj' t.s.jobs.length cj') (.slice an' t.s.nodes.length cn') (.slice al' t.s.leases.length cl') (.int .i64 t.now)
   have oDV:ObjAt (w.heap.size+1) #[.int .i64 0,.int .i64 0,.slice none 0 0,.slice none 0 0,.slice none 0 0,.slice none 0 0,.slice none 0 0,.slice none 0 0] 49 V:=by rw[←hV];exact other_put5 cx.2.1 (by omega) (.int .i64 (t.s.rev+1)) (.slice aj' t.s.jobs.length cj') (.slice an' t.s.nodes.length cn') (.slice al' t.s.leases.length cl') (.int .i64 t.now)
   have oLV:ObjAt L #[.int .i64 D.frm,.int .i64 D.til,.slice M.aj D.jobs.length M.cj,.slice M.an D.nodes.length M.cn,.slice M.al D.leases.length M.cl,.slice M.gj D.gj.length M.hj,.slice M.gn D.gn.length M.hn,.slice M.gl D.gl.length M.hl] 49 V:=by rw[←hV];exact other_put5 oLx (by omega) (.int .i64 (t.s.rev+1)) (.slice aj' t.s.jobs.length cj') (.slice an' t.s.nodes.length cn') (.slice al' t.s.leases.length cl') (.int .i64 t.now)
   have odV:OwnD w.heap.size M D V:=by rw[←hV];exact ownD_put5 oDx oBx (.int .i64 (t.s.rev+1)) (.slice aj' t.s.jobs.length cj') (.slice an' t.s.nodes.length cn') (.slice al' t.s.leases.length cl') (.int .i64 t.now)
   have xV:OwnS 0 aj' an' al' cj' cn' cl' t.s V:=by rw[←hV];exact⟨own_put5 (own_is r1) oBx rowT_sv.1 (.int .i64 (t.s.rev+1)) (.slice aj' t.s.jobs.length cj') (.slice an' t.s.nodes.length cn') (.slice al' t.s.leases.length cl') (.int .i64 t.now),own_put5 (own_is r2) oBx rowT_sv.2.1 (.int .i64 (t.s.rev+1)) (.slice aj' t.s.jobs.length cj') (.slice an' t.s.nodes.length cn') (.slice al' t.s.leases.length cl') (.int .i64 t.now),own_put5 (own_is r3) oBx rowT_sv.2.2 (.int .i64 (t.s.rev+1)) (.slice aj' t.s.jobs.length cj') (.slice an' t.s.nodes.length cn') (.slice al' t.s.leases.length cl') (.int .i64 t.now)⟩
   have gV:w.grownBy V (some b):=by rw[←hV];exact gN_put5 (gN_of_below cx.2.2) (.int .i64 (t.s.rev+1)) (.slice aj' t.s.jobs.length cj') (.slice an' t.s.nodes.length cn') (.slice al' t.s.leases.length cl') (.int .i64 t.now)
   have z0:=objAt_cell oDV 0 rfl
   have y0:=objAt_free oDV 0
   have l0:=objAt_cell oLV 0 rfl
   have z1:=objAt_cell oDV 1 rfl
   have y1:=objAt_free oDV 1
   have l1:=objAt_cell oLV 1 rfl
   have z2:=objAt_cell oDV 2 rfl
   have y2:=objAt_free oDV 2
   have l2:=objAt_cell oLV 2 rfl
   have z3:=objAt_cell oDV 3 rfl
   have y3:=objAt_free oDV 3
   have l3:=objAt_cell oLV 3 rfl
   have z4:=objAt_cell oDV 4 rfl
   have y4:=objAt_free oDV 4
   have l4:=objAt_cell oLV 4 rfl
   have z5:=objAt_cell oDV 5 rfl
   have y5:=objAt_free oDV 5
   have l5:=objAt_cell oLV 5 rfl
   have z6:=objAt_cell oDV 6 rfl
   have y6:=objAt_free oDV 6
   have l6:=objAt_cell oLV 6 rfl
   have z7:=objAt_cell oDV 7 rfl
   have y7:=objAt_free oDV 7
   have l7:=objAt_cell oLV 7 rfl
   have lDV:=objAt_lt oDV
   have lLV:=objAt_lt oLV
   have oF:=obj_put8 oDV (.int .i64 D.frm) (.int .i64 D.til) (.slice M.aj D.jobs.length M.cj) (.slice M.an D.nodes.length M.cn) (.slice M.al D.leases.length M.cl) (.slice M.gj D.gj.length M.hj) (.slice M.gn D.gn.length M.hn) (.slice M.gl D.gl.length M.hl)
   have TT:=Lib.hid (And.intro (objAt_cell oF 0 rfl) (And.intro (objAt_cell oF 1 rfl) (And.intro (objAt_cell oF 2 rfl) (And.intro (objAt_cell oF 3 rfl) (And.intro (objAt_cell oF 4 rfl) (And.intro (objAt_cell oF 5 rfl) (And.intro (objAt_cell oF 6 rfl) (objAt_cell oF 7 rfl))))))))
   have RS:Hid (SvAt b ⟨bump t.s,t.now⟩ (put8 V (w.heap.size+1) (.int .i64 D.frm) (.int .i64 D.til) (.slice M.aj D.jobs.length M.cj) (.slice M.an D.nodes.length M.cn) (.slice M.al D.leases.length M.cl) (.slice M.gj D.gj.length M.hj) (.slice M.gn D.gn.length M.hn) (.slice M.gl D.gl.length M.hl))):=⟨aj',an',al',cj',cn',cl',other_put8 oV (by omega) (.int .i64 D.frm) (.int .i64 D.til) (.slice M.aj D.jobs.length M.cj) (.slice M.an D.nodes.length M.cn) (.slice M.al D.leases.length M.cl) (.slice M.gj D.gj.length M.hj) (.slice M.gn D.gn.length M.hn) (.slice M.gl D.gl.length M.hl),ownS_put8 (s:=bump t.s) xV oDV rowT_dl (.int .i64 D.frm) (.int .i64 D.til) (.slice M.aj D.jobs.length M.cj) (.slice M.an D.nodes.length M.cn) (.slice M.al D.leases.length M.cl) (.slice M.gj D.gj.length M.hj) (.slice M.gn D.gn.length M.hn) (.slice M.gl D.gl.length M.hl)⟩
   have RD:Hid (OwnD w.heap.size M D (put8 V (w.heap.size+1) (.int .i64 D.frm) (.int .i64 D.til) (.slice M.aj D.jobs.length M.cj) (.slice M.an D.nodes.length M.cn) (.slice M.al D.leases.length M.cl) (.slice M.gj D.gj.length M.hj) (.slice M.gn D.gn.length M.hn) (.slice M.gl D.gl.length M.hl))):=ownD_put8 odV oDV (.int .i64 D.frm) (.int .i64 D.til) (.slice M.aj D.jobs.length M.cj) (.slice M.an D.nodes.length M.cn) (.slice M.al D.leases.length M.cl) (.slice M.gj D.gj.length M.hj) (.slice M.gn D.gn.length M.hn) (.slice M.gl D.gl.length M.hl)
   have RG:Hid (w.grownBy (put8 V (w.heap.size+1) (.int .i64 D.frm) (.int .i64 D.til) (.slice M.aj D.jobs.length M.cj) (.slice M.an D.nodes.length M.cn) (.slice M.al D.leases.length M.cl) (.slice M.gj D.gj.length M.hj) (.slice M.gn D.gn.length M.hn) (.slice M.gl D.gl.length M.hl)) (some b)):=gN_put8 gV (by omega) (.int .i64 D.frm) (.int .i64 D.til) (.slice M.aj D.jobs.length M.cj) (.slice M.an D.nodes.length M.cn) (.slice M.al D.leases.length M.cl) (.slice M.gj D.gj.length M.hj) (.slice M.gn D.gn.length M.hn) (.slice M.gl D.gl.length M.hl)
   have hV2:((((x3.setCell ⟨b,0,none⟩ (.int .i64 (t.s.rev+1))).setCell ⟨b,1,none⟩ (.slice aj' t.s.jobs.length cj')).setCell ⟨b,2,none⟩ (.slice an' t.s.nodes.length cn')).setCell ⟨b,3,none⟩ (.slice al' t.s.leases.length cl')).setCell ⟨b,4,none⟩ (.int .i64 t.now)=V:=hV
   rw[hV2]
   clear oBx cx oLx oDx oV oDV oLV odV xV gV oF r1 r2 r3 b5 hV hV2 C5 CC OL ODD OBC eb0 eb1 eb2 eb3 eb4 gb0 gb1 gb2 gb3 gb4 jd4
   go_wp2
   obtain⟨t0,t1,t2,t3,t4,t5,t6,t7⟩:=TT.out
   exact bodyPost_ret (v:=.tuple #[.agg #[.int .i64 D.frm,.int .i64 D.til,.slice M.aj D.jobs.length M.cj,.slice M.an D.nodes.length M.cn,.slice M.al D.leases.length M.cl,.slice M.gj D.gj.length M.hj,.slice M.gn D.gn.length M.hn,.slice M.gl D.gl.length M.hl],.bool true,.int .i64 0]) (by simp[results,Tryz.results52,go_sem,t0,t1,t2,t3,t4,t5,t6,t7]) rfl ⟨M,by rw[HD.out],RS.out,by rw[HD.out];exact RD.out,RG.out⟩
end Go.Proofs.YtiekgafopalfmaaGreatDoor
