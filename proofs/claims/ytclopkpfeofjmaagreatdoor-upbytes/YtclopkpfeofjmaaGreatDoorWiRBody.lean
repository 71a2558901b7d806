/- The reference's reading of states: the function that Decode hands to read. -/
import Derived.Test.YtclopkpfeofjmaaGreatDoorWiSrcRows
namespace Go.Proofs.YtclopkpfeofjmaaGreatDoor
open Go.RowKit

/-- All but two blocks is as it was. -/
structure Keep2 (b c : Nat) (w w' : World) : Prop where
  os : w'.os = w.os
  tape : w'.tape = w.tape
  output : w'.output = w.output
  size : w.heap.size ≤ w'.heap.size
  block : ∀ i, i < w.heap.size → i ≠ b → i ≠ c → w'.heap[i]? = w.heap[i]?
theorem k2_refl (b c : Nat) (w : World) : Keep2 b c w w := ⟨rfl, rfl, rfl, Nat.le_refl _, fun _ _ _ _ => rfl⟩
theorem k2_trans {b c : Nat} {w w1 w2 : World} (h : Keep2 b c w w1) (k : Keep2 b c w1 w2) : Keep2 b c w w2 :=
  ⟨k.os.trans h.os, k.tape.trans h.tape, k.output.trans h.output, Nat.le_trans h.size k.size, fun i hi hb hc => (k.block i (Nat.lt_of_lt_of_le hi h.size) hb hc).trans (h.block i hi hb hc)⟩
theorem k2_grown {b c : Nat} {w w' : World} (h : w.grownBy w' (some b)) : Keep2 b c w w' := ⟨h.os, h.tape, h.output, h.size, fun i hi hb _ => h.block i hi (by simp; exact hb)⟩
theorem k2_set (b c : Nat) (w : World) (j : Nat) (u : Value) : Keep2 b c w (w.setCell ⟨c, j, none⟩ u) :=
  ⟨rfl, rfl, rfl, by simp [World.setCell], fun i _ _ hc => Below.heap_setCell w ⟨c, j, none⟩ u i (by exact hc)⟩
theorem k2_obj {b c d : Nat} {vs : Array Value} {t : TypeId} {w w' : World} (h : ObjAt d vs t w) (hk : Keep2 b c w w') (h1 : d ≠ b) (h2 : d ≠ c) : ObjAt d vs t w' := by
  have h0 := objAt_lt h
  unfold ObjAt at h ⊢
  rw [hk.block d h0 h1 h2]
  exact h
theorem stR_rows (v : Int) : stR V8 v = bindD (if decide (2 < v) then intD else pureD 0) fun a => bindD (rows3 v) fun x => pureD ⟨a, x.1, x.2.1, x.2.2⟩ := by
  unfold stR rows3
  simp only [bindD_assoc, bindD_pure]
/-- What the function answers: it throws, or the state lies there. -/
def BodyP (v : Int) (b c : Nat) (l : List UInt8) (w : World) (r : Ending) (w' : World) : Prop := Keep2 b c w w' ∧ ((∃ e, stR V8 v l = .inl e ∧ r = taken e) ∨ (∃ s l' d1 d2 d3 p1 p2 p3, stR V8 v l = .inr (s, l') ∧ r = .returned (.tuple #[]) ∧
  ObjAt c #[.int .i64 s.rev, .slice d1 s.jobs.length p1, .slice d2 s.nodes.length p2, .slice d3 s.leases.length p3] 30 w' ∧
  w'.ownsRow w.heap.size 50 5 (.slice d1 s.jobs.length p1) s.jobs.length (cJobs s.jobs) ∧ w'.ownsRow w.heap.size 52 3 (.slice d2 s.nodes.length p2) s.nodes.length (cNodes s.nodes) ∧ w'.ownsRow w.heap.size 48 3 (.slice d3 s.leases.length p3) s.leases.length (cLeases s.leases) ∧ SrcAt b l' w'))
theorem src_other {b c : Nat} {l : List UInt8} {w : World} (h : SrcAt b l w) (hne : b ≠ c) (j : Nat) (u : Value) : SrcAt b l (w.setCell ⟨c, j, none⟩ u) := objAt_other h hne j u
theorem backs3 {w : World} {c B e sz n : Nat} {x : Value} {xs : List Value} {u1 u2 u3 : Value} (ho : w.ownsRow B e sz x n xs) (hc : c < B) : (((w.setCell ⟨c, 1, none⟩ u1).setCell ⟨c, 2, none⟩ u2).setCell ⟨c, 3, none⟩ u3).ownsRow B e sz x n xs := by
  refine ⟨ho.1, ?_⟩
  rcases ho.2 with h0 | ⟨g, cap, cur, hv, hbg, hg, r⟩
  · exact .inl h0
  · refine .inr ⟨g, cap, cur, hv, hbg, ?_, r⟩
    have ne : g ≠ c := by omega
    rw [Below.heap_setCell _ ⟨c, 3, none⟩ u3 g ne, Below.heap_setCell _ ⟨c, 2, none⟩ u2 g ne, Below.heap_setCell _ ⟨c, 1, none⟩ u1 g ne]
    exact hg
set_option maxRecDepth 100000 in
set_option maxHeartbeats 4000000 in
theorem body_is {b c V : Nat} {l : List UInt8} (v : Int) (hl : l.length ≤ 140737488355328) (w : World) (h : SrcAt b l w) (hV : ObjAt V #[.int .i64 v] 3 w) (hS : ObjAt c #[.int .i64 0, .slice none 0 0, .slice none 0 0, .slice none 0 0] 30 w) (n1 : V ≠ b) (n2 : V ≠ c) (n3 : c ≠ b) :
    Calls Tryz.prog 33 #[.pointer (some ⟨b, 0, none⟩), .pointer (some ⟨V, 0, none⟩), .pointer (some ⟨c, 0, none⟩)] w (BodyP v b c l w) := by
  have eS := stR_rows v
  have c0 := objAt_cell hV 0 rfl
  have lV := objAt_lt hV
  have n1' : ¬ b = V := fun e => n1 e.symm
  have n2' : ¬ c = V := fun e => n2 e.symm
  have n3' : ¬ b = c := fun e => n3 e.symm
  by_cases hv : 2 < v
  · have hd : decide (2 < v) = true := by simpa using hv
    rw [hd, if_pos rfl] at eS
    have ES := Lib.hid eS
    have H0 := Lib.hid (srcNum_is hl w h)
    have HV := Lib.hid hV
    have HS := Lib.hid hS
    clear eS hd hV hS h
    go_enter Tryz.func33, Tryz.ntmps33
    go_wp2_with fail
    refine H0.out.mono ?_
    rintro r w1 ⟨g1, ⟨e, he, rfl⟩ | ⟨a, l1, hd, rfl, s1⟩⟩
    · have HE : Hid (stR V8 v l = .inl e) := by show _ = _; rw [ES.out, bindD_err he]
      have G := Lib.hid (k2_grown g1 : Keep2 b c w w1)
      unfold taken
      clear he g1 c0 lV
      go_wp2
      exact ⟨rfl, G.out, .inl ⟨e, HE.out, rfl⟩⟩
    · have HD := Lib.hid hd
      have L1 := short_int hd hl
      have oV := obj_grown HV.out g1 n1
      have oS := obj_grown HS.out g1 n3
      have oV' := objAt_other oV n2 0 (.int .i64 a)
      have oS' : ObjAt c #[.int .i64 a, .slice none 0 0, .slice none 0 0, .slice none 0 0] 30 _ := objAt_set oS 0 (.int .i64 a)
      have s1' := src_other s1 n3' 0 (.int .i64 a)
      have K1 : Keep2 b c w _ := k2_trans (k2_grown g1) (k2_set b c w1 0 (.int .i64 a))
      have HR := Lib.hid (srcRows_is v L1 _ s1')
      have f0 := objAt_free oS 0
      have t0 := objAt_cell oS 0 rfl
      have lS := objAt_lt oS
      have d0 := objAt_cell oV 0 rfl
      have lV1 := objAt_lt oV
      have OS := Lib.hid oS'
      have HK := Lib.hid K1
      have sz1 : w.heap.size ≤ w1.heap.size := g1.size
      have lc : c < w.heap.size := objAt_lt HS.out
      clear hd oV oS oV' oS' s1' K1 s1 g1 H0 HV HS c0 lV
      go_wp2_with fail
      refine HR.out.mono ?_
      rintro r w2 ⟨g2, ⟨e, he, rfl⟩ | ⟨js, ns, ls, l', y1, y2, y3, hr, rfl, o1, o2, o3, s2⟩⟩
      · have HE : Hid (stR V8 v l = .inl e) := by show _ = _; rw [ES.out, bindD_ok HD.out, bindD_err he]
        have G := Lib.hid (k2_trans HK.out (k2_grown g2))
        unfold taken
        clear he g2
        go_wp2
        exact ⟨rfl, G.out, .inl ⟨e, HE.out, rfl⟩⟩
      · have HE : Hid (stR V8 v l = .inr (⟨a, js, ns, ls⟩, l')) := by show _ = _; rw [ES.out, bindD_ok HD.out, bindD_ok hr]; rfl
        obtain ⟨d1, p1, rfl⟩ := ownRow_slice o1
        obtain ⟨d2, p2, rfl⟩ := ownRow_slice o2
        obtain ⟨d3, p3, rfl⟩ := ownRow_slice o3
        have oS2 := obj_grown OS.out g2 n3
        have szs : (w1.setCell ⟨c, 0, none⟩ (.int .i64 a)).heap.size = w1.heap.size := by simp [World.setCell]
        rw [szs] at o1 o2 o3
        have O1 := Lib.hid (ownsRow_low (B' := w.heap.size) (backs3 (c := c) (u1 := .slice d1 js.length p1) (u2 := .slice d2 ns.length p2) (u3 := .slice d3 ls.length p3) o1 (by omega)) sz1)
        have O2 := Lib.hid (ownsRow_low (B' := w.heap.size) (backs3 (c := c) (u1 := .slice d1 js.length p1) (u2 := .slice d2 ns.length p2) (u3 := .slice d3 ls.length p3) o2 (by omega)) sz1)
        have O3 := Lib.hid (ownsRow_low (B' := w.heap.size) (backs3 (c := c) (u1 := .slice d1 js.length p1) (u2 := .slice d2 ns.length p2) (u3 := .slice d3 ls.length p3) o3 (by omega)) sz1)
        have f1 := objAt_free oS2 1
        have f2 := objAt_free oS2 2
        have f3 := objAt_free oS2 3
        have t1 := objAt_cell oS2 1 rfl
        have t2 := objAt_cell oS2 2 rfl
        have t3 := objAt_cell oS2 3 rfl
        have lS2 := objAt_lt oS2
        have a1 : ObjAt c #[.int .i64 a, .slice d1 js.length p1, .slice none 0 0, .slice none 0 0] 30 _ := objAt_set oS2 1 (.slice d1 js.length p1)
        have a2 : ObjAt c #[.int .i64 a, .slice d1 js.length p1, .slice d2 ns.length p2, .slice none 0 0] 30 _ := objAt_set a1 2 (.slice d2 ns.length p2)
        have a3 : ObjAt c #[.int .i64 a, .slice d1 js.length p1, .slice d2 ns.length p2, .slice d3 ls.length p3] 30 _ := objAt_set a2 3 (.slice d3 ls.length p3)
        have SF := Lib.hid (src_other (src_other (src_other s2 n3' 1 (.slice d1 js.length p1)) n3' 2 (.slice d2 ns.length p2)) n3' 3 (.slice d3 ls.length p3))
        have KF := Lib.hid (k2_trans HK.out (k2_trans (k2_grown g2) (k2_trans (k2_trans (k2_set b c w2 1 (.slice d1 js.length p1)) (k2_set b c _ 2 (.slice d2 ns.length p2))) (k2_set b c _ 3 (.slice d3 ls.length p3)))))
        have AF := Lib.hid a3
        clear hr a1 a2 a3 s2 g2 oS2 o1 o2 o3 OS HK HR f0 t0 lS
        go_wp2
        first | go_end0 | refine bodyPost_ret (results_none rfl _ _ _) rfl ?_
        exact ⟨KF.out, .inr ⟨⟨a, js, ns, ls⟩, l', d1, d2, d3, p1, p2, p3, HE.out, rfl, AF.out, O1.out, O2.out, O3.out, SF.out⟩⟩
  · have hd : decide (2 < v) = false := by simpa using hv
    have hv' : v ≤ 2 := by omega
    rw [hd, if_neg (by simp), bindD_pure] at eS
    have ES := Lib.hid eS
    have HR := Lib.hid (srcRows_is v hl w h)
    have HS := Lib.hid hS
    have lc : c < w.heap.size := objAt_lt hS
    clear eS hd hV hS h hv
    go_enter Tryz.func33, Tryz.ntmps33
    go_wp2_with fail
    refine HR.out.mono ?_
    rintro r w2 ⟨g2, ⟨e, he, rfl⟩ | ⟨js, ns, ls, l', y1, y2, y3, hr, rfl, o1, o2, o3, s2⟩⟩
    · have HE : Hid (stR V8 v l = .inl e) := by show _ = _; rw [ES.out, bindD_err he]
      have G := Lib.hid (k2_grown g2 : Keep2 b c w w2)
      unfold taken
      clear he g2 c0 lV
      go_wp2
      exact ⟨rfl, G.out, .inl ⟨e, HE.out, rfl⟩⟩
    · have HE : Hid (stR V8 v l = .inr (⟨0, js, ns, ls⟩, l')) := by show _ = _; rw [ES.out, bindD_ok hr]; rfl
      obtain ⟨d1, p1, rfl⟩ := ownRow_slice o1
      obtain ⟨d2, p2, rfl⟩ := ownRow_slice o2
      obtain ⟨d3, p3, rfl⟩ := ownRow_slice o3
      have oS2 := obj_grown HS.out g2 n3
      have O1 := Lib.hid (backs3 (c := c) (u1 := .slice d1 js.length p1) (u2 := .slice d2 ns.length p2) (u3 := .slice d3 ls.length p3) o1 lc)
      have O2 := Lib.hid (backs3 (c := c) (u1 := .slice d1 js.length p1) (u2 := .slice d2 ns.length p2) (u3 := .slice d3 ls.length p3) o2 lc)
      have O3 := Lib.hid (backs3 (c := c) (u1 := .slice d1 js.length p1) (u2 := .slice d2 ns.length p2) (u3 := .slice d3 ls.length p3) o3 lc)
      have f1 := objAt_free oS2 1
      have f2 := objAt_free oS2 2
      have f3 := objAt_free oS2 3
      have t1 := objAt_cell oS2 1 rfl
      have t2 := objAt_cell oS2 2 rfl
      have t3 := objAt_cell oS2 3 rfl
      have lS2 := objAt_lt oS2
      have a1 : ObjAt c #[.int .i64 0, .slice d1 js.length p1, .slice none 0 0, .slice none 0 0] 30 _ := objAt_set oS2 1 (.slice d1 js.length p1)
      have a2 : ObjAt c #[.int .i64 0, .slice d1 js.length p1, .slice d2 ns.length p2, .slice none 0 0] 30 _ := objAt_set a1 2 (.slice d2 ns.length p2)
      have a3 : ObjAt c #[.int .i64 0, .slice d1 js.length p1, .slice d2 ns.length p2, .slice d3 ls.length p3] 30 _ := objAt_set a2 3 (.slice d3 ls.length p3)
      have SF := Lib.hid (src_other (src_other (src_other s2 n3' 1 (.slice d1 js.length p1)) n3' 2 (.slice d2 ns.length p2)) n3' 3 (.slice d3 ls.length p3))
      have KF := Lib.hid (k2_trans (k2_grown g2) (k2_trans (k2_trans (k2_set b c w2 1 (.slice d1 js.length p1)) (k2_set b c _ 2 (.slice d2 ns.length p2))) (k2_set b c _ 3 (.slice d3 ls.length p3))))
      have AF := Lib.hid a3
      clear hr a1 a2 a3 s2 g2 oS2 o1 o2 o3 HR c0 lV
      go_wp2
      first | go_end0 | refine bodyPost_ret (results_none rfl _ _ _) rfl ?_
      exact ⟨KF.out, .inr ⟨⟨0, js, ns, ls⟩, l', d1, d2, d3, p1, p2, p3, HE.out, rfl, AF.out, O1.out, O2.out, O3.out, SF.out⟩⟩
end Go.Proofs.YtclopkpfeofjmaaGreatDoor
