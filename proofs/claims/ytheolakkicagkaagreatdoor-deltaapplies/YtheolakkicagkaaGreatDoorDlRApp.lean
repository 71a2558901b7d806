/- The reference's Apply at every state and every delta. -/
import Derived.Test.YtheolakkicagkaaGreatDoorDlPut
import Derived.Test.YtheolakkicagkaaGreatDoorDlApp
import Derived.Test.YtheolakkicagkaaGreatDoorDlRCheck
import Derived.Test.YtheolakkicagkaaGreatDoorPkStR
import Derived.Deep.RegionHeld3
namespace Go.Proofs.YtheolakkicagkaaGreatDoor
open Go.RowKit

theorem rputs_take {α : Type} (key : α → ByteArray) (l xs : List α) {i : Nat} (hi : i < xs.length) : putsL key l (xs.take (i + 1)) = putL key xs[i] (putsL key l (xs.take i)) := by
  unfold putsL
  rw [List.take_succ_eq_append_getElem hi, List.foldl_append]; rfl
theorem rputs_len {α : Type} (key : α → ByteArray) (l : List α) : ∀ (xs : List α), (putsL key l xs).length ≤ l.length + xs.length := by
  intro xs
  induction xs generalizing l with
  | nil => exact Nat.le_refl _
  | cons x xs ih =>
    have h1 := ih (putL key x l)
    have h2 := putL_len (key := key) x l
    show (putsL key (putL key x l) xs).length ≤ _
    rw [List.length_cons]
    omega
theorem less_len {α : Type} (key : α → ByteArray) (l : List α) (gone : List ByteArray) : (lessL key l gone).length ≤ l.length := List.length_filter_le _ _
theorem applyR_old {s : StD} {d : DelD} (h : checkE V8 s = 0) (h2 : dcheckE V8 d = 0) (h3 : d.frm ≠ s.rev) : applyR V8 s d = (zeroSt, 10) := apply_old h h2 h3
/-- The three blocks that Apply begins with. -/
def ApAt (H : Nat) (SV DV : Array Value) (w V : World) : Prop := ObjAt H SV 26 V ∧ ObjAt (H + 1) DV 29 V ∧ ObjAt (H + 2) #[.int .i64 0, .slice none 0 0, .slice none 0 0, .slice none 0 0] 26 V ∧ Below H w V
theorem apAt_size {H : Nat} {SV DV : Array Value} {w V : World} (h : ApAt H SV DV w V) : H ≤ V.heap.size := by have := objAt_lt h.1; omega
theorem apAt_size3 {H : Nat} {SV DV : Array Value} {w V : World} (h : ApAt H SV DV w V) : H + 3 ≤ V.heap.size := by have := objAt_lt h.2.2.1; omega
theorem apAt_next {H : Nat} {SV DV : Array Value} {w V V' : World} (h : ApAt H SV DV w V) (b : Below V.heap.size V V') : ApAt H SV DV w V' := ⟨objAt_next h.1 b, objAt_next h.2.1 b, objAt_next h.2.2.1 b, below_trans h.2.2.2 b (apAt_size h)⟩
theorem apAt_drew {H : Nat} {SV DV : Array Value} {w V : World} (h : ApAt H SV DV w V) : ApAt H SV DV w V.drew := ⟨objAt_drew h.1, objAt_drew h.2.1, objAt_drew h.2.2.1, h.2.2.2.drew⟩
theorem apAt_gN {H N : Nat} {SV DV : Array Value} {w V V' : World} (h : ApAt H SV DV w V) (hN : H + 3 ≤ N) (g : V.grownBy V' (some N)) : ApAt H SV DV w V' := ⟨objAt_gN h.1 (by omega) g, objAt_gN h.2.1 (by omega) g, objAt_gN h.2.2.1 (by omega) g, gN_below h.2.2.2 (apAt_size h) (by omega) g⟩
theorem apAt_put {H N : Nat} {SV DV : Array Value} {w v : World} (h : ApAt H SV DV w v) (hN : H + 3 ≤ N) (x0 x1 x2 x3 : Value) : ApAt H SV DV w ((((v.setCell ⟨N, 0, none⟩ x0).setCell ⟨N, 1, none⟩ x1).setCell ⟨N, 2, none⟩ x2).setCell ⟨N, 3, none⟩ x3) :=
  ⟨other_put4 h.1 (by omega) _ _ _ _, other_put4 h.2.1 (by omega) _ _ _ _, other_put4 h.2.2.1 (by omega) _ _ _ _, below_put4 h.2.2.2 (by omega) _ _ _ _⟩
/-- The state that is built: its block and its rows. -/
def ApRel (H : Nat) (SV DV : Array Value) (t : StD) (w : World) (p : Value) (wc : World) : Prop := ∃ (N : Nat) (a1 a2 a3 : Option Addr) (c1 c2 c3 : Nat), p = .pointer (some ⟨N, 0, none⟩) ∧ ObjAt N #[.int .i64 t.rev, .slice a1 t.jobs.length c1, .slice a2 t.nodes.length c2, .slice a3 t.leases.length c3] 26 wc ∧ OwnS H a1 a2 a3 c1 c2 c3 t wc ∧ ApAt H SV DV w wc ∧ H + 3 ≤ N
theorem ap_put {H N : Nat} {SV DV : Array Value} {t : StD} {w v : World} {a1 a2 a3 : Option Addr} {c1 c2 c3 : Nat} {z0 z1 z2 z3 : Value} (z : ObjAt N #[z0, z1, z2, z3] 26 v) (o : OwnS H a1 a2 a3 c1 c2 c3 t v) (h : ApAt H SV DV w v) (hN : H + 3 ≤ N) :
    ApRel H SV DV t w (.pointer (some ⟨N, 0, none⟩)) ((((v.setCell ⟨N, 0, none⟩ (.int .i64 t.rev)).setCell ⟨N, 1, none⟩ (.slice a1 t.jobs.length c1)).setCell ⟨N, 2, none⟩ (.slice a2 t.nodes.length c2)).setCell ⟨N, 3, none⟩ (.slice a3 t.leases.length c3)) :=
  ⟨N, a1, a2, a3, c1, c2, c3, rfl, obj_put4 z _ _ _ _, ownS_put4 o z _ _ _ _, ⟨other_put4 h.1 (by omega) _ _ _ _, other_put4 h.2.1 (by omega) _ _ _ _, other_put4 h.2.2.1 (by omega) _ _ _ _, below_put4 h.2.2.2 (by omega) _ _ _ _⟩, hN⟩
theorem ap_new {H : Nat} {SV DV : Array Value} {t : StD} {w v : World} {a1 a2 a3 : Option Addr} {c1 c2 c3 : Nat} (o : OwnS H a1 a2 a3 c1 c2 c3 t v) (h : ApAt H SV DV w v) :
    ApRel H SV DV t w (.pointer (some ⟨v.heap.size, 0, none⟩)) (v.alloc (.cells #[.int .i64 t.rev, .slice a1 t.jobs.length c1, .slice a2 t.nodes.length c2, .slice a3 t.leases.length c3] 26)) :=
  ⟨_, a1, a2, a3, c1, c2, c3, rfl, objAt_new _ _ _, ownS_next o (below_one _ _), apAt_next h (below_one _ _), apAt_size3 h⟩
set_option maxRecDepth 100000 in
set_option maxHeartbeats 16000000 in
theorem rapply_any (s : StD) (aj an al : Option Addr) (cj cn cl : Nat) (M : DlM) (d : DelD) (w : World) (hms : JobsAt w aj s.jobs ∧ NodesAt w an s.nodes ∧ LeasesAt w al s.leases) (hmd : DeltaAt w M d) :
    Calls Tryz.prog 5 #[.agg #[.int .i64 s.rev, .slice aj s.jobs.length cj, .slice an s.nodes.length cn, .slice al s.leases.length cl], .agg #[.int .i64 d.frm, .int .i64 d.til, .slice M.aj d.jobs.length M.cj, .slice M.an d.nodes.length M.cn, .slice M.al d.leases.length M.cl, .slice M.gj d.gj.length M.hj, .slice M.gn d.gn.length M.hn, .slice M.gl d.gl.length M.hl]] w fun e w' => ∃ aj' an' al' cj' cn' cl', e = .returned (.tuple #[.agg #[.int .i64 (applyR V8 s d).1.rev, .slice aj' (applyR V8 s d).1.jobs.length cj', .slice an' (applyR V8 s d).1.nodes.length cn', .slice al' (applyR V8 s d).1.leases.length cl'], .int .i64 ((applyR V8 s d).2 : Nat)]) ∧ OwnS w.heap.size aj' an' al' cj' cn' cl' (applyR V8 s d).1 w' ∧ Below w.heap.size w w' := by
  obtain ⟨H, hH⟩ : ∃ H, w.heap.size = H := ⟨_, rfl⟩
  obtain ⟨W0, hW0⟩ : ∃ W0, ((w.alloc (.cells #[.int .i64 s.rev, .slice aj s.jobs.length cj, .slice an s.nodes.length cn, .slice al s.leases.length cl] 26)).alloc (.cells #[.int .i64 d.frm, .int .i64 d.til, .slice M.aj d.jobs.length M.cj, .slice M.an d.nodes.length M.cn, .slice M.al d.leases.length M.cl, .slice M.gj d.gj.length M.hj, .slice M.gn d.gn.length M.hn, .slice M.gl d.gl.length M.hl] 29)).alloc (.cells #[.int .i64 0, .slice none 0 0, .slice none 0 0, .slice none 0 0] 26) = W0 := ⟨_, rfl⟩
  obtain ⟨p0, q0, r0, B0, sz0⟩ := app_blocks w _ _ _ _ _ W0 hW0
  have CA := rcheck_any s.rev aj an al cj cn cl s.jobs s.nodes s.leases W0 (jobsAt_next hms.1 B0) (nodesAt_next hms.2.1 B0) (leasesAt_next hms.2.2 B0)
  rw [hH] at p0 q0 r0 B0
  have HMS := Lib.hid (fun (V : World) (b : Below H w V) => (show JobsAt V aj s.jobs ∧ NodesAt V an s.nodes ∧ LeasesAt V al s.leases from ⟨jobsAt_next hms.1 (by rw [hH]; exact b), nodesAt_next hms.2.1 (by rw [hH]; exact b), leasesAt_next hms.2.2 (by rw [hH]; exact b)⟩))
  have HMD := Lib.hid (fun (V : World) (b : Below H w V) => (show DeltaAt V M d from deltaAt_next hmd (by rw [hH]; exact b)))
  have es : (⟨s.rev, s.jobs, s.nodes, s.leases⟩ : StD) = s := rfl
  rw [es] at CA
  rw [hH]
  obtain ⟨D, hD⟩ : ∃ D, applyR V8 s d = D := ⟨_, rfl⟩
  rw [hD]
  have HD := Lib.hid hD
  obtain ⟨e1, he1⟩ : ∃ e, checkE V8 s = e := ⟨_, rfl⟩
  rw [he1] at CA
  have CA := Lib.hid CA
  have HE1 := Lib.hid he1
  have P0 : Hid (ApAt H #[.int .i64 s.rev, .slice aj s.jobs.length cj, .slice an s.nodes.length cn, .slice al s.leases.length cl] #[.int .i64 d.frm, .int .i64 d.til, .slice M.aj d.jobs.length M.cj, .slice M.an d.nodes.length M.cn, .slice M.al d.leases.length M.cl, .slice M.gj d.gj.length M.hj, .slice M.gn d.gn.length M.hn, .slice M.gl d.gl.length M.hl] w W0) := (show (ApAt H #[.int .i64 s.rev, .slice aj s.jobs.length cj, .slice an s.nodes.length cn, .slice al s.leases.length cl] #[.int .i64 d.frm, .int .i64 d.til, .slice M.aj d.jobs.length M.cj, .slice M.an d.nodes.length M.cn, .slice M.al d.leases.length M.cl, .slice M.gj d.gj.length M.hj, .slice M.gn d.gn.length M.hn, .slice M.gl d.gl.length M.hl] w W0) from ⟨p0, q0, r0, B0⟩)
  have HW := Lib.hid hW0
  have HH := Lib.hid hH
  have v0 := objAt_cell p0 0 rfl
  have v1 := objAt_cell p0 1 rfl
  have v2 := objAt_cell p0 2 rfl
  have v3 := objAt_cell p0 3 rfl
  have vl := objAt_lt p0
  clear hms hmd hW0 p0 q0 r0 B0 sz0 es hD he1 HH
  go_enter Tryz.func5, Tryz.ntmps5
  go_wp2_with fail
  rw [HW.out]
  refine CA.out.mono ?_
  rintro e w1 ⟨rfl, b1⟩
  have P1 := Lib.hid (apAt_next P0.out b1)
  clear CA P0 b1 v0 v1 v2 v3 vl
  by_cases z1 : e1 ≠ 0
  · have z' : ((e1 : Int) != 0) = true := by simp; omega
    have HE : Hid (D = (zeroSt, e1)) := by show _ = _; rw [← HD.out]; rw [applyR_s (by rw [HE1.out]; exact z1), HE1.out]
    obtain ⟨p1, q1, r1, B1⟩ := P1.out
    have k0 := objAt_cell r1 0 rfl
    have f0 := objAt_free r1 0
    have k1 := objAt_cell r1 1 rfl
    have f1 := objAt_free r1 1
    have k2 := objAt_cell r1 2 rfl
    have f2 := objAt_free r1 2
    have k3 := objAt_cell r1 3 rfl
    have f3 := objAt_free r1 3
    have kl := objAt_lt r1
    have oF := obj_put4 r1 (.int .i64 0) (.slice none 0 0) (.slice none 0 0) (.slice none 0 0)
    have t0 := objAt_cell oF 0 rfl
    have t1 := objAt_cell oF 1 rfl
    have t2 := objAt_cell oF 2 rfl
    have t3 := objAt_cell oF 3 rfl
    have TT := Lib.hid (And.intro t0 (And.intro t1 (And.intro t2 t3)))
    have BF := Lib.hid (below_put4 B1 (show H ≤ H + 2 by omega) (.int .i64 0) (.slice none 0 0) (.slice none 0 0) (.slice none 0 0))
    clear oF t0 t1 t2 t3 p1 q1 r1 B1 P1
    go_wp2
    obtain ⟨t0, t1, t2, t3⟩ := TT.out
    exact bodyPost_ret (v := .tuple #[.agg #[.int .i64 0, .slice none 0 0, .slice none 0 0, .slice none 0 0], .int .i64 (e1 : Int)]) (by simp [results, Tryz.results5, go_sem, t0, t1, t2, t3]) rfl ⟨none, none, none, 0, 0, 0, by rw [HE.out]; rfl, by rw [HE.out]; exact ownS_zero _ _, BF.out⟩
  obtain rfl : e1 = 0 := by simpa using z1
  clear z1
  have CB := rdcheck_any M d w1 (HMD.out w1 P1.out.2.2.2)
  obtain ⟨e2, he2⟩ : ∃ e, dcheckE V8 d = e := ⟨_, rfl⟩
  rw [he2] at CB
  have CB : Hid (Calls Tryz.prog 17 #[.agg #[.int .i64 d.frm, .int .i64 d.til, .slice M.aj d.jobs.length M.cj, .slice M.an d.nodes.length M.cn, .slice M.al d.leases.length M.cl, .slice M.gj d.gj.length M.hj, .slice M.gn d.gn.length M.hn, .slice M.gl d.gl.length M.hl]] w1 fun e w' => e = .returned (.int .i64 (e2 : Nat)) ∧ Below w1.heap.size w1 w') := Lib.hid CB
  have HE2 := Lib.hid he2
  have v0 := objAt_cell P1.out.2.1 0 rfl
  have v1 := objAt_cell P1.out.2.1 1 rfl
  have v2 := objAt_cell P1.out.2.1 2 rfl
  have v3 := objAt_cell P1.out.2.1 3 rfl
  have v4 := objAt_cell P1.out.2.1 4 rfl
  have v5 := objAt_cell P1.out.2.1 5 rfl
  have v6 := objAt_cell P1.out.2.1 6 rfl
  have v7 := objAt_cell P1.out.2.1 7 rfl
  have vl := objAt_lt P1.out.2.1
  clear he2
  go_wp2_with fail
  refine CB.out.mono ?_
  rintro e w2 ⟨rfl, b2⟩
  have P2 := Lib.hid (apAt_next P1.out b2)
  clear CB P1 b2 v0 v1 v2 v3 v4 v5 v6 v7 vl
  by_cases z2 : e2 ≠ 0
  · have z' : ((e2 : Int) != 0) = true := by simp; omega
    have HE : Hid (D = (zeroSt, e2)) := by show _ = _; rw [← HD.out]; rw [applyR_d HE1.out (by rw [HE2.out]; exact z2), HE2.out]
    obtain ⟨p1, q1, r1, B1⟩ := P2.out
    have k0 := objAt_cell r1 0 rfl
    have f0 := objAt_free r1 0
    have k1 := objAt_cell r1 1 rfl
    have f1 := objAt_free r1 1
    have k2 := objAt_cell r1 2 rfl
    have f2 := objAt_free r1 2
    have k3 := objAt_cell r1 3 rfl
    have f3 := objAt_free r1 3
    have kl := objAt_lt r1
    have oF := obj_put4 r1 (.int .i64 0) (.slice none 0 0) (.slice none 0 0) (.slice none 0 0)
    have t0 := objAt_cell oF 0 rfl
    have t1 := objAt_cell oF 1 rfl
    have t2 := objAt_cell oF 2 rfl
    have t3 := objAt_cell oF 3 rfl
    have TT := Lib.hid (And.intro t0 (And.intro t1 (And.intro t2 t3)))
    have BF := Lib.hid (below_put4 B1 (show H ≤ H + 2 by omega) (.int .i64 0) (.slice none 0 0) (.slice none 0 0) (.slice none 0 0))
    clear oF t0 t1 t2 t3 p1 q1 r1 B1 P2
    go_wp2
    obtain ⟨t0, t1, t2, t3⟩ := TT.out
    exact bodyPost_ret (v := .tuple #[.agg #[.int .i64 0, .slice none 0 0, .slice none 0 0, .slice none 0 0], .int .i64 (e2 : Int)]) (by simp [results, Tryz.results5, go_sem, t0, t1, t2, t3]) rfl ⟨none, none, none, 0, 0, 0, by rw [HE.out]; rfl, by rw [HE.out]; exact ownS_zero _ _, BF.out⟩
  obtain rfl : e2 = 0 := by simpa using z2
  clear z2
  have x0 := objAt_cell P2.out.1 0 rfl
  have y0 := objAt_cell P2.out.2.1 0 rfl
  have yl := objAt_lt P2.out.2.1
  have xl := objAt_lt P2.out.1
  by_cases hr : d.frm ≠ s.rev
  · have hb : (d.frm != s.rev) = true := by simpa using hr
    have HE : Hid (D = (zeroSt, 10)) := by show _ = _; rw [← HD.out]; exact applyR_old HE1.out HE2.out hr
    obtain ⟨p1, q1, r1, B1⟩ := P2.out
    have k0 := objAt_cell r1 0 rfl
    have f0 := objAt_free r1 0
    have k1 := objAt_cell r1 1 rfl
    have f1 := objAt_free r1 1
    have k2 := objAt_cell r1 2 rfl
    have f2 := objAt_free r1 2
    have k3 := objAt_cell r1 3 rfl
    have f3 := objAt_free r1 3
    have kl := objAt_lt r1
    have oF := obj_put4 r1 (.int .i64 0) (.slice none 0 0) (.slice none 0 0) (.slice none 0 0)
    have t0 := objAt_cell oF 0 rfl
    have t1 := objAt_cell oF 1 rfl
    have t2 := objAt_cell oF 2 rfl
    have t3 := objAt_cell oF 3 rfl
    have TT := Lib.hid (And.intro t0 (And.intro t1 (And.intro t2 t3)))
    have BF := Lib.hid (below_put4 B1 (show H ≤ H + 2 by omega) (.int .i64 0) (.slice none 0 0) (.slice none 0 0) (.slice none 0 0))
    clear oF t0 t1 t2 t3 p1 q1 r1 B1 P2 hr
    go_wp2
    obtain ⟨t0, t1, t2, t3⟩ := TT.out
    exact bodyPost_ret (v := .tuple #[.agg #[.int .i64 0, .slice none 0 0, .slice none 0 0, .slice none 0 0], .int .i64 10]) (by simp [results, Tryz.results5, go_sem, t0, t1, t2, t3]) rfl ⟨none, none, none, 0, 0, 0, by rw [HE.out]; rfl, by rw [HE.out]; exact ownS_zero _ _, BF.out⟩
  have hr : d.frm = s.rev := by simpa using hr
  have hb : (d.frm != s.rev) = false := by simp [hr]
  have HRv := Lib.hid hr
  clear hr
  have fs := valid_facts HE1.out
  have fd := dvalid_facts HE2.out
  obtain ⟨_, ⟨⟨d1, d2, d3, d4⟩, d5, d6⟩, _⟩ := (dcheck_zero V8 d).1 HE2.out
  have ls := fs.2.1
  have FS := Lib.hid fs
  have FD := Lib.hid fd
  clear fs fd
  obtain ⟨ls1, ls2, ls3⟩ := ls
  have v0 := objAt_cell P2.out.2.1 0 rfl
  have v1 := objAt_cell P2.out.2.1 1 rfl
  have v2 := objAt_cell P2.out.2.1 2 rfl
  have v3 := objAt_cell P2.out.2.1 3 rfl
  have v4 := objAt_cell P2.out.2.1 4 rfl
  have v5 := objAt_cell P2.out.2.1 5 rfl
  have v6 := objAt_cell P2.out.2.1 6 rfl
  have v7 := objAt_cell P2.out.2.1 7 rfl
  have vl := objAt_lt P2.out.2.1
  obtain ⟨Ad0, hAd⟩ : ∃ A, M.gj = A := ⟨_, rfl⟩
  rw [hAd] at v5
  have HAd0 := Lib.hid hAd
  clear hAd
  go_wp2
  clear v0 v1 v2 v3 v4 v5 v6 v7 vl x0 y0 xl yl hb
  go_loopw [43] (fun iv wr => ∃ (i : Nat), iv = .int .i64 (i : Int) ∧ i ≤ d.gj.length ∧ Hid (∀ x ∈ d.gj.take i, hasJob s.jobs x = true) ∧ Below w2.heap.size w2 wr) (fun iv _ => d.gj.length - (intOf iv).toNat)
  case atStart => exact ⟨0, rfl, Nat.zero_le _, fun x hx => by simp at hx, Below.refl _ _⟩
  case round =>
    obtain ⟨i, rfl, hi, HG, hbr⟩ := hrel
    by_cases h : (i : Int) < (d.gj.length : Int)
    case pos =>
      have hil : i < d.gj.length := by omega
      have PR := apAt_next P2.out hbr
      have hnm := (HMD.out wr PR.2.2.2).2.1
      rw [HAd0.out] at hnm
      obtain ⟨a, rfl, hal, k0⟩ := hnm i hil
      clear hnm
      obtain ⟨x, hxi⟩ : ∃ x, d.gj[i] = x := ⟨_, rfl⟩
      rw [hxi] at k0
      have C1 := Lib.hid (jobAt_is s.jobs aj cj (by omega) x wr (HMS.out wr PR.2.2.2).1)
      have v0 := objAt_cell PR.1 0 rfl
      have v1 := objAt_cell PR.1 1 rfl
      have v2 := objAt_cell PR.1 2 rfl
      have v3 := objAt_cell PR.1 3 rfl
      have vl := objAt_lt PR.1
      have HXI := Lib.hid hxi
      have PRH := Lib.hid PR
      have HB := Lib.hid hbr
      clear hxi PR hbr
      go_wp2_with fail
      refine C1.out.mono ?_
      rintro e w3 ⟨r, rfl, hat, b3⟩
      have PN := Lib.hid (apAt_next PRH.out b3)
      have HB3 := Lib.hid (below_trans HB.out b3 HB.out.size)
      have hh := (at_job hat).1
      clear C1 PRH HB b3 hat v0 v1 v2 v3 vl k0 hal
      by_cases h0 : r < 0
      · have HE : Hid (D = (zeroSt, 6)) := by
          show _ = _
          rw [← HD.out]
          refine applyR_gone HE1.out HE2.out HRv.out ?_
          have hf : (d.gj.all (hasJob s.jobs)) = false := by
            rw [List.all_eq_false]
            exact ⟨x, by rw [← HXI.out]; exact List.getElem_mem hil, by rw [hh]; simp; omega⟩
          unfold goneIn
          rw [hf]
          simp
        obtain ⟨p1, q1, r1, B1⟩ := PN.out
        clear hh
        have k0 := objAt_cell r1 0 rfl
        have f0 := objAt_free r1 0
        have k1 := objAt_cell r1 1 rfl
        have f1 := objAt_free r1 1
        have k2 := objAt_cell r1 2 rfl
        have f2 := objAt_free r1 2
        have k3 := objAt_cell r1 3 rfl
        have f3 := objAt_free r1 3
        have kl := objAt_lt r1
        have oF := obj_put4 r1 (.int .i64 0) (.slice none 0 0) (.slice none 0 0) (.slice none 0 0)
        have t0 := objAt_cell oF 0 rfl
        have t1 := objAt_cell oF 1 rfl
        have t2 := objAt_cell oF 2 rfl
        have t3 := objAt_cell oF 3 rfl
        have TT := Lib.hid (And.intro t0 (And.intro t1 (And.intro t2 t3)))
        have BF := Lib.hid (below_put4 B1 (show H ≤ H + 2 by omega) (.int .i64 0) (.slice none 0 0) (.slice none 0 0) (.slice none 0 0))
        clear oF t0 t1 t2 t3 p1 q1 r1 B1 PN HB3
        go_wp2
        obtain ⟨t0, t1, t2, t3⟩ := TT.out
        exact bodyPost_ret (v := .tuple #[.agg #[.int .i64 0, .slice none 0 0, .slice none 0 0, .slice none 0 0], .int .i64 6]) (by simp [results, Tryz.results5, go_sem, t0, t1, t2, t3]) rfl ⟨none, none, none, 0, 0, 0, by rw [HE.out]; rfl, by rw [HE.out]; exact ownS_zero _ _, BF.out⟩
      · have h0' : ¬ (r < 0) := h0
        have HG2 : Hid (∀ y ∈ d.gj.take (i + 1), hasJob s.jobs y = true) := by
          intro y hy
          rw [List.take_succ_eq_append_getElem hil] at hy
          rcases List.mem_append.1 hy with hy | hy
          · exact HG.out y hy
          · have : y = x := by rw [← HXI.out]; simpa using hy
            rw [this, hh]; simp; omega
        clear hh h0 HG
        go_wp2
        go_roundw
        case rel => exact ⟨i + 1, by simp, by omega, HG2, HB3.out⟩
        case measure => simp [intOf]; omega
    case neg =>
      obtain rfl : i = d.gj.length := by omega
      have HK0 : Hid (∀ x ∈ d.gj, hasJob s.jobs x = true) := by show ∀ x ∈ d.gj, _; have := HG.out; rwa [List.take_length] at this
      obtain ⟨W3, hWE⟩ : ∃ W, W = wr := ⟨_, rfl⟩
      subst hWE
      have P3 := Lib.hid (apAt_next P2.out hbr)
      clear HG hbr h hi P2
      have v0 := objAt_cell P3.out.2.1 0 rfl
      have v1 := objAt_cell P3.out.2.1 1 rfl
      have v2 := objAt_cell P3.out.2.1 2 rfl
      have v3 := objAt_cell P3.out.2.1 3 rfl
      have v4 := objAt_cell P3.out.2.1 4 rfl
      have v5 := objAt_cell P3.out.2.1 5 rfl
      have v6 := objAt_cell P3.out.2.1 6 rfl
      have v7 := objAt_cell P3.out.2.1 7 rfl
      have vl := objAt_lt P3.out.2.1
      obtain ⟨Ad1, hAd⟩ : ∃ A, M.gn = A := ⟨_, rfl⟩
      rw [hAd] at v6
      have HAd1 := Lib.hid hAd
      clear hAd
      go_wp2
      clear v0 v1 v2 v3 v4 v5 v6 v7 vl
      go_loopw [57] (fun iv wr => ∃ (i : Nat), iv = .int .i64 (i : Int) ∧ i ≤ d.gn.length ∧ Hid (∀ x ∈ d.gn.take i, hasNode s.nodes x = true) ∧ Below W3.heap.size W3 wr) (fun iv _ => d.gn.length - (intOf iv).toNat)
      case atStart => exact ⟨0, rfl, Nat.zero_le _, fun x hx => by simp at hx, Below.refl _ _⟩
      case round =>
        obtain ⟨i, rfl, hi, HG, hbr⟩ := hrel
        by_cases h : (i : Int) < (d.gn.length : Int)
        case pos =>
          have hil : i < d.gn.length := by omega
          have PR := apAt_next P3.out hbr
          have hnm := (HMD.out wr PR.2.2.2).2.2.1
          rw [HAd1.out] at hnm
          obtain ⟨a, rfl, hal, k0⟩ := hnm i hil
          clear hnm
          obtain ⟨x, hxi⟩ : ∃ x, d.gn[i] = x := ⟨_, rfl⟩
          rw [hxi] at k0
          have C1 := Lib.hid (nodeAt_is s.nodes an cn (by omega) x wr (HMS.out wr PR.2.2.2).2.1)
          have v0 := objAt_cell PR.1 0 rfl
          have v1 := objAt_cell PR.1 1 rfl
          have v2 := objAt_cell PR.1 2 rfl
          have v3 := objAt_cell PR.1 3 rfl
          have vl := objAt_lt PR.1
          have HXI := Lib.hid hxi
          have PRH := Lib.hid PR
          have HB := Lib.hid hbr
          clear hxi PR hbr
          go_wp2_with fail
          refine C1.out.mono ?_
          rintro e w3 ⟨r, rfl, hat, b3⟩
          have PN := Lib.hid (apAt_next PRH.out b3)
          have HB3 := Lib.hid (below_trans HB.out b3 HB.out.size)
          have hh := at_node hat
          clear C1 PRH HB b3 hat v0 v1 v2 v3 vl k0 hal
          by_cases h0 : r < 0
          · have HE : Hid (D = (zeroSt, 6)) := by
              show _ = _
              rw [← HD.out]
              refine applyR_gone HE1.out HE2.out HRv.out ?_
              have hf : (d.gn.all (hasNode s.nodes)) = false := by
                rw [List.all_eq_false]
                exact ⟨x, by rw [← HXI.out]; exact List.getElem_mem hil, by rw [hh]; simp; omega⟩
              unfold goneIn
              rw [hf]
              simp
            obtain ⟨p1, q1, r1, B1⟩ := PN.out
            clear hh
            have k0 := objAt_cell r1 0 rfl
            have f0 := objAt_free r1 0
            have k1 := objAt_cell r1 1 rfl
            have f1 := objAt_free r1 1
            have k2 := objAt_cell r1 2 rfl
            have f2 := objAt_free r1 2
            have k3 := objAt_cell r1 3 rfl
            have f3 := objAt_free r1 3
            have kl := objAt_lt r1
            have oF := obj_put4 r1 (.int .i64 0) (.slice none 0 0) (.slice none 0 0) (.slice none 0 0)
            have t0 := objAt_cell oF 0 rfl
            have t1 := objAt_cell oF 1 rfl
            have t2 := objAt_cell oF 2 rfl
            have t3 := objAt_cell oF 3 rfl
            have TT := Lib.hid (And.intro t0 (And.intro t1 (And.intro t2 t3)))
            have BF := Lib.hid (below_put4 B1 (show H ≤ H + 2 by omega) (.int .i64 0) (.slice none 0 0) (.slice none 0 0) (.slice none 0 0))
            clear oF t0 t1 t2 t3 p1 q1 r1 B1 PN HB3
            go_wp2
            obtain ⟨t0, t1, t2, t3⟩ := TT.out
            exact bodyPost_ret (v := .tuple #[.agg #[.int .i64 0, .slice none 0 0, .slice none 0 0, .slice none 0 0], .int .i64 6]) (by simp [results, Tryz.results5, go_sem, t0, t1, t2, t3]) rfl ⟨none, none, none, 0, 0, 0, by rw [HE.out]; rfl, by rw [HE.out]; exact ownS_zero _ _, BF.out⟩
          · have h0' : ¬ (r < 0) := h0
            have HG2 : Hid (∀ y ∈ d.gn.take (i + 1), hasNode s.nodes y = true) := by
              intro y hy
              rw [List.take_succ_eq_append_getElem hil] at hy
              rcases List.mem_append.1 hy with hy | hy
              · exact HG.out y hy
              · have : y = x := by rw [← HXI.out]; simpa using hy
                rw [this, hh]; simp; omega
            clear hh h0 HG
            go_wp2
            go_roundw
            case rel => exact ⟨i + 1, by simp, by omega, HG2, HB3.out⟩
            case measure => simp [intOf]; omega
        case neg =>
          obtain rfl : i = d.gn.length := by omega
          have HK1 : Hid (∀ x ∈ d.gn, hasNode s.nodes x = true) := by show ∀ x ∈ d.gn, _; have := HG.out; rwa [List.take_length] at this
          obtain ⟨W4, hWE⟩ : ∃ W, W = wr := ⟨_, rfl⟩
          subst hWE
          have P4 := Lib.hid (apAt_next P3.out hbr)
          clear HG hbr h hi P3
          have v0 := objAt_cell P4.out.2.1 0 rfl
          have v1 := objAt_cell P4.out.2.1 1 rfl
          have v2 := objAt_cell P4.out.2.1 2 rfl
          have v3 := objAt_cell P4.out.2.1 3 rfl
          have v4 := objAt_cell P4.out.2.1 4 rfl
          have v5 := objAt_cell P4.out.2.1 5 rfl
          have v6 := objAt_cell P4.out.2.1 6 rfl
          have v7 := objAt_cell P4.out.2.1 7 rfl
          have vl := objAt_lt P4.out.2.1
          obtain ⟨Ad2, hAd⟩ : ∃ A, M.gl = A := ⟨_, rfl⟩
          rw [hAd] at v7
          have HAd2 := Lib.hid hAd
          clear hAd
          go_wp2
          clear v0 v1 v2 v3 v4 v5 v6 v7 vl
          go_loopw [71] (fun iv wr => ∃ (i : Nat), iv = .int .i64 (i : Int) ∧ i ≤ d.gl.length ∧ Hid (∀ x ∈ d.gl.take i, hasLease s.leases x = true) ∧ Below W4.heap.size W4 wr) (fun iv _ => d.gl.length - (intOf iv).toNat)
          case atStart => exact ⟨0, rfl, Nat.zero_le _, fun x hx => by simp at hx, Below.refl _ _⟩
          case round =>
            obtain ⟨i, rfl, hi, HG, hbr⟩ := hrel
            by_cases h : (i : Int) < (d.gl.length : Int)
            case pos =>
              have hil : i < d.gl.length := by omega
              have PR := apAt_next P4.out hbr
              have hnm := (HMD.out wr PR.2.2.2).2.2.2
              rw [HAd2.out] at hnm
              obtain ⟨a, rfl, hal, k0⟩ := hnm i hil
              clear hnm
              obtain ⟨x, hxi⟩ : ∃ x, d.gl[i] = x := ⟨_, rfl⟩
              rw [hxi] at k0
              have C1 := Lib.hid (leaseAt_is s.leases al cl (by omega) x wr (HMS.out wr PR.2.2.2).2.2)
              have v0 := objAt_cell PR.1 0 rfl
              have v1 := objAt_cell PR.1 1 rfl
              have v2 := objAt_cell PR.1 2 rfl
              have v3 := objAt_cell PR.1 3 rfl
              have vl := objAt_lt PR.1
              have HXI := Lib.hid hxi
              have PRH := Lib.hid PR
              have HB := Lib.hid hbr
              clear hxi PR hbr
              go_wp2_with fail
              refine C1.out.mono ?_
              rintro e w3 ⟨r, rfl, hat, b3⟩
              have PN := Lib.hid (apAt_next PRH.out b3)
              have HB3 := Lib.hid (below_trans HB.out b3 HB.out.size)
              have hh := at_lease hat
              clear C1 PRH HB b3 hat v0 v1 v2 v3 vl k0 hal
              by_cases h0 : r < 0
              · have HE : Hid (D = (zeroSt, 6)) := by
                  show _ = _
                  rw [← HD.out]
                  refine applyR_gone HE1.out HE2.out HRv.out ?_
                  have hf : (d.gl.all (hasLease s.leases)) = false := by
                    rw [List.all_eq_false]
                    exact ⟨x, by rw [← HXI.out]; exact List.getElem_mem hil, by rw [hh]; simp; omega⟩
                  unfold goneIn
                  rw [hf]
                  simp
                obtain ⟨p1, q1, r1, B1⟩ := PN.out
                clear hh
                have k0 := objAt_cell r1 0 rfl
                have f0 := objAt_free r1 0
                have k1 := objAt_cell r1 1 rfl
                have f1 := objAt_free r1 1
                have k2 := objAt_cell r1 2 rfl
                have f2 := objAt_free r1 2
                have k3 := objAt_cell r1 3 rfl
                have f3 := objAt_free r1 3
                have kl := objAt_lt r1
                have oF := obj_put4 r1 (.int .i64 0) (.slice none 0 0) (.slice none 0 0) (.slice none 0 0)
                have t0 := objAt_cell oF 0 rfl
                have t1 := objAt_cell oF 1 rfl
                have t2 := objAt_cell oF 2 rfl
                have t3 := objAt_cell oF 3 rfl
                have TT := Lib.hid (And.intro t0 (And.intro t1 (And.intro t2 t3)))
                have BF := Lib.hid (below_put4 B1 (show H ≤ H + 2 by omega) (.int .i64 0) (.slice none 0 0) (.slice none 0 0) (.slice none 0 0))
                clear oF t0 t1 t2 t3 p1 q1 r1 B1 PN HB3
                go_wp2
                obtain ⟨t0, t1, t2, t3⟩ := TT.out
                exact bodyPost_ret (v := .tuple #[.agg #[.int .i64 0, .slice none 0 0, .slice none 0 0, .slice none 0 0], .int .i64 6]) (by simp [results, Tryz.results5, go_sem, t0, t1, t2, t3]) rfl ⟨none, none, none, 0, 0, 0, by rw [HE.out]; rfl, by rw [HE.out]; exact ownS_zero _ _, BF.out⟩
              · have h0' : ¬ (r < 0) := h0
                have HG2 : Hid (∀ y ∈ d.gl.take (i + 1), hasLease s.leases y = true) := by
                  intro y hy
                  rw [List.take_succ_eq_append_getElem hil] at hy
                  rcases List.mem_append.1 hy with hy | hy
                  · exact HG.out y hy
                  · have : y = x := by rw [← HXI.out]; simpa using hy
                    rw [this, hh]; simp; omega
                clear hh h0 HG
                go_wp2
                go_roundw
                case rel => exact ⟨i + 1, by simp, by omega, HG2, HB3.out⟩
                case measure => simp [intOf]; omega
            case neg =>
              obtain rfl : i = d.gl.length := by omega
              have HK2 : Hid (∀ x ∈ d.gl, hasLease s.leases x = true) := by show ∀ x ∈ d.gl, _; have := HG.out; rwa [List.take_length] at this
              obtain ⟨W5, hWE⟩ : ∃ W, W = wr := ⟨_, rfl⟩
              subst hWE
              have P5 := Lib.hid (apAt_next P4.out hbr)
              clear HG hbr h hi P4
              have GI : Hid (goneIn s d = true) := by
                show goneIn s d = true
                unfold goneIn
                rw [Bool.and_eq_true, Bool.and_eq_true, List.all_eq_true, List.all_eq_true, List.all_eq_true]
                exact ⟨⟨HK0.out, HK1.out⟩, HK2.out⟩
              clear HK0 HK1 HK2
              have HW0 := Lib.hid (fun (V : World) (h : (ApAt H #[.int .i64 s.rev, .slice aj s.jobs.length cj, .slice an s.nodes.length cn, .slice al s.leases.length cl] #[.int .i64 d.frm, .int .i64 d.til, .slice M.aj d.jobs.length M.cj, .slice M.an d.nodes.length M.cn, .slice M.al d.leases.length M.cl, .slice M.gj d.gj.length M.hj, .slice M.gn d.gn.length M.hn, .slice M.gl d.gl.length M.hl] w V)) => withoutJob_is s.jobs aj cj (by omega) d M (H + 1) (by omega) V (HMS.out V h.2.2.2).1 h.2.1 (HMD.out V h.2.2.2).2.1)
              obtain ⟨y0, hy0⟩ : ∃ y, (lessL (·.name) s.jobs d.gj) = y := ⟨_, rfl⟩
              simp only [hy0] at HW0
              have HY0 := Lib.hid hy0
              clear hy0
              have HW1 := Lib.hid (fun (V : World) (h : (ApAt H #[.int .i64 s.rev, .slice aj s.jobs.length cj, .slice an s.nodes.length cn, .slice al s.leases.length cl] #[.int .i64 d.frm, .int .i64 d.til, .slice M.aj d.jobs.length M.cj, .slice M.an d.nodes.length M.cn, .slice M.al d.leases.length M.cl, .slice M.gj d.gj.length M.hj, .slice M.gn d.gn.length M.hn, .slice M.gl d.gl.length M.hl] w V)) => withoutNode_is s.nodes an cn (by omega) d M (H + 1) (by omega) V (HMS.out V h.2.2.2).2.1 h.2.1 (HMD.out V h.2.2.2).2.2.1)
              obtain ⟨y1, hy1⟩ : ∃ y, (lessL (·.name) s.nodes d.gn) = y := ⟨_, rfl⟩
              simp only [hy1] at HW1
              have HY1 := Lib.hid hy1
              clear hy1
              have HW2 := Lib.hid (fun (V : World) (h : (ApAt H #[.int .i64 s.rev, .slice aj s.jobs.length cj, .slice an s.nodes.length cn, .slice al s.leases.length cl] #[.int .i64 d.frm, .int .i64 d.til, .slice M.aj d.jobs.length M.cj, .slice M.an d.nodes.length M.cn, .slice M.al d.leases.length M.cl, .slice M.gj d.gj.length M.hj, .slice M.gn d.gn.length M.hn, .slice M.gl d.gl.length M.hl] w V)) => withoutLease_is s.leases al cl (by omega) d M (H + 1) (by omega) V (HMS.out V h.2.2.2).2.2 h.2.1 (HMD.out V h.2.2.2).2.2.2)
              obtain ⟨y2, hy2⟩ : ∃ y, (lessL (·.job) s.leases d.gl) = y := ⟨_, rfl⟩
              simp only [hy2] at HW2
              have HY2 := Lib.hid hy2
              clear hy2
              go_upto_region 27 with fail
              have hmf : ∀ (fn : Fn) (first cap : Array Value) (w : World), (Instr.makeFunc fn first cap).run Tryz.prog w = .ok (.func fn first cap) w := fun _ _ _ _ => rfl
              go_cut [14] from 82 (fun p wc => ApRel H #[.int .i64 s.rev, .slice aj s.jobs.length cj, .slice an s.nodes.length cn, .slice al s.leases.length cl] #[.int .i64 d.frm, .int .i64 d.til, .slice M.aj d.jobs.length M.cj, .slice M.an d.nodes.length M.cn, .slice M.al d.leases.length M.cl, .slice M.gj d.gj.length M.hj, .slice M.gn d.gn.length M.hn, .slice M.gl d.gl.length M.hl] ⟨d.til, y0, y1, y2⟩ w p wc)
              case first =>
                refine wp_region_held_drew (S := fun x => ApAt H #[.int .i64 s.rev, .slice aj s.jobs.length cj, .slice an s.nodes.length cn, .slice al s.leases.length cl] #[.int .i64 d.frm, .int .i64 d.til, .slice M.aj d.jobs.length M.cj, .slice M.an d.nodes.length M.cn, .slice M.al d.leases.length M.cl, .slice M.gj d.gj.length M.hj, .slice M.gn d.gn.length M.hn, .slice M.gl d.gl.length M.hl] w x) (by kernel_rfl) (apAt_drew P5.out) (fun hHeld => ?_)
                generalize W5.drew = V at hHeld ⊢
                refine wpAnyH_take (i := 0) (oi := ⟨_, _, _, _, _, _⟩) (v := .pointer (some ⟨H + 1, 1, none⟩)) rfl (by kernel_rfl) (by kernel_rfl) (by kernel_rfl) (fun _ _ _ h => h) (Or.inl ⟨by rfl, ?_⟩) (by assumption) ?_
                · intro x hx
                  go_simp
                simp only [Act.put, List.setIfInBounds_toArray, List.set_cons_zero, List.set_cons_succ]
                refine wpAnyH_take (i := 1) (oi := ⟨_, _, _, _, _, _⟩) (v := .int .i64 d.til) rfl (by kernel_rfl) (by kernel_rfl) (by kernel_rfl) (fun _ _ _ h => h) (Or.inl ⟨by rfl, ?_⟩) (by assumption) ?_
                · intro x hx
                  have c := objAt_cell hx.2.1 1 rfl
                  go_simp
                simp only [Act.put, List.setIfInBounds_toArray, List.set_cons_zero, List.set_cons_succ]
                refine wpAnyH_take (i := 4) (oi := ⟨_, _, _, _, _, _⟩) (v := .func (.func 22) #[] #[.pointer (some ⟨H + 1, 0, none⟩)]) rfl (by kernel_rfl) (by kernel_rfl) (by kernel_rfl) (fun _ _ _ h => h) (Or.inl ⟨by rfl, ?_⟩) (by assumption) ?_
                · intro x hx
                  go_simp
                simp only [Act.put, List.setIfInBounds_toArray, List.set_cons_zero, List.set_cons_succ]
                refine wpAnyH_take (i := 2) (oi := ⟨_, _, _, _, _, _⟩) (v := .pointer (some ⟨H, 1, none⟩)) rfl (by kernel_rfl) (by kernel_rfl) (by kernel_rfl) (fun _ _ _ h => h) (Or.inl ⟨by rfl, ?_⟩) (by assumption) ?_
                · intro x hx
                  go_simp
                simp only [Act.put, List.setIfInBounds_toArray, List.set_cons_zero, List.set_cons_succ]
                refine wpAnyH_take (i := 3) (oi := ⟨_, _, _, _, _, _⟩) (v := .slice aj s.jobs.length cj) rfl (by kernel_rfl) (by kernel_rfl) (by kernel_rfl) (fun _ _ _ h => h) (Or.inl ⟨by rfl, ?_⟩) (by assumption) ?_
                · intro x hx
                  have c := objAt_cell hx.1 1 rfl
                  go_simp
                simp only [Act.put, List.setIfInBounds_toArray, List.set_cons_zero, List.set_cons_succ]
                refine wpAnyH_take (i := 6) (oi := ⟨_, _, _, _, _, _⟩) (v := .pointer (some ⟨H, 2, none⟩)) rfl (by kernel_rfl) (by kernel_rfl) (by kernel_rfl) (fun _ _ _ h => h) (Or.inl ⟨by rfl, ?_⟩) (by assumption) ?_
                · intro x hx
                  go_simp
                simp only [Act.put, List.setIfInBounds_toArray, List.set_cons_zero, List.set_cons_succ]
                refine wpAnyH_take (i := 7) (oi := ⟨_, _, _, _, _, _⟩) (v := .slice an s.nodes.length cn) rfl (by kernel_rfl) (by kernel_rfl) (by kernel_rfl) (fun _ _ _ h => h) (Or.inl ⟨by rfl, ?_⟩) (by assumption) ?_
                · intro x hx
                  have c := objAt_cell hx.1 2 rfl
                  go_simp
                simp only [Act.put, List.setIfInBounds_toArray, List.set_cons_zero, List.set_cons_succ]
                refine wpAnyH_take (i := 8) (oi := ⟨_, _, _, _, _, _⟩) (v := .func (.func 25) #[] #[.pointer (some ⟨H + 1, 0, none⟩)]) rfl (by kernel_rfl) (by kernel_rfl) (by kernel_rfl) (fun _ _ _ h => h) (Or.inl ⟨by rfl, ?_⟩) (by assumption) ?_
                · intro x hx
                  go_simp
                simp only [Act.put, List.setIfInBounds_toArray, List.set_cons_zero, List.set_cons_succ]
                refine wpAnyH_take (i := 10) (oi := ⟨_, _, _, _, _, _⟩) (v := .pointer (some ⟨H, 3, none⟩)) rfl (by kernel_rfl) (by kernel_rfl) (by kernel_rfl) (fun _ _ _ h => h) (Or.inl ⟨by rfl, ?_⟩) (by assumption) ?_
                · intro x hx
                  go_simp
                simp only [Act.put, List.setIfInBounds_toArray, List.set_cons_zero, List.set_cons_succ]
                refine wpAnyH_take (i := 11) (oi := ⟨_, _, _, _, _, _⟩) (v := .slice al s.leases.length cl) rfl (by kernel_rfl) (by kernel_rfl) (by kernel_rfl) (fun _ _ _ h => h) (Or.inl ⟨by rfl, ?_⟩) (by assumption) ?_
                · intro x hx
                  have c := objAt_cell hx.1 3 rfl
                  go_simp
                simp only [Act.put, List.setIfInBounds_toArray, List.set_cons_zero, List.set_cons_succ]
                refine wpAnyH_take (i := 12) (oi := ⟨_, _, _, _, _, _⟩) (v := .func (.func 27) #[] #[.pointer (some ⟨H + 1, 0, none⟩)]) rfl (by kernel_rfl) (by kernel_rfl) (by kernel_rfl) (fun _ _ _ h => h) (Or.inl ⟨by rfl, ?_⟩) (by assumption) ?_
                · intro x hx
                  go_simp
                simp only [Act.put, List.setIfInBounds_toArray, List.set_cons_zero, List.set_cons_succ]
                refine wpAnyH_ready (rs := [5, 15]) (by kernel_rfl) (by simp) ?_
                refine AllReadyH.cons (o := ⟨_, _, _, _, _, _⟩) rfl (fun K hK => ?_) ?_
                · go_simp
                  refine (HW0.out _ hHeld).mono ?_
                  rintro e x0 ⟨ad0, cp0, rfl, o, b⟩
                  have hN := apAt_next hHeld b
                  have O0 := Lib.hid (ownsRow_low (B' := H) o (apAt_size hHeld))
                  clear o b
                  go_wp2_with fail
                  refine hK.out _ _ hN (fun hHeld => ?_)
                  clear hK K
                  try simp only [Act.put, List.setIfInBounds_toArray, List.set_cons_zero, List.set_cons_succ]
                  refine wpAnyH_ready (rs := [9, 15]) (by kernel_rfl) (by simp) ?_
                  refine AllReadyH.cons (o := ⟨_, _, _, _, _, _⟩) rfl (fun K hK => ?_) ?_
                  · go_simp
                    refine (HW1.out _ hHeld).mono ?_
                    rintro e x1 ⟨ad1, cp1, rfl, o, b⟩
                    have hN := apAt_next hHeld b
                    have O1 := Lib.hid (ownsRow_low (B' := H) o (apAt_size hHeld))
                    have O0 := Lib.hid (own_next O0.out b)
                    clear o b
                    go_wp2_with fail
                    refine hK.out _ _ hN (fun hHeld => ?_)
                    clear hK K
                    try simp only [Act.put, List.setIfInBounds_toArray, List.set_cons_zero, List.set_cons_succ]
                    refine wpAnyH_ready (rs := [13, 15]) (by kernel_rfl) (by simp) ?_
                    refine AllReadyH.cons (o := ⟨_, _, _, _, _, _⟩) rfl (fun K hK => ?_) ?_
                    · go_simp
                      refine (HW2.out _ hHeld).mono ?_
                      rintro e x2 ⟨ad2, cp2, rfl, o, b⟩
                      have hN := apAt_next hHeld b
                      have O2 := Lib.hid (ownsRow_low (B' := H) o (apAt_size hHeld))
                      have O0 := Lib.hid (own_next O0.out b)
                      have O1 := Lib.hid (own_next O1.out b)
                      clear o b
                      go_wp2_with fail
                      refine hK.out _ _ hN (fun hHeld => ?_)
                      clear hK K
                      try simp only [Act.put, List.setIfInBounds_toArray, List.set_cons_zero, List.set_cons_succ]
                      refine wpAnyH_take (i := 14) (oi := ⟨_, _, _, _, _, _⟩) (v := .agg #[.int .i64 d.til, .slice ad0 y0.length cp0, .slice ad1 y1.length cp1, .slice ad2 y2.length cp2]) rfl (by kernel_rfl) (by kernel_rfl) (by kernel_rfl) (fun _ _ _ h => h) (Or.inl ⟨by rfl, ?_⟩) (by assumption) ?_
                      · intro x hx
                        go_simp
                      simp only [Act.put, List.setIfInBounds_toArray, List.set_cons_zero, List.set_cons_succ]
                      refine wpAnyH_ready (rs := [15]) (by kernel_rfl) (by simp) ?_
                      refine AllReadyH.cons (o := ⟨_, _, _, _, _, _⟩) rfl (fun K hK => ?_) ?_
                      · go_simp
                        have HN := Lib.hid (apAt_size3 hHeld)
                        have hN := apAt_next hHeld (below_one x2 (.cells #[.int .i64 0, .slice none 0 0, .slice none 0 0, .slice none 0 0] 26))
                        have HP := Lib.hid hHeld
                        have OP : Hid (OwnS H ad0 ad1 ad2 cp0 cp1 cp2 ⟨d.til, y0, y1, y2⟩ x2) := (show OwnS _ _ _ _ _ _ _ _ _ from ⟨O0.out, O1.out, O2.out⟩)
                        have O0 := Lib.hid (own_next O0.out (below_one x2 (.cells #[.int .i64 0, .slice none 0 0, .slice none 0 0, .slice none 0 0] 26)))
                        have O1 := Lib.hid (own_next O1.out (below_one x2 (.cells #[.int .i64 0, .slice none 0 0, .slice none 0 0, .slice none 0 0] 26)))
                        have O2 := Lib.hid (own_next O2.out (below_one x2 (.cells #[.int .i64 0, .slice none 0 0, .slice none 0 0, .slice none 0 0] 26)))
                        have Z := Lib.hid (objAt_new x2 #[.int .i64 0, .slice none 0 0, .slice none 0 0, .slice none 0 0] 26)
                        refine hK.out _ _ hN (fun hHeld => ?_)
                        clear hK K
                        try simp only [Act.put, List.setIfInBounds_toArray, List.set_cons_zero, List.set_cons_succ]
                        have AS := apAt_next HP.out (below_one x2 (.cells #[.int .i64 d.til, .slice ad0 y0.length cp0, .slice ad1 y1.length cp1, .slice ad2 y2.length cp2] 26))
                        have R := ap_new OP.out HP.out
                        have k0 := objAt_cell Z.out 0 rfl
                        have f0 := objAt_free Z.out 0
                        have k1 := objAt_cell Z.out 1 rfl
                        have f1 := objAt_free Z.out 1
                        have k2 := objAt_cell Z.out 2 rfl
                        have f2 := objAt_free Z.out 2
                        have k3 := objAt_cell Z.out 3 rfl
                        have f3 := objAt_free Z.out 3
                        have kl := objAt_lt Z.out
                        have R := Lib.hid R
                        have AS := Lib.hid AS
                        refine wpAnyH_ready (rs := [16]) (by kernel_rfl) (by simp) ?_
                        refine AllReadyH.cons (o := ⟨_, _, _, _, _, _⟩) rfl (fun K hK => ?_) ?_
                        · go_simp
                          refine hK.out _ _ AS.out (fun hHeld => ?_)
                          clear hK K
                          try simp only [Act.put, List.setIfInBounds_toArray, List.set_cons_zero, List.set_cons_succ]
                          refine wpAnyH_done (by kernel_rfl) ?_ _
                          go_wp2_with fail
                          go_meet
                          case rel =>
                            with_reducible exact R.out
                        · exact AllReadyH.nil
                      exact AllReadyH.nil
                    refine AllReadyH.cons (o := ⟨_, _, _, _, _, _⟩) rfl (fun K hK => ?_) ?_
                    · go_simp
                      have HN := Lib.hid (apAt_size3 hHeld)
                      have hN := apAt_next hHeld (below_one x1 (.cells #[.int .i64 0, .slice none 0 0, .slice none 0 0, .slice none 0 0] 26))
                      have O0 := Lib.hid (own_next O0.out (below_one x1 (.cells #[.int .i64 0, .slice none 0 0, .slice none 0 0, .slice none 0 0] 26)))
                      have O1 := Lib.hid (own_next O1.out (below_one x1 (.cells #[.int .i64 0, .slice none 0 0, .slice none 0 0, .slice none 0 0] 26)))
                      have Z := Lib.hid (objAt_new x1 #[.int .i64 0, .slice none 0 0, .slice none 0 0, .slice none 0 0] 26)
                      refine hK.out _ _ hN (fun hHeld => ?_)
                      clear hK K
                      try simp only [Act.put, List.setIfInBounds_toArray, List.set_cons_zero, List.set_cons_succ]
                      refine wpAnyH_ready (rs := [13]) (by kernel_rfl) (by simp) ?_
                      refine AllReadyH.cons (o := ⟨_, _, _, _, _, _⟩) rfl (fun K hK => ?_) ?_
                      · go_simp
                        refine (HW2.out _ hHeld).mono ?_
                        rintro e x2 ⟨ad2, cp2, rfl, o, b⟩
                        have hN := apAt_next hHeld b
                        have O2 := Lib.hid (ownsRow_low (B' := H) o (apAt_size hHeld))
                        have O0 := Lib.hid (own_next O0.out b)
                        have O1 := Lib.hid (own_next O1.out b)
                        have Z := Lib.hid (objAt_next Z.out b)
                        clear o b
                        go_wp2_with fail
                        refine hK.out _ _ hN (fun hHeld => ?_)
                        clear hK K
                        try simp only [Act.put, List.setIfInBounds_toArray, List.set_cons_zero, List.set_cons_succ]
                        refine wpAnyH_take (i := 14) (oi := ⟨_, _, _, _, _, _⟩) (v := .agg #[.int .i64 d.til, .slice ad0 y0.length cp0, .slice ad1 y1.length cp1, .slice ad2 y2.length cp2]) rfl (by kernel_rfl) (by kernel_rfl) (by kernel_rfl) (fun _ _ _ h => h) (Or.inl ⟨by rfl, ?_⟩) (by assumption) ?_
                        · intro x hx
                          go_simp
                        simp only [Act.put, List.setIfInBounds_toArray, List.set_cons_zero, List.set_cons_succ]
                        have OO : Hid (OwnS H ad0 ad1 ad2 cp0 cp1 cp2 ⟨d.til, y0, y1, y2⟩ x2) := (show OwnS _ _ _ _ _ _ _ _ _ from ⟨O0.out, O1.out, O2.out⟩)
                        have R := ap_put Z.out OO.out hHeld HN.out
                        have AS := apAt_put hHeld HN.out (.int .i64 d.til) (.slice ad0 y0.length cp0) (.slice ad1 y1.length cp1) (.slice ad2 y2.length cp2)
                        have k0 := objAt_cell Z.out 0 rfl
                        have f0 := objAt_free Z.out 0
                        have k1 := objAt_cell Z.out 1 rfl
                        have f1 := objAt_free Z.out 1
                        have k2 := objAt_cell Z.out 2 rfl
                        have f2 := objAt_free Z.out 2
                        have k3 := objAt_cell Z.out 3 rfl
                        have f3 := objAt_free Z.out 3
                        have kl := objAt_lt Z.out
                        have R := Lib.hid R
                        have AS := Lib.hid AS
                        refine wpAnyH_ready (rs := [16]) (by kernel_rfl) (by simp) ?_
                        refine AllReadyH.cons (o := ⟨_, _, _, _, _, _⟩) rfl (fun K hK => ?_) ?_
                        · go_simp
                          refine hK.out _ _ AS.out (fun hHeld => ?_)
                          clear hK K
                          try simp only [Act.put, List.setIfInBounds_toArray, List.set_cons_zero, List.set_cons_succ]
                          refine wpAnyH_done (by kernel_rfl) ?_ _
                          go_wp2_with fail
                          go_meet
                          case rel =>
                            with_reducible exact R.out
                        · exact AllReadyH.nil
                      exact AllReadyH.nil
                    exact AllReadyH.nil
                  refine AllReadyH.cons (o := ⟨_, _, _, _, _, _⟩) rfl (fun K hK => ?_) ?_
                  · go_simp
                    have HN := Lib.hid (apAt_size3 hHeld)
                    have hN := apAt_next hHeld (below_one x0 (.cells #[.int .i64 0, .slice none 0 0, .slice none 0 0, .slice none 0 0] 26))
                    have O0 := Lib.hid (own_next O0.out (below_one x0 (.cells #[.int .i64 0, .slice none 0 0, .slice none 0 0, .slice none 0 0] 26)))
                    have Z := Lib.hid (objAt_new x0 #[.int .i64 0, .slice none 0 0, .slice none 0 0, .slice none 0 0] 26)
                    refine hK.out _ _ hN (fun hHeld => ?_)
                    clear hK K
                    try simp only [Act.put, List.setIfInBounds_toArray, List.set_cons_zero, List.set_cons_succ]
                    refine wpAnyH_ready (rs := [9]) (by kernel_rfl) (by simp) ?_
                    refine AllReadyH.cons (o := ⟨_, _, _, _, _, _⟩) rfl (fun K hK => ?_) ?_
                    · go_simp
                      refine (HW1.out _ hHeld).mono ?_
                      rintro e x1 ⟨ad1, cp1, rfl, o, b⟩
                      have hN := apAt_next hHeld b
                      have O1 := Lib.hid (ownsRow_low (B' := H) o (apAt_size hHeld))
                      have O0 := Lib.hid (own_next O0.out b)
                      have Z := Lib.hid (objAt_next Z.out b)
                      clear o b
                      go_wp2_with fail
                      refine hK.out _ _ hN (fun hHeld => ?_)
                      clear hK K
                      try simp only [Act.put, List.setIfInBounds_toArray, List.set_cons_zero, List.set_cons_succ]
                      refine wpAnyH_ready (rs := [13]) (by kernel_rfl) (by simp) ?_
                      refine AllReadyH.cons (o := ⟨_, _, _, _, _, _⟩) rfl (fun K hK => ?_) ?_
                      · go_simp
                        refine (HW2.out _ hHeld).mono ?_
                        rintro e x2 ⟨ad2, cp2, rfl, o, b⟩
                        have hN := apAt_next hHeld b
                        have O2 := Lib.hid (ownsRow_low (B' := H) o (apAt_size hHeld))
                        have O0 := Lib.hid (own_next O0.out b)
                        have O1 := Lib.hid (own_next O1.out b)
                        have Z := Lib.hid (objAt_next Z.out b)
                        clear o b
                        go_wp2_with fail
                        refine hK.out _ _ hN (fun hHeld => ?_)
                        clear hK K
                        try simp only [Act.put, List.setIfInBounds_toArray, List.set_cons_zero, List.set_cons_succ]
                        refine wpAnyH_take (i := 14) (oi := ⟨_, _, _, _, _, _⟩) (v := .agg #[.int .i64 d.til, .slice ad0 y0.length cp0, .slice ad1 y1.length cp1, .slice ad2 y2.length cp2]) rfl (by kernel_rfl) (by kernel_rfl) (by kernel_rfl) (fun _ _ _ h => h) (Or.inl ⟨by rfl, ?_⟩) (by assumption) ?_
                        · intro x hx
                          go_simp
                        simp only [Act.put, List.setIfInBounds_toArray, List.set_cons_zero, List.set_cons_succ]
                        have OO : Hid (OwnS H ad0 ad1 ad2 cp0 cp1 cp2 ⟨d.til, y0, y1, y2⟩ x2) := (show OwnS _ _ _ _ _ _ _ _ _ from ⟨O0.out, O1.out, O2.out⟩)
                        have R := ap_put Z.out OO.out hHeld HN.out
                        have AS := apAt_put hHeld HN.out (.int .i64 d.til) (.slice ad0 y0.length cp0) (.slice ad1 y1.length cp1) (.slice ad2 y2.length cp2)
                        have k0 := objAt_cell Z.out 0 rfl
                        have f0 := objAt_free Z.out 0
                        have k1 := objAt_cell Z.out 1 rfl
                        have f1 := objAt_free Z.out 1
                        have k2 := objAt_cell Z.out 2 rfl
                        have f2 := objAt_free Z.out 2
                        have k3 := objAt_cell Z.out 3 rfl
                        have f3 := objAt_free Z.out 3
                        have kl := objAt_lt Z.out
                        have R := Lib.hid R
                        have AS := Lib.hid AS
                        refine wpAnyH_ready (rs := [16]) (by kernel_rfl) (by simp) ?_
                        refine AllReadyH.cons (o := ⟨_, _, _, _, _, _⟩) rfl (fun K hK => ?_) ?_
                        · go_simp
                          refine hK.out _ _ AS.out (fun hHeld => ?_)
                          clear hK K
                          try simp only [Act.put, List.setIfInBounds_toArray, List.set_cons_zero, List.set_cons_succ]
                          refine wpAnyH_done (by kernel_rfl) ?_ _
                          go_wp2_with fail
                          go_meet
                          case rel =>
                            with_reducible exact R.out
                        · exact AllReadyH.nil
                      exact AllReadyH.nil
                    exact AllReadyH.nil
                  exact AllReadyH.nil
                refine AllReadyH.cons (o := ⟨_, _, _, _, _, _⟩) rfl (fun K hK => ?_) ?_
                · go_simp
                  have HN := Lib.hid (apAt_size3 hHeld)
                  have hN := apAt_next hHeld (below_one V (.cells #[.int .i64 0, .slice none 0 0, .slice none 0 0, .slice none 0 0] 26))
                  have Z := Lib.hid (objAt_new V #[.int .i64 0, .slice none 0 0, .slice none 0 0, .slice none 0 0] 26)
                  refine hK.out _ _ hN (fun hHeld => ?_)
                  clear hK K
                  try simp only [Act.put, List.setIfInBounds_toArray, List.set_cons_zero, List.set_cons_succ]
                  refine wpAnyH_ready (rs := [5]) (by kernel_rfl) (by simp) ?_
                  refine AllReadyH.cons (o := ⟨_, _, _, _, _, _⟩) rfl (fun K hK => ?_) ?_
                  · go_simp
                    refine (HW0.out _ hHeld).mono ?_
                    rintro e x0 ⟨ad0, cp0, rfl, o, b⟩
                    have hN := apAt_next hHeld b
                    have O0 := Lib.hid (ownsRow_low (B' := H) o (apAt_size hHeld))
                    have Z := Lib.hid (objAt_next Z.out b)
                    clear o b
                    go_wp2_with fail
                    refine hK.out _ _ hN (fun hHeld => ?_)
                    clear hK K
                    try simp only [Act.put, List.setIfInBounds_toArray, List.set_cons_zero, List.set_cons_succ]
                    refine wpAnyH_ready (rs := [9]) (by kernel_rfl) (by simp) ?_
                    refine AllReadyH.cons (o := ⟨_, _, _, _, _, _⟩) rfl (fun K hK => ?_) ?_
                    · go_simp
                      refine (HW1.out _ hHeld).mono ?_
                      rintro e x1 ⟨ad1, cp1, rfl, o, b⟩
                      have hN := apAt_next hHeld b
                      have O1 := Lib.hid (ownsRow_low (B' := H) o (apAt_size hHeld))
                      have O0 := Lib.hid (own_next O0.out b)
                      have Z := Lib.hid (objAt_next Z.out b)
                      clear o b
                      go_wp2_with fail
                      refine hK.out _ _ hN (fun hHeld => ?_)
                      clear hK K
                      try simp only [Act.put, List.setIfInBounds_toArray, List.set_cons_zero, List.set_cons_succ]
                      refine wpAnyH_ready (rs := [13]) (by kernel_rfl) (by simp) ?_
                      refine AllReadyH.cons (o := ⟨_, _, _, _, _, _⟩) rfl (fun K hK => ?_) ?_
                      · go_simp
                        refine (HW2.out _ hHeld).mono ?_
                        rintro e x2 ⟨ad2, cp2, rfl, o, b⟩
                        have hN := apAt_next hHeld b
                        have O2 := Lib.hid (ownsRow_low (B' := H) o (apAt_size hHeld))
                        have O0 := Lib.hid (own_next O0.out b)
                        have O1 := Lib.hid (own_next O1.out b)
                        have Z := Lib.hid (objAt_next Z.out b)
                        clear o b
                        go_wp2_with fail
                        refine hK.out _ _ hN (fun hHeld => ?_)
                        clear hK K
                        try simp only [Act.put, List.setIfInBounds_toArray, List.set_cons_zero, List.set_cons_succ]
                        refine wpAnyH_take (i := 14) (oi := ⟨_, _, _, _, _, _⟩) (v := .agg #[.int .i64 d.til, .slice ad0 y0.length cp0, .slice ad1 y1.length cp1, .slice ad2 y2.length cp2]) rfl (by kernel_rfl) (by kernel_rfl) (by kernel_rfl) (fun _ _ _ h => h) (Or.inl ⟨by rfl, ?_⟩) (by assumption) ?_
                        · intro x hx
                          go_simp
                        simp only [Act.put, List.setIfInBounds_toArray, List.set_cons_zero, List.set_cons_succ]
                        have OO : Hid (OwnS H ad0 ad1 ad2 cp0 cp1 cp2 ⟨d.til, y0, y1, y2⟩ x2) := (show OwnS _ _ _ _ _ _ _ _ _ from ⟨O0.out, O1.out, O2.out⟩)
                        have R := ap_put Z.out OO.out hHeld HN.out
                        have AS := apAt_put hHeld HN.out (.int .i64 d.til) (.slice ad0 y0.length cp0) (.slice ad1 y1.length cp1) (.slice ad2 y2.length cp2)
                        have k0 := objAt_cell Z.out 0 rfl
                        have f0 := objAt_free Z.out 0
                        have k1 := objAt_cell Z.out 1 rfl
                        have f1 := objAt_free Z.out 1
                        have k2 := objAt_cell Z.out 2 rfl
                        have f2 := objAt_free Z.out 2
                        have k3 := objAt_cell Z.out 3 rfl
                        have f3 := objAt_free Z.out 3
                        have kl := objAt_lt Z.out
                        have R := Lib.hid R
                        have AS := Lib.hid AS
                        refine wpAnyH_ready (rs := [16]) (by kernel_rfl) (by simp) ?_
                        refine AllReadyH.cons (o := ⟨_, _, _, _, _, _⟩) rfl (fun K hK => ?_) ?_
                        · go_simp
                          refine hK.out _ _ AS.out (fun hHeld => ?_)
                          clear hK K
                          try simp only [Act.put, List.setIfInBounds_toArray, List.set_cons_zero, List.set_cons_succ]
                          refine wpAnyH_done (by kernel_rfl) ?_ _
                          go_wp2_with fail
                          go_meet
                          case rel =>
                            with_reducible exact R.out
                        · exact AllReadyH.nil
                      exact AllReadyH.nil
                    exact AllReadyH.nil
                  exact AllReadyH.nil
                exact AllReadyH.nil
              case rest =>
                obtain ⟨N, a1, a2, a3, c1, c2, c3, rfl, oN, OS, PA, hN⟩ := hcut
                clear HW0 HW1 HW2 P5
                obtain ⟨W6, hWE⟩ : ∃ W, W = wc := ⟨_, rfl⟩
                subst hWE
                have RJ := Lib.hid OS.1
                have RN := Lib.hid OS.2.1
                have RL := Lib.hid OS.2.2
                have HON := Lib.hid oN
                have HPA := Lib.hid PA
                clear OS oN PA
                have hlN := objAt_lt HON.out
                have v0 := objAt_cell HPA.out.2.1 0 rfl
                have v1 := objAt_cell HPA.out.2.1 1 rfl
                have v2 := objAt_cell HPA.out.2.1 2 rfl
                have v3 := objAt_cell HPA.out.2.1 3 rfl
                have v4 := objAt_cell HPA.out.2.1 4 rfl
                have v5 := objAt_cell HPA.out.2.1 5 rfl
                have v6 := objAt_cell HPA.out.2.1 6 rfl
                have v7 := objAt_cell HPA.out.2.1 7 rfl
                have vl := objAt_lt HPA.out.2.1
                obtain ⟨Bd0, hAd⟩ : ∃ A, M.aj = A := ⟨_, rfl⟩
                rw [hAd] at v2
                have HBd0 := Lib.hid hAd
                clear hAd
                go_wp2
                clear v0 v1 v2 v3 v4 v5 v6 v7 vl
                go_loopw [100] (fun iv wr => ∃ (i : Nat) (pv : Value), iv = .int .i64 (i : Int) ∧ i ≤ d.jobs.length ∧ ObjAt N #[.int .i64 d.til, pv, .slice a2 y1.length c2, .slice a3 y2.length c3] 26 wr ∧ wr.ownsRow H 40 5 pv (putsL (·.name) y0 (d.jobs.take i)).length (cJobs (putsL (·.name) y0 (d.jobs.take i))) ∧ W6.grownBy wr (some N)) (fun iv _ => d.jobs.length - (intOf iv).toNat)
                case atStart => exact ⟨0, _, rfl, Nat.zero_le _, HON.out, RJ.out, gN_refl _ _⟩
                case round =>
                  obtain ⟨i, pv, rfl, hi, oN, hown, hgr⟩ := hrel
                  obtain ⟨pad, pcap, rfl⟩ := ownRow_slice hown
                  have PR := apAt_gN HPA.out hN hgr
                  by_cases h : (i : Int) < (d.jobs.length : Int)
                  case pos =>
                    have hil : i < d.jobs.length := by omega
                    have hnm := (HMD.out wr PR.2.2.2).1.1
                    rw [HBd0.out] at hnm
                    obtain ⟨a, rfl, hal, k0, k1, k2, k3, k4⟩ := hnm i hil
                    clear hnm
                    obtain ⟨x, hxi⟩ : ∃ x, d.jobs[i] = x := ⟨_, rfl⟩
                    rw [hxi] at k0 k1 k2 k3 k4
                    have hpt := rputs_take (·.name) y0 d.jobs hil
                    rw [hxi] at hpt
                    have hln := rputs_len (·.name) y0 (d.jobs.take i)
                    rw [List.length_take] at hln
                    have hyl : y0.length ≤ s.jobs.length := by rw [← HY0.out]; exact less_len _ _ _
                    have hasc : Asc (·.name) (putsL (·.name) y0 (d.jobs.take i)) := puts_asc _ (by rw [← HY0.out]; exact less_asc FS.out.1.1 _)
                    obtain ⟨LX, hLX⟩ : ∃ L, wr.heap.size = L := ⟨_, rfl⟩
                    obtain ⟨V, hV⟩ : ∃ V, wr.alloc (.cells #[.string x.name, .int .i64 x.prio, .int .i64 x.need, .int .i64 x.tries, .string x.tag] 40) = V := ⟨_, rfl⟩
                    have bA := below_one wr (.cells #[.string x.name, .int .i64 x.prio, .int .i64 x.need, .int .i64 x.tries, .string x.tag] 40)
                    have oX := objAt_new wr #[.string x.name, .int .i64 x.prio, .int .i64 x.need, .int .i64 x.tries, .string x.tag] 40
                    rw [hV] at bA oX
                    rw [hLX] at oX
                    have oNV := objAt_next oN bA
                    have ownV := own_next hown bA
                    have grV := gN_next hgr bA
                    have lV : H ≤ V.heap.size := by have := apAt_size PR; have := bA.size; omega
                    have C1 := putJob_is (putsL (·.name) y0 (d.jobs.take i)) pad pcap (by omega) hasc x V (ownJobs ownV rfl)
                    obtain ⟨Y, hY⟩ : ∃ Y, putL (·.name) x (putsL (·.name) y0 (d.jobs.take i)) = Y := ⟨_, rfl⟩
                    rw [hY] at C1 hpt
                    have C1 := Lib.hid C1
                    clear hY
                    have e0 := objAt_cell oX 0 rfl
                    have e1 := objAt_cell oX 1 rfl
                    have e2 := objAt_cell oX 2 rfl
                    have e3 := objAt_cell oX 3 rfl
                    have e4 := objAt_cell oX 4 rfl
                    have m0 := objAt_cell oNV 0 rfl
                    have m1 := objAt_cell oNV 1 rfl
                    have m2 := objAt_cell oNV 2 rfl
                    have m3 := objAt_cell oNV 3 rfl
                    have ml := objAt_lt oNV
                    have el := objAt_lt oX
                    have Q := Lib.hid (And.intro oNV (And.intro grV lV))
                    have HPT := Lib.hid hpt
                    clear oN hown hgr PR hpt hln hyl hasc oX oNV ownV grV lV bA hxi
                    go_wp2_with fail
                    refine C1.out.mono ?_
                    rintro e w2 ⟨ad2, cp2, rfl, own2, b2⟩
                    obtain ⟨oNV, grV, lV⟩ := Q.out
                    have oN2 := objAt_next oNV b2
                    have own2' := ownsRow_low own2 lV
                    have gr2 := gN_next grV b2
                    clear C1 Q oNV grV own2 b2 e0 e1 e2 e3 e4 el m0 m1 m2 m3 ml hal k0 k1 k2 k3 k4
                    have f1 := objAt_free oN2 1
                    have m1 := objAt_cell oN2 1 rfl
                    have ml := objAt_lt oN2
                    have oN3 : ObjAt N #[.int .i64 d.til, .slice ad2 Y.length cp2, .slice a2 y1.length c2, .slice a3 y2.length c3] 26 _ := objAt_set oN2 1 (.slice ad2 Y.length cp2)
                    have own3 := own_box own2' oN2 (by decide) 1 (.slice ad2 Y.length cp2)
                    have gr3 := gN_set gr2 1 (.slice ad2 Y.length cp2)
                    have Q := Lib.hid (And.intro oN3 (And.intro own3 gr3))
                    clear oN2 own2' gr2 oN3 own3 gr3
                    go_wp2
                    go_roundw
                    case rel =>
                      obtain ⟨oN3, own3, gr3⟩ := Q.out
                      exact ⟨i + 1, _, by simp, by omega, oN3, by rw [HPT.out]; exact own3, gr3⟩
                    case measure => simp [intOf]; omega
                  case neg =>
                    obtain rfl : i = d.jobs.length := by omega
                    rw [List.take_length] at hown oN
                    obtain ⟨W7, hWE⟩ : ∃ W, W = wr := ⟨_, rfl⟩
                    subst hWE
                    obtain ⟨z0, hz0⟩ : ∃ z, putsL (·.name) y0 d.jobs = z := ⟨_, rfl⟩
                    rw [hz0] at hown oN
                    have HZ0 := Lib.hid hz0
                    have RN' := Lib.hid (own_gN RN.out HON.out (by decide) hgr)
                    have RL' := Lib.hid (own_gN RL.out HON.out (by decide) hgr)
                    clear RJ RN RL HON HPA hgr h hi hz0 hlN
                    have RJ := Lib.hid hown
                    have RN := RN'
                    have RL := RL'
                    clear hown RN' RL'
                    have HON := Lib.hid oN
                    have HPA := Lib.hid PR
                    clear oN PR
                    obtain ⟨j0, hj⟩ : ∃ z, z = pad := ⟨_, rfl⟩
                    subst hj
                    obtain ⟨l0, hj⟩ : ∃ z, z = pcap := ⟨_, rfl⟩
                    subst hj
                    have hlN := objAt_lt HON.out
                    have v0 := objAt_cell HPA.out.2.1 0 rfl
                    have v1 := objAt_cell HPA.out.2.1 1 rfl
                    have v2 := objAt_cell HPA.out.2.1 2 rfl
                    have v3 := objAt_cell HPA.out.2.1 3 rfl
                    have v4 := objAt_cell HPA.out.2.1 4 rfl
                    have v5 := objAt_cell HPA.out.2.1 5 rfl
                    have v6 := objAt_cell HPA.out.2.1 6 rfl
                    have v7 := objAt_cell HPA.out.2.1 7 rfl
                    have vl := objAt_lt HPA.out.2.1
                    obtain ⟨Bd1, hAd⟩ : ∃ A, M.an = A := ⟨_, rfl⟩
                    rw [hAd] at v3
                    have HBd1 := Lib.hid hAd
                    clear hAd
                    go_wp2
                    clear v0 v1 v2 v3 v4 v5 v6 v7 vl
                    go_loopw [113] (fun iv wr => ∃ (i : Nat) (pv : Value), iv = .int .i64 (i : Int) ∧ i ≤ d.nodes.length ∧ ObjAt N #[.int .i64 d.til, .slice j0 z0.length l0, pv, .slice a3 y2.length c3] 26 wr ∧ wr.ownsRow H 45 3 pv (putsL (·.name) y1 (d.nodes.take i)).length (cNodes (putsL (·.name) y1 (d.nodes.take i))) ∧ W7.grownBy wr (some N)) (fun iv _ => d.nodes.length - (intOf iv).toNat)
                    case atStart => exact ⟨0, _, rfl, Nat.zero_le _, HON.out, RN.out, gN_refl _ _⟩
                    case round =>
                      obtain ⟨i, pv, rfl, hi, oN, hown, hgr⟩ := hrel
                      obtain ⟨pad, pcap, rfl⟩ := ownRow_slice hown
                      have PR := apAt_gN HPA.out hN hgr
                      by_cases h : (i : Int) < (d.nodes.length : Int)
                      case pos =>
                        have hil : i < d.nodes.length := by omega
                        have hnm := (HMD.out wr PR.2.2.2).1.2.1
                        rw [HBd1.out] at hnm
                        obtain ⟨a, rfl, hal, k0, k1, k2⟩ := hnm i hil
                        clear hnm
                        obtain ⟨x, hxi⟩ : ∃ x, d.nodes[i] = x := ⟨_, rfl⟩
                        rw [hxi] at k0 k1 k2
                        have hpt := rputs_take (·.name) y1 d.nodes hil
                        rw [hxi] at hpt
                        have hln := rputs_len (·.name) y1 (d.nodes.take i)
                        rw [List.length_take] at hln
                        have hyl : y1.length ≤ s.nodes.length := by rw [← HY1.out]; exact less_len _ _ _
                        have hasc : Asc (·.name) (putsL (·.name) y1 (d.nodes.take i)) := puts_asc _ (by rw [← HY1.out]; exact less_asc FS.out.1.2.1 _)
                        obtain ⟨LX, hLX⟩ : ∃ L, wr.heap.size = L := ⟨_, rfl⟩
                        obtain ⟨V, hV⟩ : ∃ V, wr.alloc (.cells #[.string x.name, .int .i64 x.room, .string x.zone] 45) = V := ⟨_, rfl⟩
                        have bA := below_one wr (.cells #[.string x.name, .int .i64 x.room, .string x.zone] 45)
                        have oX := objAt_new wr #[.string x.name, .int .i64 x.room, .string x.zone] 45
                        rw [hV] at bA oX
                        rw [hLX] at oX
                        have oNV := objAt_next oN bA
                        have ownV := own_next hown bA
                        have grV := gN_next hgr bA
                        have lV : H ≤ V.heap.size := by have := apAt_size PR; have := bA.size; omega
                        have C1 := putNode_is (putsL (·.name) y1 (d.nodes.take i)) pad pcap (by omega) hasc x V (ownNodes ownV rfl)
                        obtain ⟨Y, hY⟩ : ∃ Y, putL (·.name) x (putsL (·.name) y1 (d.nodes.take i)) = Y := ⟨_, rfl⟩
                        rw [hY] at C1 hpt
                        have C1 := Lib.hid C1
                        clear hY
                        have e0 := objAt_cell oX 0 rfl
                        have e1 := objAt_cell oX 1 rfl
                        have e2 := objAt_cell oX 2 rfl
                        have m0 := objAt_cell oNV 0 rfl
                        have m1 := objAt_cell oNV 1 rfl
                        have m2 := objAt_cell oNV 2 rfl
                        have m3 := objAt_cell oNV 3 rfl
                        have ml := objAt_lt oNV
                        have el := objAt_lt oX
                        have Q := Lib.hid (And.intro oNV (And.intro grV lV))
                        have HPT := Lib.hid hpt
                        clear oN hown hgr PR hpt hln hyl hasc oX oNV ownV grV lV bA hxi
                        go_wp2_with fail
                        refine C1.out.mono ?_
                        rintro e w2 ⟨ad2, cp2, rfl, own2, b2⟩
                        obtain ⟨oNV, grV, lV⟩ := Q.out
                        have oN2 := objAt_next oNV b2
                        have own2' := ownsRow_low own2 lV
                        have gr2 := gN_next grV b2
                        clear C1 Q oNV grV own2 b2 e0 e1 e2 el m0 m1 m2 m3 ml hal k0 k1 k2
                        have f2 := objAt_free oN2 2
                        have m2 := objAt_cell oN2 2 rfl
                        have ml := objAt_lt oN2
                        have oN3 : ObjAt N #[.int .i64 d.til, .slice j0 z0.length l0, .slice ad2 Y.length cp2, .slice a3 y2.length c3] 26 _ := objAt_set oN2 2 (.slice ad2 Y.length cp2)
                        have own3 := own_box own2' oN2 (by decide) 2 (.slice ad2 Y.length cp2)
                        have gr3 := gN_set gr2 2 (.slice ad2 Y.length cp2)
                        have Q := Lib.hid (And.intro oN3 (And.intro own3 gr3))
                        clear oN2 own2' gr2 oN3 own3 gr3
                        go_wp2
                        go_roundw
                        case rel =>
                          obtain ⟨oN3, own3, gr3⟩ := Q.out
                          exact ⟨i + 1, _, by simp, by omega, oN3, by rw [HPT.out]; exact own3, gr3⟩
                        case measure => simp [intOf]; omega
                      case neg =>
                        obtain rfl : i = d.nodes.length := by omega
                        rw [List.take_length] at hown oN
                        obtain ⟨W8, hWE⟩ : ∃ W, W = wr := ⟨_, rfl⟩
                        subst hWE
                        obtain ⟨z1, hz1⟩ : ∃ z, putsL (·.name) y1 d.nodes = z := ⟨_, rfl⟩
                        rw [hz1] at hown oN
                        have HZ1 := Lib.hid hz1
                        have RJ' := Lib.hid (own_gN RJ.out HON.out (by decide) hgr)
                        have RL' := Lib.hid (own_gN RL.out HON.out (by decide) hgr)
                        clear RJ RN RL HON HPA hgr h hi hz1 hlN
                        have RN := Lib.hid hown
                        have RJ := RJ'
                        have RL := RL'
                        clear hown RJ' RL'
                        have HON := Lib.hid oN
                        have HPA := Lib.hid PR
                        clear oN PR
                        obtain ⟨j1, hj⟩ : ∃ z, z = pad := ⟨_, rfl⟩
                        subst hj
                        obtain ⟨l1, hj⟩ : ∃ z, z = pcap := ⟨_, rfl⟩
                        subst hj
                        have hlN := objAt_lt HON.out
                        have v0 := objAt_cell HPA.out.2.1 0 rfl
                        have v1 := objAt_cell HPA.out.2.1 1 rfl
                        have v2 := objAt_cell HPA.out.2.1 2 rfl
                        have v3 := objAt_cell HPA.out.2.1 3 rfl
                        have v4 := objAt_cell HPA.out.2.1 4 rfl
                        have v5 := objAt_cell HPA.out.2.1 5 rfl
                        have v6 := objAt_cell HPA.out.2.1 6 rfl
                        have v7 := objAt_cell HPA.out.2.1 7 rfl
                        have vl := objAt_lt HPA.out.2.1
                        obtain ⟨Bd2, hAd⟩ : ∃ A, M.al = A := ⟨_, rfl⟩
                        rw [hAd] at v4
                        have HBd2 := Lib.hid hAd
                        clear hAd
                        go_wp2
                        clear v0 v1 v2 v3 v4 v5 v6 v7 vl
                        go_loopw [126] (fun iv wr => ∃ (i : Nat) (pv : Value), iv = .int .i64 (i : Int) ∧ i ≤ d.leases.length ∧ ObjAt N #[.int .i64 d.til, .slice j0 z0.length l0, .slice j1 z1.length l1, pv] 26 wr ∧ wr.ownsRow H 50 3 pv (putsL (·.job) y2 (d.leases.take i)).length (cLeases (putsL (·.job) y2 (d.leases.take i))) ∧ W8.grownBy wr (some N)) (fun iv _ => d.leases.length - (intOf iv).toNat)
                        case atStart => exact ⟨0, _, rfl, Nat.zero_le _, HON.out, RL.out, gN_refl _ _⟩
                        case round =>
                          obtain ⟨i, pv, rfl, hi, oN, hown, hgr⟩ := hrel
                          obtain ⟨pad, pcap, rfl⟩ := ownRow_slice hown
                          have PR := apAt_gN HPA.out hN hgr
                          by_cases h : (i : Int) < (d.leases.length : Int)
                          case pos =>
                            have hil : i < d.leases.length := by omega
                            have hnm := (HMD.out wr PR.2.2.2).1.2.2
                            rw [HBd2.out] at hnm
                            obtain ⟨a, rfl, hal, k0, k1, k2⟩ := hnm i hil
                            clear hnm
                            obtain ⟨x, hxi⟩ : ∃ x, d.leases[i] = x := ⟨_, rfl⟩
                            rw [hxi] at k0 k1 k2
                            have hpt := rputs_take (·.job) y2 d.leases hil
                            rw [hxi] at hpt
                            have hln := rputs_len (·.job) y2 (d.leases.take i)
                            rw [List.length_take] at hln
                            have hyl : y2.length ≤ s.leases.length := by rw [← HY2.out]; exact less_len _ _ _
                            have hasc : Asc (·.job) (putsL (·.job) y2 (d.leases.take i)) := puts_asc _ (by rw [← HY2.out]; exact less_asc FS.out.1.2.2 _)
                            obtain ⟨LX, hLX⟩ : ∃ L, wr.heap.size = L := ⟨_, rfl⟩
                            obtain ⟨V, hV⟩ : ∃ V, wr.alloc (.cells #[.string x.job, .string x.node, .int .i64 x.til] 50) = V := ⟨_, rfl⟩
                            have bA := below_one wr (.cells #[.string x.job, .string x.node, .int .i64 x.til] 50)
                            have oX := objAt_new wr #[.string x.job, .string x.node, .int .i64 x.til] 50
                            rw [hV] at bA oX
                            rw [hLX] at oX
                            have oNV := objAt_next oN bA
                            have ownV := own_next hown bA
                            have grV := gN_next hgr bA
                            have lV : H ≤ V.heap.size := by have := apAt_size PR; have := bA.size; omega
                            have C1 := putLease_is (putsL (·.job) y2 (d.leases.take i)) pad pcap (by omega) hasc x V (ownLeases ownV rfl)
                            obtain ⟨Y, hY⟩ : ∃ Y, putL (·.job) x (putsL (·.job) y2 (d.leases.take i)) = Y := ⟨_, rfl⟩
                            rw [hY] at C1 hpt
                            have C1 := Lib.hid C1
                            clear hY
                            have e0 := objAt_cell oX 0 rfl
                            have e1 := objAt_cell oX 1 rfl
                            have e2 := objAt_cell oX 2 rfl
                            have m0 := objAt_cell oNV 0 rfl
                            have m1 := objAt_cell oNV 1 rfl
                            have m2 := objAt_cell oNV 2 rfl
                            have m3 := objAt_cell oNV 3 rfl
                            have ml := objAt_lt oNV
                            have el := objAt_lt oX
                            have Q := Lib.hid (And.intro oNV (And.intro grV lV))
                            have HPT := Lib.hid hpt
                            clear oN hown hgr PR hpt hln hyl hasc oX oNV ownV grV lV bA hxi
                            go_wp2_with fail
                            refine C1.out.mono ?_
                            rintro e w2 ⟨ad2, cp2, rfl, own2, b2⟩
                            obtain ⟨oNV, grV, lV⟩ := Q.out
                            have oN2 := objAt_next oNV b2
                            have own2' := ownsRow_low own2 lV
                            have gr2 := gN_next grV b2
                            clear C1 Q oNV grV own2 b2 e0 e1 e2 el m0 m1 m2 m3 ml hal k0 k1 k2
                            have f3 := objAt_free oN2 3
                            have m3 := objAt_cell oN2 3 rfl
                            have ml := objAt_lt oN2
                            have oN3 : ObjAt N #[.int .i64 d.til, .slice j0 z0.length l0, .slice j1 z1.length l1, .slice ad2 Y.length cp2] 26 _ := objAt_set oN2 3 (.slice ad2 Y.length cp2)
                            have own3 := own_box own2' oN2 (by decide) 3 (.slice ad2 Y.length cp2)
                            have gr3 := gN_set gr2 3 (.slice ad2 Y.length cp2)
                            have Q := Lib.hid (And.intro oN3 (And.intro own3 gr3))
                            clear oN2 own2' gr2 oN3 own3 gr3
                            go_wp2
                            go_roundw
                            case rel =>
                              obtain ⟨oN3, own3, gr3⟩ := Q.out
                              exact ⟨i + 1, _, by simp, by omega, oN3, by rw [HPT.out]; exact own3, gr3⟩
                            case measure => simp [intOf]; omega
                          case neg =>
                            obtain rfl : i = d.leases.length := by omega
                            rw [List.take_length] at hown oN
                            obtain ⟨W9, hWE⟩ : ∃ W, W = wr := ⟨_, rfl⟩
                            subst hWE
                            obtain ⟨z2, hz2⟩ : ∃ z, putsL (·.job) y2 d.leases = z := ⟨_, rfl⟩
                            rw [hz2] at hown oN
                            have HZ2 := Lib.hid hz2
                            have RJ' := Lib.hid (own_gN RJ.out HON.out (by decide) hgr)
                            have RN' := Lib.hid (own_gN RN.out HON.out (by decide) hgr)
                            clear RJ RN RL HON HPA hgr h hi hz2 hlN
                            have RL := Lib.hid hown
                            have RJ := RJ'
                            have RN := RN'
                            clear hown RJ' RN'
                            have HON := Lib.hid oN
                            have HPA := Lib.hid PR
                            clear oN PR
                            obtain ⟨j2, hj⟩ : ∃ z, z = pad := ⟨_, rfl⟩
                            subst hj
                            obtain ⟨l2, hj⟩ : ∃ z, z = pcap := ⟨_, rfl⟩
                            subst hj
                            have eY : applyS s d = ⟨d.til, z0, z1, z2⟩ := by
                              unfold applyS applyL
                              rw [HY0.out, HY1.out, HY2.out, HZ0.out, HZ1.out, HZ2.out]
                            have CC := rcheck_any d.til j0 j1 j2 l0 l1 l2 z0 z1 z2 W9 (ownJobs RJ.out rfl) (ownNodes RN.out rfl) (ownLeases RL.out rfl)
                            obtain ⟨e3, he3⟩ : ∃ e, checkE V8 (⟨d.til, z0, z1, z2⟩ : StD) = e := ⟨_, rfl⟩
                            rw [he3] at CC
                            have CC := Lib.hid CC
                            have HE3 := Lib.hid he3
                            have EY := Lib.hid eY
                            have m0 := objAt_cell HON.out 0 rfl
                            have m1 := objAt_cell HON.out 1 rfl
                            have m2 := objAt_cell HON.out 2 rfl
                            have m3 := objAt_cell HON.out 3 rfl
                            have ml := objAt_lt HON.out
                            clear he3 eY
                            go_wp2_with fail
                            refine CC.out.mono ?_
                            rintro e w6 ⟨rfl, b6⟩
                            have oN6 := objAt_next HON.out b6
                            have P6 := apAt_next HPA.out b6
                            have OS6 : OwnS H j0 j1 j2 l0 l1 l2 ⟨d.til, z0, z1, z2⟩ w6 := ⟨own_next RJ.out b6, own_next RN.out b6, own_next RL.out b6⟩
                            clear CC b6 m0 m1 m2 m3 ml HON HPA RJ RN RL
                            by_cases z4 : e3 ≠ 0
                            · have z' : ((e3 : Int) != 0) = true := by simp; omega
                              have HE : Hid (D = (zeroSt, e3)) := by show _ = _; rw [← HD.out]; rw [applyR_next HE1.out HE2.out HRv.out GI.out (by rw [EY.out, HE3.out]; exact z4), EY.out, HE3.out]
                              obtain ⟨p1, q1, r1, B1⟩ := P6
                              have k0 := objAt_cell r1 0 rfl
                              have f0 := objAt_free r1 0
                              have k1 := objAt_cell r1 1 rfl
                              have f1 := objAt_free r1 1
                              have k2 := objAt_cell r1 2 rfl
                              have f2 := objAt_free r1 2
                              have k3 := objAt_cell r1 3 rfl
                              have f3 := objAt_free r1 3
                              have kl := objAt_lt r1
                              have oF := obj_put4 r1 (.int .i64 0) (.slice none 0 0) (.slice none 0 0) (.slice none 0 0)
                              have t0 := objAt_cell oF 0 rfl
                              have t1 := objAt_cell oF 1 rfl
                              have t2 := objAt_cell oF 2 rfl
                              have t3 := objAt_cell oF 3 rfl
                              have TT := Lib.hid (And.intro t0 (And.intro t1 (And.intro t2 t3)))
                              have BF := Lib.hid (below_put4 B1 (show H ≤ H + 2 by omega) (.int .i64 0) (.slice none 0 0) (.slice none 0 0) (.slice none 0 0))
                              clear oF t0 t1 t2 t3 p1 q1 r1 B1 oN6 OS6
                              go_wp2
                              obtain ⟨t0, t1, t2, t3⟩ := TT.out
                              exact bodyPost_ret (v := .tuple #[.agg #[.int .i64 0, .slice none 0 0, .slice none 0 0, .slice none 0 0], .int .i64 (e3 : Int)]) (by simp [results, Tryz.results5, go_sem, t0, t1, t2, t3]) rfl ⟨none, none, none, 0, 0, 0, by rw [HE.out]; rfl, by rw [HE.out]; exact ownS_zero _ _, BF.out⟩
                            obtain rfl : e3 = 0 := by simpa using z4
                            clear z4
                            have HE : Hid (D = (⟨d.til, z0, z1, z2⟩, 0)) := by show _ = _; rw [← HD.out, applyR_ok HE1.out HE2.out HRv.out GI.out (by rw [EY.out]; exact HE3.out), EY.out]
                            obtain ⟨p1, q1, r1, B1⟩ := P6
                            have m0 := objAt_cell oN6 0 rfl
                            have m1 := objAt_cell oN6 1 rfl
                            have m2 := objAt_cell oN6 2 rfl
                            have m3 := objAt_cell oN6 3 rfl
                            have ml := objAt_lt oN6
                            have OG := Lib.hid (ownS_put4 OS6 r1 (.int .i64 d.til) (.slice j0 z0.length l0) (.slice j1 z1.length l1) (.slice j2 z2.length l2))
                            have k0 := objAt_cell r1 0 rfl
                            have f0 := objAt_free r1 0
                            have k1 := objAt_cell r1 1 rfl
                            have f1 := objAt_free r1 1
                            have k2 := objAt_cell r1 2 rfl
                            have f2 := objAt_free r1 2
                            have k3 := objAt_cell r1 3 rfl
                            have f3 := objAt_free r1 3
                            have kl := objAt_lt r1
                            have oF := obj_put4 r1 (.int .i64 d.til) (.slice j0 z0.length l0) (.slice j1 z1.length l1) (.slice j2 z2.length l2)
                            have t0 := objAt_cell oF 0 rfl
                            have t1 := objAt_cell oF 1 rfl
                            have t2 := objAt_cell oF 2 rfl
                            have t3 := objAt_cell oF 3 rfl
                            have TT := Lib.hid (And.intro t0 (And.intro t1 (And.intro t2 t3)))
                            have BF := Lib.hid (below_put4 B1 (show H ≤ H + 2 by omega) (.int .i64 d.til) (.slice j0 z0.length l0) (.slice j1 z1.length l1) (.slice j2 z2.length l2))
                            clear oF t0 t1 t2 t3 p1 q1 r1 B1 oN6 OS6
                            go_wp2
                            obtain ⟨t0, t1, t2, t3⟩ := TT.out
                            exact bodyPost_ret (v := .tuple #[.agg #[.int .i64 d.til, .slice j0 z0.length l0, .slice j1 z1.length l1, .slice j2 z2.length l2], .int .i64 0]) (by simp [results, Tryz.results5, go_sem, t0, t1, t2, t3]) rfl ⟨j0, j1, j2, l0, l1, l2, by rw [HE.out]; rfl, by rw [HE.out]; exact OG.out, BF.out⟩
end Go.Proofs.YtheolakkicagkaaGreatDoor
