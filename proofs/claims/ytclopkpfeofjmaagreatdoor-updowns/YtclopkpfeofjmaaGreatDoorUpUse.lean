/- up.Bytes; the closed fact upped; a state in a block as the laws use it. -/
import Derived.Test.YtclopkpfeofjmaaGreatDoorUpDn
import Derived.Test.YtclopkpfeofjmaaGreatDoorPkWi5
namespace Go.Proofs.YtclopkpfeofjmaaGreatDoor
open Go.RowKit

/-- A state in a block, its rows in memory. -/
def InBox (b : Nat) (aj an al : Option Addr) (cj cn cl : Nat) (t : StD) (w : World) : Prop := ObjAt b #[.int .i64 t.rev, .slice aj t.jobs.length cj, .slice an t.nodes.length cn, .slice al t.leases.length cl] 30 w ∧ JobsAt w aj t.jobs ∧ NodesAt w an t.nodes ∧ LeasesAt w al t.leases
theorem inBox_next {b : Nat} {aj an al : Option Addr} {cj cn cl : Nat} {t : StD} {w w' : World} (h : InBox b aj an al cj cn cl t w) (hb : Below w.heap.size w w') : InBox b aj an al cj cn cl t w' := ⟨objAt_next h.1 hb, jobsAt_next h.2.1 hb, nodesAt_next h.2.2.1 hb, leasesAt_next h.2.2.2 hb⟩
theorem inBox_new {aj an al : Option Addr} {cj cn cl : Nat} {t : StD} {w : World} (h : JobsAt w aj t.jobs ∧ NodesAt w an t.nodes ∧ LeasesAt w al t.leases) : InBox w.heap.size aj an al cj cn cl t (w.alloc (.cells #[.int .i64 t.rev, .slice aj t.jobs.length cj, .slice an t.nodes.length cn, .slice al t.leases.length cl] 30)) :=
  ⟨objAt_new w _ _, jobsAt_next h.1 (below_one _ _), nodesAt_next h.2.1 (below_one _ _), leasesAt_next h.2.2 (below_one _ _)⟩
theorem inBox_cells {b : Nat} {aj an al : Option Addr} {cj cn cl : Nat} {t : StD} {w : World} (h : InBox b aj an al cj cn cl t w) : w.cell? ⟨b, 0, none⟩ = some (.int .i64 t.rev) ∧ w.cell? ⟨b, 1, none⟩ = some (.slice aj t.jobs.length cj) ∧ w.cell? ⟨b, 2, none⟩ = some (.slice an t.nodes.length cn) ∧ w.cell? ⟨b, 3, none⟩ = some (.slice al t.leases.length cl) :=
  ⟨objAt_cell h.1 0 rfl, objAt_cell h.1 1 rfl, objAt_cell h.1 2 rfl, objAt_cell h.1 3 rfl⟩
theorem wState_up (s : StD) (a b : Int) : wState (upR s a b).1 := by
  cases hu : okUp a b with
  | false => rw [upR_bad hu]; exact wState_ok (ok_zeroSt 3)
  | true =>
    by_cases he : (fitsR s a).2 ≠ 0
    · rw [upR_err hu he]; exact wState_ok (ok_zeroSt 3)
    · have he0 : (fitsR s a).2 = 0 := by simpa using he
      cases hf : (fitsR s a).1 with
      | false => rw [upR_not hu he0 hf]; exact wState_ok (ok_zeroSt 3)
      | true => rw [upR_ok hu he0 hf]; exact wState_valid (valid8_up (fitsR_ok he0).1 a b)
/-- What Bytes answers. -/
def ubR (l : List UInt8) (a b : Int) : ByteArray × Nat := if okUp a b = true then (if (wdecR a l).2 ≠ 0 then (⟨#[]⟩, (wdecR a l).2) else if (upR (wdecR a l).1 a b).2 ≠ 0 then (⟨#[]⟩, (upR (wdecR a l).1 a b).2) else wencR (upR (wdecR a l).1 a b).1 b) else (⟨#[]⟩, 1)
set_option maxRecDepth 100000 in
set_option maxHeartbeats 4000000 in
theorem ubytes_any (s : ByteArray) (hs : s.size ≤ 1152921504606846976) (a b : Int) (w : World) (hT : Tabs w) :
    Calls Tryz.prog 5 #[.string s, .int .i64 a, .int .i64 b] w fun e w' => e = .returned (.tuple #[.string (ubR s.data.toList a b).1, .int .i64 ((ubR s.data.toList a b).2 : Nat)]) ∧ Below w.heap.size w w' := by
  have HU := Lib.hid (isUpward_is a b w)
  cases hu : okUp a b with
  | false =>
    have hr : ubR s.data.toList a b = (⟨#[]⟩, 1) := by unfold ubR; rw [hu]; rfl
    rw [hr]
    rw [hu] at HU
    clear hr hu hT
    go_enter Tryz.func5, Tryz.ntmps5
    go_wp2_with fail
    refine HU.out.mono ?_
    rintro e w' ⟨rfl, rfl⟩
    go_wp2
    go_ret2
    exact ⟨rfl, Below.refl _ _⟩
  | true =>
    rw [hu] at HU
    have HT := Lib.hid hT
    have HDw := Lib.hid (wState_dec a s.data.toList)
    have HD := wdecode_any s hs a w hT
    obtain ⟨Q, hQ⟩ : ∃ Q, wdecR a s.data.toList = Q := ⟨_, rfl⟩
    have hr : ubR s.data.toList a b = (if Q.2 ≠ 0 then (⟨#[]⟩, Q.2) else if (upR Q.1 a b).2 ≠ 0 then (⟨#[]⟩, (upR Q.1 a b).2) else wencR (upR Q.1 a b).1 b) := by unfold ubR; rw [if_pos hu, hQ]
    rw [hr]
    rw [hQ] at HD HDw
    obtain ⟨t, c⟩ := Q
    simp only at HD HDw ⊢
    have HD := Lib.hid HD
    clear hr hQ hu hT
    by_cases hc : c ≠ 0
    · rw [if_pos hc]
      have hc' : ((c : Int) != 0) = true := by simp; omega
      clear hc
      go_enter Tryz.func5, Tryz.ntmps5
      go_wp2_with fail
      refine HU.out.mono ?_
      rintro e w' ⟨rfl, rfl⟩
      go_wp2_with fail
      refine HD.out.mono ?_
      rintro e w1 ⟨aj, an, al, cj, cn, cl, rfl, oj, on, ol, b1⟩
      have bA := below_one w1 (.cells #[.int .i64 t.rev, .slice aj t.jobs.length cj, .slice an t.nodes.length cn, .slice al t.leases.length cl] 30)
      have BA := Lib.hid (below_trans b1 bA b1.size)
      clear bA b1 oj on ol
      go_wp2
      go_ret2
      exact ⟨rfl, BA.out⟩
    · rw [if_neg hc]
      have hc0 : c = 0 := by simpa using hc
      subst hc0
      have HUw := Lib.hid (wState_up t a b)
      have HS0 := Lib.hid (fun aj an al cj cn cl w1 (hb : Below w.heap.size w w1) h => ustate_any t aj an al cj cn cl a b HDw.out w1 (HT.out.below hb) (And.left h) (And.left (And.right h)) (And.right (And.right h)))
      obtain ⟨V, hV⟩ : ∃ V, upR t a b = V := ⟨_, rfl⟩
      rw [hV] at HS0 HUw ⊢
      obtain ⟨u, d⟩ := V
      simp only at HS0 HUw ⊢
      clear hV hc
      by_cases hd : d ≠ 0
      · rw [if_pos hd]
        have hd' : ((d : Int) != 0) = true := by simp; omega
        clear hd
        go_enter Tryz.func5, Tryz.ntmps5
        go_wp2_with fail
        refine HU.out.mono ?_
        rintro e w' ⟨rfl, rfl⟩
        go_wp2_with fail
        refine HD.out.mono ?_
        rintro e w1 ⟨aj, an, al, cj, cn, cl, rfl, oj, on, ol, b1⟩
        obtain ⟨W1, hW1⟩ : ∃ W1, w1.alloc (.cells #[.int .i64 t.rev, .slice aj t.jobs.length cj, .slice an t.nodes.length cn, .slice al t.leases.length cl] 30) = W1 := ⟨_, rfl⟩
        have bA := below_one w1 (.cells #[.int .i64 t.rev, .slice aj t.jobs.length cj, .slice an t.nodes.length cn, .slice al t.leases.length cl] 30)
        have ib := inBox_new (cj := cj) (cn := cn) (cl := cl) ⟨ownJobs oj rfl, ownNodes on rfl, ownLeases ol rfl⟩
        rw [hW1] at bA ib
        have BA := below_trans b1 bA b1.size
        obtain ⟨c0, c1, c2, c3⟩ := inBox_cells ib
        have HS1 := Lib.hid (HS0.out aj an al cj cn cl W1 BA ib.2)
        have IB := Lib.hid ib
        have BB := Lib.hid BA
        have hlt := b1.size
        clear bA b1 oj on ol ib BA
        go_wp2_with fail
        refine HS1.out.mono ?_
        rintro e w2 ⟨bj, bn, bl, dj, dn, dl, rfl, ow2, b2⟩
        have ib2 := inBox_next IB.out b2
        have B2 := below_trans BB.out b2 BB.out.size
        obtain ⟨k0, k1, k2, k3⟩ := inBox_cells ib2
        have f0 := objAt_free ib2.1 0
        have f1 := objAt_free ib2.1 1
        have f2 := objAt_free ib2.1 2
        have f3 := objAt_free ib2.1 3
        have BF := Lib.hid (below_put4 B2 (b := w1.heap.size) hlt (.int .i64 u.rev) (.slice bj u.jobs.length dj) (.slice bn u.nodes.length dn) (.slice bl u.leases.length dl))
        clear c0 c1 c2 c3 ib2 B2 b2 ow2
        go_wp2
        go_ret2
        exact ⟨rfl, BF.out⟩
      · rw [if_neg hd]
        have hd0 : d = 0 := by simpa using hd
        subst hd0
        clear hd
        go_enter Tryz.func5, Tryz.ntmps5
        go_wp2_with fail
        refine HU.out.mono ?_
        rintro e w' ⟨rfl, rfl⟩
        go_wp2_with fail
        refine HD.out.mono ?_
        rintro e w1 ⟨aj, an, al, cj, cn, cl, rfl, oj, on, ol, b1⟩
        obtain ⟨W1, hW1⟩ : ∃ W1, w1.alloc (.cells #[.int .i64 t.rev, .slice aj t.jobs.length cj, .slice an t.nodes.length cn, .slice al t.leases.length cl] 30) = W1 := ⟨_, rfl⟩
        have bA := below_one w1 (.cells #[.int .i64 t.rev, .slice aj t.jobs.length cj, .slice an t.nodes.length cn, .slice al t.leases.length cl] 30)
        have ib := inBox_new (cj := cj) (cn := cn) (cl := cl) ⟨ownJobs oj rfl, ownNodes on rfl, ownLeases ol rfl⟩
        rw [hW1] at bA ib
        have BA := below_trans b1 bA b1.size
        obtain ⟨c0, c1, c2, c3⟩ := inBox_cells ib
        have HS1 := Lib.hid (HS0.out aj an al cj cn cl W1 BA ib.2)
        have IB := Lib.hid ib
        have BB := Lib.hid BA
        have hlt := b1.size
        clear bA b1 oj on ol ib BA
        go_wp2_with fail
        refine HS1.out.mono ?_
        rintro e w2 ⟨bj, bn, bl, dj, dn, dl, rfl, ow2, b2⟩
        have ib2 := inBox_next IB.out b2
        have B2 := below_trans BB.out b2 BB.out.size
        obtain ⟨k0, k1, k2, k3⟩ := inBox_cells ib2
        have f0 := objAt_free ib2.1 0
        have f1 := objAt_free ib2.1 1
        have f2 := objAt_free ib2.1 2
        have f3 := objAt_free ib2.1 3
        have pu := obj_put4 ib2.1 (.int .i64 u.rev) (.slice bj u.jobs.length dj) (.slice bn u.nodes.length dn) (.slice bl u.leases.length dl)
        have BF := below_put4 B2 (b := w1.heap.size) hlt (.int .i64 u.rev) (.slice bj u.jobs.length dj) (.slice bn u.nodes.length dn) (.slice bl u.leases.length dl)
        have of := ownS_put4 ow2 ib2.1 (.int .i64 u.rev) (.slice bj u.jobs.length dj) (.slice bn u.nodes.length dn) (.slice bl u.leases.length dl)
        obtain ⟨W2, hW2⟩ : ∃ W2, (((w2.setCell ⟨w1.heap.size, 0, none⟩ (.int .i64 u.rev)).setCell ⟨w1.heap.size, 1, none⟩ (.slice bj u.jobs.length dj)).setCell ⟨w1.heap.size, 2, none⟩ (.slice bn u.nodes.length dn)).setCell ⟨w1.heap.size, 3, none⟩ (.slice bl u.leases.length dl) = W2 := ⟨_, rfl⟩
        rw [hW2] at pu BF of
        have HE := Lib.hid (wencode_any u bj bn bl dj dn dl b HUw.out W2 (HT.out.below BF) (ownS_at of).1 (ownS_at of).2.1 (ownS_at of).2.2)
        have e0 := objAt_cell pu 0 rfl
        have e1 := objAt_cell pu 1 rfl
        have e2 := objAt_cell pu 2 rfl
        have e3 := objAt_cell pu 3 rfl
        have BG := Lib.hid BF
        clear c0 c1 c2 c3 ib2 B2 b2 ow2 pu BF of
        go_wp2_with fail
        refine HE.out.mono ?_
        rintro e w3 ⟨rfl, b3⟩
        have B3 := Lib.hid (below_trans BG.out b3 BG.out.size)
        clear b3
        go_wp2
        go_ret2
        exact ⟨rfl, B3.out⟩
end Go.Proofs.YtclopkpfeofjmaaGreatDoor
