import Derived.Test.YthbgaphidojneaaGreatDoorPkWi3
import Derived.Deep.RegionLaw
/- The coder of package wire: a whole state. -/
namespace Go.Proofs.YthbgaphidojneaaGreatDoor
open Go.RowKit

/-- The rows that a state came with lie below the coder. -/
def Mem (b : Nat) (aj an al : Option Addr) (s : StD) (w : World) : Prop := ∃ w0 : World, w0.heap.size = b ∧ Below b w0 w ∧ JobsAt w0 aj s.jobs ∧ NodesAt w0 an s.nodes ∧ LeasesAt w0 al s.leases
theorem mem_keep {b : Nat} {aj an al : Option Addr} {s : StD} {w w' : World} (h : Mem b aj an al s w) (hk : Keep b w w') : Mem b aj an al s w' := by
  obtain ⟨w0, hs, hb, h1⟩ := h
  have := hb.size
  exact ⟨w0, hs, hb.trans (keep_low hk (by omega)), h1⟩
theorem mem_jobs {b : Nat} {aj an al : Option Addr} {s : StD} {w : World} (h : Mem b aj an al s w) : JobsAt w aj s.jobs := by
  obtain ⟨w0, rfl, hb, h1, h2, h3⟩ := h
  exact jobsAt_next h1 hb
theorem mem_nodes {b : Nat} {aj an al : Option Addr} {s : StD} {w : World} (h : Mem b aj an al s w) : NodesAt w an s.nodes := by
  obtain ⟨w0, rfl, hb, h1, h2, h3⟩ := h
  exact nodesAt_next h2 hb
theorem mem_leases {b : Nat} {aj an al : Option Addr} {s : StD} {w : World} (h : Mem b aj an al s w) : LeasesAt w al s.leases := by
  obtain ⟨w0, rfl, hb, h1, h2, h3⟩ := h
  exact leasesAt_next h3 hb
theorem lim_rows {α : Type} {f : α → St α} {ok : α → Prop} (most : Nat) (z : α) (l : List α) (hz : ok z) (hl : ∀ x ∈ l, ok x) (hn : l.length ≤ most) (hm : most ≤ 40) (hf : ∀ x, ok x → Lim 64 (f x)) : Lim 3000 (rowsS most z f l) := by
  intro m
  have h1 := lim_lim (most := most) (n := l.length) (by omega) m
  have h2 := lim_le hn m
  have h3 := lim_go (f := f) (K := 64) (padL z l (limS most l.length m).1) (fun x hx => hf x (by
    unfold padL at hx
    obtain ⟨i, _, rfl⟩ := List.mem_map.1 hx
    by_cases hi : i < l.length
    · have e : l.getD i z = l[i] := by simp [hi]
      rw [e]; exact hl _ (List.getElem_mem _)
    · have e : l.getD i z = z := by simp [hi]
      rw [e]; exact hz)) (limS most l.length m).2
  rw [padL_length] at h3
  have e : rowsS most z f l m = goS f (padL z l (limS most l.length m).1) (limS most l.length m).2 := rfl
  rw [e]
  exact ⟨by omega, by omega, by rw [h3.2.2, h1.2.2]⟩
theorem rowSt_drew {b : Nat} {v : Int} {t : TypeId} {m : M} {vs rs : Array Value} {w0 w : World} (h : RowSt b v t m vs rs w0 w) : RowSt b v t m vs rs w0 w.drew := rowSt_call h (code_drew h.1) (keep_drew b w)
theorem rowSt_row {w0 w : World} {B e sz n : Nat} {x : Value} {xs : List Value} (ho : w.ownsRow B e sz x n xs) (hB : w0.heap.size + 2 ≤ B) (j : Nat) (u : Value) : (w.setCell ⟨w0.heap.size, j, none⟩ u).ownsRow B e sz x n xs := by
  refine ⟨ho.1, ?_⟩
  rcases ho.2 with h0 | ⟨g, cap, cur, hv, hbg, hg, r⟩
  · exact .inl h0
  · refine .inr ⟨g, cap, cur, hv, hbg, ?_, r⟩
    rw [Below.heap_setCell w ⟨w0.heap.size, j, none⟩ u g (by show g ≠ w0.heap.size; omega)]
    exact hg
theorem backs4 {w : World} {c B e sz n : Nat} {x : Value} {xs : List Value} {u0 u1 u2 u3 : Value} (ho : w.ownsRow B e sz x n xs) (hc : c < B := by omega) : ((((w.setCell ⟨c, 0, none⟩ u0).setCell ⟨c, 1, none⟩ u1).setCell ⟨c, 2, none⟩ u2).setCell ⟨c, 3, none⟩ u3).ownsRow B e sz x n xs := by
  refine ⟨ho.1, ?_⟩
  rcases ho.2 with h0 | ⟨g, cap, cur, hv, hbg, hg, r⟩
  · exact .inl h0
  · refine .inr ⟨g, cap, cur, hv, hbg, ?_, r⟩
    have ne : g ≠ c := by omega
    rw [Below.heap_setCell _ ⟨c, 3, none⟩ u3 g ne, Below.heap_setCell _ ⟨c, 2, none⟩ u2 g ne, Below.heap_setCell _ ⟨c, 1, none⟩ u1 g ne, Below.heap_setCell _ ⟨c, 0, none⟩ u0 g ne]
    exact hg
theorem ownsRow_low {w : World} {B B' e size n : Nat} {v : Value} {xs : List Value} (h : w.ownsRow B e size v n xs) (hb : B' ≤ B) : w.ownsRow B' e size v n xs := by
  refine ⟨h.1, ?_⟩
  rcases h.2 with h0 | ⟨g, cap, cur, hv, hbg, r⟩
  · exact .inl h0
  · exact .inr ⟨g, cap, cur, hv, by omega, r⟩
theorem upTo40 (b : Nat) (w : World) :
    Calls Tryz.prog 74 #[.pointer (some ⟨b, 0, none⟩), .int .u64 40] w fun r w' => r = .returned (.func (.func 106) #[] #[.pointer (some ⟨w.heap.size, 0, none⟩), .pointer (some ⟨w.heap.size + 1, 0, none⟩)]) ∧
      ObjAt w.heap.size #[.pointer (some ⟨b, 0, none⟩)] 108 w' ∧ ObjAt (w.heap.size + 1) #[.int .u64 ((40 : Nat) : Int)] 101 w' ∧ Below w.heap.size w w' := upTo_is b 40 w
theorem upTo20 (b : Nat) (w : World) :
    Calls Tryz.prog 74 #[.pointer (some ⟨b, 0, none⟩), .int .u64 20] w fun r w' => r = .returned (.func (.func 106) #[] #[.pointer (some ⟨w.heap.size, 0, none⟩), .pointer (some ⟨w.heap.size + 1, 0, none⟩)]) ∧
      ObjAt w.heap.size #[.pointer (some ⟨b, 0, none⟩)] 108 w' ∧ ObjAt (w.heap.size + 1) #[.int .u64 ((20 : Nat) : Int)] 101 w' ∧ Below w.heap.size w w' := upTo_is b 20 w
set_option maxRecDepth 100000 in
set_option maxHeartbeats 4000000 in
theorem whole_1 {b : Nat} {v : Int} {m : M} (s : StD) (aj an al : Option Addr) (cj cn cl : Nat) (hv : v < 3) (hok : okSt V8 v s) (hs : m.rest.size ≤ 1152921504606846976) (hg : m.gs.length ≤ 800000000) (w : World) (h : CodeAt b v m w) (hE : Env b w) (hM : Mem b aj an al s w) :
    Calls Tryz.prog 50 #[.pointer (some ⟨b, 0, none⟩), .agg #[.int .i64 s.rev, .slice aj s.jobs.length cj, .slice an s.nodes.length cn, .slice al s.leases.length cl]] w fun r w' => ∃ y1 y2 y3, r = .returned (.agg #[.int .i64 (wholeS v s m).1.rev, y1, y2, y3]) ∧
      w'.ownsRow (w.heap.size + 2) 51 5 y1 (wholeS v s m).1.jobs.length (cJobs (wholeS v s m).1.jobs) ∧ w'.ownsRow (w.heap.size + 2) 54 3 y2 (wholeS v s m).1.nodes.length (cNodes (wholeS v s m).1.nodes) ∧ w'.ownsRow (w.heap.size + 2) 56 3 y3 (wholeS v s m).1.leases.length (cLeases (wholeS v s m).1.leases) ∧ CodeAt b v (wholeS v s m).2 w' ∧ Keep b w w' := by
  have s0 := rowSt_new (t := 26) #[.int .i64 s.rev, .slice aj s.jobs.length cj, .slice an s.nodes.length cn, .slice al s.leases.length cl] #[.int .i64 0, .slice none 0 0, .slice none 0 0, .slice none 0 0] h hE (by decide)
  have HM := Lib.hid hM
  have hd : decide ((2 : Int) < v) = false := by simp; omega
  obtain ⟨r0, e0⟩ : ∃ r : Int × M, (s.rev, m) = r := ⟨_, rfl⟩
  have l0 : r0.2.gs.length ≤ m.gs.length + 10 ∧ r0.2.rest.size ≤ m.rest.size ∧ r0.2.reading = m.reading := by rw [← e0]; exact ⟨by simp, Nat.le_refl _, rfl⟩
  replace l0 : r0.2.gs.length ≤ 800000010 ∧ r0.2.rest.size ≤ 1152921504606846976 := ⟨by omega, by omega⟩
  have l1 := lim_rows 40 zJob s.jobs (ok_zJob v) hok.2.1.2 hok.2.1.1 (by omega) (fun x hx => lim_job hx) r0.2
  obtain ⟨r1, e1⟩ : ∃ r, rowsS 40 zJob (jobS v) s.jobs r0.2 = r := ⟨_, rfl⟩
  rw [e1] at l1
  replace l1 : r1.2.gs.length ≤ 800003010 ∧ r1.2.rest.size ≤ 1152921504606846976 := ⟨by omega, by omega⟩
  have E1 := Lib.hid e1
  have l2 := lim_rows 20 zNode s.nodes (ok_zNode v) hok.2.2.1.2 hok.2.2.1.1 (by omega) (fun x hx => lim_node hx) r1.2
  obtain ⟨r2, e2⟩ : ∃ r, rowsS 20 zNode (nodeS v) s.nodes r1.2 = r := ⟨_, rfl⟩
  rw [e2] at l2
  replace l2 : r2.2.gs.length ≤ 800006010 ∧ r2.2.rest.size ≤ 1152921504606846976 := ⟨by omega, by omega⟩
  have E2 := Lib.hid e2
  have l3 := lim_rows 40 zLease s.leases ok_zLease hok.2.2.2.2 hok.2.2.2.1 (by omega) (fun x hx => lim_lease hx) r2.2
  obtain ⟨r3, e3⟩ : ∃ r, rowsS 40 zLease leaseS s.leases r2.2 = r := ⟨_, rfl⟩
  rw [e3] at l3
  replace l3 : r3.2.gs.length ≤ 800009010 ∧ r3.2.rest.size ≤ 1152921504606846976 := ⟨by omega, by omega⟩
  have E3 := Lib.hid e3
  have eS : wholeS v s m = (⟨r0.1, r1.1, r2.1, r3.1⟩, r3.2) := by
    have a0 : r0.1 = s.rev := by rw [← e0]
    have a1 : r0.2 = m := by rw [← e0]
    rw [a1] at e1
    simp only [wholeS, bindS, pureS, hd, Bool.false_eq_true, if_false, e1, e2, e3, a0]
  rw [eS]
  simp only
  clear eS hd e1 e2 e3 hM
  have hne : ¬ b = w.heap.size := by have := s0.2.2.2.2.2.1; omega
  have hne' : ¬ w.heap.size = b := by omega
  have v0 := (code_cells h).1
  have hlb := code_lt h
  have hr0 : s.rev = r0.1 := by rw [← e0]
  have hm0 : m = r0.2 := by rw [← e0]
  rw [hr0] at s0 ⊢
  rw [hm0] at s0
  have SW := Lib.hid s0
  clear s0 h hE e0
  go_enter Tryz.func50, Tryz.ntmps50
  go_upto_region 3 with fail
  clear hlb v0
  generalize (w.alloc (.cells #[.int .i64 r0.1, .slice aj s.jobs.length cj, .slice an s.nodes.length cn, .slice al s.leases.length cl] 26)).alloc (.cells #[.int .i64 0, .slice none 0 0, .slice none 0 0, .slice none 0 0] 26) = W at SW ⊢
  go_cut [] from 5 (fun wc => ∃ y1, RowSt b v 26 r1.2 #[.int .i64 r0.1, y1, .slice an s.nodes.length cn, .slice al s.leases.length cl] #[.int .i64 0, .slice none 0 0, .slice none 0 0, .slice none 0 0] w wc ∧ wc.ownsRow (w.heap.size + 2) 51 5 y1 r1.1.length (cJobs r1.1))
  case first =>
    have sW := SW.out
    have c0 := objAt_cell sW.2.1 0 rfl
    have c1 := objAt_cell sW.2.1 1 rfl
    have c2 := objAt_cell sW.2.1 2 rfl
    have c3 := objAt_cell sW.2.1 3 rfl
    have f1 := objAt_free sW.2.1 1
    have zl := objAt_lt sW.2.1
    clear sW
    go_region_law (first
      | (go_simp; go_at_call 74; refine (upTo40 b _).mono ?_; rintro r x1 ⟨rfl, o1, o2, b1⟩; have s1 := rowSt_call (w := W.drew) (rowSt_drew SW.out) (code_next (w := W.drew) SW.out.1 b1) (keep_below (w := W.drew) b1); have S1 := Lib.hid s1; have c0 := objAt_cell s1.2.1 0 rfl; have c1 := objAt_cell s1.2.1 1 rfl; have c2 := objAt_cell s1.2.1 2 rfl; have c3 := objAt_cell s1.2.1 3 rfl; have f1 := objAt_free s1.2.1 1; have zl1 := objAt_lt s1.2.1; clear s1)
      | (go_simp; go_at_call 73; refine (codeJobs_is s.jobs aj cj 40 hok.2.1.1 (by omega) hok.2.1.2 l0.2 (by omega) _ S1.out.1 S1.out.2.2.2.2.1 (fun w' hk => mem_jobs (mem_keep HM.out (keep_trans S1.out.2.2.2.1 hk))) _ _ o1 o2).mono ?_; rintro r x2 ⟨y, rfl, oy, h2, k2⟩; rw [E1.out] at oy h2; obtain ⟨ady, cpy, rfl⟩ := ownRow_slice oy; have s2 := rowSt_call S1.out h2 k2; have S2 := Lib.hid s2; have K2 := Lib.hid k2; have OY := Lib.hid oy; have c0 := objAt_cell s2.2.1 0 rfl; have c1 := objAt_cell s2.2.1 1 rfl; have c2 := objAt_cell s2.2.1 2 rfl; have c3 := objAt_cell s2.2.1 3 rfl; have f1 := objAt_free s2.2.1 1; have zl2 := objAt_lt s2.2.1; clear s2 k2 h2 oy))
    all_goals
      go_wp2_with fail
      go_meet
      case rel =>
        have hW : W.drew.heap.size = W.heap.size := rfl
        have hw2 : w.heap.size + 2 ≤ W.heap.size := by have := objAt_lt SW.out.2.2.1; omega
        have hx1 := (show W.heap.size ≤ x1.heap.size from b1.size)
        have oY := ownsRow_low (B' := w.heap.size + 2) OY.out (by omega)
        have kW : Keep b W x2 := keep_trans (keep_trans (keep_drew b W) (keep_below (w := W.drew) b1)) K2.out
        exact ⟨_, rowSt_store S2.out 1 _, rowSt_row oY (Nat.le_refl _) 1 _⟩
  case rest =>
    obtain ⟨y1, SW', O1'⟩ := hcut
    clear SW
    obtain ⟨d1, p1_, rfl⟩ := ownRow_slice O1'
    have SW := Lib.hid SW'
    have O1 := Lib.hid O1'
    clear SW' O1'
    go_upto_region 4 with fail
    go_cut [] from 5 (fun wc => ∃ y1 y2, RowSt b v 26 r2.2 #[.int .i64 r0.1, y1, y2, .slice al s.leases.length cl] #[.int .i64 0, .slice none 0 0, .slice none 0 0, .slice none 0 0] w wc ∧ wc.ownsRow (w.heap.size + 2) 51 5 y1 r1.1.length (cJobs r1.1) ∧ wc.ownsRow (w.heap.size + 2) 54 3 y2 r2.1.length (cNodes r2.1))
    case first =>
      have sW := SW.out
      have c0 := objAt_cell sW.2.1 0 rfl
      have c1 := objAt_cell sW.2.1 1 rfl
      have c2 := objAt_cell sW.2.1 2 rfl
      have c3 := objAt_cell sW.2.1 3 rfl
      have f2 := objAt_free sW.2.1 2
      have zl := objAt_lt sW.2.1
      clear sW
      go_region_law (first
        | (go_simp; go_at_call 74; refine (upTo20 b _).mono ?_; rintro r x1 ⟨rfl, o1, o2, b1⟩; have s1 := rowSt_call (w := wc.drew) (rowSt_drew SW.out) (code_next (w := wc.drew) SW.out.1 b1) (keep_below (w := wc.drew) b1); have S1 := Lib.hid s1; have c0 := objAt_cell s1.2.1 0 rfl; have c1 := objAt_cell s1.2.1 1 rfl; have c2 := objAt_cell s1.2.1 2 rfl; have c3 := objAt_cell s1.2.1 3 rfl; have f2 := objAt_free s1.2.1 2; have zl1 := objAt_lt s1.2.1; clear s1)
        | (go_simp; go_at_call 76; refine (codeNodes_is s.nodes an cn 20 hok.2.2.1.1 (by omega) hok.2.2.1.2 l1.2 (by omega) _ S1.out.1 S1.out.2.2.2.2.1 (fun w' hk => mem_nodes (mem_keep HM.out (keep_trans S1.out.2.2.2.1 hk))) _ _ o1 o2).mono ?_; rintro r x2 ⟨y, rfl, oy, h2, k2⟩; rw [E2.out] at oy h2; obtain ⟨ady, cpy, rfl⟩ := ownRow_slice oy; have s2 := rowSt_call S1.out h2 k2; have S2 := Lib.hid s2; have K2 := Lib.hid k2; have OY := Lib.hid oy; have c0 := objAt_cell s2.2.1 0 rfl; have c1 := objAt_cell s2.2.1 1 rfl; have c2 := objAt_cell s2.2.1 2 rfl; have c3 := objAt_cell s2.2.1 3 rfl; have f2 := objAt_free s2.2.1 2; have zl2 := objAt_lt s2.2.1; clear s2 k2 h2 oy))
      all_goals
        go_wp2_with fail
        go_meet
        case rel =>
          have hW : wc.drew.heap.size = wc.heap.size := rfl
          have hw2 : w.heap.size + 2 ≤ wc.heap.size := by have := objAt_lt SW.out.2.2.1; omega
          have hx1 := (show wc.heap.size ≤ x1.heap.size from b1.size)
          have oY := ownsRow_low (B' := w.heap.size + 2) OY.out (by omega)
          have kW : Keep b wc x2 := keep_trans (keep_trans (keep_drew b wc) (keep_below (w := wc.drew) b1)) K2.out
          exact ⟨_, _, rowSt_store S2.out 2 _, rowSt_row (keep_row O1.out kW (by have := SW.out.2.2.2.2.2.1; omega) (by decide)) (Nat.le_refl _) 2 _, rowSt_row oY (Nat.le_refl _) 2 _⟩
    case rest =>
      obtain ⟨y1, y2, SW', O1', O2'⟩ := hcut
      clear SW O1
      obtain ⟨d1, p1_, rfl⟩ := ownRow_slice O1'
      obtain ⟨d2, p2_, rfl⟩ := ownRow_slice O2'
      have SW := Lib.hid SW'
      have O1 := Lib.hid O1'
      have O2 := Lib.hid O2'
      clear SW' O1' O2'
      go_upto_region 5 with fail
      go_cut [] from 5 (fun wc => ∃ y1 y2 y3, RowSt b v 26 r3.2 #[.int .i64 r0.1, y1, y2, y3] #[.int .i64 0, .slice none 0 0, .slice none 0 0, .slice none 0 0] w wc ∧ wc.ownsRow (w.heap.size + 2) 51 5 y1 r1.1.length (cJobs r1.1) ∧ wc.ownsRow (w.heap.size + 2) 54 3 y2 r2.1.length (cNodes r2.1) ∧ wc.ownsRow (w.heap.size + 2) 56 3 y3 r3.1.length (cLeases r3.1))
      case first =>
        have sW := SW.out
        have c0 := objAt_cell sW.2.1 0 rfl
        have c1 := objAt_cell sW.2.1 1 rfl
        have c2 := objAt_cell sW.2.1 2 rfl
        have c3 := objAt_cell sW.2.1 3 rfl
        have f3 := objAt_free sW.2.1 3
        have zl := objAt_lt sW.2.1
        clear sW
        go_region_law (first
          | (go_simp; go_at_call 74; refine (upTo40 b _).mono ?_; rintro r x1 ⟨rfl, o1, o2, b1⟩; have s1 := rowSt_call (w := wc.drew) (rowSt_drew SW.out) (code_next (w := wc.drew) SW.out.1 b1) (keep_below (w := wc.drew) b1); have S1 := Lib.hid s1; have c0 := objAt_cell s1.2.1 0 rfl; have c1 := objAt_cell s1.2.1 1 rfl; have c2 := objAt_cell s1.2.1 2 rfl; have c3 := objAt_cell s1.2.1 3 rfl; have f3 := objAt_free s1.2.1 3; have zl1 := objAt_lt s1.2.1; clear s1)
          | (go_simp; go_at_call 78; refine (codeLeases_is s.leases al cl 40 hok.2.2.2.1 (by omega) hok.2.2.2.2 l2.2 (by omega) _ S1.out.1 S1.out.2.2.2.2.1 (fun w' hk => mem_leases (mem_keep HM.out (keep_trans S1.out.2.2.2.1 hk))) _ _ o1 o2).mono ?_; rintro r x2 ⟨y, rfl, oy, h2, k2⟩; rw [E3.out] at oy h2; obtain ⟨ady, cpy, rfl⟩ := ownRow_slice oy; have s2 := rowSt_call S1.out h2 k2; have S2 := Lib.hid s2; have K2 := Lib.hid k2; have OY := Lib.hid oy; have c0 := objAt_cell s2.2.1 0 rfl; have c1 := objAt_cell s2.2.1 1 rfl; have c2 := objAt_cell s2.2.1 2 rfl; have c3 := objAt_cell s2.2.1 3 rfl; have f3 := objAt_free s2.2.1 3; have zl2 := objAt_lt s2.2.1; clear s2 k2 h2 oy))
        all_goals
          go_wp2_with fail
          go_meet
          case rel =>
            have hW : wc.drew.heap.size = wc.heap.size := rfl
            have hw2 : w.heap.size + 2 ≤ wc.heap.size := by have := objAt_lt SW.out.2.2.1; omega
            have hx1 := (show wc.heap.size ≤ x1.heap.size from b1.size)
            have oY := ownsRow_low (B' := w.heap.size + 2) OY.out (by omega)
            have kW : Keep b wc x2 := keep_trans (keep_trans (keep_drew b wc) (keep_below (w := wc.drew) b1)) K2.out
            exact ⟨_, _, _, rowSt_store S2.out 3 _, rowSt_row (keep_row O1.out kW (by have := SW.out.2.2.2.2.2.1; omega) (by decide)) (Nat.le_refl _) 3 _, rowSt_row (keep_row O2.out kW (by have := SW.out.2.2.2.2.2.1; omega) (by decide)) (Nat.le_refl _) 3 _, rowSt_row oY (Nat.le_refl _) 3 _⟩
      case rest =>
        obtain ⟨y1, y2, y3, SW', O1', O2', O3'⟩ := hcut
        clear SW O1 O2
        obtain ⟨d1, p1_, rfl⟩ := ownRow_slice O1'
        obtain ⟨d2, p2_, rfl⟩ := ownRow_slice O2'
        obtain ⟨d3, p3_, rfl⟩ := ownRow_slice O3'
        have SW := Lib.hid SW'
        have O1 := Lib.hid O1'
        have O2 := Lib.hid O2'
        have O3 := Lib.hid O3'
        clear SW' O1' O2' O3'
        have sW := SW.out
        have c0 := objAt_cell sW.2.1 0 rfl
        have p0 := objAt_cell sW.2.2.1 0 rfl
        have f0 := objAt_free sW.2.2.1 0
        have c1 := objAt_cell sW.2.1 1 rfl
        have p1 := objAt_cell sW.2.2.1 1 rfl
        have f1 := objAt_free sW.2.2.1 1
        have c2 := objAt_cell sW.2.1 2 rfl
        have p2 := objAt_cell sW.2.2.1 2 rfl
        have f2 := objAt_free sW.2.2.1 2
        have c3 := objAt_cell sW.2.1 3 rfl
        have p3 := objAt_cell sW.2.2.1 3 rfl
        have f3 := objAt_free sW.2.2.1 3
        have zl := objAt_lt sW.2.1
        have zl2 := objAt_lt sW.2.2.1
        have sF := rowSt_back (rowSt_back (rowSt_back (rowSt_back sW 0 (.int .i64 r0.1)) 1 (.slice d1 r1.1.length p1_)) 2 (.slice d2 r2.1.length p2_)) 3 (.slice d3 r3.1.length p3_)
        have SF := Lib.hid sF
        have t0 := objAt_cell sF.2.2.1 0 rfl
        have t1 := objAt_cell sF.2.2.1 1 rfl
        have t2 := objAt_cell sF.2.2.1 2 rfl
        have t3 := objAt_cell sF.2.2.1 3 rfl
        have TT := Lib.hid (And.intro t0 (And.intro t1 (And.intro t2 t3)))
        clear sF sW t0 t1 t2 t3
        go_wp2
        obtain ⟨t0, t1, t2, t3⟩ := TT.out
        exact bodyPost_ret (v := .agg #[.int .i64 r0.1, .slice d1 r1.1.length p1_, .slice d2 r2.1.length p2_, .slice d3 r3.1.length p3_]) (by simp [results, Tryz.results50, go_sem, t0, t1, t2, t3]) rfl ⟨_, _, _, rfl, backs4 O1.out, backs4 O2.out, backs4 O3.out, SF.out.1, SF.out.2.2.2.1⟩
set_option maxRecDepth 100000 in
set_option maxHeartbeats 4000000 in
theorem whole_3 {b : Nat} {v : Int} {m : M} (s : StD) (aj an al : Option Addr) (cj cn cl : Nat) (hv : 3 ≤ v) (hok : okSt V8 v s) (hs : m.rest.size ≤ 1152921504606846976) (hg : m.gs.length ≤ 800000000) (w : World) (h : CodeAt b v m w) (hE : Env b w) (hM : Mem b aj an al s w) :
    Calls Tryz.prog 50 #[.pointer (some ⟨b, 0, none⟩), .agg #[.int .i64 s.rev, .slice aj s.jobs.length cj, .slice an s.nodes.length cn, .slice al s.leases.length cl]] w fun r w' => ∃ y1 y2 y3, r = .returned (.agg #[.int .i64 (wholeS v s m).1.rev, y1, y2, y3]) ∧
      w'.ownsRow (w.heap.size + 2) 51 5 y1 (wholeS v s m).1.jobs.length (cJobs (wholeS v s m).1.jobs) ∧ w'.ownsRow (w.heap.size + 2) 54 3 y2 (wholeS v s m).1.nodes.length (cNodes (wholeS v s m).1.nodes) ∧ w'.ownsRow (w.heap.size + 2) 56 3 y3 (wholeS v s m).1.leases.length (cLeases (wholeS v s m).1.leases) ∧ CodeAt b v (wholeS v s m).2 w' ∧ Keep b w w' := by
  have s0 := rowSt_new (t := 26) #[.int .i64 s.rev, .slice aj s.jobs.length cj, .slice an s.nodes.length cn, .slice al s.leases.length cl] #[.int .i64 0, .slice none 0 0, .slice none 0 0, .slice none 0 0] h hE (by decide)
  have HM := Lib.hid hM
  have hd : decide ((2 : Int) < v) = true := by simp; omega
  have hrev := hok.1
  rw [hd, if_pos rfl] at hrev
  have l0 := lim_numb hrev.2 m
  obtain ⟨r0, e0⟩ : ∃ r, numbS s.rev m = r := ⟨_, rfl⟩
  rw [e0] at l0
  replace l0 : r0.2.gs.length ≤ 800000010 ∧ r0.2.rest.size ≤ 1152921504606846976 := ⟨by omega, by omega⟩
  have l1 := lim_rows 40 zJob s.jobs (ok_zJob v) hok.2.1.2 hok.2.1.1 (by omega) (fun x hx => lim_job hx) r0.2
  obtain ⟨r1, e1⟩ : ∃ r, rowsS 40 zJob (jobS v) s.jobs r0.2 = r := ⟨_, rfl⟩
  rw [e1] at l1
  replace l1 : r1.2.gs.length ≤ 800003010 ∧ r1.2.rest.size ≤ 1152921504606846976 := ⟨by omega, by omega⟩
  have E1 := Lib.hid e1
  have l2 := lim_rows 20 zNode s.nodes (ok_zNode v) hok.2.2.1.2 hok.2.2.1.1 (by omega) (fun x hx => lim_node hx) r1.2
  obtain ⟨r2, e2⟩ : ∃ r, rowsS 20 zNode (nodeS v) s.nodes r1.2 = r := ⟨_, rfl⟩
  rw [e2] at l2
  replace l2 : r2.2.gs.length ≤ 800006010 ∧ r2.2.rest.size ≤ 1152921504606846976 := ⟨by omega, by omega⟩
  have E2 := Lib.hid e2
  have l3 := lim_rows 40 zLease s.leases ok_zLease hok.2.2.2.2 hok.2.2.2.1 (by omega) (fun x hx => lim_lease hx) r2.2
  obtain ⟨r3, e3⟩ : ∃ r, rowsS 40 zLease leaseS s.leases r2.2 = r := ⟨_, rfl⟩
  rw [e3] at l3
  replace l3 : r3.2.gs.length ≤ 800009010 ∧ r3.2.rest.size ≤ 1152921504606846976 := ⟨by omega, by omega⟩
  have E3 := Lib.hid e3
  have eS : wholeS v s m = (⟨r0.1, r1.1, r2.1, r3.1⟩, r3.2) := by simp only [wholeS, bindS, pureS, hd, if_true, e0, e1, e2, e3]
  rw [eS]
  simp only
  clear eS hd e1 e2 e3 hM
  have hne : ¬ b = w.heap.size := by have := s0.2.2.2.2.2.1; omega
  have hne' : ¬ w.heap.size = b := by omega
  have v0 := (code_cells h).1
  have hlb := code_lt h
  have H0 := number_in s.rev hrev hs (by omega) _ s0.1
  rw [e0] at H0
  have H0 := Lib.hid H0
  have S0 := Lib.hid s0
  clear s0 h hE e0
  go_enter Tryz.func50, Tryz.ntmps50
  go_wp2_with fail
  refine H0.out.mono ?_
  rintro r w1 ⟨rfl, h1, k1⟩
  have s1 := rowSt_call S0.out h1 k1
  have s1' := rowSt_store s1 0 (.int .i64 r0.1)
  have f0 := objAt_free s1.2.1 0
  have c0 := objAt_cell s1.2.1 0 rfl
  have z0 := objAt_lt s1.2.1
  have SW := Lib.hid s1'
  clear s1 s1' S0 H0 h1 k1 v0
  go_upto_region 3 with fail
  clear f0 c0 z0 hlb
  generalize w1.setCell ⟨w.heap.size, 0, none⟩ (.int .i64 r0.1) = W at SW ⊢
  go_cut [] from 5 (fun wc => ∃ y1, RowSt b v 26 r1.2 #[.int .i64 r0.1, y1, .slice an s.nodes.length cn, .slice al s.leases.length cl] #[.int .i64 0, .slice none 0 0, .slice none 0 0, .slice none 0 0] w wc ∧ wc.ownsRow (w.heap.size + 2) 51 5 y1 r1.1.length (cJobs r1.1))
  case first =>
    have sW := SW.out
    have c0 := objAt_cell sW.2.1 0 rfl
    have c1 := objAt_cell sW.2.1 1 rfl
    have c2 := objAt_cell sW.2.1 2 rfl
    have c3 := objAt_cell sW.2.1 3 rfl
    have f1 := objAt_free sW.2.1 1
    have zl := objAt_lt sW.2.1
    clear sW
    go_region_law (first
      | (go_simp; go_at_call 74; refine (upTo40 b _).mono ?_; rintro r x1 ⟨rfl, o1, o2, b1⟩; have s1 := rowSt_call (w := W.drew) (rowSt_drew SW.out) (code_next (w := W.drew) SW.out.1 b1) (keep_below (w := W.drew) b1); have S1 := Lib.hid s1; have c0 := objAt_cell s1.2.1 0 rfl; have c1 := objAt_cell s1.2.1 1 rfl; have c2 := objAt_cell s1.2.1 2 rfl; have c3 := objAt_cell s1.2.1 3 rfl; have f1 := objAt_free s1.2.1 1; have zl1 := objAt_lt s1.2.1; clear s1)
      | (go_simp; go_at_call 73; refine (codeJobs_is s.jobs aj cj 40 hok.2.1.1 (by omega) hok.2.1.2 l0.2 (by omega) _ S1.out.1 S1.out.2.2.2.2.1 (fun w' hk => mem_jobs (mem_keep HM.out (keep_trans S1.out.2.2.2.1 hk))) _ _ o1 o2).mono ?_; rintro r x2 ⟨y, rfl, oy, h2, k2⟩; rw [E1.out] at oy h2; obtain ⟨ady, cpy, rfl⟩ := ownRow_slice oy; have s2 := rowSt_call S1.out h2 k2; have S2 := Lib.hid s2; have K2 := Lib.hid k2; have OY := Lib.hid oy; have c0 := objAt_cell s2.2.1 0 rfl; have c1 := objAt_cell s2.2.1 1 rfl; have c2 := objAt_cell s2.2.1 2 rfl; have c3 := objAt_cell s2.2.1 3 rfl; have f1 := objAt_free s2.2.1 1; have zl2 := objAt_lt s2.2.1; clear s2 k2 h2 oy))
    all_goals
      go_wp2_with fail
      go_meet
      case rel =>
        have hW : W.drew.heap.size = W.heap.size := rfl
        have hw2 : w.heap.size + 2 ≤ W.heap.size := by have := objAt_lt SW.out.2.2.1; omega
        have hx1 := (show W.heap.size ≤ x1.heap.size from b1.size)
        have oY := ownsRow_low (B' := w.heap.size + 2) OY.out (by omega)
        have kW : Keep b W x2 := keep_trans (keep_trans (keep_drew b W) (keep_below (w := W.drew) b1)) K2.out
        exact ⟨_, rowSt_store S2.out 1 _, rowSt_row oY (Nat.le_refl _) 1 _⟩
  case rest =>
    obtain ⟨y1, SW', O1'⟩ := hcut
    clear SW
    obtain ⟨d1, p1_, rfl⟩ := ownRow_slice O1'
    have SW := Lib.hid SW'
    have O1 := Lib.hid O1'
    clear SW' O1'
    go_upto_region 4 with fail
    go_cut [] from 5 (fun wc => ∃ y1 y2, RowSt b v 26 r2.2 #[.int .i64 r0.1, y1, y2, .slice al s.leases.length cl] #[.int .i64 0, .slice none 0 0, .slice none 0 0, .slice none 0 0] w wc ∧ wc.ownsRow (w.heap.size + 2) 51 5 y1 r1.1.length (cJobs r1.1) ∧ wc.ownsRow (w.heap.size + 2) 54 3 y2 r2.1.length (cNodes r2.1))
    case first =>
      have sW := SW.out
      have c0 := objAt_cell sW.2.1 0 rfl
      have c1 := objAt_cell sW.2.1 1 rfl
      have c2 := objAt_cell sW.2.1 2 rfl
      have c3 := objAt_cell sW.2.1 3 rfl
      have f2 := objAt_free sW.2.1 2
      have zl := objAt_lt sW.2.1
      clear sW
      go_region_law (first
        | (go_simp; go_at_call 74; refine (upTo20 b _).mono ?_; rintro r x1 ⟨rfl, o1, o2, b1⟩; have s1 := rowSt_call (w := wc.drew) (rowSt_drew SW.out) (code_next (w := wc.drew) SW.out.1 b1) (keep_below (w := wc.drew) b1); have S1 := Lib.hid s1; have c0 := objAt_cell s1.2.1 0 rfl; have c1 := objAt_cell s1.2.1 1 rfl; have c2 := objAt_cell s1.2.1 2 rfl; have c3 := objAt_cell s1.2.1 3 rfl; have f2 := objAt_free s1.2.1 2; have zl1 := objAt_lt s1.2.1; clear s1)
        | (go_simp; go_at_call 76; refine (codeNodes_is s.nodes an cn 20 hok.2.2.1.1 (by omega) hok.2.2.1.2 l1.2 (by omega) _ S1.out.1 S1.out.2.2.2.2.1 (fun w' hk => mem_nodes (mem_keep HM.out (keep_trans S1.out.2.2.2.1 hk))) _ _ o1 o2).mono ?_; rintro r x2 ⟨y, rfl, oy, h2, k2⟩; rw [E2.out] at oy h2; obtain ⟨ady, cpy, rfl⟩ := ownRow_slice oy; have s2 := rowSt_call S1.out h2 k2; have S2 := Lib.hid s2; have K2 := Lib.hid k2; have OY := Lib.hid oy; have c0 := objAt_cell s2.2.1 0 rfl; have c1 := objAt_cell s2.2.1 1 rfl; have c2 := objAt_cell s2.2.1 2 rfl; have c3 := objAt_cell s2.2.1 3 rfl; have f2 := objAt_free s2.2.1 2; have zl2 := objAt_lt s2.2.1; clear s2 k2 h2 oy))
      all_goals
        go_wp2_with fail
        go_meet
        case rel =>
          have hW : wc.drew.heap.size = wc.heap.size := rfl
          have hw2 : w.heap.size + 2 ≤ wc.heap.size := by have := objAt_lt SW.out.2.2.1; omega
          have hx1 := (show wc.heap.size ≤ x1.heap.size from b1.size)
          have oY := ownsRow_low (B' := w.heap.size + 2) OY.out (by omega)
          have kW : Keep b wc x2 := keep_trans (keep_trans (keep_drew b wc) (keep_below (w := wc.drew) b1)) K2.out
          exact ⟨_, _, rowSt_store S2.out 2 _, rowSt_row (keep_row O1.out kW (by have := SW.out.2.2.2.2.2.1; omega) (by decide)) (Nat.le_refl _) 2 _, rowSt_row oY (Nat.le_refl _) 2 _⟩
    case rest =>
      obtain ⟨y1, y2, SW', O1', O2'⟩ := hcut
      clear SW O1
      obtain ⟨d1, p1_, rfl⟩ := ownRow_slice O1'
      obtain ⟨d2, p2_, rfl⟩ := ownRow_slice O2'
      have SW := Lib.hid SW'
      have O1 := Lib.hid O1'
      have O2 := Lib.hid O2'
      clear SW' O1' O2'
      go_upto_region 5 with fail
      go_cut [] from 5 (fun wc => ∃ y1 y2 y3, RowSt b v 26 r3.2 #[.int .i64 r0.1, y1, y2, y3] #[.int .i64 0, .slice none 0 0, .slice none 0 0, .slice none 0 0] w wc ∧ wc.ownsRow (w.heap.size + 2) 51 5 y1 r1.1.length (cJobs r1.1) ∧ wc.ownsRow (w.heap.size + 2) 54 3 y2 r2.1.length (cNodes r2.1) ∧ wc.ownsRow (w.heap.size + 2) 56 3 y3 r3.1.length (cLeases r3.1))
      case first =>
        have sW := SW.out
        have c0 := objAt_cell sW.2.1 0 rfl
        have c1 := objAt_cell sW.2.1 1 rfl
        have c2 := objAt_cell sW.2.1 2 rfl
        have c3 := objAt_cell sW.2.1 3 rfl
        have f3 := objAt_free sW.2.1 3
        have zl := objAt_lt sW.2.1
        clear sW
        go_region_law (first
          | (go_simp; go_at_call 74; refine (upTo40 b _).mono ?_; rintro r x1 ⟨rfl, o1, o2, b1⟩; have s1 := rowSt_call (w := wc.drew) (rowSt_drew SW.out) (code_next (w := wc.drew) SW.out.1 b1) (keep_below (w := wc.drew) b1); have S1 := Lib.hid s1; have c0 := objAt_cell s1.2.1 0 rfl; have c1 := objAt_cell s1.2.1 1 rfl; have c2 := objAt_cell s1.2.1 2 rfl; have c3 := objAt_cell s1.2.1 3 rfl; have f3 := objAt_free s1.2.1 3; have zl1 := objAt_lt s1.2.1; clear s1)
          | (go_simp; go_at_call 78; refine (codeLeases_is s.leases al cl 40 hok.2.2.2.1 (by omega) hok.2.2.2.2 l2.2 (by omega) _ S1.out.1 S1.out.2.2.2.2.1 (fun w' hk => mem_leases (mem_keep HM.out (keep_trans S1.out.2.2.2.1 hk))) _ _ o1 o2).mono ?_; rintro r x2 ⟨y, rfl, oy, h2, k2⟩; rw [E3.out] at oy h2; obtain ⟨ady, cpy, rfl⟩ := ownRow_slice oy; have s2 := rowSt_call S1.out h2 k2; have S2 := Lib.hid s2; have K2 := Lib.hid k2; have OY := Lib.hid oy; have c0 := objAt_cell s2.2.1 0 rfl; have c1 := objAt_cell s2.2.1 1 rfl; have c2 := objAt_cell s2.2.1 2 rfl; have c3 := objAt_cell s2.2.1 3 rfl; have f3 := objAt_free s2.2.1 3; have zl2 := objAt_lt s2.2.1; clear s2 k2 h2 oy))
        all_goals
          go_wp2_with fail
          go_meet
          case rel =>
            have hW : wc.drew.heap.size = wc.heap.size := rfl
            have hw2 : w.heap.size + 2 ≤ wc.heap.size := by have := objAt_lt SW.out.2.2.1; omega
            have hx1 := (show wc.heap.size ≤ x1.heap.size from b1.size)
            have oY := ownsRow_low (B' := w.heap.size + 2) OY.out (by omega)
            have kW : Keep b wc x2 := keep_trans (keep_trans (keep_drew b wc) (keep_below (w := wc.drew) b1)) K2.out
            exact ⟨_, _, _, rowSt_store S2.out 3 _, rowSt_row (keep_row O1.out kW (by have := SW.out.2.2.2.2.2.1; omega) (by decide)) (Nat.le_refl _) 3 _, rowSt_row (keep_row O2.out kW (by have := SW.out.2.2.2.2.2.1; omega) (by decide)) (Nat.le_refl _) 3 _, rowSt_row oY (Nat.le_refl _) 3 _⟩
      case rest =>
        obtain ⟨y1, y2, y3, SW', O1', O2', O3'⟩ := hcut
        clear SW O1 O2
        obtain ⟨d1, p1_, rfl⟩ := ownRow_slice O1'
        obtain ⟨d2, p2_, rfl⟩ := ownRow_slice O2'
        obtain ⟨d3, p3_, rfl⟩ := ownRow_slice O3'
        have SW := Lib.hid SW'
        have O1 := Lib.hid O1'
        have O2 := Lib.hid O2'
        have O3 := Lib.hid O3'
        clear SW' O1' O2' O3'
        have sW := SW.out
        have c0 := objAt_cell sW.2.1 0 rfl
        have p0 := objAt_cell sW.2.2.1 0 rfl
        have f0 := objAt_free sW.2.2.1 0
        have c1 := objAt_cell sW.2.1 1 rfl
        have p1 := objAt_cell sW.2.2.1 1 rfl
        have f1 := objAt_free sW.2.2.1 1
        have c2 := objAt_cell sW.2.1 2 rfl
        have p2 := objAt_cell sW.2.2.1 2 rfl
        have f2 := objAt_free sW.2.2.1 2
        have c3 := objAt_cell sW.2.1 3 rfl
        have p3 := objAt_cell sW.2.2.1 3 rfl
        have f3 := objAt_free sW.2.2.1 3
        have zl := objAt_lt sW.2.1
        have zl2 := objAt_lt sW.2.2.1
        have sF := rowSt_back (rowSt_back (rowSt_back (rowSt_back sW 0 (.int .i64 r0.1)) 1 (.slice d1 r1.1.length p1_)) 2 (.slice d2 r2.1.length p2_)) 3 (.slice d3 r3.1.length p3_)
        have SF := Lib.hid sF
        have t0 := objAt_cell sF.2.2.1 0 rfl
        have t1 := objAt_cell sF.2.2.1 1 rfl
        have t2 := objAt_cell sF.2.2.1 2 rfl
        have t3 := objAt_cell sF.2.2.1 3 rfl
        have TT := Lib.hid (And.intro t0 (And.intro t1 (And.intro t2 t3)))
        clear sF sW t0 t1 t2 t3
        go_wp2
        obtain ⟨t0, t1, t2, t3⟩ := TT.out
        exact bodyPost_ret (v := .agg #[.int .i64 r0.1, .slice d1 r1.1.length p1_, .slice d2 r2.1.length p2_, .slice d3 r3.1.length p3_]) (by simp [results, Tryz.results50, go_sem, t0, t1, t2, t3]) rfl ⟨_, _, _, rfl, backs4 O1.out, backs4 O2.out, backs4 O3.out, SF.out.1, SF.out.2.2.2.1⟩
theorem whole_is {b : Nat} {v : Int} {m : M} (s : StD) (aj an al : Option Addr) (cj cn cl : Nat) (hok : okSt V8 v s) (hs : m.rest.size ≤ 1152921504606846976) (hg : m.gs.length ≤ 800000000) (w : World) (h : CodeAt b v m w) (hE : Env b w) (hM : Mem b aj an al s w) :
    Calls Tryz.prog 50 #[.pointer (some ⟨b, 0, none⟩), .agg #[.int .i64 s.rev, .slice aj s.jobs.length cj, .slice an s.nodes.length cn, .slice al s.leases.length cl]] w fun r w' => ∃ y1 y2 y3, r = .returned (.agg #[.int .i64 (wholeS v s m).1.rev, y1, y2, y3]) ∧
      w'.ownsRow (w.heap.size + 2) 51 5 y1 (wholeS v s m).1.jobs.length (cJobs (wholeS v s m).1.jobs) ∧ w'.ownsRow (w.heap.size + 2) 54 3 y2 (wholeS v s m).1.nodes.length (cNodes (wholeS v s m).1.nodes) ∧ w'.ownsRow (w.heap.size + 2) 56 3 y3 (wholeS v s m).1.leases.length (cLeases (wholeS v s m).1.leases) ∧ CodeAt b v (wholeS v s m).2 w' ∧ Keep b w w' := by
  by_cases hv : v < 3
  · exact whole_1 s aj an al cj cn cl hv hok hs hg w h hE hM
  · exact whole_3 s aj an al cj cn cl (by omega) hok hs hg w h hE hM
end Go.Proofs.YthbgaphidojneaaGreatDoor

/- Package wire: Encode and Decode. -/
namespace Go.Proofs.YthbgaphidojneaaGreatDoor
open Go.RowKit

/-- What Encode answers. -/
def wencR (s : StD) (v : Int) : ByteArray × Nat := if (fitsR s v).2 ≠ 0 then (⟨#[]⟩, (fitsR s v).2) else if (fitsR s v).1 = true then (⟨(stB v s).toArray⟩, 0) else (⟨#[]⟩, 4)
/-- What Decode answers. -/
def wdecR (v : Int) (l : List UInt8) : StD × Nat := if 1 ≤ v ∧ v ≤ 3 then wireD V8 v l else (zeroSt, 1)
theorem fitsR_ok {s : StD} {v : Int} (h : (fitsR s v).2 = 0) : checkE V8 s = 0 ∧ (1 ≤ v ∧ v ≤ 3) ∧ (fitsR s v).1 = fitsD s v := by
  unfold fitsR at h ⊢
  by_cases h0 : checkE V8 s ≠ 0
  · rw [if_pos h0] at h; exact absurd h h0
  · rw [if_neg h0] at h ⊢
    by_cases h1 : 1 ≤ v ∧ v ≤ 3
    · rw [if_pos h1]; exact ⟨by simpa using h0, h1, rfl⟩
    · rw [if_neg h1] at h; simp at h
/-- A coder that was made. -/
theorem code_new (w : World) (v : Int) (r : Bool) (s : ByteArray) : CodeAt w.heap.size v ⟨r, [], s, 0⟩ (w.alloc (.cells #[.int .i64 v, .bool r, .slice none 0 0, .string s, .int .i64 0] 84)) :=
  ⟨.slice none 0 0, objAt_new w _ _, World.ownsRow_nil _ _ _ _⟩
theorem keep_below_of {b : Nat} {w w1 w2 : World} (h : Below w.heap.size w w1) (hb : b = w1.heap.size) (o : Obj) (hk : Keep b (w1.alloc o) w2) : Below w.heap.size w w2 := by
  have h1 := h.size
  have h2 := h.alloc h1 o
  have h3 := keep_low hk (by rw [World.size_alloc]; omega)
  exact h2.trans (h3.mono (by omega))
set_option maxRecDepth 100000 in
set_option maxHeartbeats 2000000 in
theorem wencode_any (s : StD) (aj an al : Option Addr) (cj cn cl : Nat) (v : Int) (hw : wState s) (w : World) (hT : Tabs w) (hmj : JobsAt w aj s.jobs) (hmn : NodesAt w an s.nodes) (hml : LeasesAt w al s.leases) :
    Calls Tryz.prog 15 #[.agg #[.int .i64 s.rev, .slice aj s.jobs.length cj, .slice an s.nodes.length cn, .slice al s.leases.length cl], .int .i64 v] w fun e w' => e = .returned (.tuple #[.string (wencR s v).1, .int .i64 (wencR s v).2]) ∧ Below w.heap.size w w' := by
  have bW := below_one w (.cells #[.int .i64 s.rev, .slice aj s.jobs.length cj, .slice an s.nodes.length cn, .slice al s.leases.length cl] 26)
  have HF := fits_any s.rev aj an al cj cn cl s.jobs s.nodes s.leases v hw _ (hT.below bW) (jobsAt_next hmj bW) (nodesAt_next hmn bW) (leasesAt_next hml bW)
  have oB := objAt_new w #[.int .i64 s.rev, .slice aj s.jobs.length cj, .slice an s.nodes.length cn, .slice al s.leases.length cl] 26
  have es : (⟨s.rev, s.jobs, s.nodes, s.leases⟩ : StD) = s := rfl
  rw [es] at HF
  have HF := Lib.hid HF
  have OB := Lib.hid oB
  have BW := Lib.hid bW
  have b0 := objAt_cell oB 0 rfl
  have b1 := objAt_cell oB 1 rfl
  have b2 := objAt_cell oB 2 rfl
  have b3 := objAt_cell oB 3 rfl
  clear oB bW es
  by_cases h0 : (fitsR s v).2 ≠ 0
  · have hr : wencR s v = (⟨#[]⟩, (fitsR s v).2) := by unfold wencR; rw [if_pos h0]
    have h0' : (((fitsR s v).2 : Int) != 0) = true := by simp; omega
    rw [hr]
    clear hr h0 hmj hmn hml hT hw
    generalize fitsR s v = q at HF h0' ⊢
    go_enter Tryz.func15, Tryz.ntmps15
    go_wp2_with fail
    refine HF.out.mono ?_
    rintro e w1 ⟨rfl, x1⟩
    go_wp2
    go_ret2
    exact ⟨rfl, below_trans BW.out x1 (by simp)⟩
  · have h0 : (fitsR s v).2 = 0 := by simpa using h0
    obtain ⟨hc, hv, hf⟩ := fitsR_ok h0
    by_cases h1 : (fitsR s v).1 = true
    · have hr : wencR s v = (⟨(stB v s).toArray⟩, 0) := by unfold wencR; rw [if_neg (by omega), if_pos h1]
      have hok := ok_of_valid ((check_zero V8 s).1 hc) (by rw [← hf]; exact h1)
      rw [hr]
      rw [h0, h1] at HF
      have HMJ := Lib.hid hmj
      have HMN := Lib.hid hmn
      have HML := Lib.hid hml
      have HT := Lib.hid hT
      clear hr h0 hmj hmn hml hT hw hf hc h1
      go_enter Tryz.func15, Tryz.ntmps15
      go_wp2_with fail
      refine HF.out.mono ?_
      rintro e w1 ⟨rfl, x1⟩
      have hB1 := below_trans BW.out x1 (by simp)
      have O1 := objAt_next OB.out x1
      have bA := below_one w1 (.cells #[.int .i64 v, .bool false, .slice none 0 0, .string ⟨#[]⟩, .int .i64 0] 84)
      have O2 := objAt_next O1 bA
      have a0 := objAt_cell O2 0 rfl
      have a1 := objAt_cell O2 1 rfl
      have a2 := objAt_cell O2 2 rfl
      have a3 := objAt_cell O2 3 rfl
      have hc0 := code_new w1 v false ⟨#[]⟩
      have HW := whole_is s aj an al cj cn cl hok (Nat.zero_le _) (Nat.zero_le _) _ hc0 ⟨w1, rfl, HT.out.below hB1, bA⟩ ⟨w1, rfl, bA, jobsAt_next HMJ.out hB1, nodesAt_next HMN.out hB1, leasesAt_next HML.out hB1⟩
      rw [wrt_whole hok _ rfl] at HW
      have HW := Lib.hid HW
      have HB1 := Lib.hid hB1
      clear O1 O2 hc0 hB1 bA b0 b1 b2 b3
      go_wp2_with fail
      refine HW.out.mono ?_
      rintro e w2 ⟨y1, y2, y3, rfl, _, _, _, hc2, hk2⟩
      obtain ⟨x, hO, hR⟩ := hc2
      have hne : byteCells ([] ++ stB v s) ≠ [] := by
        intro e
        have h3 := (st_mono v v (Int.le_refl _) s).2
        have := congrArg List.length e
        rw [byteCells_length, List.nil_append, List.length_nil] at this
        omega
      obtain ⟨g, cap, rfl⟩ := own_shape hR hne
      have hcv := run_string_own ([] ++ stB v s) rfl hR
      rw [List.nil_append] at hcv
      have d2 := objAt_cell hO 2 rfl
      have d4 := objAt_cell hO 4 rfl
      have hl := objAt_lt hO
      have HK := Lib.hid hk2
      simp only [List.nil_append] at d2 hcv
      clear hO hR hk2 hne a0 a1 a2 a3 HW
      go_wp2
      go_ret2
      exact ⟨rfl, keep_below_of HB1.out rfl _ HK.out⟩
    · have hr : wencR s v = (⟨#[]⟩, 4) := by unfold wencR; rw [if_neg (by omega), if_neg h1]
      have h1 : (fitsR s v).1 = false := by simpa using h1
      rw [hr]
      rw [h0, h1] at HF
      clear hr h0 hmj hmn hml hT hw hf hc h1
      go_enter Tryz.func15, Tryz.ntmps15
      go_wp2_with fail
      refine HF.out.mono ?_
      rintro e w1 ⟨rfl, x1⟩
      go_wp2
      go_ret2
      exact ⟨rfl, below_trans BW.out x1 (by simp)⟩
end Go.Proofs.YthbgaphidojneaaGreatDoor

/- Package wire: Decode. -/
namespace Go.Proofs.YthbgaphidojneaaGreatDoor
open Go.RowKit

theorem zag_in {n : Int} (h : zig n ≤ 4611686018427387904) : (Lit.int .i64 n).wf = true := by
  unfold zig at h
  simp [Lit.wf, IntKind.min, IntKind.max, IntKind.signed, IntKind.bits]
  split at h <;> omega
theorem int_in {n : Int} (h : 0 ≤ n ∧ n ≤ 4611686018427387904) : (Lit.int .i64 n).wf = true := by
  simp [Lit.wf, IntKind.min, IntKind.max, IntKind.signed, IntKind.bits]; omega
theorem note_max {s : ByteArray} (h : isNote V8 s = true) : s.size ≤ maxLen := by have := note_size h; unfold maxLen; omega
/-- What is read can be checked. -/
theorem wState_ok {v : Int} {s : StD} (h : okSt V8 v s) : wState s := by
  obtain ⟨h1, ⟨_, h2⟩, ⟨_, h3⟩, ⟨_, h4⟩⟩ := h
  refine ⟨?_, fun x hx => ?_, fun x hx => ?_, fun x hx => ?_⟩
  · split at h1
    · exact int_in h1
    · rw [h1]; decide
  · obtain ⟨a, b, c, d, e⟩ := h2 x hx
    refine ⟨note_max a, zag_in b, int_in c, ?_, ?_⟩
    · split at d
      · exact int_in d
      · rw [d]; decide
    · split at e
      · exact note_max e
      · rw [e]; exact Nat.zero_le _
  · obtain ⟨a, b, c⟩ := h3 x hx
    refine ⟨note_max a, int_in b, ?_⟩
    split at c
    · exact note_max c
    · rw [c]; exact Nat.zero_le _
  · obtain ⟨a, b, c⟩ := h4 x hx
    exact ⟨note_max a, note_max b, int_in c⟩
theorem ok_zeroSt (v : Int) : okSt V8 v zeroSt := by
  refine ⟨?_, ⟨by decide, fun x hx => by cases hx⟩, ⟨by decide, fun x hx => by cases hx⟩, ⟨by decide, fun x hx => by cases hx⟩⟩
  split
  · decide
  · rfl
/-- What end answers behind whole, and what was read then. -/
theorem read_cases (v : Int) (s : ByteArray) :
    (endE (wholeS v zeroSt ⟨true, [], s, 0⟩).2 ≠ 0 ∧ wireD V8 v s.data.toList = (zeroSt, endE (wholeS v zeroSt ⟨true, [], s, 0⟩).2)) ∨
    (endE (wholeS v zeroSt ⟨true, [], s, 0⟩).2 = 0 ∧ okSt V8 v (wholeS v zeroSt ⟨true, [], s, 0⟩).1 ∧
      wireD V8 v s.data.toList = if checkE V8 (wholeS v zeroSt ⟨true, [], s, 0⟩).1 ≠ 0 then (zeroSt, checkE V8 (wholeS v zeroSt ⟨true, [], s, 0⟩).1) else ((wholeS v zeroSt ⟨true, [], s, 0⟩).1, 0)) := by
  have h := (rdg_whole v ⟨true, [], s, 0⟩ rfl).1 rfl
  simp only at h
  cases hr : stR V8 v s.data.toList with
  | inl e =>
    left
    have h1 := h.1 e hr
    have e1 : endE (wholeS v zeroSt ⟨true, [], s, 0⟩).2 = e := by
      unfold endE
      rw [h1.2.2.1, h1.2.1]
      simp [ByteArray.size]
    rw [e1]
    refine ⟨h1.1, ?_⟩
    unfold wireD
    rw [hr]
  | inr x =>
    obtain ⟨t, r⟩ := x
    have h1 := h.2 t r hr
    rw [h1]
    simp only
    by_cases hz : r = []
    · right
      subst hz
      have e1 : endE ⟨true, [], ⟨([] : List UInt8).toArray⟩, 0⟩ = 0 := rfl
      refine ⟨e1, ((stC V8 v).sound _ _ _ hr).1, ?_⟩
      unfold wireD
      rw [hr]
      simp
    · left
      have e1 : endE ⟨true, [], ⟨r.toArray⟩, 0⟩ = 4 := by
        unfold endE
        have : (⟨r.toArray⟩ : ByteArray).size ≠ 0 := by
          simp [ByteArray.size]; exact hz
        rw [if_pos this]; rfl
      rw [e1]
      refine ⟨by omega, ?_⟩
      unfold wireD
      rw [hr]
      simp [hz]
set_option maxRecDepth 100000 in
set_option maxHeartbeats 4000000 in
theorem wdecode_any (s : ByteArray) (hs : s.size ≤ 1152921504606846976) (v : Int) (w : World) (hT : Tabs w) :
    Calls Tryz.prog 16 #[.string s, .int .i64 v] w fun e w' => ∃ aj an al cj cn cl, e = .returned (.tuple #[.agg #[.int .i64 (wdecR v s.data.toList).1.rev, .slice aj (wdecR v s.data.toList).1.jobs.length cj, .slice an (wdecR v s.data.toList).1.nodes.length cn, .slice al (wdecR v s.data.toList).1.leases.length cl], .int .i64 (wdecR v s.data.toList).2]) ∧
      w'.ownsRow w.heap.size 51 5 (.slice aj (wdecR v s.data.toList).1.jobs.length cj) (wdecR v s.data.toList).1.jobs.length (cJobs (wdecR v s.data.toList).1.jobs) ∧ w'.ownsRow w.heap.size 54 3 (.slice an (wdecR v s.data.toList).1.nodes.length cn) (wdecR v s.data.toList).1.nodes.length (cNodes (wdecR v s.data.toList).1.nodes) ∧ w'.ownsRow w.heap.size 56 3 (.slice al (wdecR v s.data.toList).1.leases.length cl) (wdecR v s.data.toList).1.leases.length (cLeases (wdecR v s.data.toList).1.leases) ∧ Below w.heap.size w w' := by
  by_cases hv : 1 ≤ v ∧ v ≤ 3
  · have hD : wdecR v s.data.toList = wireD V8 v s.data.toList := by unfold wdecR; rw [if_pos hv]
    rw [hD]
    obtain ⟨W0, hW0⟩ : ∃ W0, w.alloc (.cells #[.int .i64 0, .slice none 0 0, .slice none 0 0, .slice none 0 0] 26) = W0 := ⟨_, rfl⟩
    have o0 := objAt_new w #[.int .i64 0, .slice none 0 0, .slice none 0 0, .slice none 0 0] 26
    have bW := below_one w (.cells #[.int .i64 0, .slice none 0 0, .slice none 0 0, .slice none 0 0] 26)
    have sW : W0.heap.size = w.heap.size + 1 := by rw [← hW0, World.size_alloc]
    rw [hW0] at o0 bW
    have bA := below_one W0 (.cells #[.int .i64 v, .bool true, .slice none 0 0, .string s, .int .i64 0] 84)
    have hc0 := code_new W0 v true s
    have nil : ∀ w' : World, JobsAt w' none zeroSt.jobs ∧ NodesAt w' none zeroSt.nodes ∧ LeasesAt w' none zeroSt.leases := fun w' => ⟨fun i hi => absurd hi (by simp [zeroSt]), fun i hi => absurd hi (by simp [zeroSt]), fun i hi => absurd hi (by simp [zeroSt])⟩
    have HWh := whole_is zeroSt none none none 0 0 0 (ok_zeroSt v) hs (Nat.zero_le _) _ hc0 ⟨W0, rfl, hT.below bW, bA⟩ ⟨W0, rfl, bA, (nil W0).1, (nil W0).2.1, (nil W0).2.2⟩
    have hcs := read_cases v s
    obtain ⟨q, hq⟩ : ∃ q, wholeS v zeroSt ⟨true, [], s, 0⟩ = q := ⟨_, rfl⟩
    rw [hq] at HWh hcs
    rw [sW] at HWh
    generalize wireD V8 v s.data.toList = D at hcs ⊢
    have HWh := Lib.hid HWh
    have HT := Lib.hid hT
    have BW := Lib.hid bW
    have OA := Lib.hid (objAt_next o0 bA)
    have v1 : (1 : Int) ≤ v := hv.1
    have v3 : v ≤ 3 := hv.2
    clear hD hq o0 bW bA hc0 nil hT hv
    go_enter Tryz.func16, Tryz.ntmps16
    go_wp2_with fail
    refine HWh.out.mono ?_
    rintro e w2 ⟨y1, y2, y3, rfl, oj, on, ol, hc2, hk2⟩
    obtain ⟨d1, p1, rfl⟩ := ownRow_slice oj
    obtain ⟨d2, p2, rfl⟩ := ownRow_slice on
    obtain ⟨d3, p3, rfl⟩ := ownRow_slice ol
    have hsz : (W0.alloc (.cells #[.int .i64 v, .bool true, .slice none 0 0, .string s, .int .i64 0] 84)).heap.size = w.heap.size + 2 := by rw [World.size_alloc, sW]
    have hs2 := hk2.size
    rw [hsz] at oj on ol hs2
    have bW2 : Below w.heap.size w w2 := keep_below_of BW.out sW.symm _ hk2
    have o2 := keep_obj OA.out hk2 (by omega) (by decide)
    obtain ⟨T, hTT⟩ : ∃ T, w2.heap.size = T := ⟨_, rfl⟩
    have oT := objAt_new w2 #[.int .i64 q.1.rev, .slice d1 q.1.jobs.length p1, .slice d2 q.1.nodes.length p2, .slice d3 q.1.leases.length p3] 26
    have b3 := below_one w2 (.cells #[.int .i64 q.1.rev, .slice d1 q.1.jobs.length p1, .slice d2 q.1.nodes.length p2, .slice d3 q.1.leases.length p3] 26)
    have o3 := objAt_next o2 b3
    have HEnd := Lib.hid (end_is _ (code_next hc2 b3))
    have O3 := Lib.hid o3
    have OT := Lib.hid oT
    have OJ := Lib.hid (own_below oj b3)
    have ON := Lib.hid (own_below on b3)
    have OL := Lib.hid (own_below ol b3)
    have BW3 := Lib.hid (below_trans bW2 b3 bW2.size)
    rw [hTT] at OT
    have hT2 : w.heap.size + 2 ≤ T := by omega
    clear oj on ol hc2 hk2 o2 oT o3 bW2
    go_wp2_with fail
    refine HEnd.out.mono ?_
    rintro e w4 ⟨rfl, hk4⟩
    have bs4 := hk4.size
    have s3 : (w2.alloc (.cells #[.int .i64 q.1.rev, .slice d1 q.1.jobs.length p1, .slice d2 q.1.nodes.length p2, .slice d3 q.1.leases.length p3] 26)).heap.size = T + 1 := by rw [World.size_alloc, hTT]
    rw [s3] at bs4
    have o4 := keep_obj O3.out hk4 (by omega) (by decide)
    have T4 := keep_obj OT.out hk4 (by omega) (by decide)
    have oj4 := keep_row OJ.out hk4 (by omega) (by decide)
    have on4 := keep_row ON.out hk4 (by omega) (by decide)
    have ol4 := keep_row OL.out hk4 (by omega) (by decide)
    have b4 : Below w.heap.size w w4 := BW3.out.trans ((keep_low hk4 (by omega)).mono (by omega))
    clear hk4 HEnd O3 OT OJ ON OL b3 s3 HWh OA
    rcases hcs with ⟨hne, hD⟩ | ⟨he0, hok, hD⟩
    · have HD := Lib.hid hD
      have hne' : ((endE q.2 : Int) != 0) = true := by simp; omega
      have Z := Lib.hid (World.ownsRow_nil (((((w4).setCell ⟨w.heap.size, 0, none⟩ (.int .i64 0)).setCell ⟨w.heap.size, 1, none⟩ (.slice none 0 0)).setCell ⟨w.heap.size, 2, none⟩ (.slice none 0 0)).setCell ⟨w.heap.size, 3, none⟩ (.slice none 0 0)) w.heap.size)
      have B4 := Lib.hid (((((b4).setCell (p := ⟨w.heap.size, 0, none⟩) (Nat.le_refl _) (.int .i64 0)).setCell (p := ⟨w.heap.size, 1, none⟩) (Nat.le_refl _) (.slice none 0 0)).setCell (p := ⟨w.heap.size, 2, none⟩) (Nat.le_refl _) (.slice none 0 0)).setCell (p := ⟨w.heap.size, 3, none⟩) (Nat.le_refl _) (.slice none 0 0))
      have c0 := objAt_cell o4 0 rfl
      have c1 := objAt_cell o4 1 rfl
      have c2 := objAt_cell o4 2 rfl
      have c3 := objAt_cell o4 3 rfl
      have f0 := objAt_free o4 0
      have f1 := objAt_free o4 1
      have f2 := objAt_free o4 2
      have f3 := objAt_free o4 3
      have zl := objAt_lt o4
      have oF := objAt_set (objAt_set (objAt_set (objAt_set (o4) 0 (.int .i64 0)) 1 (.slice none 0 0)) 2 (.slice none 0 0)) 3 (.slice none 0 0)
      have t0 := objAt_cell oF 0 rfl
      have t1 := objAt_cell oF 1 rfl
      have t2 := objAt_cell oF 2 rfl
      have t3 := objAt_cell oF 3 rfl
      have TT := Lib.hid (And.intro t0 (And.intro t1 (And.intro t2 t3)))
      clear oF t0 t1 t2 t3
      clear hD hne T4 oj4 on4 ol4 b4
      go_wp2
      obtain ⟨t0, t1, t2, t3⟩ := TT.out
      exact bodyPost_ret (v := .tuple #[.agg #[.int .i64 0, .slice none 0 0, .slice none 0 0, .slice none 0 0], .int .i64 (endE q.2 : Int)]) (by simp [results, Tryz.results16, go_sem, t0, t1, t2, t3]) rfl (by rw [HD.out]; exact ⟨none, none, none, 0, 0, 0, rfl, Z.out _ _, Z.out _ _, Z.out _ _, B4.out⟩)
    · rw [he0]
      have HC := Lib.hid (check_any q.1.rev d1 d2 d3 p1 p2 p3 q.1.jobs q.1.nodes q.1.leases (wState_ok hok) w4 (HT.out.below b4) (ownJobs oj4 rfl) (ownNodes on4 rfl) (ownLeases ol4 rfl))
      have es : (⟨q.1.rev, q.1.jobs, q.1.nodes, q.1.leases⟩ : StD) = q.1 := rfl
      rw [es] at HC
      obtain ⟨c, hc⟩ : ∃ c, checkE V8 q.1 = c := ⟨_, rfl⟩
      rw [hc] at HC hD
      have HD := Lib.hid hD
      have x0 := objAt_cell T4 0 rfl
      have x1 := objAt_cell T4 1 rfl
      have x2 := objAt_cell T4 2 rfl
      have x3 := objAt_cell T4 3 rfl
      have xl := objAt_lt T4
      have O4 := Lib.hid o4
      have OT := Lib.hid T4
      have OJ := Lib.hid oj4
      have ON := Lib.hid on4
      have OL := Lib.hid ol4
      have BB := Lib.hid b4
      clear o4 T4 oj4 on4 ol4 b4 hD hok es hc he0
      go_wp2_with fail
      refine HC.out.mono ?_
      rintro e w5 ⟨rfl, b5⟩
      have o5 := objAt_next O4.out b5
      have T5 := objAt_next OT.out b5
      have hB5 := below_trans BB.out b5 BB.out.size
      have oj5 := own_below OJ.out b5
      have on5 := own_below ON.out b5
      have ol5 := own_below OL.out b5
      have y0 := objAt_cell T5 0 rfl
      have y1 := objAt_cell T5 1 rfl
      have y2 := objAt_cell T5 2 rfl
      have y3 := objAt_cell T5 3 rfl
      have yl := objAt_lt T5
      clear x0 x1 x2 x3 xl O4 OT OJ ON OL BB HC b5 T5
      by_cases h0 : c ≠ 0
      · have hD := HD.out
        rw [if_pos h0] at hD
        have HD := Lib.hid hD
        clear hD
        have h0' : ((c : Int) != 0) = true := by simp; omega
        have Z := Lib.hid (World.ownsRow_nil (((((w5).setCell ⟨w.heap.size, 0, none⟩ (.int .i64 0)).setCell ⟨w.heap.size, 1, none⟩ (.slice none 0 0)).setCell ⟨w.heap.size, 2, none⟩ (.slice none 0 0)).setCell ⟨w.heap.size, 3, none⟩ (.slice none 0 0)) w.heap.size)
        have B4 := Lib.hid (((((hB5).setCell (p := ⟨w.heap.size, 0, none⟩) (Nat.le_refl _) (.int .i64 0)).setCell (p := ⟨w.heap.size, 1, none⟩) (Nat.le_refl _) (.slice none 0 0)).setCell (p := ⟨w.heap.size, 2, none⟩) (Nat.le_refl _) (.slice none 0 0)).setCell (p := ⟨w.heap.size, 3, none⟩) (Nat.le_refl _) (.slice none 0 0))
        have c0 := objAt_cell o5 0 rfl
        have c1 := objAt_cell o5 1 rfl
        have c2 := objAt_cell o5 2 rfl
        have c3 := objAt_cell o5 3 rfl
        have f0 := objAt_free o5 0
        have f1 := objAt_free o5 1
        have f2 := objAt_free o5 2
        have f3 := objAt_free o5 3
        have zl := objAt_lt o5
        have oF := objAt_set (objAt_set (objAt_set (objAt_set (o5) 0 (.int .i64 0)) 1 (.slice none 0 0)) 2 (.slice none 0 0)) 3 (.slice none 0 0)
        have t0 := objAt_cell oF 0 rfl
        have t1 := objAt_cell oF 1 rfl
        have t2 := objAt_cell oF 2 rfl
        have t3 := objAt_cell oF 3 rfl
        have TT := Lib.hid (And.intro t0 (And.intro t1 (And.intro t2 t3)))
        clear oF t0 t1 t2 t3
        clear oj5 on5 ol5 hB5 h0 o5
        go_wp2
        obtain ⟨t0, t1, t2, t3⟩ := TT.out
        exact bodyPost_ret (v := .tuple #[.agg #[.int .i64 0, .slice none 0 0, .slice none 0 0, .slice none 0 0], .int .i64 (c : Int)]) (by simp [results, Tryz.results16, go_sem, t0, t1, t2, t3]) rfl (by rw [HD.out]; exact ⟨none, none, none, 0, 0, 0, rfl, Z.out _ _, Z.out _ _, Z.out _ _, B4.out⟩)
      · have hD := HD.out
        rw [if_neg h0] at hD
        have HD := Lib.hid hD
        clear hD
        have h0 : c = 0 := by simpa using h0
        subst h0
        have B4 := Lib.hid (((((hB5).setCell (p := ⟨w.heap.size, 0, none⟩) (Nat.le_refl _) (.int .i64 q.1.rev)).setCell (p := ⟨w.heap.size, 1, none⟩) (Nat.le_refl _) (.slice d1 q.1.jobs.length p1)).setCell (p := ⟨w.heap.size, 2, none⟩) (Nat.le_refl _) (.slice d2 q.1.nodes.length p2)).setCell (p := ⟨w.heap.size, 3, none⟩) (Nat.le_refl _) (.slice d3 q.1.leases.length p3))
        have ZJ := Lib.hid (ownsRow_low (B' := w.heap.size) (backs4 (c := w.heap.size) (u0 := .int .i64 q.1.rev) (u1 := .slice d1 q.1.jobs.length p1) (u2 := .slice d2 q.1.nodes.length p2) (u3 := .slice d3 q.1.leases.length p3) oj5 (by omega)) (by omega))
        have ZN := Lib.hid (ownsRow_low (B' := w.heap.size) (backs4 (c := w.heap.size) (u0 := .int .i64 q.1.rev) (u1 := .slice d1 q.1.jobs.length p1) (u2 := .slice d2 q.1.nodes.length p2) (u3 := .slice d3 q.1.leases.length p3) on5 (by omega)) (by omega))
        have ZL := Lib.hid (ownsRow_low (B' := w.heap.size) (backs4 (c := w.heap.size) (u0 := .int .i64 q.1.rev) (u1 := .slice d1 q.1.jobs.length p1) (u2 := .slice d2 q.1.nodes.length p2) (u3 := .slice d3 q.1.leases.length p3) ol5 (by omega)) (by omega))
        have c0 := objAt_cell o5 0 rfl
        have c1 := objAt_cell o5 1 rfl
        have c2 := objAt_cell o5 2 rfl
        have c3 := objAt_cell o5 3 rfl
        have f0 := objAt_free o5 0
        have f1 := objAt_free o5 1
        have f2 := objAt_free o5 2
        have f3 := objAt_free o5 3
        have zl := objAt_lt o5
        have oF := objAt_set (objAt_set (objAt_set (objAt_set (o5) 0 (.int .i64 q.1.rev)) 1 (.slice d1 q.1.jobs.length p1)) 2 (.slice d2 q.1.nodes.length p2)) 3 (.slice d3 q.1.leases.length p3)
        have t0 := objAt_cell oF 0 rfl
        have t1 := objAt_cell oF 1 rfl
        have t2 := objAt_cell oF 2 rfl
        have t3 := objAt_cell oF 3 rfl
        have TT := Lib.hid (And.intro t0 (And.intro t1 (And.intro t2 t3)))
        clear oF t0 t1 t2 t3
        clear oj5 on5 ol5 hB5 o5
        go_wp2
        obtain ⟨t0, t1, t2, t3⟩ := TT.out
        exact bodyPost_ret (v := .tuple #[.agg #[.int .i64 q.1.rev, .slice d1 q.1.jobs.length p1, .slice d2 q.1.nodes.length p2, .slice d3 q.1.leases.length p3], .int .i64 0]) (by simp [results, Tryz.results16, go_sem, t0, t1, t2, t3]) rfl (by rw [HD.out]; exact ⟨_, _, _, _, _, _, rfl, ZJ.out, ZN.out, ZL.out, B4.out⟩)
  · have hD : wdecR v s.data.toList = (zeroSt, 1) := by unfold wdecR; rw [if_neg hv]
    rw [hD]
    have o0 := objAt_new w #[.int .i64 0, .slice none 0 0, .slice none 0 0, .slice none 0 0] 26
    have z := World.ownsRow_nil (w.alloc (.cells #[.int .i64 0, .slice none 0 0, .slice none 0 0, .slice none 0 0] 26)) w.heap.size
    have Z := Lib.hid z
    have c0 := objAt_cell o0 0 rfl
    have c1 := objAt_cell o0 1 rfl
    have c2 := objAt_cell o0 2 rfl
    have c3 := objAt_cell o0 3 rfl
    clear o0 hD z hT hs
    by_cases h1 : v < 1
    · go_enter Tryz.func16, Tryz.ntmps16
      go_wp2
      exact bodyPost_ret (v := .tuple #[.agg #[.int .i64 0, .slice none 0 0, .slice none 0 0, .slice none 0 0], .int .i64 1]) (by simp [results, Tryz.results16, go_sem]) rfl ⟨none, none, none, 0, 0, 0, rfl, Z.out _ _, Z.out _ _, Z.out _ _, below_one _ _⟩
    · have h3 : (3 : Int) < v := by omega
      have h1' : (1 : Int) ≤ v := by omega
      go_enter Tryz.func16, Tryz.ntmps16
      go_wp2
      exact bodyPost_ret (v := .tuple #[.agg #[.int .i64 0, .slice none 0 0, .slice none 0 0, .slice none 0 0], .int .i64 1]) (by simp [results, Tryz.results16, go_sem]) rfl ⟨none, none, none, 0, 0, 0, rfl, Z.out _ _, Z.out _ _, Z.out _ _, below_one _ _⟩
end Go.Proofs.YthbgaphidojneaaGreatDoor
