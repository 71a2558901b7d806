/- The coder of package wire: a whole state. -/
import Derived.Test.YtdbopgmckndmeaaDoorWiRows
import Derived.Deep.RegionLaw
namespace Go.Proofs.YtdbopgmckndmeaaDoor
open Go.RowKit

/-- The rows that a state came with lie below the coder. -/
def Mem (b : Nat) (aj an al : Option Addr) (s : StD) (w : World) : Prop := ∃ w0 : World, w0.heap.size = b ∧ Below b w0 w ∧ JobsAt w0 aj s.jobs ∧ NodesAt w0 an s.nodes ∧ LeasesAt w0 al s.leases
theorem mem_keep {b : Nat} {aj an al : Option Addr} {s : StD} {w w' : World} (h : Mem b aj an al s w) (hk : Keep b w w') : Mem b aj an al s w' := by
  obtain ⟨w0, hs, hb, h1⟩ := h
  have := hb.size
  exact ⟨w0, hs, hb.trans (keep_low hk (by omega)), h1⟩
theorem mem_jobs {b : Nat} {aj an al : Option Addr} {s : StD} {w : World} (h : Mem b aj an al s w) : JobsAt w aj s.jobs := by
  obtain ⟨w0, rfl, hb, h1, h2, h3⟩ := h
  exact jobsAt_next h1 hb
theorem mem_nodes {b : Nat} {aj an al : Option Addr} {s : StD} {w : World} (h : Mem b aj an al s w) : NodesAt w an s.nodes := by
  obtain ⟨w0, rfl, hb, h1, h2, h3⟩ := h
  exact nodesAt_next h2 hb
theorem mem_leases {b : Nat} {aj an al : Option Addr} {s : StD} {w : World} (h : Mem b aj an al s w) : LeasesAt w al s.leases := by
  obtain ⟨w0, rfl, hb, h1, h2, h3⟩ := h
  exact leasesAt_next h3 hb
theorem lim_rows {α : Type} {f : α → St α} {ok : α → Prop} (most : Nat) (z : α) (l : List α) (hz : ok z) (hl : ∀ x ∈ l, ok x) (hn : l.length ≤ most) (hm : most ≤ 40) (hf : ∀ x, ok x → Lim 64 (f x)) : Lim 3000 (rowsS most z f l) := by
  intro m
  have h1 := lim_lim (most := most) (n := l.length) (by omega) m
  have h2 := lim_le hn m
  have h3 := lim_go (f := f) (K := 64) (padL z l (limS most l.length m).1) (fun x hx => hf x (by
    unfold padL at hx
    obtain ⟨i, _, rfl⟩ := List.mem_map.1 hx
    by_cases hi : i < l.length
    · have e : l.getD i z = l[i] := by simp [hi]
      rw [e]; exact hl _ (List.getElem_mem _)
    · have e : l.getD i z = z := by simp [hi]
      rw [e]; exact hz)) (limS most l.length m).2
  rw [padL_length] at h3
  have e : rowsS most z f l m = goS f (padL z l (limS most l.length m).1) (limS most l.length m).2 := rfl
  rw [e]
  exact ⟨by omega, by omega, by rw [h3.2.2, h1.2.2]⟩
theorem rowSt_drew {b : Nat} {v : Int} {t : TypeId} {m : M} {vs rs : Array Value} {w0 w : World} (h : RowSt b v t m vs rs w0 w) : RowSt b v t m vs rs w0 w.drew := rowSt_call h (code_drew h.1) (keep_drew b w)
theorem rowSt_row {w0 w : World} {B e sz n : Nat} {x : Value} {xs : List Value} (ho : w.ownsRow B e sz x n xs) (hB : w0.heap.size + 2 ≤ B) (j : Nat) (u : Value) : (w.setCell ⟨w0.heap.size, j, none⟩ u).ownsRow B e sz x n xs := by
  refine ⟨ho.1, ?_⟩
  rcases ho.2 with h0 | ⟨g, cap, cur, hv, hbg, hg, r⟩
  · exact .inl h0
  · refine .inr ⟨g, cap, cur, hv, hbg, ?_, r⟩
    rw [Below.heap_setCell w ⟨w0.heap.size, j, none⟩ u g (by show g ≠ w0.heap.size; omega)]
    exact hg
theorem backs4 {w : World} {c B e sz n : Nat} {x : Value} {xs : List Value} {u0 u1 u2 u3 : Value} (ho : w.ownsRow B e sz x n xs) (hc : c < B := by omega) : ((((w.setCell ⟨c, 0, none⟩ u0).setCell ⟨c, 1, none⟩ u1).setCell ⟨c, 2, none⟩ u2).setCell ⟨c, 3, none⟩ u3).ownsRow B e sz x n xs := by
  refine ⟨ho.1, ?_⟩
  rcases ho.2 with h0 | ⟨g, cap, cur, hv, hbg, hg, r⟩
  · exact .inl h0
  · refine .inr ⟨g, cap, cur, hv, hbg, ?_, r⟩
    have ne : g ≠ c := by omega
    rw [Below.heap_setCell _ ⟨c, 3, none⟩ u3 g ne, Below.heap_setCell _ ⟨c, 2, none⟩ u2 g ne, Below.heap_setCell _ ⟨c, 1, none⟩ u1 g ne, Below.heap_setCell _ ⟨c, 0, none⟩ u0 g ne]
    exact hg
theorem ownsRow_low {w : World} {B B' e size n : Nat} {v : Value} {xs : List Value} (h : w.ownsRow B e size v n xs) (hb : B' ≤ B) : w.ownsRow B' e size v n xs := by
  refine ⟨h.1, ?_⟩
  rcases h.2 with h0 | ⟨g, cap, cur, hv, hbg, r⟩
  · exact .inl h0
  · exact .inr ⟨g, cap, cur, hv, by omega, r⟩
theorem upTo40 (b : Nat) (w : World) :
    Calls Tryd.prog 48 #[.pointer (some ⟨b, 0, none⟩), .int .u64 40] w fun r w' => r = .returned (.func (.func 94) #[] #[.pointer (some ⟨w.heap.size, 0, none⟩), .pointer (some ⟨w.heap.size + 1, 0, none⟩)]) ∧
      ObjAt w.heap.size #[.pointer (some ⟨b, 0, none⟩)] 78 w' ∧ ObjAt (w.heap.size + 1) #[.int .u64 ((40 : Nat) : Int)] 74 w' ∧ Below w.heap.size w w' := upTo_is b 40 w
theorem upTo20 (b : Nat) (w : World) :
    Calls Tryd.prog 48 #[.pointer (some ⟨b, 0, none⟩), .int .u64 20] w fun r w' => r = .returned (.func (.func 94) #[] #[.pointer (some ⟨w.heap.size, 0, none⟩), .pointer (some ⟨w.heap.size + 1, 0, none⟩)]) ∧
      ObjAt w.heap.size #[.pointer (some ⟨b, 0, none⟩)] 78 w' ∧ ObjAt (w.heap.size + 1) #[.int .u64 ((20 : Nat) : Int)] 74 w' ∧ Below w.heap.size w w' := upTo_is b 20 w
set_option maxRecDepth 100000 in
set_option maxHeartbeats 4000000 in
theorem whole_1 {b : Nat} {v : Int} {m : M} (s : StD) (aj an al : Option Addr) (cj cn cl : Nat) (hv : v < 3) (hok : okSt V8 v s) (hs : m.rest.size ≤ 1152921504606846976) (hg : m.gs.length ≤ 800000000) (w : World) (h : CodeAt b v m w) (hE : Env b w) (hM : Mem b aj an al s w) :
    Calls Tryd.prog 22 #[.pointer (some ⟨b, 0, none⟩), .agg #[.int .i64 s.rev, .slice aj s.jobs.length cj, .slice an s.nodes.length cn, .slice al s.leases.length cl]] w fun r w' => ∃ y1 y2 y3, r = .returned (.agg #[.int .i64 (wholeS v s m).1.rev, y1, y2, y3]) ∧
      w'.ownsRow (w.heap.size + 2) 64 5 y1 (wholeS v s m).1.jobs.length (cJobs (wholeS v s m).1.jobs) ∧ w'.ownsRow (w.heap.size + 2) 67 3 y2 (wholeS v s m).1.nodes.length (cNodes (wholeS v s m).1.nodes) ∧ w'.ownsRow (w.heap.size + 2) 70 3 y3 (wholeS v s m).1.leases.length (cLeases (wholeS v s m).1.leases) ∧ CodeAt b v (wholeS v s m).2 w' ∧ Keep b w w' := by
  have s0 := rowSt_new (t := 26) #[.int .i64 s.rev, .slice aj s.jobs.length cj, .slice an s.nodes.length cn, .slice al s.leases.length cl] #[.int .i64 0, .slice none 0 0, .slice none 0 0, .slice none 0 0] h hE (by decide)
  have HM := Lib.hid hM
  have hd : decide ((2 : Int) < v) = false := by simp; omega
  obtain ⟨r0, e0⟩ : ∃ r : Int × M, (s.rev, m) = r := ⟨_, rfl⟩
  have l0 : r0.2.gs.length ≤ m.gs.length + 10 ∧ r0.2.rest.size ≤ m.rest.size ∧ r0.2.reading = m.reading := by rw [← e0]; exact ⟨by simp, Nat.le_refl _, rfl⟩
  replace l0 : r0.2.gs.length ≤ 800000010 ∧ r0.2.rest.size ≤ 1152921504606846976 := ⟨by omega, by omega⟩
  have l1 := lim_rows 40 zJob s.jobs (ok_zJob v) hok.2.1.2 hok.2.1.1 (by omega) (fun x hx => lim_job hx) r0.2
  obtain ⟨r1, e1⟩ : ∃ r, rowsS 40 zJob (jobS v) s.jobs r0.2 = r := ⟨_, rfl⟩
  rw [e1] at l1
  replace l1 : r1.2.gs.length ≤ 800003010 ∧ r1.2.rest.size ≤ 1152921504606846976 := ⟨by omega, by omega⟩
  have E1 := Lib.hid e1
  have l2 := lim_rows 20 zNode s.nodes (ok_zNode v) hok.2.2.1.2 hok.2.2.1.1 (by omega) (fun x hx => lim_node hx) r1.2
  obtain ⟨r2, e2⟩ : ∃ r, rowsS 20 zNode (nodeS v) s.nodes r1.2 = r := ⟨_, rfl⟩
  rw [e2] at l2
  replace l2 : r2.2.gs.length ≤ 800006010 ∧ r2.2.rest.size ≤ 1152921504606846976 := ⟨by omega, by omega⟩
  have E2 := Lib.hid e2
  have l3 := lim_rows 40 zLease s.leases ok_zLease hok.2.2.2.2 hok.2.2.2.1 (by omega) (fun x hx => lim_lease hx) r2.2
  obtain ⟨r3, e3⟩ : ∃ r, rowsS 40 zLease leaseS s.leases r2.2 = r := ⟨_, rfl⟩
  rw [e3] at l3
  replace l3 : r3.2.gs.length ≤ 800009010 ∧ r3.2.rest.size ≤ 1152921504606846976 := ⟨by omega, by omega⟩
  have E3 := Lib.hid e3
  have eS : wholeS v s m = (⟨r0.1, r1.1, r2.1, r3.1⟩, r3.2) := by
    have a0 : r0.1 = s.rev := by rw [← e0]
    have a1 : r0.2 = m := by rw [← e0]
    rw [a1] at e1
    simp only [wholeS, bindS, pureS, hd, Bool.false_eq_true, if_false, e1, e2, e3, a0]
  rw [eS]
  simp only
  clear eS hd e1 e2 e3 hM
  have hne : ¬ b = w.heap.size := by have := s0.2.2.2.2.2.1; omega
  have hne' : ¬ w.heap.size = b := by omega
  have v0 := (code_cells h).1
  have hlb := code_lt h
  have hr0 : s.rev = r0.1 := by rw [← e0]
  have hm0 : m = r0.2 := by rw [← e0]
  rw [hr0] at s0 ⊢
  rw [hm0] at s0
  have SW := Lib.hid s0
  clear s0 h hE e0
  go_enter Tryd.func22, Tryd.ntmps22
  go_upto_region 3 with fail
  clear hlb v0
  generalize (w.alloc (.cells #[.int .i64 r0.1, .slice aj s.jobs.length cj, .slice an s.nodes.length cn, .slice al s.leases.length cl] 26)).alloc (.cells #[.int .i64 0, .slice none 0 0, .slice none 0 0, .slice none 0 0] 26) = W at SW ⊢
  go_cut [] from 5 (fun wc => ∃ y1, RowSt b v 26 r1.2 #[.int .i64 r0.1, y1, .slice an s.nodes.length cn, .slice al s.leases.length cl] #[.int .i64 0, .slice none 0 0, .slice none 0 0, .slice none 0 0] w wc ∧ wc.ownsRow (w.heap.size + 2) 64 5 y1 r1.1.length (cJobs r1.1))
  case first =>
    have sW := SW.out
    have c0 := objAt_cell sW.2.1 0 rfl
    have c1 := objAt_cell sW.2.1 1 rfl
    have c2 := objAt_cell sW.2.1 2 rfl
    have c3 := objAt_cell sW.2.1 3 rfl
    have f1 := objAt_free sW.2.1 1
    have zl := objAt_lt sW.2.1
    clear sW
    go_region_law (first
      | (go_simp; go_at_call 48; refine (upTo40 b _).mono ?_; rintro r x1 ⟨rfl, o1, o2, b1⟩; have s1 := rowSt_call (w := W.drew) (rowSt_drew SW.out) (code_next (w := W.drew) SW.out.1 b1) (keep_below (w := W.drew) b1); have S1 := Lib.hid s1; have c0 := objAt_cell s1.2.1 0 rfl; have c1 := objAt_cell s1.2.1 1 rfl; have c2 := objAt_cell s1.2.1 2 rfl; have c3 := objAt_cell s1.2.1 3 rfl; have f1 := objAt_free s1.2.1 1; have zl1 := objAt_lt s1.2.1; clear s1)
      | (go_simp; go_at_call 47; refine (codeJobs_is s.jobs aj cj 40 hok.2.1.1 (by omega) hok.2.1.2 l0.2 (by omega) _ S1.out.1 S1.out.2.2.2.2.1 (fun w' hk => mem_jobs (mem_keep HM.out (keep_trans S1.out.2.2.2.1 hk))) _ _ o1 o2).mono ?_; rintro r x2 ⟨y, rfl, oy, h2, k2⟩; rw [E1.out] at oy h2; obtain ⟨ady, cpy, rfl⟩ := ownRow_slice oy; have s2 := rowSt_call S1.out h2 k2; have S2 := Lib.hid s2; have K2 := Lib.hid k2; have OY := Lib.hid oy; have c0 := objAt_cell s2.2.1 0 rfl; have c1 := objAt_cell s2.2.1 1 rfl; have c2 := objAt_cell s2.2.1 2 rfl; have c3 := objAt_cell s2.2.1 3 rfl; have f1 := objAt_free s2.2.1 1; have zl2 := objAt_lt s2.2.1; clear s2 k2 h2 oy))
    all_goals
      go_wp2_with fail
      go_meet
      case rel =>
        have hW : W.drew.heap.size = W.heap.size := rfl
        have hw2 : w.heap.size + 2 ≤ W.heap.size := by have := objAt_lt SW.out.2.2.1; omega
        have hx1 := (show W.heap.size ≤ x1.heap.size from b1.size)
        have oY := ownsRow_low (B' := w.heap.size + 2) OY.out (by omega)
        have kW : Keep b W x2 := keep_trans (keep_trans (keep_drew b W) (keep_below (w := W.drew) b1)) K2.out
        exact ⟨_, rowSt_store S2.out 1 _, rowSt_row oY (Nat.le_refl _) 1 _⟩
  case rest =>
    obtain ⟨y1, SW', O1'⟩ := hcut
    clear SW
    obtain ⟨d1, p1_, rfl⟩ := ownRow_slice O1'
    have SW := Lib.hid SW'
    have O1 := Lib.hid O1'
    clear SW' O1'
    go_upto_region 4 with fail
    go_cut [] from 5 (fun wc => ∃ y1 y2, RowSt b v 26 r2.2 #[.int .i64 r0.1, y1, y2, .slice al s.leases.length cl] #[.int .i64 0, .slice none 0 0, .slice none 0 0, .slice none 0 0] w wc ∧ wc.ownsRow (w.heap.size + 2) 64 5 y1 r1.1.length (cJobs r1.1) ∧ wc.ownsRow (w.heap.size + 2) 67 3 y2 r2.1.length (cNodes r2.1))
    case first =>
      have sW := SW.out
      have c0 := objAt_cell sW.2.1 0 rfl
      have c1 := objAt_cell sW.2.1 1 rfl
      have c2 := objAt_cell sW.2.1 2 rfl
      have c3 := objAt_cell sW.2.1 3 rfl
      have f2 := objAt_free sW.2.1 2
      have zl := objAt_lt sW.2.1
      clear sW
      go_region_law (first
        | (go_simp; go_at_call 48; refine (upTo20 b _).mono ?_; rintro r x1 ⟨rfl, o1, o2, b1⟩; have s1 := rowSt_call (w := wc.drew) (rowSt_drew SW.out) (code_next (w := wc.drew) SW.out.1 b1) (keep_below (w := wc.drew) b1); have S1 := Lib.hid s1; have c0 := objAt_cell s1.2.1 0 rfl; have c1 := objAt_cell s1.2.1 1 rfl; have c2 := objAt_cell s1.2.1 2 rfl; have c3 := objAt_cell s1.2.1 3 rfl; have f2 := objAt_free s1.2.1 2; have zl1 := objAt_lt s1.2.1; clear s1)
        | (go_simp; go_at_call 50; refine (codeNodes_is s.nodes an cn 20 hok.2.2.1.1 (by omega) hok.2.2.1.2 l1.2 (by omega) _ S1.out.1 S1.out.2.2.2.2.1 (fun w' hk => mem_nodes (mem_keep HM.out (keep_trans S1.out.2.2.2.1 hk))) _ _ o1 o2).mono ?_; rintro r x2 ⟨y, rfl, oy, h2, k2⟩; rw [E2.out] at oy h2; obtain ⟨ady, cpy, rfl⟩ := ownRow_slice oy; have s2 := rowSt_call S1.out h2 k2; have S2 := Lib.hid s2; have K2 := Lib.hid k2; have OY := Lib.hid oy; have c0 := objAt_cell s2.2.1 0 rfl; have c1 := objAt_cell s2.2.1 1 rfl; have c2 := objAt_cell s2.2.1 2 rfl; have c3 := objAt_cell s2.2.1 3 rfl; have f2 := objAt_free s2.2.1 2; have zl2 := objAt_lt s2.2.1; clear s2 k2 h2 oy))
      all_goals
        go_wp2_with fail
        go_meet
        case rel =>
          have hW : wc.drew.heap.size = wc.heap.size := rfl
          have hw2 : w.heap.size + 2 ≤ wc.heap.size := by have := objAt_lt SW.out.2.2.1; omega
          have hx1 := (show wc.heap.size ≤ x1.heap.size from b1.size)
          have oY := ownsRow_low (B' := w.heap.size + 2) OY.out (by omega)
          have kW : Keep b wc x2 := keep_trans (keep_trans (keep_drew b wc) (keep_below (w := wc.drew) b1)) K2.out
          exact ⟨_, _, rowSt_store S2.out 2 _, rowSt_row (keep_row O1.out kW (by have := SW.out.2.2.2.2.2.1; omega) (by decide)) (Nat.le_refl _) 2 _, rowSt_row oY (Nat.le_refl _) 2 _⟩
    case rest =>
      obtain ⟨y1, y2, SW', O1', O2'⟩ := hcut
      clear SW O1
      obtain ⟨d1, p1_, rfl⟩ := ownRow_slice O1'
      obtain ⟨d2, p2_, rfl⟩ := ownRow_slice O2'
      have SW := Lib.hid SW'
      have O1 := Lib.hid O1'
      have O2 := Lib.hid O2'
      clear SW' O1' O2'
      go_upto_region 5 with fail
      go_cut [] from 5 (fun wc => ∃ y1 y2 y3, RowSt b v 26 r3.2 #[.int .i64 r0.1, y1, y2, y3] #[.int .i64 0, .slice none 0 0, .slice none 0 0, .slice none 0 0] w wc ∧ wc.ownsRow (w.heap.size + 2) 64 5 y1 r1.1.length (cJobs r1.1) ∧ wc.ownsRow (w.heap.size + 2) 67 3 y2 r2.1.length (cNodes r2.1) ∧ wc.ownsRow (w.heap.size + 2) 70 3 y3 r3.1.length (cLeases r3.1))
      case first =>
        have sW := SW.out
        have c0 := objAt_cell sW.2.1 0 rfl
        have c1 := objAt_cell sW.2.1 1 rfl
        have c2 := objAt_cell sW.2.1 2 rfl
        have c3 := objAt_cell sW.2.1 3 rfl
        have f3 := objAt_free sW.2.1 3
        have zl := objAt_lt sW.2.1
        clear sW
        go_region_law (first
          | (go_simp; go_at_call 48; refine (upTo40 b _).mono ?_; rintro r x1 ⟨rfl, o1, o2, b1⟩; have s1 := rowSt_call (w := wc.drew) (rowSt_drew SW.out) (code_next (w := wc.drew) SW.out.1 b1) (keep_below (w := wc.drew) b1); have S1 := Lib.hid s1; have c0 := objAt_cell s1.2.1 0 rfl; have c1 := objAt_cell s1.2.1 1 rfl; have c2 := objAt_cell s1.2.1 2 rfl; have c3 := objAt_cell s1.2.1 3 rfl; have f3 := objAt_free s1.2.1 3; have zl1 := objAt_lt s1.2.1; clear s1)
          | (go_simp; go_at_call 52; refine (codeLeases_is s.leases al cl 40 hok.2.2.2.1 (by omega) hok.2.2.2.2 l2.2 (by omega) _ S1.out.1 S1.out.2.2.2.2.1 (fun w' hk => mem_leases (mem_keep HM.out (keep_trans S1.out.2.2.2.1 hk))) _ _ o1 o2).mono ?_; rintro r x2 ⟨y, rfl, oy, h2, k2⟩; rw [E3.out] at oy h2; obtain ⟨ady, cpy, rfl⟩ := ownRow_slice oy; have s2 := rowSt_call S1.out h2 k2; have S2 := Lib.hid s2; have K2 := Lib.hid k2; have OY := Lib.hid oy; have c0 := objAt_cell s2.2.1 0 rfl; have c1 := objAt_cell s2.2.1 1 rfl; have c2 := objAt_cell s2.2.1 2 rfl; have c3 := objAt_cell s2.2.1 3 rfl; have f3 := objAt_free s2.2.1 3; have zl2 := objAt_lt s2.2.1; clear s2 k2 h2 oy))
        all_goals
          go_wp2_with fail
          go_meet
          case rel =>
            have hW : wc.drew.heap.size = wc.heap.size := rfl
            have hw2 : w.heap.size + 2 ≤ wc.heap.size := by have := objAt_lt SW.out.2.2.1; omega
            have hx1 := (show wc.heap.size ≤ x1.heap.size from b1.size)
            have oY := ownsRow_low (B' := w.heap.size + 2) OY.out (by omega)
            have kW : Keep b wc x2 := keep_trans (keep_trans (keep_drew b wc) (keep_below (w := wc.drew) b1)) K2.out
            exact ⟨_, _, _, rowSt_store S2.out 3 _, rowSt_row (keep_row O1.out kW (by have := SW.out.2.2.2.2.2.1; omega) (by decide)) (Nat.le_refl _) 3 _, rowSt_row (keep_row O2.out kW (by have := SW.out.2.2.2.2.2.1; omega) (by decide)) (Nat.le_refl _) 3 _, rowSt_row oY (Nat.le_refl _) 3 _⟩
      case rest =>
        obtain ⟨y1, y2, y3, SW', O1', O2', O3'⟩ := hcut
        clear SW O1 O2
        obtain ⟨d1, p1_, rfl⟩ := ownRow_slice O1'
        obtain ⟨d2, p2_, rfl⟩ := ownRow_slice O2'
        obtain ⟨d3, p3_, rfl⟩ := ownRow_slice O3'
        have SW := Lib.hid SW'
        have O1 := Lib.hid O1'
        have O2 := Lib.hid O2'
        have O3 := Lib.hid O3'
        clear SW' O1' O2' O3'
        have sW := SW.out
        have c0 := objAt_cell sW.2.1 0 rfl
        have p0 := objAt_cell sW.2.2.1 0 rfl
        have f0 := objAt_free sW.2.2.1 0
        have c1 := objAt_cell sW.2.1 1 rfl
        have p1 := objAt_cell sW.2.2.1 1 rfl
        have f1 := objAt_free sW.2.2.1 1
        have c2 := objAt_cell sW.2.1 2 rfl
        have p2 := objAt_cell sW.2.2.1 2 rfl
        have f2 := objAt_free sW.2.2.1 2
        have c3 := objAt_cell sW.2.1 3 rfl
        have p3 := objAt_cell sW.2.2.1 3 rfl
        have f3 := objAt_free sW.2.2.1 3
        have zl := objAt_lt sW.2.1
        have zl2 := objAt_lt sW.2.2.1
        have sF := rowSt_back (rowSt_back (rowSt_back (rowSt_back sW 0 (.int .i64 r0.1)) 1 (.slice d1 r1.1.length p1_)) 2 (.slice d2 r2.1.length p2_)) 3 (.slice d3 r3.1.length p3_)
        have SF := Lib.hid sF
        have t0 := objAt_cell sF.2.2.1 0 rfl
        have t1 := objAt_cell sF.2.2.1 1 rfl
        have t2 := objAt_cell sF.2.2.1 2 rfl
        have t3 := objAt_cell sF.2.2.1 3 rfl
        have TT := Lib.hid (And.intro t0 (And.intro t1 (And.intro t2 t3)))
        clear sF sW t0 t1 t2 t3
        go_wp2
        obtain ⟨t0, t1, t2, t3⟩ := TT.out
        exact bodyPost_ret (v := .agg #[.int .i64 r0.1, .slice d1 r1.1.length p1_, .slice d2 r2.1.length p2_, .slice d3 r3.1.length p3_]) (by simp [results, Tryd.results22, go_sem, t0, t1, t2, t3]) rfl ⟨_, _, _, rfl, backs4 O1.out, backs4 O2.out, backs4 O3.out, SF.out.1, SF.out.2.2.2.1⟩
set_option maxRecDepth 100000 in
set_option maxHeartbeats 4000000 in
theorem whole_3 {b : Nat} {v : Int} {m : M} (s : StD) (aj an al : Option Addr) (cj cn cl : Nat) (hv : 3 ≤ v) (hok : okSt V8 v s) (hs : m.rest.size ≤ 1152921504606846976) (hg : m.gs.length ≤ 800000000) (w : World) (h : CodeAt b v m w) (hE : Env b w) (hM : Mem b aj an al s w) :
    Calls Tryd.prog 22 #[.pointer (some ⟨b, 0, none⟩), .agg #[.int .i64 s.rev, .slice aj s.jobs.length cj, .slice an s.nodes.length cn, .slice al s.leases.length cl]] w fun r w' => ∃ y1 y2 y3, r = .returned (.agg #[.int .i64 (wholeS v s m).1.rev, y1, y2, y3]) ∧
      w'.ownsRow (w.heap.size + 2) 64 5 y1 (wholeS v s m).1.jobs.length (cJobs (wholeS v s m).1.jobs) ∧ w'.ownsRow (w.heap.size + 2) 67 3 y2 (wholeS v s m).1.nodes.length (cNodes (wholeS v s m).1.nodes) ∧ w'.ownsRow (w.heap.size + 2) 70 3 y3 (wholeS v s m).1.leases.length (cLeases (wholeS v s m).1.leases) ∧ CodeAt b v (wholeS v s m).2 w' ∧ Keep b w w' := by
  have s0 := rowSt_new (t := 26) #[.int .i64 s.rev, .slice aj s.jobs.length cj, .slice an s.nodes.length cn, .slice al s.leases.length cl] #[.int .i64 0, .slice none 0 0, .slice none 0 0, .slice none 0 0] h hE (by decide)
  have HM := Lib.hid hM
  have hd : decide ((2 : Int) < v) = true := by simp; omega
  have hrev := hok.1
  rw [hd, if_pos rfl] at hrev
  have l0 := lim_numb hrev.2 m
  obtain ⟨r0, e0⟩ : ∃ r, numbS s.rev m = r := ⟨_, rfl⟩
  rw [e0] at l0
  replace l0 : r0.2.gs.length ≤ 800000010 ∧ r0.2.rest.size ≤ 1152921504606846976 := ⟨by omega, by omega⟩
  have l1 := lim_rows 40 zJob s.jobs (ok_zJob v) hok.2.1.2 hok.2.1.1 (by omega) (fun x hx => lim_job hx) r0.2
  obtain ⟨r1, e1⟩ : ∃ r, rowsS 40 zJob (jobS v) s.jobs r0.2 = r := ⟨_, rfl⟩
  rw [e1] at l1
  replace l1 : r1.2.gs.length ≤ 800003010 ∧ r1.2.rest.size ≤ 1152921504606846976 := ⟨by omega, by omega⟩
  have E1 := Lib.hid e1
  have l2 := lim_rows 20 zNode s.nodes (ok_zNode v) hok.2.2.1.2 hok.2.2.1.1 (by omega) (fun x hx => lim_node hx) r1.2
  obtain ⟨r2, e2⟩ : ∃ r, rowsS 20 zNode (nodeS v) s.nodes r1.2 = r := ⟨_, rfl⟩
  rw [e2] at l2
  replace l2 : r2.2.gs.length ≤ 800006010 ∧ r2.2.rest.size ≤ 1152921504606846976 := ⟨by omega, by omega⟩
  have E2 := Lib.hid e2
  have l3 := lim_rows 40 zLease s.leases ok_zLease hok.2.2.2.2 hok.2.2.2.1 (by omega) (fun x hx => lim_lease hx) r2.2
  obtain ⟨r3, e3⟩ : ∃ r, rowsS 40 zLease leaseS s.leases r2.2 = r := ⟨_, rfl⟩
  rw [e3] at l3
  replace l3 : r3.2.gs.length ≤ 800009010 ∧ r3.2.rest.size ≤ 1152921504606846976 := ⟨by omega, by omega⟩
  have E3 := Lib.hid e3
  have eS : wholeS v s m = (⟨r0.1, r1.1, r2.1, r3.1⟩, r3.2) := by simp only [wholeS, bindS, pureS, hd, if_true, e0, e1, e2, e3]
  rw [eS]
  simp only
  clear eS hd e1 e2 e3 hM
  have hne : ¬ b = w.heap.size := by have := s0.2.2.2.2.2.1; omega
  have hne' : ¬ w.heap.size = b := by omega
  have v0 := (code_cells h).1
  have hlb := code_lt h
  have H0 := number_in s.rev hrev hs (by omega) _ s0.1
  rw [e0] at H0
  have H0 := Lib.hid H0
  have S0 := Lib.hid s0
  clear s0 h hE e0
  go_enter Tryd.func22, Tryd.ntmps22
  go_wp2_with fail
  refine H0.out.mono ?_
  rintro r w1 ⟨rfl, h1, k1⟩
  have s1 := rowSt_call S0.out h1 k1
  have s1' := rowSt_store s1 0 (.int .i64 r0.1)
  have f0 := objAt_free s1.2.1 0
  have c0 := objAt_cell s1.2.1 0 rfl
  have z0 := objAt_lt s1.2.1
  have SW := Lib.hid s1'
  clear s1 s1' S0 H0 h1 k1 v0
  go_upto_region 3 with fail
  clear f0 c0 z0 hlb
  generalize w1.setCell ⟨w.heap.size, 0, none⟩ (.int .i64 r0.1) = W at SW ⊢
  go_cut [] from 5 (fun wc => ∃ y1, RowSt b v 26 r1.2 #[.int .i64 r0.1, y1, .slice an s.nodes.length cn, .slice al s.leases.length cl] #[.int .i64 0, .slice none 0 0, .slice none 0 0, .slice none 0 0] w wc ∧ wc.ownsRow (w.heap.size + 2) 64 5 y1 r1.1.length (cJobs r1.1))
  case first =>
    have sW := SW.out
    have c0 := objAt_cell sW.2.1 0 rfl
    have c1 := objAt_cell sW.2.1 1 rfl
    have c2 := objAt_cell sW.2.1 2 rfl
    have c3 := objAt_cell sW.2.1 3 rfl
    have f1 := objAt_free sW.2.1 1
    have zl := objAt_lt sW.2.1
    clear sW
    go_region_law (first
      | (go_simp; go_at_call 48; refine (upTo40 b _).mono ?_; rintro r x1 ⟨rfl, o1, o2, b1⟩; have s1 := rowSt_call (w := W.drew) (rowSt_drew SW.out) (code_next (w := W.drew) SW.out.1 b1) (keep_below (w := W.drew) b1); have S1 := Lib.hid s1; have c0 := objAt_cell s1.2.1 0 rfl; have c1 := objAt_cell s1.2.1 1 rfl; have c2 := objAt_cell s1.2.1 2 rfl; have c3 := objAt_cell s1.2.1 3 rfl; have f1 := objAt_free s1.2.1 1; have zl1 := objAt_lt s1.2.1; clear s1)
      | (go_simp; go_at_call 47; refine (codeJobs_is s.jobs aj cj 40 hok.2.1.1 (by omega) hok.2.1.2 l0.2 (by omega) _ S1.out.1 S1.out.2.2.2.2.1 (fun w' hk => mem_jobs (mem_keep HM.out (keep_trans S1.out.2.2.2.1 hk))) _ _ o1 o2).mono ?_; rintro r x2 ⟨y, rfl, oy, h2, k2⟩; rw [E1.out] at oy h2; obtain ⟨ady, cpy, rfl⟩ := ownRow_slice oy; have s2 := rowSt_call S1.out h2 k2; have S2 := Lib.hid s2; have K2 := Lib.hid k2; have OY := Lib.hid oy; have c0 := objAt_cell s2.2.1 0 rfl; have c1 := objAt_cell s2.2.1 1 rfl; have c2 := objAt_cell s2.2.1 2 rfl; have c3 := objAt_cell s2.2.1 3 rfl; have f1 := objAt_free s2.2.1 1; have zl2 := objAt_lt s2.2.1; clear s2 k2 h2 oy))
    all_goals
      go_wp2_with fail
      go_meet
      case rel =>
        have hW : W.drew.heap.size = W.heap.size := rfl
        have hw2 : w.heap.size + 2 ≤ W.heap.size := by have := objAt_lt SW.out.2.2.1; omega
        have hx1 := (show W.heap.size ≤ x1.heap.size from b1.size)
        have oY := ownsRow_low (B' := w.heap.size + 2) OY.out (by omega)
        have kW : Keep b W x2 := keep_trans (keep_trans (keep_drew b W) (keep_below (w := W.drew) b1)) K2.out
        exact ⟨_, rowSt_store S2.out 1 _, rowSt_row oY (Nat.le_refl _) 1 _⟩
  case rest =>
    obtain ⟨y1, SW', O1'⟩ := hcut
    clear SW
    obtain ⟨d1, p1_, rfl⟩ := ownRow_slice O1'
    have SW := Lib.hid SW'
    have O1 := Lib.hid O1'
    clear SW' O1'
    go_upto_region 4 with fail
    go_cut [] from 5 (fun wc => ∃ y1 y2, RowSt b v 26 r2.2 #[.int .i64 r0.1, y1, y2, .slice al s.leases.length cl] #[.int .i64 0, .slice none 0 0, .slice none 0 0, .slice none 0 0] w wc ∧ wc.ownsRow (w.heap.size + 2) 64 5 y1 r1.1.length (cJobs r1.1) ∧ wc.ownsRow (w.heap.size + 2) 67 3 y2 r2.1.length (cNodes r2.1))
    case first =>
      have sW := SW.out
      have c0 := objAt_cell sW.2.1 0 rfl
      have c1 := objAt_cell sW.2.1 1 rfl
      have c2 := objAt_cell sW.2.1 2 rfl
      have c3 := objAt_cell sW.2.1 3 rfl
      have f2 := objAt_free sW.2.1 2
      have zl := objAt_lt sW.2.1
      clear sW
      go_region_law (first
        | (go_simp; go_at_call 48; refine (upTo20 b _).mono ?_; rintro r x1 ⟨rfl, o1, o2, b1⟩; have s1 := rowSt_call (w := wc.drew) (rowSt_drew SW.out) (code_next (w := wc.drew) SW.out.1 b1) (keep_below (w := wc.drew) b1); have S1 := Lib.hid s1; have c0 := objAt_cell s1.2.1 0 rfl; have c1 := objAt_cell s1.2.1 1 rfl; have c2 := objAt_cell s1.2.1 2 rfl; have c3 := objAt_cell s1.2.1 3 rfl; have f2 := objAt_free s1.2.1 2; have zl1 := objAt_lt s1.2.1; clear s1)
        | (go_simp; go_at_call 50; refine (codeNodes_is s.nodes an cn 20 hok.2.2.1.1 (by omega) hok.2.2.1.2 l1.2 (by omega) _ S1.out.1 S1.out.2.2.2.2.1 (fun w' hk => mem_nodes (mem_keep HM.out (keep_trans S1.out.2.2.2.1 hk))) _ _ o1 o2).mono ?_; rintro r x2 ⟨y, rfl, oy, h2, k2⟩; rw [E2.out] at oy h2; obtain ⟨ady, cpy, rfl⟩ := ownRow_slice oy; have s2 := rowSt_call S1.out h2 k2; have S2 := Lib.hid s2; have K2 := Lib.hid k2; have OY := Lib.hid oy; have c0 := objAt_cell s2.2.1 0 rfl; have c1 := objAt_cell s2.2.1 1 rfl; have c2 := objAt_cell s2.2.1 2 rfl; have c3 := objAt_cell s2.2.1 3 rfl; have f2 := objAt_free s2.2.1 2; have zl2 := objAt_lt s2.2.1; clear s2 k2 h2 oy))
      all_goals
        go_wp2_with fail
        go_meet
        case rel =>
          have hW : wc.drew.heap.size = wc.heap.size := rfl
          have hw2 : w.heap.size + 2 ≤ wc.heap.size := by have := objAt_lt SW.out.2.2.1; omega
          have hx1 := (show wc.heap.size ≤ x1.heap.size from b1.size)
          have oY := ownsRow_low (B' := w.heap.size + 2) OY.out (by omega)
          have kW : Keep b wc x2 := keep_trans (keep_trans (keep_drew b wc) (keep_below (w := wc.drew) b1)) K2.out
          exact ⟨_, _, rowSt_store S2.out 2 _, rowSt_row (keep_row O1.out kW (by have := SW.out.2.2.2.2.2.1; omega) (by decide)) (Nat.le_refl _) 2 _, rowSt_row oY (Nat.le_refl _) 2 _⟩
    case rest =>
      obtain ⟨y1, y2, SW', O1', O2'⟩ := hcut
      clear SW O1
      obtain ⟨d1, p1_, rfl⟩ := ownRow_slice O1'
      obtain ⟨d2, p2_, rfl⟩ := ownRow_slice O2'
      have SW := Lib.hid SW'
      have O1 := Lib.hid O1'
      have O2 := Lib.hid O2'
      clear SW' O1' O2'
      go_upto_region 5 with fail
      go_cut [] from 5 (fun wc => ∃ y1 y2 y3, RowSt b v 26 r3.2 #[.int .i64 r0.1, y1, y2, y3] #[.int .i64 0, .slice none 0 0, .slice none 0 0, .slice none 0 0] w wc ∧ wc.ownsRow (w.heap.size + 2) 64 5 y1 r1.1.length (cJobs r1.1) ∧ wc.ownsRow (w.heap.size + 2) 67 3 y2 r2.1.length (cNodes r2.1) ∧ wc.ownsRow (w.heap.size + 2) 70 3 y3 r3.1.length (cLeases r3.1))
      case first =>
        have sW := SW.out
        have c0 := objAt_cell sW.2.1 0 rfl
        have c1 := objAt_cell sW.2.1 1 rfl
        have c2 := objAt_cell sW.2.1 2 rfl
        have c3 := objAt_cell sW.2.1 3 rfl
        have f3 := objAt_free sW.2.1 3
        have zl := objAt_lt sW.2.1
        clear sW
        go_region_law (first
          | (go_simp; go_at_call 48; refine (upTo40 b _).mono ?_; rintro r x1 ⟨rfl, o1, o2, b1⟩; have s1 := rowSt_call (w := wc.drew) (rowSt_drew SW.out) (code_next (w := wc.drew) SW.out.1 b1) (keep_below (w := wc.drew) b1); have S1 := Lib.hid s1; have c0 := objAt_cell s1.2.1 0 rfl; have c1 := objAt_cell s1.2.1 1 rfl; have c2 := objAt_cell s1.2.1 2 rfl; have c3 := objAt_cell s1.2.1 3 rfl; have f3 := objAt_free s1.2.1 3; have zl1 := objAt_lt s1.2.1; clear s1)
          | (go_simp; go_at_call 52; refine (codeLeases_is s.leases al cl 40 hok.2.2.2.1 (by omega) hok.2.2.2.2 l2.2 (by omega) _ S1.out.1 S1.out.2.2.2.2.1 (fun w' hk => mem_leases (mem_keep HM.out (keep_trans S1.out.2.2.2.1 hk))) _ _ o1 o2).mono ?_; rintro r x2 ⟨y, rfl, oy, h2, k2⟩; rw [E3.out] at oy h2; obtain ⟨ady, cpy, rfl⟩ := ownRow_slice oy; have s2 := rowSt_call S1.out h2 k2; have S2 := Lib.hid s2; have K2 := Lib.hid k2; have OY := Lib.hid oy; have c0 := objAt_cell s2.2.1 0 rfl; have c1 := objAt_cell s2.2.1 1 rfl; have c2 := objAt_cell s2.2.1 2 rfl; have c3 := objAt_cell s2.2.1 3 rfl; have f3 := objAt_free s2.2.1 3; have zl2 := objAt_lt s2.2.1; clear s2 k2 h2 oy))
        all_goals
          go_wp2_with fail
          go_meet
          case rel =>
            have hW : wc.drew.heap.size = wc.heap.size := rfl
            have hw2 : w.heap.size + 2 ≤ wc.heap.size := by have := objAt_lt SW.out.2.2.1; omega
            have hx1 := (show wc.heap.size ≤ x1.heap.size from b1.size)
            have oY := ownsRow_low (B' := w.heap.size + 2) OY.out (by omega)
            have kW : Keep b wc x2 := keep_trans (keep_trans (keep_drew b wc) (keep_below (w := wc.drew) b1)) K2.out
            exact ⟨_, _, _, rowSt_store S2.out 3 _, rowSt_row (keep_row O1.out kW (by have := SW.out.2.2.2.2.2.1; omega) (by decide)) (Nat.le_refl _) 3 _, rowSt_row (keep_row O2.out kW (by have := SW.out.2.2.2.2.2.1; omega) (by decide)) (Nat.le_refl _) 3 _, rowSt_row oY (Nat.le_refl _) 3 _⟩
      case rest =>
        obtain ⟨y1, y2, y3, SW', O1', O2', O3'⟩ := hcut
        clear SW O1 O2
        obtain ⟨d1, p1_, rfl⟩ := ownRow_slice O1'
        obtain ⟨d2, p2_, rfl⟩ := ownRow_slice O2'
        obtain ⟨d3, p3_, rfl⟩ := ownRow_slice O3'
        have SW := Lib.hid SW'
        have O1 := Lib.hid O1'
        have O2 := Lib.hid O2'
        have O3 := Lib.hid O3'
        clear SW' O1' O2' O3'
        have sW := SW.out
        have c0 := objAt_cell sW.2.1 0 rfl
        have p0 := objAt_cell sW.2.2.1 0 rfl
        have f0 := objAt_free sW.2.2.1 0
        have c1 := objAt_cell sW.2.1 1 rfl
        have p1 := objAt_cell sW.2.2.1 1 rfl
        have f1 := objAt_free sW.2.2.1 1
        have c2 := objAt_cell sW.2.1 2 rfl
        have p2 := objAt_cell sW.2.2.1 2 rfl
        have f2 := objAt_free sW.2.2.1 2
        have c3 := objAt_cell sW.2.1 3 rfl
        have p3 := objAt_cell sW.2.2.1 3 rfl
        have f3 := objAt_free sW.2.2.1 3
        have zl := objAt_lt sW.2.1
        have zl2 := objAt_lt sW.2.2.1
        have sF := rowSt_back (rowSt_back (rowSt_back (rowSt_back sW 0 (.int .i64 r0.1)) 1 (.slice d1 r1.1.length p1_)) 2 (.slice d2 r2.1.length p2_)) 3 (.slice d3 r3.1.length p3_)
        have SF := Lib.hid sF
        have t0 := objAt_cell sF.2.2.1 0 rfl
        have t1 := objAt_cell sF.2.2.1 1 rfl
        have t2 := objAt_cell sF.2.2.1 2 rfl
        have t3 := objAt_cell sF.2.2.1 3 rfl
        have TT := Lib.hid (And.intro t0 (And.intro t1 (And.intro t2 t3)))
        clear sF sW t0 t1 t2 t3
        go_wp2
        obtain ⟨t0, t1, t2, t3⟩ := TT.out
        exact bodyPost_ret (v := .agg #[.int .i64 r0.1, .slice d1 r1.1.length p1_, .slice d2 r2.1.length p2_, .slice d3 r3.1.length p3_]) (by simp [results, Tryd.results22, go_sem, t0, t1, t2, t3]) rfl ⟨_, _, _, rfl, backs4 O1.out, backs4 O2.out, backs4 O3.out, SF.out.1, SF.out.2.2.2.1⟩
theorem whole_is {b : Nat} {v : Int} {m : M} (s : StD) (aj an al : Option Addr) (cj cn cl : Nat) (hok : okSt V8 v s) (hs : m.rest.size ≤ 1152921504606846976) (hg : m.gs.length ≤ 800000000) (w : World) (h : CodeAt b v m w) (hE : Env b w) (hM : Mem b aj an al s w) :
    Calls Tryd.prog 22 #[.pointer (some ⟨b, 0, none⟩), .agg #[.int .i64 s.rev, .slice aj s.jobs.length cj, .slice an s.nodes.length cn, .slice al s.leases.length cl]] w fun r w' => ∃ y1 y2 y3, r = .returned (.agg #[.int .i64 (wholeS v s m).1.rev, y1, y2, y3]) ∧
      w'.ownsRow (w.heap.size + 2) 64 5 y1 (wholeS v s m).1.jobs.length (cJobs (wholeS v s m).1.jobs) ∧ w'.ownsRow (w.heap.size + 2) 67 3 y2 (wholeS v s m).1.nodes.length (cNodes (wholeS v s m).1.nodes) ∧ w'.ownsRow (w.heap.size + 2) 70 3 y3 (wholeS v s m).1.leases.length (cLeases (wholeS v s m).1.leases) ∧ CodeAt b v (wholeS v s m).2 w' ∧ Keep b w w' := by
  by_cases hv : v < 3
  · exact whole_1 s aj an al cj cn cl hv hok hs hg w h hE hM
  · exact whole_3 s aj an al cj cn cl (by omega) hok hs hg w h hE hM
end Go.Proofs.YtdbopgmckndmeaaDoor
