/- The reference's reading of states: all rows. -/
import Derived.Test.YthfbjmjohmkfjaaDoorWiSrcRow
namespace Go.Proofs.YthfbjmjohmkfjaaDoor
open Go.RowKit

theorem obj_app {b B e sz n : Nat} {w w' : World} {y : Value} {vs : Array Value} {t : TypeId} {ys : List Value} (h1 : ObjAt b vs t w) (h2 : w.ownsRow B e sz y n ys) (hB : b < B) (hg : w.grownBy w' y.ownBlock) : ObjAt b vs t w' := by
  have hb := objAt_lt h1
  unfold ObjAt at h1 ⊢
  rw [hg.block b hb (fun e => by
    have := (h2.lt b e.symm).1
    omega)]
  exact h1
theorem own_keep {B B' e e' sz sz' n m : Nat} {w w' : World} {x y : Value} {xs ys : List Value} (h : w.ownsRow B e sz x n xs) (k : w.ownsRow B' e' sz' y m ys) (he : e ≠ e') (hg : w.grownBy w' y.ownBlock) : w'.ownsRow B e sz x n xs := by
  refine ⟨h.1, ?_⟩
  rcases h.2 with h0 | ⟨g, cap, cur, hv, hbg, hgc, r⟩
  · exact .inl h0
  · refine .inr ⟨g, cap, cur, hv, hbg, ?_, r⟩
    rw [hg.block g (Array.getElem?_eq_some_iff.1 hgc).1 (fun e1 => by
      rcases k.2 with ⟨rfl, _⟩ | ⟨g', cap', cur', rfl, _, hgc', _⟩
      · simp [Value.ownBlock] at e1
      · simp only [Value.ownBlock, Option.some.injEq] at e1
        subst e1
        rw [hgc'] at hgc
        simp only [Option.some.injEq, Obj.cells.injEq] at hgc
        exact he hgc.2.1.symm)]
    exact hgc
theorem own_src {b B e sz n : Nat} {w w' : World} {x : Value} {xs : List Value} (h : w.ownsRow B e sz x n xs) (hB : b < B) (hg : w.grownBy w' (some b)) : w'.ownsRow B e sz x n xs := by
  refine ⟨h.1, ?_⟩
  rcases h.2 with h0 | ⟨g, cap, cur, hv, hbg, hgc, r⟩
  · exact .inl h0
  · refine .inr ⟨g, cap, cur, hv, hbg, ?_, r⟩
    rw [hg.block g (Array.getElem?_eq_some_iff.1 hgc).1 (by simp; omega)]
    exact hgc
theorem rep_start {α : Type} (d : Dec α) (n : Nat) (l : List UInt8) : repD d n l = (bindD (repD d (n - 0)) fun zs => pureD ([] ++ zs)) l := by
  rw [Nat.sub_zero]
  unfold bindD
  cases repD d n l <;> rfl
theorem rep_step {α : Type} {d : Dec α} {n i : Nat} {l li lk : List UInt8} {ys : List α} {a : α} (h : i < n) (H : repD d n l = (bindD (repD d (n - i)) fun zs => pureD (ys ++ zs)) li) (hd : d li = .inr (a, lk)) :
    repD d n l = (bindD (repD d (n - (i + 1))) fun zs => pureD ((ys ++ [a]) ++ zs)) lk := by
  rw [H]
  obtain ⟨m, hm⟩ : ∃ m, n - i = m + 1 := ⟨n - i - 1, by omega⟩
  have hm2 : n - (i + 1) = m := by omega
  rw [hm, hm2]
  show bindD (bindD d fun a => bindD (repD d m) fun r => pureD (a :: r)) _ li = _
  rw [bindD_assoc, bindD_ok hd, bindD_assoc]
  unfold bindD
  cases repD d m lk with
  | inl e => rfl
  | inr x => simp [pureD]
theorem rep_fail {α : Type} {d : Dec α} {n i : Nat} {l li : List UInt8} {ys : List α} {e : Nat} (h : i < n) (H : repD d n l = (bindD (repD d (n - i)) fun zs => pureD (ys ++ zs)) li) (hd : d li = .inl e) : repD d n l = .inl e := by
  rw [H]
  obtain ⟨m, hm⟩ : ∃ m, n - i = m + 1 := ⟨n - i - 1, by omega⟩
  rw [hm]
  show bindD (bindD d fun a => bindD (repD d m) fun r => pureD (a :: r)) _ li = _
  rw [bindD_assoc, bindD_err hd]
theorem rep_end {α : Type} {d : Dec α} {n : Nat} {l li : List UInt8} {ys : List α} (H : repD d n l = (bindD (repD d (n - n)) fun zs => pureD (ys ++ zs)) li) : repD d n l = .inr (ys, li) := by
  rw [H, Nat.sub_self]
  show bindD (pureD []) _ li = _
  rw [bindD_pure, List.append_nil]
  rfl
/-- All rows. -/
def rows3 (v : Int) : Dec (List JobD × List NodeD × List LeaseD) := bindD (rowsD 40 (jobR V8 v)) fun b => bindD (rowsD 20 (nodeR V8 v)) fun c => bindD (rowsD 40 (leaseR V8)) fun d => pureD (b, c, d)
theorem short_job {v : Int} {l m : List UInt8} {a : JobD} (h : jobR V8 v l = .inr (a, m)) (hl : l.length ≤ 140737488355328) : m.length ≤ 140737488355328 := Nat.le_trans ((jobC V8 v).short h) hl
theorem short_node {v : Int} {l m : List UInt8} {a : NodeD} (h : nodeR V8 v l = .inr (a, m)) (hl : l.length ≤ 140737488355328) : m.length ≤ 140737488355328 := Nat.le_trans ((nodeC V8 v).short h) hl
theorem short_lease {l m : List UInt8} {a : LeaseD} (h : leaseR V8 l = .inr (a, m)) (hl : l.length ≤ 140737488355328) : m.length ≤ 140737488355328 := Nat.le_trans ((leaseC V8).short h) hl
theorem many40 {b : Nat} {l : List UInt8} (hl : l.length ≤ 140737488355328) (w : World) (h : SrcAt b l w) :
    Calls Tryd.prog 34 #[.pointer (some ⟨b, 0, none⟩), .int .i64 40] w (SrcPost (numD 40) (fun n => .int .i64 (n : Int)) b l w) := srcMany_is 40 (by omega) hl w h
theorem many20 {b : Nat} {l : List UInt8} (hl : l.length ≤ 140737488355328) (w : World) (h : SrcAt b l w) :
    Calls Tryd.prog 34 #[.pointer (some ⟨b, 0, none⟩), .int .i64 20] w (SrcPost (numD 20) (fun n => .int .i64 (n : Int)) b l w) := srcMany_is 20 (by omega) hl w h
/-- What rows answers: it throws, or hands back three slices of its own. -/
def RowsPost (v : Int) (b : Nat) (l : List UInt8) (w : World) (r : Ending) (w' : World) : Prop := w.grownBy w' (some b) ∧ ((∃ e, rows3 v l = .inl e ∧ r = taken e) ∨ (∃ js ns ls l' y1 y2 y3, rows3 v l = .inr ((js, ns, ls), l') ∧ r = .returned (.tuple #[y1, y2, y3]) ∧
  w'.ownsRow w.heap.size 55 5 y1 js.length (cJobs js) ∧ w'.ownsRow w.heap.size 59 3 y2 ns.length (cNodes ns) ∧ w'.ownsRow w.heap.size 50 3 y3 ls.length (cLeases ls) ∧ SrcAt b l' w'))
set_option maxRecDepth 100000 in
set_option maxHeartbeats 8000000 in
theorem srcRows_is {b : Nat} {l : List UInt8} (v : Int) (hl : l.length ≤ 140737488355328) (w : World) (h : SrcAt b l w) :
    Calls Tryd.prog 33 #[.pointer (some ⟨b, 0, none⟩), .int .i64 v] w (RowsPost v b l w) := by
  have hlt := objAt_lt h
  have S0 := Lib.hid h
  have G0 := Lib.hid (grown_refl w (some b))
  have LL0 := Lib.hid hl
  obtain ⟨i0, z0, z1, z2, z3⟩ := info_parts' Tryd.info_job
  have I00 := Lib.hid z0
  have I01 := Lib.hid z1
  have I02 := Lib.hid z2
  have I03 := Lib.hid z3
  clear z0 z1 z2 z3
  obtain ⟨i1, z0, z1, z2, z3⟩ := info_parts' Tryd.info_node
  have I10 := Lib.hid z0
  have I11 := Lib.hid z1
  have I12 := Lib.hid z2
  have I13 := Lib.hid z3
  clear z0 z1 z2 z3
  obtain ⟨i2, z0, z1, z2, z3⟩ := info_parts' Tryd.info_lease
  have I20 := Lib.hid z0
  have I21 := Lib.hid z1
  have I22 := Lib.hid z2
  have I23 := Lib.hid z3
  clear z0 z1 z2 z3
  clear h hl
  go_enter Tryd.func33, Tryd.ntmps33
  have HC := Lib.hid (many40 LL0.out _ S0.out)
  go_wp2_with fail
  refine HC.out.mono ?_
  rintro r wa0 ⟨ga, ⟨e, he, rfl⟩ | ⟨n, la0, hn, rfl, sa⟩⟩
  · have h1 : rowsD 40 (jobR V8 v) l = .inl e := bindD_err he
    have HE : Hid (rows3 v l = .inl e) := by show _ = _; unfold rows3; rw [bindD_err h1]
    have G' := Lib.hid (grown_trans G0.out ga)
    unfold taken
    clear he ga h1
    go_wp2
    exact ⟨rfl, G'.out, .inl ⟨e, HE.out, rfl⟩⟩
  · have hn40 : n ≤ 40 := ((numC 40 (by omega)).sound _ _ _ hn).1
    have HN := Lib.hid hn
    have ga' := grown_trans G0.out ga
    have la := short_num (by omega) hn LL0.out
    clear hn HC ga S0 G0 LL0
    go_wp2
    go_loopw [4, 9] (fun pv iv wr => ∃ (i : Nat) (ys : List JobD) (li : List UInt8), iv = .int .i64 (i : Int) ∧ i ≤ n ∧ wr.ownsRow w.heap.size 55 5 pv ys.length (cJobs ys) ∧ ys.length = i ∧ SrcAt b li wr ∧ w.grownBy wr (some b) ∧ li.length ≤ 140737488355328 ∧ Hid (repD (jobR V8 v) n la0 = (bindD (repD (jobR V8 v) (n - i)) fun zs => pureD (ys ++ zs)) li)) (fun _ iv _ => n - (intOf iv).toNat)
    case atStart => exact ⟨0, [], la0, rfl, Nat.zero_le _, World.ownsRow_nil _ _ _ _, rfl, sa, ga', la, rep_start _ _ _⟩
    case round =>
      clear sa ga' la
      obtain ⟨i, ys, li, rfl, hi, hown, hyl, hs, hg, hli, HG⟩ := hrel
      by_cases h : (i : Int) < (n : Int)
      · have hin : i < n := by omega
        have HJ := Lib.hid (srcJob_is v hli wr hs)
        have hsz := hg.size
        go_wp2_with fail
        refine HJ.out.mono ?_
        rintro r w1 ⟨g1, ⟨e, he, rfl⟩ | ⟨a, lk, hd, rfl, s1⟩⟩
        · have HE : Hid (rows3 v l = .inl e) := by
            have h1 : rowsD 40 (jobR V8 v) l = .inl e := by unfold rowsD; rw [bindD_ok HN.out]; exact rep_fail hin HG.out he
            show _ = _
            unfold rows3
            rw [bindD_err h1]
          have G' := Lib.hid (grown_trans hg g1)
          unfold taken
          clear he g1 hg hown hs
          go_wp2
          exact ⟨rfl, G'.out, .inl ⟨e, HE.out, rfl⟩⟩
        · have HS := Lib.hid (rep_step hin HG.out hd)
          have hlk := short_job hd hli
          have hg1 := grown_trans hg g1
          have own1 := own_src hown hlt g1
          have hsz1 := hg1.size
          clear hd HJ hs hg g1 hown HG
          go_wp2_with (at_builtin; refine wpList_append_own _ rfl _ _ 22 rfl w.heap.size 55 i0 _ 5 56 Tryd.underlying22 I00.out I01.out I02.out I03.out rfl (by decide) _ _ _ rfl (own1.alloc _) ⟨w1.heap.size, 0, none⟩ 1 1 (cJob a) rfl rfl ?c1 ?c2 ?c3 ?c4 ?c5 ?_)
          case c1 => exact job_new w1 a _
          case c2 => exact job_ones a
          case c3 => unfold maxLen; omega
          case c4 => omega
          case c5 => simp; omega
          · intro v2 w2 own2 hg2 _
            have s2 : SrcAt b lk w2 := obj_app (objAt_next s1 (below_one w1 _)) (own1.alloc _) hlt hg2
            have hg3 : w.grownBy w2 (some b) := grown_fresh (grown_trans hg1 (grown_of_below (below_one w1 _) _)) hg2 (fun k hk => (own1.lt k hk).1)
            clear own1 hg1 hg2 s1
            go_wp2
            go_roundw
            case rel => exact ⟨i + 1, ys ++ [a], lk, by simp, by omega, by rw [cJobs_append, cJobs_one, List.length_append]; simpa [hyl] using own2, by simp [hyl], s2, hg3, hlk, HS.out⟩
            case measure => simp [intOf]; omega
      · obtain rfl : i = n := by omega
        have R1 : Hid (rowsD 40 (jobR V8 v) l = .inr (ys, li)) := by show _ = _; unfold rowsD; rw [bindD_ok HN.out]; exact rep_end HG.out
        clear HG HN hyl hn40
        have S1 := Lib.hid hs
        have G1 := Lib.hid hg
        have LL1 := Lib.hid hli
        have O1 := Lib.hid hown
        clear hs hg hli hown
        obtain ⟨xs1, hxs⟩ : ∃ z, z = ys := ⟨_, rfl⟩
        obtain ⟨lz0, hlz⟩ : ∃ z, z = li := ⟨_, rfl⟩
        rw [← hxs] at R1 O1
        rw [← hlz] at R1 S1 LL1
        clear hxs hlz
        obtain ⟨dd0, pp0, hx1⟩ := ownRow_slice O1.out
        subst hx1
        have HC := Lib.hid (many20 LL1.out _ S1.out)
        go_wp2_with fail
        refine HC.out.mono ?_
        rintro r wa1 ⟨ga, ⟨e, he, rfl⟩ | ⟨n, la1, hn, rfl, sa⟩⟩
        · have h1 : rowsD 20 (nodeR V8 v) lz0 = .inl e := bindD_err he
          have HE : Hid (rows3 v l = .inl e) := by show _ = _; unfold rows3; rw [bindD_ok R1.out, bindD_err h1]
          have G' := Lib.hid (grown_trans G1.out ga)
          unfold taken
          clear he ga h1
          go_wp2
          exact ⟨rfl, G'.out, .inl ⟨e, HE.out, rfl⟩⟩
        · have hn40 : n ≤ 20 := ((numC 20 (by omega)).sound _ _ _ hn).1
          have HN := Lib.hid hn
          have ga' := grown_trans G1.out ga
          have la := short_num (by omega) hn LL1.out
          have oa1 := own_src O1.out hlt ga
          clear hn HC ga S1 G1 LL1 O1
          go_wp2
          go_loopw [5, 20] (fun pv iv wr => ∃ (i : Nat) (ys : List NodeD) (li : List UInt8), iv = .int .i64 (i : Int) ∧ i ≤ n ∧ wr.ownsRow w.heap.size 59 3 pv ys.length (cNodes ys) ∧ ys.length = i ∧ SrcAt b li wr ∧ w.grownBy wr (some b) ∧ li.length ≤ 140737488355328 ∧ wr.ownsRow w.heap.size 55 5 (.slice dd0 xs1.length pp0) xs1.length (cJobs xs1) ∧ Hid (repD (nodeR V8 v) n la1 = (bindD (repD (nodeR V8 v) (n - i)) fun zs => pureD (ys ++ zs)) li)) (fun _ iv _ => n - (intOf iv).toNat)
          case atStart => exact ⟨0, [], la1, rfl, Nat.zero_le _, World.ownsRow_nil _ _ _ _, rfl, sa, ga', la, oa1, rep_start _ _ _⟩
          case round =>
            clear sa ga' la oa1
            obtain ⟨i, ys, li, rfl, hi, hown, hyl, hs, hg, hli, ox1, HG⟩ := hrel
            by_cases h : (i : Int) < (n : Int)
            · have hin : i < n := by omega
              have HJ := Lib.hid (srcNode_is v hli wr hs)
              have hsz := hg.size
              go_wp2_with fail
              refine HJ.out.mono ?_
              rintro r w1 ⟨g1, ⟨e, he, rfl⟩ | ⟨a, lk, hd, rfl, s1⟩⟩
              · have HE : Hid (rows3 v l = .inl e) := by
                  have h1 : rowsD 20 (nodeR V8 v) lz0 = .inl e := by unfold rowsD; rw [bindD_ok HN.out]; exact rep_fail hin HG.out he
                  show _ = _
                  unfold rows3
                  rw [bindD_ok R1.out, bindD_err h1]
                have G' := Lib.hid (grown_trans hg g1)
                unfold taken
                clear he g1 hg hown hs ox1
                go_wp2
                exact ⟨rfl, G'.out, .inl ⟨e, HE.out, rfl⟩⟩
              · have HS := Lib.hid (rep_step hin HG.out hd)
                have hlk := short_node hd hli
                have hg1 := grown_trans hg g1
                have own1 := own_src hown hlt g1
                have oy1 := own_src ox1 hlt g1
                have hsz1 := hg1.size
                clear hd HJ hs hg g1 hown ox1 HG
                go_wp2_with (at_builtin; refine wpList_append_own _ rfl _ _ 23 rfl w.heap.size 59 i1 _ 3 40 Tryd.underlying23 I10.out I11.out I12.out I13.out rfl (by decide) _ _ _ rfl (own1.alloc _) ⟨w1.heap.size, 0, none⟩ 1 1 (cNode a) rfl rfl ?c1 ?c2 ?c3 ?c4 ?c5 ?_)
                case c1 => exact node_new w1 a _
                case c2 => exact node_ones a
                case c3 => unfold maxLen; omega
                case c4 => omega
                case c5 => simp; omega
                · intro v2 w2 own2 hg2 _
                  have s2 : SrcAt b lk w2 := obj_app (objAt_next s1 (below_one w1 _)) (own1.alloc _) hlt hg2
                  have hg3 : w.grownBy w2 (some b) := grown_fresh (grown_trans hg1 (grown_of_below (below_one w1 _) _)) hg2 (fun k hk => (own1.lt k hk).1)
                  have oz1 := own_keep (oy1.alloc _) (own1.alloc _) (by decide) hg2
                  clear own1 hg1 hg2 s1 oy1
                  go_wp2
                  go_roundw
                  case rel => exact ⟨i + 1, ys ++ [a], lk, by simp, by omega, by rw [cNodes_append, cNodes_one, List.length_append]; simpa [hyl] using own2, by simp [hyl], s2, hg3, hlk, oz1, HS.out⟩
                  case measure => simp [intOf]; omega
            · obtain rfl : i = n := by omega
              have R2 : Hid (rowsD 20 (nodeR V8 v) lz0 = .inr (ys, li)) := by show _ = _; unfold rowsD; rw [bindD_ok HN.out]; exact rep_end HG.out
              clear HG HN hyl hn40
              have S2 := Lib.hid hs
              have G2 := Lib.hid hg
              have LL2 := Lib.hid hli
              have O1 := Lib.hid ox1
              have O2 := Lib.hid hown
              clear hs hg hli hown ox1
              obtain ⟨xs2, hxs⟩ : ∃ z, z = ys := ⟨_, rfl⟩
              obtain ⟨lz1, hlz⟩ : ∃ z, z = li := ⟨_, rfl⟩
              rw [← hxs] at R2 O2
              rw [← hlz] at R2 S2 LL2
              clear hxs hlz
              obtain ⟨dd1, pp1, hx2⟩ := ownRow_slice O2.out
              subst hx2
              have HC := Lib.hid (many40 LL2.out _ S2.out)
              go_wp2_with fail
              refine HC.out.mono ?_
              rintro r wa2 ⟨ga, ⟨e, he, rfl⟩ | ⟨n, la2, hn, rfl, sa⟩⟩
              · have h1 : rowsD 40 (leaseR V8) lz1 = .inl e := bindD_err he
                have HE : Hid (rows3 v l = .inl e) := by show _ = _; unfold rows3; rw [bindD_ok R1.out, bindD_ok R2.out, bindD_err h1]
                have G' := Lib.hid (grown_trans G2.out ga)
                unfold taken
                clear he ga h1
                go_wp2
                exact ⟨rfl, G'.out, .inl ⟨e, HE.out, rfl⟩⟩
              · have hn40 : n ≤ 40 := ((numC 40 (by omega)).sound _ _ _ hn).1
                have HN := Lib.hid hn
                have ga' := grown_trans G2.out ga
                have la := short_num (by omega) hn LL2.out
                have oa1 := own_src O1.out hlt ga
                have oa2 := own_src O2.out hlt ga
                clear hn HC ga S2 G2 LL2 O1 O2
                go_wp2
                go_loopw [6, 31] (fun pv iv wr => ∃ (i : Nat) (ys : List LeaseD) (li : List UInt8), iv = .int .i64 (i : Int) ∧ i ≤ n ∧ wr.ownsRow w.heap.size 50 3 pv ys.length (cLeases ys) ∧ ys.length = i ∧ SrcAt b li wr ∧ w.grownBy wr (some b) ∧ li.length ≤ 140737488355328 ∧ wr.ownsRow w.heap.size 55 5 (.slice dd0 xs1.length pp0) xs1.length (cJobs xs1) ∧ wr.ownsRow w.heap.size 59 3 (.slice dd1 xs2.length pp1) xs2.length (cNodes xs2) ∧ Hid (repD (leaseR V8) n la2 = (bindD (repD (leaseR V8) (n - i)) fun zs => pureD (ys ++ zs)) li)) (fun _ iv _ => n - (intOf iv).toNat)
                case atStart => exact ⟨0, [], la2, rfl, Nat.zero_le _, World.ownsRow_nil _ _ _ _, rfl, sa, ga', la, oa1, oa2, rep_start _ _ _⟩
                case round =>
                  clear sa ga' la oa1 oa2
                  obtain ⟨i, ys, li, rfl, hi, hown, hyl, hs, hg, hli, ox1, ox2, HG⟩ := hrel
                  by_cases h : (i : Int) < (n : Int)
                  · have hin : i < n := by omega
                    have HJ := Lib.hid (srcLease_is hli wr hs)
                    have hsz := hg.size
                    go_wp2_with fail
                    refine HJ.out.mono ?_
                    rintro r w1 ⟨g1, ⟨e, he, rfl⟩ | ⟨a, lk, hd, rfl, s1⟩⟩
                    · have HE : Hid (rows3 v l = .inl e) := by
                        have h1 : rowsD 40 (leaseR V8) lz1 = .inl e := by unfold rowsD; rw [bindD_ok HN.out]; exact rep_fail hin HG.out he
                        show _ = _
                        unfold rows3
                        rw [bindD_ok R1.out, bindD_ok R2.out, bindD_err h1]
                      have G' := Lib.hid (grown_trans hg g1)
                      unfold taken
                      clear he g1 hg hown hs ox1 ox2
                      go_wp2
                      exact ⟨rfl, G'.out, .inl ⟨e, HE.out, rfl⟩⟩
                    · have HS := Lib.hid (rep_step hin HG.out hd)
                      have hlk := short_lease hd hli
                      have hg1 := grown_trans hg g1
                      have own1 := own_src hown hlt g1
                      have oy1 := own_src ox1 hlt g1
                      have oy2 := own_src ox2 hlt g1
                      have hsz1 := hg1.size
                      clear hd HJ hs hg g1 hown ox1 ox2 HG
                      go_wp2_with (at_builtin; refine wpList_append_own _ rfl _ _ 24 rfl w.heap.size 50 i2 _ 3 40 Tryd.underlying24 I20.out I21.out I22.out I23.out rfl (by decide) _ _ _ rfl (own1.alloc _) ⟨w1.heap.size, 0, none⟩ 1 1 (cLease a) rfl rfl ?c1 ?c2 ?c3 ?c4 ?c5 ?_)
                      case c1 => exact lease_new w1 a _
                      case c2 => exact lease_ones a
                      case c3 => unfold maxLen; omega
                      case c4 => omega
                      case c5 => simp; omega
                      · intro v2 w2 own2 hg2 _
                        have s2 : SrcAt b lk w2 := obj_app (objAt_next s1 (below_one w1 _)) (own1.alloc _) hlt hg2
                        have hg3 : w.grownBy w2 (some b) := grown_fresh (grown_trans hg1 (grown_of_below (below_one w1 _) _)) hg2 (fun k hk => (own1.lt k hk).1)
                        have oz1 := own_keep (oy1.alloc _) (own1.alloc _) (by decide) hg2
                        have oz2 := own_keep (oy2.alloc _) (own1.alloc _) (by decide) hg2
                        clear own1 hg1 hg2 s1 oy1 oy2
                        go_wp2
                        go_roundw
                        case rel => exact ⟨i + 1, ys ++ [a], lk, by simp, by omega, by rw [cLeases_append, cLeases_one, List.length_append]; simpa [hyl] using own2, by simp [hyl], s2, hg3, hlk, oz1, oz2, HS.out⟩
                        case measure => simp [intOf]; omega
                  · obtain rfl : i = n := by omega
                    have R3 : Hid (rowsD 40 (leaseR V8) lz1 = .inr (ys, li)) := by show _ = _; unfold rowsD; rw [bindD_ok HN.out]; exact rep_end HG.out
                    clear HG HN hyl hn40
                    have HE : Hid (rows3 v l = .inr ((xs1, xs2, ys), li)) := by show _ = _; unfold rows3; rw [bindD_ok R1.out, bindD_ok R2.out, bindD_ok R3.out]; rfl
                    obtain ⟨dd2, pp2, rfl⟩ := ownRow_slice hown
                    go_wp2
                    exact bodyPost_ret (v := .tuple #[.slice dd0 xs1.length pp0, .slice dd1 xs2.length pp1, .slice dd2 ys.length pp2]) (by simp [results, Tryd.results33, go_sem]) rfl ⟨hg, .inr ⟨xs1, xs2, ys, li, _, _, _, HE.out, rfl, ox1, ox2, hown, hs⟩⟩
end Go.Proofs.YthfbjmjohmkfjaaDoor
