/- For every state s and every number k the law StateLess of the package brackenkeep returns true, as a tied card: without a lease a valid state is valid; without a job it is valid just if the job has no lease. Condition: the library's two tables unicode/utf8.first and acceptRanges start as their text lays them (the card ties them; first is pinned). -/
import Derived.Test.YtkdjpciegcofbaaDoorStOwn
import Derived.Test.YtkdjpciegcofbaaDoorStAt
import Derived.Test.YtkdjpciegcofbaaDoorStRest
import Derived.Test.YtkdjpciegcofbaaDoorStLaid
import Derived.Deep.RegionLaw
import Derived.Deep.Cut
import Derived.Deep.RegionHeld3
namespace Go.Proofs.YtkdjpciegcofbaaDoor.stateLess
open Go.ChangeShapes Go.WideShapes Go.ChangeAt Go.RowKit
set_option linter.unusedVariables false

def less {α : Type} (l : List α) (i : Nat) : List α := l.take i ++ l.drop (i + 1)
theorem less_length {α : Type} (l : List α) (i : Nat) (h : i < l.length) : (less l i).length = i + (l.length - (i + 1)) := by
  unfold less
  rw [List.length_append, List.length_take, List.length_drop]; omega
theorem less_mem {α : Type} {l : List α} {i : Nat} {x : α} (h : x ∈ less l i) : x ∈ l := by
  unfold less at h
  rcases List.mem_append.1 h with h | h
  · exact List.mem_of_mem_take h
  · exact List.mem_of_mem_drop h
theorem less_leases (l : List LeaseD) (i : Nat) (h : i < l.length) : (cLeases l).take (i * 3) ++ cLeases ((l.take l.length).drop (i + 1)) = cLeases (less l i) := by
  unfold less
  rw [cLeases_take l i (by omega), List.take_length, ← cLeases_append]
theorem less_jobs (l : List JobD) (i : Nat) (h : i < l.length) : (cJobs l).take (i * 5) ++ cJobs ((l.take l.length).drop (i + 1)) = cJobs (less l i) := by
  unfold less
  rw [cJobs_take l i (by omega), List.take_length, ← cJobs_append]
/-- Rows of other elements lie in other blocks. -/
theorem own_other {w : World} {B B' e e' sz sz' n n' : Nat} {v v' : Value} {xs xs' : List Value} (h : w.ownsRow B e sz v n xs) (h' : w.ownsRow B' e' sz' v' n' xs') (hne : e ≠ e') : v.ownBlock = none ∨ v.ownBlock ≠ v'.ownBlock := by
  rcases h.2 with ⟨rfl, _⟩ | ⟨g, cap, cur, rfl, _, hg, _⟩
  · exact .inl rfl
  · rcases h'.2 with ⟨rfl, _⟩ | ⟨g', cap', cur', rfl, _, hg', _⟩
    · right; intro e; cases e
    · right
      intro he
      have he : some g = some g' := he
      simp only [Option.some.injEq] at he
      subst he
      rw [hg] at hg'
      simp only [Option.some.injEq, Obj.cells.injEq] at hg'
      exact hne hg'.2.1
theorem ownB_set1 {b : Nat} {v0 v1 v2 v3 : Value} {w : World} (h : OwnB b [v0, v1, v2, v3] w) (u : Value) : OwnB b [v0, u, v2, v3] (w.setCell ⟨b, 1, none⟩ u) := by
  have hl := h.1.2
  have k0 := h.1.1 0 _ rfl
  have k1 := h.1.1 1 _ rfl
  have k2 := h.1.1 2 _ rfl
  have k3 := h.1.1 3 _ rfl
  have f0 := h.2 0 (by simp)
  have f1 := h.2 1 (by simp)
  have f2 := h.2 2 (by simp)
  have f3 := h.2 3 (by simp)
  refine ⟨⟨fun j v hj => ?_, by simp [World.setCell, hl]⟩, fun j hj => ?_⟩
  · match j with
    | 0 => simp at hj; subst hj; go_simp
    | 1 => simp at hj; subst hj; go_simp
    | 2 => simp at hj; subst hj; go_simp
    | 3 => simp at hj; subst hj; go_simp
    | j + 4 => simp at hj
  · match j with
    | 0 => go_simp
    | 1 => go_simp
    | 2 => go_simp
    | 3 => go_simp
    | j + 4 => exact absurd hj (by simp)
/-- Appended, then stored into a block of its own: the row and the block. -/
theorem row_stored {w : World} {B e sz n b j : Nat} {v u : Value} {xs : List Value} (h : w.ownsRow B e sz v n xs) (hne : v.ownBlock ≠ some b) : (w.setCell ⟨b, j, none⟩ u).ownsRow B e sz v n xs := h.kept (grown_set w b j u) (.inr hne)
theorem box_set {b b' j : Nat} {vs : List Value} {w : World} {u : Value} (h : Box b vs w) (hne : b ≠ b') : Box b vs (w.setCell ⟨b', j, none⟩ u) := box_grown h (grown_set w b' j u) (by intro e; simp only [Option.some.injEq] at e; exact hne e)
theorem apart_block {g b H : Nat} {v : Value} (hat : v.ownBlock = some g ∨ v.ownBlock = some H) (h1 : g ≠ b) (h2 : H ≠ b) : v.ownBlock ≠ some b := by
  intro e
  rcases hat with h | h
  · rw [e] at h; simp only [Option.some.injEq] at h; exact h1 h.symm
  · rw [e] at h; simp only [Option.some.injEq] at h; exact h2 h.symm
theorem at_neg (r : Int) : decide (r < 0) = !decide (0 ≤ r) := by
  by_cases h : 0 ≤ r
  · simp [h]
  · simp [h]; omega
theorem lessS_next {b b0 : Nat} {p : Addr} {v0 v1 v2 v3 u1 u3 z : Value} {w w1 w2 : World} (b2 : Below w1.heap.size w1 w2)
    (h : ((w1.cell? ⟨b, 0, none⟩ = some v0 ∧ w1.cell? ⟨b, 1, none⟩ = some v1 ∧ w1.cell? ⟨b, 2, none⟩ = some v2 ∧ w1.cell? ⟨b, 3, none⟩ = some v3) ∧ (w1.cell? ⟨b0, 1, none⟩ = some u1 ∧ w1.cell? ⟨b0, 3, none⟩ = some u3) ∧ w1.cell? p = some z) ∧ (b < w1.heap.size ∧ b0 < w1.heap.size ∧ p.block < w1.heap.size) ∧ Below w.heap.size w w1) :
    ((w2.cell? ⟨b, 0, none⟩ = some v0 ∧ w2.cell? ⟨b, 1, none⟩ = some v1 ∧ w2.cell? ⟨b, 2, none⟩ = some v2 ∧ w2.cell? ⟨b, 3, none⟩ = some v3) ∧ (w2.cell? ⟨b0, 1, none⟩ = some u1 ∧ w2.cell? ⟨b0, 3, none⟩ = some u3) ∧ w2.cell? p = some z) ∧ (b < w2.heap.size ∧ b0 < w2.heap.size ∧ p.block < w2.heap.size) ∧ Below w.heap.size w w2 := by
  obtain ⟨⟨⟨c0, c1, c2, c3⟩, ⟨d1, d3⟩, e0⟩, ⟨h1, h2, h3⟩, h4⟩ := h
  have hs := b2.size
  exact ⟨⟨⟨by rw [b2.cell (p := ⟨b, 0, none⟩) h1]; exact c0, by rw [b2.cell (p := ⟨b, 1, none⟩) h1]; exact c1, by rw [b2.cell (p := ⟨b, 2, none⟩) h1]; exact c2, by rw [b2.cell (p := ⟨b, 3, none⟩) h1]; exact c3⟩, ⟨by rw [b2.cell (p := ⟨b0, 1, none⟩) h2]; exact d1, by rw [b2.cell (p := ⟨b0, 3, none⟩) h2]; exact d3⟩, by rw [b2.cell h3]; exact e0⟩, ⟨by omega, by omega, by omega⟩, below_trans h4 b2 h4.size⟩
set_option maxRecDepth 100000 in
set_option maxHeartbeats 8000000 in
theorem walk (M : StM) (s : StD) (k : Int) (hw : wState s) (hk : (Lit.int .i64 k).wf = true) (hz : SzState s) (w : World) (hm : StateAt w M s) (hT : Tabs w) :
    Calls Tryd.prog 6 #[stV M s, .int .i64 k] w fun e w' => e = .returned (.bool true) ∧ Below w.heap.size w w' := by
  obtain ⟨rev, jobs, nodes, leases⟩ := s
  obtain ⟨aj, cj, an, cn, al, cl⟩ := M
  obtain ⟨hmj, hmn, hml⟩ := hm
  show Calls _ _ #[.agg #[.int .i64 rev, .slice aj jobs.length cj, .slice an nodes.length cn, .slice al leases.length cl], .int .i64 k] _ _
  simp only at hmj hmn hml
  have HMJ := Lib.hid hmj
  have HMN := Lib.hid hmn
  have HML := Lib.hid hml
  have HT := Lib.hid hT
  have HWS := Lib.hid hw
  obtain ⟨c, hc⟩ : ∃ c, checkE V8 ⟨rev, jobs, nodes, leases⟩ = c := ⟨_, rfl⟩
  have HC := Lib.hid hc
  have HCk := Lib.hid (fun v (hv : Below w.heap.size w v) => check_any rev aj an al cj cn cl jobs nodes leases hw v (hT.below hv) (jobsAt_next hmj hv) (nodesAt_next hmn hv) (leasesAt_next hml hv))
  rw [hc] at HCk
  have HSt := Lib.hid (fun v (hv : Below w.heap.size w v) => stated_is v (hT.below hv))
  clear hmj hmn hml hT hw hc
  obtain ⟨i0, hi0, hz0, hz1, hz2⟩ := info_parts' Tryd.info_lease
  have Hi := Lib.hid hi0
  have Hz0 := Lib.hid hz0
  have Hz1 := Lib.hid hz1
  have Hz2 := Lib.hid hz2
  clear hi0 hz0 hz1 hz2
  obtain ⟨i1, hi0, hz0, hz1, hz2⟩ := info_parts' Tryd.info_job
  have Ji := Lib.hid hi0
  have Jz0 := Lib.hid hz0
  have Jz1 := Lib.hid hz1
  have Jz2 := Lib.hid hz2
  clear hi0 hz0 hz1 hz2 hz hk
  have hmf : ∀ (fn : Fn) (first cap : Array Value) (w : World), (Instr.makeFunc fn first cap).run Tryd.prog w = .ok (.func fn first cap) w := fun _ _ _ _ => rfl
  have bW := below_one w (.cells #[.int .i64 rev, .slice aj jobs.length cj, .slice an nodes.length cn, .slice al leases.length cl] 26)
  have q := box_new4 w (.int .i64 rev) (.slice aj jobs.length cj) (.slice an nodes.length cn) (.slice al leases.length cl) 26
  go_enter Tryd.func6, Tryd.ntmps6
  go_wp2_with fail
  refine (HSt.out _ bW).mono ?_
  rintro e w1 ⟨rfl, b1⟩
  have q1 := box_next q b1
  have hb1 := below_trans bW b1 bW.size
  clear q b1 bW
  have k0 := q1.1 0 _ rfl
  have k1 := q1.1 1 _ rfl
  have k2 := q1.1 2 _ rfl
  have k3 := q1.1 3 _ rfl
  go_wp2_with fail
  refine (HCk.out _ hb1).mono ?_
  rintro e w2 ⟨rfl, b2⟩
  have q2 := box_next q1 b2
  have hb2 := below_trans hb1 b2 hb1.size
  clear q1 k0 k1 k2 k3 b2 hb1
  by_cases h0 : c ≠ 0
  · have hc1 : ((c : Int) != 0) = true := by simp; omega
    go_wp2
    go_ret
    exact ⟨rfl, hb2⟩
  have h0 : c = 0 := by simpa using h0
  subst h0
  have hV := Lib.hid ((check_zero V8 _).1 HC.out)
  have hl := hV.out.2.1
  simp only at hl
  have k0 := q2.1 0 _ rfl
  have k1 := q2.1 1 _ rfl
  have k2 := q2.1 2 _ rfl
  have k3 := q2.1 3 _ rfl
  by_cases hn0 : ¬ 0 < leases.length
  · clear k0 k1 k2 k3
    have k3 := q2.1 3 _ rfl
    have k1 := q2.1 1 _ rfl
    by_cases hm0 : ¬ 0 < jobs.length
    · go_wp2
      go_ret
      exact ⟨rfl, hb2⟩
    have hm1 : 0 < jobs.length := by omega
    obtain ⟨j, hj, hkj⟩ := rest_nat k jobs.length hm1
    have HRs := Lib.hid (rest_is k (jobs.length : Int) (by omega) (by omega))
    rw [hkj] at HRs
    clear hkj
    go_wp2_with fail
    refine (HRs.out _).mono ?_
    rintro e v0 ⟨rfl, rfl⟩
    have HOw := Lib.hid (ownCopy_is rev aj an al cj cn cl jobs nodes leases hl.1 hl.2.2 hl.2.1 w.heap.size w2 q2 (jobsAt_next HMJ.out hb2) (nodesAt_next HMN.out hb2) (leasesAt_next HML.out hb2))
    go_wp2_with fail
    refine HOw.out.mono ?_
    rintro e y3 ⟨dj, ej, dn, en, dl, el, rfl, oj, on, ol, b3⟩
    have q3 := box_next q2 b3
    have hb3 := below_trans hb2 b3 hb2.size
    obtain ⟨g, cap, hfm, hBg, hgl⟩ := oj.form hm1
    simp only [Value.slice.injEq, true_and] at hfm
    obtain ⟨rfl, rfl⟩ := hfm
    have hcap := own_cap oj
    obtain ⟨W4, hW4⟩ : ∃ W4, y3.alloc (.cells #[.int .i64 rev, .slice (some ⟨g, 0, none⟩) jobs.length ej, .slice dn nodes.length en, .slice dl leases.length el] 26) = W4 := ⟨_, rfl⟩
    have b4 : Below y3.heap.size y3 W4 := by rw [← hW4]; exact below_one _ _
    have s4 : W4.heap.size = y3.heap.size + 1 := by rw [← hW4, World.size_alloc]
    have t4 := ownB_new4 y3 (.int .i64 rev) (.slice (some ⟨g, 0, none⟩) jobs.length ej) (.slice dn nodes.length en) (.slice dl leases.length el) 26
    rw [hW4] at t4
    have q4 := box_next q3 b4
    have hb4 := below_trans hb3 b4 hb3.size
    have oj4 := own_next oj b4
    have on4 := own_next on b4
    have ol4 := own_next ol b4
    have hs2 := b3.size
    have hw2 := hb2.size
    clear q2 q3 k1 k3 oj HOw HRs
    have t43 : W4.drew.cell? ⟨y3.heap.size, 1, none⟩ = some (.slice (some ⟨g, 0, none⟩) jobs.length ej) := t4.1.1 1 _ rfl
    have wi : IntKind.i64.wrap ((j : Int) + 1) = (j : Int) + 1 := IntWalk.i64_in _ (by omega)
    have wt : ((j : Int) + 1).toNat = j + 1 := by omega
    have wa : (0 : Int) ≤ (j : Int) + 1 := by omega
    have wb : (j : Int) + 1 ≤ (jobs.length : Int) := by omega
    have wc' : (j : Int) ≤ (ej : Int) := by omega
    have wd : (0 : Int) ≤ (j : Int) := by omega
    have HO := Lib.hid (own_prefix oj4.drew (Nat.le_of_lt hj))
    have HPt : Hid (∀ m u, (cJobs ((jobs.take jobs.length).drop (j + 1)))[m]? = some u → ∃ a : Addr, (if ej = j + 1 then some (⟨g, 0, none⟩ : Addr) else some ⟨g, (j + 1) * 5, none⟩) = some a ∧ W4.drew.cell? (a.add m) = some u) := by
      have hp := part_job (ownJobs oj4.drew rfl) (j + 1) jobs.length ej (Nat.le_refl _) hcap
      simp only [Option.map_some, addr_add] at hp
      exact hp
    have HLn : Hid ((cJobs ((jobs.take jobs.length).drop (j + 1))).length = (jobs.length - (j + 1)) * 5) := by show _ = _; rw [cJobs_length, List.take_length, List.length_drop]
    have HW4 := Lib.hid hW4
    clear hW4
    go_upto_region 17 with fail
    rw [HW4.out]
    go_cut [] from 12 (fun wc => ∃ ad cp, OwnB y3.heap.size [.int .i64 rev, .slice ad (less jobs j).length cp, .slice dn nodes.length en, .slice dl leases.length el] wc ∧ wc.ownsRow (w2.heap.size + 1) 42 5 (.slice ad (less jobs j).length cp) (less jobs j).length (cJobs (less jobs j)) ∧ wc.ownsRow (w2.heap.size + 1) 48 3 (.slice dl leases.length el) leases.length (cLeases leases) ∧ wc.ownsRow (w2.heap.size + 1) 45 3 (.slice dn nodes.length en) nodes.length (cNodes nodes) ∧ Box w.heap.size [.int .i64 rev, .slice aj jobs.length cj, .slice an nodes.length cn, .slice al leases.length cl] wc ∧ Below w.heap.size w wc)
    case first =>
      go_region_law ((refine step_app (by rfl) _ _ 22 (by rfl) (w2.heap.size + 1) 42 i1 _ 5 56 Tryd.underlying22 Ji.out Jz0.out Jz1.out Jz2.out (by rfl) (by decide) _ _ _ (by rfl) HO.out _ _ _ (cJobs ((jobs.take jobs.length).drop (j + 1))) (by rfl) HLn.out HPt.out (cJobs_ones _) (by unfold maxLen; omega) (by omega) (by show _ ≤ W4.heap.size; omega) ?_; intro v1 x1 own1 hg1 hat1; obtain ⟨ad1, cp1, rfl⟩ := own_slice own1; have t5 := ownB_grown (w := W4.drew) (show OwnB y3.heap.size [.int .i64 rev, .slice (some ⟨g, 0, none⟩) jobs.length ej, .slice dn nodes.length en, .slice dl leases.length el] W4.drew from t4) hg1 (by intro e; have e : some y3.heap.size = some g := e; simp only [Option.some.injEq] at e; omega); have c3 := t5.1.1 1 _ rfl; have f3 := t5.2 1 (by simp)))
      all_goals
        have hx : W4.drew.heap.size = y3.heap.size + 1 := s4
        have ap : (Value.slice ad1 (j + (jobs.length - (j + 1))) cp1).ownBlock ≠ some y3.heap.size := apart_block (g := g) (H := W4.drew.heap.size) hat1 (by omega) (by omega)
        have ol5 := ol4.drew.kept hg1 (own_other ol4.drew HO.out (by decide))
        have on5 := on4.drew.kept hg1 (own_other on4.drew HO.out (by decide))
        have q5 := box_grown (w := W4.drew) (show Box w.heap.size _ W4.drew from q4) hg1 (by intro e; have e : some w.heap.size = some g := e; simp only [Option.some.injEq] at e; omega)
        have hb5 : Below w.heap.size w x1 := hb4.drew.grown hg1 hb4.drew.size (fun j hj => by have hj : some g = some j := hj; simp only [Option.some.injEq] at hj; omega)
        have apl : (Value.slice dl leases.length el).ownBlock ≠ some y3.heap.size := by
          intro e
          have := (ol.lt _ e).2
          omega
        have apn : (Value.slice dn nodes.length en).ownBlock ≠ some y3.heap.size := by
          intro e
          have := (on.lt _ e).2
          omega
        try generalize (if ej = j + 1 then some (⟨g, 0, none⟩ : Addr) else some ⟨g, (j + 1) * 5, none⟩) = ado
        go_wp2_with fail
        go_meet
        case rel =>
          rw [less_length jobs j hj, ← less_jobs jobs j hj]
          exact ⟨ad1, cp1, ownB_set1 t5 _, row_stored own1 ap, row_stored ol5 apl, row_stored on5 apn, box_set q5 (by omega), hb5.setCell (p := ⟨y3.heap.size, 1, none⟩) (by show _ ≤ y3.heap.size; omega) _⟩
    case rest =>
      obtain ⟨ad, cp, t6, oj6, ol6, on6, q6, hb6⟩ := hcut
      clear t4 q4 hb4 oj4 on4 ol4 t43 HO HPt HLn on ol
      obtain ⟨a, rfl, hal, m0, _⟩ := jobsAt_next HMJ.out hb6 j hj
      have hlj := less_job hV.out j hj
      simp only at hlj
      obtain ⟨nm, hnm⟩ : ∃ nm, jobs[j].name = nm := ⟨_, rfl⟩
      rw [hnm] at m0 hlj
      have hws : wState ⟨rev, less jobs j, nodes, leases⟩ := ⟨HWS.out.1, fun y hy => HWS.out.2.1 y (less_mem hy), HWS.out.2.2.1, HWS.out.2.2.2⟩
      have HC6 := Lib.hid (check_any rev ad dn dl cp en el (less jobs j) nodes leases hws wc.drew (HT.out.below hb6.drew) (ownJobs oj6.drew rfl) (ownNodes on6.drew rfl) (ownLeases ol6.drew rfl))
      obtain ⟨c', hc'⟩ : ∃ c', checkE V8 ⟨rev, less jobs j, nodes, leases⟩ = c' := ⟨_, rfl⟩
      have hlj : c' = 0 ↔ hasLease leases nm = false := by rw [← hc']; exact hlj
      rw [hc'] at HC6
      have HLA := Lib.hid (fun v (hv : ((v.cell? ⟨y3.heap.size, 0, none⟩ = some (.int .i64 rev) ∧ v.cell? ⟨y3.heap.size, 1, none⟩ = some (.slice ad (less jobs j).length cp) ∧ v.cell? ⟨y3.heap.size, 2, none⟩ = some (.slice dn nodes.length en) ∧ v.cell? ⟨y3.heap.size, 3, none⟩ = some (.slice dl leases.length el)) ∧ (v.cell? ⟨w.heap.size, 1, none⟩ = some (.slice (some a) jobs.length cj) ∧ v.cell? ⟨w.heap.size, 3, none⟩ = some (.slice al leases.length cl)) ∧ v.cell? (a.add (j * 5)) = some (.string nm)) ∧ (y3.heap.size < v.heap.size ∧ w.heap.size < v.heap.size ∧ (a.add (j * 5)).block < v.heap.size) ∧ Below w.heap.size w v) => leaseAt_is leases al cl (by omega) nm v (leasesAt_next HML.out hv.2.2))
      obtain ⟨d, hd⟩ : ∃ d, hasLease leases nm = d := ⟨_, rfl⟩
      rw [hd] at hlj
      have HD := Lib.hid hd
      have o1 : ((wc.cell? ⟨y3.heap.size, 0, none⟩ = some (.int .i64 rev) ∧ wc.cell? ⟨y3.heap.size, 1, none⟩ = some (.slice ad (less jobs j).length cp) ∧ wc.cell? ⟨y3.heap.size, 2, none⟩ = some (.slice dn nodes.length en) ∧ wc.cell? ⟨y3.heap.size, 3, none⟩ = some (.slice dl leases.length el)) ∧ (wc.cell? ⟨w.heap.size, 1, none⟩ = some (.slice (some a) jobs.length cj) ∧ wc.cell? ⟨w.heap.size, 3, none⟩ = some (.slice al leases.length cl)) ∧ wc.cell? (a.add (j * 5)) = some (.string nm)) ∧ (y3.heap.size < wc.heap.size ∧ w.heap.size < wc.heap.size ∧ (a.add (j * 5)).block < wc.heap.size) ∧ Below w.heap.size w wc := ⟨⟨⟨t6.1.1 0 _ rfl, t6.1.1 1 _ rfl, t6.1.1 2 _ rfl, t6.1.1 3 _ rfl⟩, ⟨q6.1 1 _ rfl, q6.1 3 _ rfl⟩, m0⟩, ⟨t6.1.2, q6.2, by rw [add_block]; exact hal⟩, hb6⟩
      have wj : (0 : Int) ≤ (j : Int) := by omega
      have wj2 : (j : Int) < (jobs.length : Int) := by omega
      clear hws hc' hd t6 oj6 ol6 on6 q6 hb6 m0 hnm
      go_wp2_with fail
      cases d with
      | false =>
        have hc0 : c' = 0 := hlj.2 rfl
        subst hc0
        go_region_held3 (fun w' => ((w'.cell? ⟨y3.heap.size, 0, none⟩ = some (.int .i64 rev) ∧ w'.cell? ⟨y3.heap.size, 1, none⟩ = some (.slice ad (less jobs j).length cp) ∧ w'.cell? ⟨y3.heap.size, 2, none⟩ = some (.slice dn nodes.length en) ∧ w'.cell? ⟨y3.heap.size, 3, none⟩ = some (.slice dl leases.length el)) ∧ (w'.cell? ⟨w.heap.size, 1, none⟩ = some (.slice (some a) jobs.length cj) ∧ w'.cell? ⟨w.heap.size, 3, none⟩ = some (.slice al leases.length cl)) ∧ w'.cell? (a.add (j * 5)) = some (.string nm)) ∧ (y3.heap.size < w'.heap.size ∧ w.heap.size < w'.heap.size ∧ (a.add (j * 5)).block < w'.heap.size) ∧ Below w.heap.size w w') (first | assumption | exact ⟨o1.1, o1.2.1, o1.2.2.drew⟩)
          (first
            | (go_at_call 11; (with_reducible refine HC6.out.mono ?_); rintro e x5 ⟨rfl, b5⟩; have s5 := lessS_next (w := w) b5 (by assumption))
            | (go_at_call 25; (with_reducible refine (HLA.out _ (by assumption)).mono ?_); rintro e x6 ⟨r, rfl, hr, b6⟩; have hr0 : decide (r < 0) = true := (at_neg r).trans (congrArg not ((at_lease hr).symm.trans HD.out)); have s6 := lessS_next (w := w) b6 (by assumption)))
        all_goals
          rename_i s9
          have hb9 := s9.2.2
          clear s9
          go_wp2
          go_ret
          exact ⟨rfl, hb9⟩
      | true =>
        have hc0 : c' ≠ 0 := fun e => by have := hlj.1 e; cases this
        have hc1 : ((c' : Int) == 0) = false := by simp; omega
        go_region_held3 (fun w' => ((w'.cell? ⟨y3.heap.size, 0, none⟩ = some (.int .i64 rev) ∧ w'.cell? ⟨y3.heap.size, 1, none⟩ = some (.slice ad (less jobs j).length cp) ∧ w'.cell? ⟨y3.heap.size, 2, none⟩ = some (.slice dn nodes.length en) ∧ w'.cell? ⟨y3.heap.size, 3, none⟩ = some (.slice dl leases.length el)) ∧ (w'.cell? ⟨w.heap.size, 1, none⟩ = some (.slice (some a) jobs.length cj) ∧ w'.cell? ⟨w.heap.size, 3, none⟩ = some (.slice al leases.length cl)) ∧ w'.cell? (a.add (j * 5)) = some (.string nm)) ∧ (y3.heap.size < w'.heap.size ∧ w.heap.size < w'.heap.size ∧ (a.add (j * 5)).block < w'.heap.size) ∧ Below w.heap.size w w') (first | assumption | exact ⟨o1.1, o1.2.1, o1.2.2.drew⟩)
          (first
            | (go_at_call 11; (with_reducible refine HC6.out.mono ?_); rintro e x5 ⟨rfl, b5⟩; have s5 := lessS_next (w := w) b5 (by assumption))
            | (go_at_call 25; (with_reducible refine (HLA.out _ (by assumption)).mono ?_); rintro e x6 ⟨r, rfl, hr, b6⟩; have hr0 : decide (r < 0) = false := (at_neg r).trans (congrArg not ((at_lease hr).symm.trans HD.out)); have s6 := lessS_next (w := w) b6 (by assumption)))
        all_goals
          rename_i s9
          have hb9 := s9.2.2
          clear s9
          go_wp2
          go_ret
          exact ⟨rfl, hb9⟩
  have hn1 : 0 < leases.length := by omega
  obtain ⟨i, hi, hki⟩ := rest_nat k leases.length hn1
  have HRs := Lib.hid (rest_is k (leases.length : Int) (by omega) (by omega))
  rw [hki] at HRs
  clear hki
  go_wp2_with fail
  refine (HRs.out _).mono ?_
  rintro e v0 ⟨rfl, rfl⟩
  have HOw := Lib.hid (ownCopy_is rev aj an al cj cn cl jobs nodes leases hl.1 hl.2.2 hl.2.1 w.heap.size w2 q2 (jobsAt_next HMJ.out hb2) (nodesAt_next HMN.out hb2) (leasesAt_next HML.out hb2))
  go_wp2_with fail
  refine HOw.out.mono ?_
  rintro e w3 ⟨dj, ej, dn, en, dl, el, rfl, oj, on, ol, b3⟩
  have q3 := box_next q2 b3
  have hb3 := below_trans hb2 b3 hb2.size
  obtain ⟨g, cap, hfm, hBg, hgl⟩ := ol.form hn1
  simp only [Value.slice.injEq, true_and] at hfm
  obtain ⟨rfl, rfl⟩ := hfm
  have hcap := own_cap ol
  obtain ⟨W4, hW4⟩ : ∃ W4, w3.alloc (.cells #[.int .i64 rev, .slice dj jobs.length ej, .slice dn nodes.length en, .slice (some ⟨g, 0, none⟩) leases.length el] 26) = W4 := ⟨_, rfl⟩
  have b4 : Below w3.heap.size w3 W4 := by rw [← hW4]; exact below_one _ _
  have s4 : W4.heap.size = w3.heap.size + 1 := by rw [← hW4, World.size_alloc]
  have t4 := ownB_new4 w3 (.int .i64 rev) (.slice dj jobs.length ej) (.slice dn nodes.length en) (.slice (some ⟨g, 0, none⟩) leases.length el) 26
  rw [hW4] at t4
  have q4 := box_next q3 b4
  have hb4 := below_trans hb3 b4 hb3.size
  have oj4 := own_next oj b4
  have on4 := own_next on b4
  have ol4 := own_next ol b4
  have hs2 := b3.size
  have hw2 := hb2.size
  clear q2 q3 k0 k1 k2 k3 ol HOw HRs
  have t43 : W4.drew.cell? ⟨w3.heap.size, 3, none⟩ = some (.slice (some ⟨g, 0, none⟩) leases.length el) := t4.1.1 3 _ rfl
  have wi : IntKind.i64.wrap ((i : Int) + 1) = (i : Int) + 1 := IntWalk.i64_in _ (by omega)
  have wt : ((i : Int) + 1).toNat = i + 1 := by omega
  have wa : (0 : Int) ≤ (i : Int) + 1 := by omega
  have wb : (i : Int) + 1 ≤ (leases.length : Int) := by omega
  have wc' : (i : Int) ≤ (el : Int) := by omega
  have wd : (0 : Int) ≤ (i : Int) := by omega
  have HO := Lib.hid (own_prefix ol4.drew (Nat.le_of_lt hi))
  have HPt : Hid (∀ j u, (cLeases ((leases.take leases.length).drop (i + 1)))[j]? = some u → ∃ a : Addr, (if el = i + 1 then some (⟨g, 0, none⟩ : Addr) else some ⟨g, (i + 1) * 3, none⟩) = some a ∧ W4.drew.cell? (a.add j) = some u) := by
    have hp := part_lease (ownLeases ol4.drew rfl) (i + 1) leases.length el (Nat.le_refl _) hcap
    simp only [Option.map_some, addr_add] at hp
    exact hp
  have HLn : Hid ((cLeases ((leases.take leases.length).drop (i + 1))).length = (leases.length - (i + 1)) * 3) := by show _ = _; rw [cLeases_length, List.take_length, List.length_drop]
  have HW4 := Lib.hid hW4
  clear hW4
  go_upto_region 10 with fail
  rw [HW4.out]
  go_cut [] from 12 (fun wc => ∃ ad cp, OwnB w3.heap.size [.int .i64 rev, .slice dj jobs.length ej, .slice dn nodes.length en, .slice ad (less leases i).length cp] wc ∧ wc.ownsRow (w2.heap.size + 1) 48 3 (.slice ad (less leases i).length cp) (less leases i).length (cLeases (less leases i)) ∧ wc.ownsRow (w2.heap.size + 1) 42 5 (.slice dj jobs.length ej) jobs.length (cJobs jobs) ∧ wc.ownsRow (w2.heap.size + 1) 45 3 (.slice dn nodes.length en) nodes.length (cNodes nodes) ∧ Box w.heap.size [.int .i64 rev, .slice aj jobs.length cj, .slice an nodes.length cn, .slice al leases.length cl] wc ∧ Below w.heap.size w wc)
  case first =>
    go_region_law ((refine step_app (by rfl) _ _ 24 (by rfl) (w2.heap.size + 1) 48 i0 _ 3 40 Tryd.underlying24 Hi.out Hz0.out Hz1.out Hz2.out (by rfl) (by decide) _ _ _ (by rfl) HO.out _ _ _ (cLeases ((leases.take leases.length).drop (i + 1))) (by rfl) HLn.out HPt.out (cLeases_ones _) (by unfold maxLen; omega) (by omega) (by show _ ≤ W4.heap.size; omega) ?_; intro v1 x1 own1 hg1 hat1; obtain ⟨ad1, cp1, rfl⟩ := own_slice own1; have t5 := ownB_grown (w := W4.drew) (show OwnB w3.heap.size [.int .i64 rev, .slice dj jobs.length ej, .slice dn nodes.length en, .slice (some ⟨g, 0, none⟩) leases.length el] W4.drew from t4) hg1 (by intro e; have e : some w3.heap.size = some g := e; simp only [Option.some.injEq] at e; omega); have c3 := t5.1.1 3 _ rfl; have f3 := t5.2 3 (by simp)))
    all_goals
      have hx : W4.drew.heap.size = w3.heap.size + 1 := s4
      have ap : (Value.slice ad1 (i + (leases.length - (i + 1))) cp1).ownBlock ≠ some w3.heap.size := apart_block (g := g) (H := W4.drew.heap.size) hat1 (by omega) (by omega)
      have oj5 := oj4.drew.kept hg1 (own_other oj4.drew HO.out (by decide))
      have on5 := on4.drew.kept hg1 (own_other on4.drew HO.out (by decide))
      have q5 := box_grown (w := W4.drew) (show Box w.heap.size _ W4.drew from q4) hg1 (by intro e; have e : some w.heap.size = some g := e; simp only [Option.some.injEq] at e; omega)
      have hb5 : Below w.heap.size w x1 := hb4.drew.grown hg1 hb4.drew.size (fun j hj => by have hj : some g = some j := hj; simp only [Option.some.injEq] at hj; omega)
      have apj : (Value.slice dj jobs.length ej).ownBlock ≠ some w3.heap.size := by
        intro e
        have := (oj.lt _ e).2
        omega
      have apn : (Value.slice dn nodes.length en).ownBlock ≠ some w3.heap.size := by
        intro e
        have := (on.lt _ e).2
        omega
      try generalize (if el = i + 1 then some (⟨g, 0, none⟩ : Addr) else some ⟨g, (i + 1) * 3, none⟩) = ado
      go_wp2_with fail
      go_meet
      case rel =>
        rw [less_length leases i hi, ← less_leases leases i hi]
        exact ⟨ad1, cp1, ownB_set3 t5 _, row_stored own1 ap, row_stored oj5 apj, row_stored on5 apn, box_set q5 (by omega), hb5.setCell (p := ⟨w3.heap.size, 3, none⟩) (by show _ ≤ w3.heap.size; omega) _⟩
  case rest =>
    obtain ⟨ad, cp, t6, ol6, oj6, on6, q6, hb6⟩ := hcut
    have hval : checkE V8 ⟨rev, jobs, nodes, less leases i⟩ = 0 := (check_zero V8 _).2 (less_lease hV.out i)
    have hws : wState ⟨rev, jobs, nodes, less leases i⟩ := ⟨HWS.out.1, HWS.out.2.1, HWS.out.2.2.1, fun y hy => HWS.out.2.2.2 y (less_mem hy)⟩
    have HC6 := Lib.hid (check_any rev dj dn ad ej en cp jobs nodes (less leases i) hws wc (HT.out.below hb6) (ownJobs oj6 rfl) (ownNodes on6 rfl) (ownLeases ol6 rfl))
    rw [hval] at HC6
    have g0 := t6.1.1 0 _ rfl
    have g1 := t6.1.1 1 _ rfl
    have g2 := t6.1.1 2 _ rfl
    have g3 := t6.1.1 3 _ rfl
    clear t4 q4 hb4 oj4 on4 ol4 t43 HO HPt HLn hval hws t6 ol6 oj6 on6 oj on
    go_wp2_with fail
    refine HC6.out.mono ?_
    rintro e w7 ⟨rfl, b7⟩
    have q7 := box_next q6 b7
    have hb7 := below_trans hb6 b7 hb6.size
    clear q6 hb6 b7 HC6 g0 g1 g2 g3 hb3 hb2 b3 b4
    have k1 := q7.1 1 _ rfl
    have k3 := q7.1 3 _ rfl
    by_cases hm0 : ¬ 0 < jobs.length
    · go_wp2
      go_ret
      exact ⟨rfl, hb7⟩
    have hm1 : 0 < jobs.length := by omega
    obtain ⟨j, hj, hkj⟩ := rest_nat k jobs.length hm1
    have HRs := Lib.hid (rest_is k (jobs.length : Int) (by omega) (by omega))
    rw [hkj] at HRs
    clear hkj
    go_wp2_with fail
    refine (HRs.out _).mono ?_
    rintro e v0 ⟨rfl, rfl⟩
    have HOw := Lib.hid (ownCopy_is rev aj an al cj cn cl jobs nodes leases hl.1 hl.2.2 hl.2.1 w.heap.size w7 q7 (jobsAt_next HMJ.out hb7) (nodesAt_next HMN.out hb7) (leasesAt_next HML.out hb7))
    go_wp2_with fail
    refine HOw.out.mono ?_
    rintro e y3 ⟨dj, ej, dn, en, dl, el, rfl, oj, on, ol, b3⟩
    have q3 := box_next q7 b3
    have hb3 := below_trans hb7 b3 hb7.size
    obtain ⟨g, cap, hfm, hBg, hgl⟩ := oj.form hm1
    simp only [Value.slice.injEq, true_and] at hfm
    obtain ⟨rfl, rfl⟩ := hfm
    have hcap := own_cap oj
    obtain ⟨W4, hW4⟩ : ∃ W4, y3.alloc (.cells #[.int .i64 rev, .slice (some ⟨g, 0, none⟩) jobs.length ej, .slice dn nodes.length en, .slice dl leases.length el] 26) = W4 := ⟨_, rfl⟩
    have b4 : Below y3.heap.size y3 W4 := by rw [← hW4]; exact below_one _ _
    have s4 : W4.heap.size = y3.heap.size + 1 := by rw [← hW4, World.size_alloc]
    have t4 := ownB_new4 y3 (.int .i64 rev) (.slice (some ⟨g, 0, none⟩) jobs.length ej) (.slice dn nodes.length en) (.slice dl leases.length el) 26
    rw [hW4] at t4
    have q4 := box_next q3 b4
    have hb4 := below_trans hb3 b4 hb3.size
    have oj4 := own_next oj b4
    have on4 := own_next on b4
    have ol4 := own_next ol b4
    have hs2 := b3.size
    have hw2 := hb7.size
    clear q7 q3 k1 k3 oj HOw HRs
    have t43 : W4.drew.cell? ⟨y3.heap.size, 1, none⟩ = some (.slice (some ⟨g, 0, none⟩) jobs.length ej) := t4.1.1 1 _ rfl
    have wi : IntKind.i64.wrap ((j : Int) + 1) = (j : Int) + 1 := IntWalk.i64_in _ (by omega)
    have wt : ((j : Int) + 1).toNat = j + 1 := by omega
    have wa : (0 : Int) ≤ (j : Int) + 1 := by omega
    have wb : (j : Int) + 1 ≤ (jobs.length : Int) := by omega
    have wc' : (j : Int) ≤ (ej : Int) := by omega
    have wd : (0 : Int) ≤ (j : Int) := by omega
    have HO := Lib.hid (own_prefix oj4.drew (Nat.le_of_lt hj))
    have HPt : Hid (∀ m u, (cJobs ((jobs.take jobs.length).drop (j + 1)))[m]? = some u → ∃ a : Addr, (if ej = j + 1 then some (⟨g, 0, none⟩ : Addr) else some ⟨g, (j + 1) * 5, none⟩) = some a ∧ W4.drew.cell? (a.add m) = some u) := by
      have hp := part_job (ownJobs oj4.drew rfl) (j + 1) jobs.length ej (Nat.le_refl _) hcap
      simp only [Option.map_some, addr_add] at hp
      exact hp
    have HLn : Hid ((cJobs ((jobs.take jobs.length).drop (j + 1))).length = (jobs.length - (j + 1)) * 5) := by show _ = _; rw [cJobs_length, List.take_length, List.length_drop]
    have HW4 := Lib.hid hW4
    clear hW4
    go_upto_region 17 with fail
    rw [HW4.out]
    go_cut [] from 12 (fun wc => ∃ ad cp, OwnB y3.heap.size [.int .i64 rev, .slice ad (less jobs j).length cp, .slice dn nodes.length en, .slice dl leases.length el] wc ∧ wc.ownsRow (w7.heap.size + 1) 42 5 (.slice ad (less jobs j).length cp) (less jobs j).length (cJobs (less jobs j)) ∧ wc.ownsRow (w7.heap.size + 1) 48 3 (.slice dl leases.length el) leases.length (cLeases leases) ∧ wc.ownsRow (w7.heap.size + 1) 45 3 (.slice dn nodes.length en) nodes.length (cNodes nodes) ∧ Box w.heap.size [.int .i64 rev, .slice aj jobs.length cj, .slice an nodes.length cn, .slice al leases.length cl] wc ∧ Below w.heap.size w wc)
    case first =>
      go_region_law ((refine step_app (by rfl) _ _ 22 (by rfl) (w7.heap.size + 1) 42 i1 _ 5 56 Tryd.underlying22 Ji.out Jz0.out Jz1.out Jz2.out (by rfl) (by decide) _ _ _ (by rfl) HO.out _ _ _ (cJobs ((jobs.take jobs.length).drop (j + 1))) (by rfl) HLn.out HPt.out (cJobs_ones _) (by unfold maxLen; omega) (by omega) (by show _ ≤ W4.heap.size; omega) ?_; intro v1 x1 own1 hg1 hat1; obtain ⟨ad1, cp1, rfl⟩ := own_slice own1; have t5 := ownB_grown (w := W4.drew) (show OwnB y3.heap.size [.int .i64 rev, .slice (some ⟨g, 0, none⟩) jobs.length ej, .slice dn nodes.length en, .slice dl leases.length el] W4.drew from t4) hg1 (by intro e; have e : some y3.heap.size = some g := e; simp only [Option.some.injEq] at e; omega); have c3 := t5.1.1 1 _ rfl; have f3 := t5.2 1 (by simp)))
      all_goals
        have hx : W4.drew.heap.size = y3.heap.size + 1 := s4
        have ap : (Value.slice ad1 (j + (jobs.length - (j + 1))) cp1).ownBlock ≠ some y3.heap.size := apart_block (g := g) (H := W4.drew.heap.size) hat1 (by omega) (by omega)
        have ol5 := ol4.drew.kept hg1 (own_other ol4.drew HO.out (by decide))
        have on5 := on4.drew.kept hg1 (own_other on4.drew HO.out (by decide))
        have q5 := box_grown (w := W4.drew) (show Box w.heap.size _ W4.drew from q4) hg1 (by intro e; have e : some w.heap.size = some g := e; simp only [Option.some.injEq] at e; omega)
        have hb5 : Below w.heap.size w x1 := hb4.drew.grown hg1 hb4.drew.size (fun j hj => by have hj : some g = some j := hj; simp only [Option.some.injEq] at hj; omega)
        have apl : (Value.slice dl leases.length el).ownBlock ≠ some y3.heap.size := by
          intro e
          have := (ol.lt _ e).2
          omega
        have apn : (Value.slice dn nodes.length en).ownBlock ≠ some y3.heap.size := by
          intro e
          have := (on.lt _ e).2
          omega
        try generalize (if ej = j + 1 then some (⟨g, 0, none⟩ : Addr) else some ⟨g, (j + 1) * 5, none⟩) = ado
        go_wp2_with fail
        go_meet
        case rel =>
          rw [less_length jobs j hj, ← less_jobs jobs j hj]
          exact ⟨ad1, cp1, ownB_set1 t5 _, row_stored own1 ap, row_stored ol5 apl, row_stored on5 apn, box_set q5 (by omega), hb5.setCell (p := ⟨y3.heap.size, 1, none⟩) (by show _ ≤ y3.heap.size; omega) _⟩
    case rest =>
      obtain ⟨ad, cp, t6, oj6, ol6, on6, q6, hb6⟩ := hcut
      clear t4 q4 hb4 oj4 on4 ol4 t43 HO HPt HLn on ol
      obtain ⟨a, rfl, hal, m0, _⟩ := jobsAt_next HMJ.out hb6 j hj
      have hlj := less_job hV.out j hj
      simp only at hlj
      obtain ⟨nm, hnm⟩ : ∃ nm, jobs[j].name = nm := ⟨_, rfl⟩
      rw [hnm] at m0 hlj
      have hws : wState ⟨rev, less jobs j, nodes, leases⟩ := ⟨HWS.out.1, fun y hy => HWS.out.2.1 y (less_mem hy), HWS.out.2.2.1, HWS.out.2.2.2⟩
      have HC6 := Lib.hid (check_any rev ad dn dl cp en el (less jobs j) nodes leases hws wc.drew (HT.out.below hb6.drew) (ownJobs oj6.drew rfl) (ownNodes on6.drew rfl) (ownLeases ol6.drew rfl))
      obtain ⟨c', hc'⟩ : ∃ c', checkE V8 ⟨rev, less jobs j, nodes, leases⟩ = c' := ⟨_, rfl⟩
      have hlj : c' = 0 ↔ hasLease leases nm = false := by rw [← hc']; exact hlj
      rw [hc'] at HC6
      have HLA := Lib.hid (fun v (hv : ((v.cell? ⟨y3.heap.size, 0, none⟩ = some (.int .i64 rev) ∧ v.cell? ⟨y3.heap.size, 1, none⟩ = some (.slice ad (less jobs j).length cp) ∧ v.cell? ⟨y3.heap.size, 2, none⟩ = some (.slice dn nodes.length en) ∧ v.cell? ⟨y3.heap.size, 3, none⟩ = some (.slice dl leases.length el)) ∧ (v.cell? ⟨w.heap.size, 1, none⟩ = some (.slice (some a) jobs.length cj) ∧ v.cell? ⟨w.heap.size, 3, none⟩ = some (.slice al leases.length cl)) ∧ v.cell? (a.add (j * 5)) = some (.string nm)) ∧ (y3.heap.size < v.heap.size ∧ w.heap.size < v.heap.size ∧ (a.add (j * 5)).block < v.heap.size) ∧ Below w.heap.size w v) => leaseAt_is leases al cl (by omega) nm v (leasesAt_next HML.out hv.2.2))
      obtain ⟨d, hd⟩ : ∃ d, hasLease leases nm = d := ⟨_, rfl⟩
      rw [hd] at hlj
      have HD := Lib.hid hd
      have o1 : ((wc.cell? ⟨y3.heap.size, 0, none⟩ = some (.int .i64 rev) ∧ wc.cell? ⟨y3.heap.size, 1, none⟩ = some (.slice ad (less jobs j).length cp) ∧ wc.cell? ⟨y3.heap.size, 2, none⟩ = some (.slice dn nodes.length en) ∧ wc.cell? ⟨y3.heap.size, 3, none⟩ = some (.slice dl leases.length el)) ∧ (wc.cell? ⟨w.heap.size, 1, none⟩ = some (.slice (some a) jobs.length cj) ∧ wc.cell? ⟨w.heap.size, 3, none⟩ = some (.slice al leases.length cl)) ∧ wc.cell? (a.add (j * 5)) = some (.string nm)) ∧ (y3.heap.size < wc.heap.size ∧ w.heap.size < wc.heap.size ∧ (a.add (j * 5)).block < wc.heap.size) ∧ Below w.heap.size w wc := ⟨⟨⟨t6.1.1 0 _ rfl, t6.1.1 1 _ rfl, t6.1.1 2 _ rfl, t6.1.1 3 _ rfl⟩, ⟨q6.1 1 _ rfl, q6.1 3 _ rfl⟩, m0⟩, ⟨t6.1.2, q6.2, by rw [add_block]; exact hal⟩, hb6⟩
      have wj : (0 : Int) ≤ (j : Int) := by omega
      have wj2 : (j : Int) < (jobs.length : Int) := by omega
      clear hws hc' hd t6 oj6 ol6 on6 q6 hb6 m0 hnm
      go_wp2_with fail
      cases d with
      | false =>
        have hc0 : c' = 0 := hlj.2 rfl
        subst hc0
        go_region_held3 (fun w' => ((w'.cell? ⟨y3.heap.size, 0, none⟩ = some (.int .i64 rev) ∧ w'.cell? ⟨y3.heap.size, 1, none⟩ = some (.slice ad (less jobs j).length cp) ∧ w'.cell? ⟨y3.heap.size, 2, none⟩ = some (.slice dn nodes.length en) ∧ w'.cell? ⟨y3.heap.size, 3, none⟩ = some (.slice dl leases.length el)) ∧ (w'.cell? ⟨w.heap.size, 1, none⟩ = some (.slice (some a) jobs.length cj) ∧ w'.cell? ⟨w.heap.size, 3, none⟩ = some (.slice al leases.length cl)) ∧ w'.cell? (a.add (j * 5)) = some (.string nm)) ∧ (y3.heap.size < w'.heap.size ∧ w.heap.size < w'.heap.size ∧ (a.add (j * 5)).block < w'.heap.size) ∧ Below w.heap.size w w') (first | assumption | exact ⟨o1.1, o1.2.1, o1.2.2.drew⟩)
          (first
            | (go_at_call 11; (with_reducible refine HC6.out.mono ?_); rintro e x5 ⟨rfl, b5⟩; have s5 := lessS_next (w := w) b5 (by assumption))
            | (go_at_call 25; (with_reducible refine (HLA.out _ (by assumption)).mono ?_); rintro e x6 ⟨r, rfl, hr, b6⟩; have hr0 : decide (r < 0) = true := (at_neg r).trans (congrArg not ((at_lease hr).symm.trans HD.out)); have s6 := lessS_next (w := w) b6 (by assumption)))
        all_goals
          rename_i s9
          have hb9 := s9.2.2
          clear s9
          go_wp2
          go_ret
          exact ⟨rfl, hb9⟩
      | true =>
        have hc0 : c' ≠ 0 := fun e => by have := hlj.1 e; cases this
        have hc1 : ((c' : Int) == 0) = false := by simp; omega
        go_region_held3 (fun w' => ((w'.cell? ⟨y3.heap.size, 0, none⟩ = some (.int .i64 rev) ∧ w'.cell? ⟨y3.heap.size, 1, none⟩ = some (.slice ad (less jobs j).length cp) ∧ w'.cell? ⟨y3.heap.size, 2, none⟩ = some (.slice dn nodes.length en) ∧ w'.cell? ⟨y3.heap.size, 3, none⟩ = some (.slice dl leases.length el)) ∧ (w'.cell? ⟨w.heap.size, 1, none⟩ = some (.slice (some a) jobs.length cj) ∧ w'.cell? ⟨w.heap.size, 3, none⟩ = some (.slice al leases.length cl)) ∧ w'.cell? (a.add (j * 5)) = some (.string nm)) ∧ (y3.heap.size < w'.heap.size ∧ w.heap.size < w'.heap.size ∧ (a.add (j * 5)).block < w'.heap.size) ∧ Below w.heap.size w w') (first | assumption | exact ⟨o1.1, o1.2.1, o1.2.2.drew⟩)
          (first
            | (go_at_call 11; (with_reducible refine HC6.out.mono ?_); rintro e x5 ⟨rfl, b5⟩; have s5 := lessS_next (w := w) b5 (by assumption))
            | (go_at_call 25; (with_reducible refine (HLA.out _ (by assumption)).mono ?_); rintro e x6 ⟨r, rfl, hr, b6⟩; have hr0 : decide (r < 0) = false := (at_neg r).trans (congrArg not ((at_lease hr).symm.trans HD.out)); have s6 := lessS_next (w := w) b6 (by assumption)))
        all_goals
          rename_i s9
          have hb9 := s9.2.2
          clear s9
          go_wp2
          go_ret
          exact ⟨rfl, hb9⟩

theorem own : ownKnob Tryd.prog.godebug = none := by kernel_rfl
theorem laidOut : laidOutB Tryd.prog = true := by kernel_rfl
theorem laid_met (os : Os) : laidMet Tryd.prog Rows.stateLessRow.laid ((laidWorld os).forCall (fun _ _ => 0) ⟨#[], #[.agg #[.int .i64 0, .slice none 0 0, .slice none 0 0, .slice none 0 0], .int .i64 0], []⟩).memory :=
  laidMet_of_run' 8 (by kernel_rfl) (by kernel_rfl)
theorem reads (os : Os) {H : Type} (enc : TypeId × Value → H) : ∃ places, DataW.whole enc Tryd.prog ((laidWorld os).forCall (fun _ _ => 0) ⟨#[], #[.agg #[.int .i64 0, .slice none 0 0, .slice none 0 0, .slice none 0 0], .int .i64 0], []⟩).memory Tryd.f6.params.toList Rows.stateLessSpec.vars false #[Value.agg #[.int .i64 0, .slice none 0 0, .slice none 0 0, .slice none 0 0], Value.int .i64 0].toList 8 = some ([.agg [.lit (.int .i64 0), .nil, .nil, .nil], .lit (.int .i64 0)], [], places) :=
  ⟨[], by kernel_rfl⟩
set_option maxRecDepth 100000 in
set_option maxHeartbeats 2000000 in
theorem lifted (os : Os) (started : os.Started) (H : Type) (enc : TypeId × Value → H) (F : Stop.Interp) :
    ReturnsInHanded {} Tryd.checked os 6 .any ((OpenSpec.ofChange Rows.stateLessSpec).preRow enc Tryd.prog Tryd.f6 Rows.stateLessRow.domain false Rows.stateLessRow.laid) (((OpenSpec.ofChange Rows.stateLessSpec).at F).post enc Tryd.prog Tryd.f6 false true false false) := by
  obtain ⟨places, hx⟩ := reads os enc
  refine returnsInHanded_of_row (C := Tryd.checked) (s := (OpenSpec.ofChange Rows.stateLessSpec)) own started (by kernel_rfl) Tryd.func6
    (witness_row_atRef (enc := enc) (C := Tryd.checked) false (laidWorld os) #[.agg #[.int .i64 0, .slice none 0 0, .slice none 0 0, .slice none 0 0], .int .i64 0] rfl (by kernel_rfl) (by kernel_rfl) (by kernel_rfl)
      (OpenSpec.preRow_of_cond 8 hx (by kernel_rfl) (fun k hk => by cases hk) (by kernel_rfl) (laid_met os))) ?_
  intro W base args ds gs before hval0 hW _ _ hsz0 hL _ _
  have hval : ∀ (j : Nat) t v, Tryd.f6.params[j]? = some t → args[j]? = some v → Value.okWide Tryd.prog W .any base t v := hval0
  have hW' := hW
  obtain ⟨p, q, hA0, hV, rfl, hfz, hnd⟩ := hW
  have hA : DataW.TrodAll enc Tryd.prog W 0 (fun _ => true) true Tryd.f6.params.toList args.toList ds p := hA0
  have hsz : (DataW.weightsEach Tryd.prog (Tryd.f6.params.toList ++ Rows.stateLessSpec.plain.varTypes Tryd.prog) (ds ++ gs)).all (· ≤ reachBytes) = true := hsz0
  rw [Tryd.params6] at hA hval hsz
  obtain ⟨v0, vs0, d0, ds0, p0, q0, hargs, rfl, rfl, h0, r0⟩ := trodAll_cons hA
  obtain ⟨v1, vs1, d1, ds1, p1, q1, rfl, rfl, rfl, h1, r1⟩ := trodAll_cons r0
  obtain ⟨rfl, rfl, rfl⟩ := trodAll_nil r1
  obtain rfl : args = #[v0, v1] := by cases args; simp_all
  obtain ⟨rfl, rfl⟩ := trodVars_none hV
  obtain ⟨M0, st0, rfl, m0, x0, w0⟩ := open_state (hval 0 26 v0 rfl rfl) h0
  obtain ⟨a1, rfl, rfl, rfl, w1⟩ := open_int Tryd.underlying3 (hval 1 3 v1 rfl rfl) h1
  have s0 := sized_state hsz rfl (j := 0) rfl x0
  clear hA0 hval0
  refine (walk M0 st0 a1 w0 w1 s0 W m0 (tabs_of hL)).mono fun e W' ⟨he, bel⟩ => ?_
  subst he
  exact ⟨_, rfl, _, _, _, [], _, [], hW', trodAll_mk1 (shut_bool Tryd.underlying4 _), (trodAll_cons_mk (Below.trod laidOut (by kernel_rfl) (of_decide_eq_true (by kernel_rfl)) h0 bel (fun x hx => by simpa using hW'.lt x (by simp [hx]))) (trodAll_cons_mk (shut_int Tryd.underlying3 w1) trodAll_mk0)), rfl, bel.frame _, fun h => by cases h⟩
theorem said : Rows.StateLessSaid :=
  OpenClaim.holds_of_cond 6 Tryd.f6 rfl rfl rfl rfl rfl rfl rfl ⟨rfl, rfl, rfl, rfl, rfl⟩ rfl rfl rfl rfl rfl (by kernel_rfl) Tryd.func6 (by kernel_rfl)
    (of_decide_eq_true (by kernel_rfl)) (by unfold Func.isWrapper; first | (rw [if_pos (by decide +kernel)]; kernel_rfl) | (rw [if_neg (by decide +kernel)]; exact ⟨rfl, rfl⟩))
    (fun os started H enc _ F => by rw [OpenClaim.pre_eq_preRow]; exact lifted os started H enc F)
theorem plain (f : FuncId) (fn : Func) (hf : Tryd.pinned.checked.prog.funcNamed Rows.stateLessRow.func = some f) (hfn : Tryd.pinned.checked.prog.funcs[f]? = some fn) :
    false = Tryd.pinned.checked.prog.looks [] ∧ ∀ (j : Nat) t, fn.params[j]? = some t → Tryd.pinned.checked.prog.wantsStandIn t = false := by
  obtain rfl : f = 6 := Option.some.inj ((show Tryd.prog.funcNamed Rows.stateLessRow.func = some 6 by kernel_rfl).symm.trans hf) |>.symm
  obtain rfl : fn = Tryd.f6 := (Option.some.inj (Tryd.func6.symm.trans hfn)).symm
  refine ⟨by kernel_rfl, fun j t ht => ?_⟩
  rw [Tryd.params6] at ht
  have hm : t = 26 ∨ t = 3 := by simpa using Array.mem_of_getElem? ht
  rcases hm with rfl | rfl
  · exact (show Tryd.prog.wantsStandIn 26 = false by kernel_rfl)
  · exact (show Tryd.prog.wantsStandIn 3 = false by kernel_rfl)
theorem proved : Rows.StateLessCardSaid :=
  Claim7.holds_tied_plain_at .later [] _ _ _ _ said (fun _ h => by cases h) (by kernel_rfl) (fun _ h => by cases h) stateLess_row_tie rfl ⟨rfl, rfl⟩ (by kernel_rfl) rfl plain (by kernel_rfl)
#print axioms proved
end Go.Proofs.YtkdjpciegcofbaaDoor.stateLess
