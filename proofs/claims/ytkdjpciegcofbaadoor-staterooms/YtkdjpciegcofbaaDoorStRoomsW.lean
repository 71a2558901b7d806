/- The walk of the law StateRooms: for every state and all numbers k and more it returns true, where the library's tables lie as laid. -/
import Derived.Test.YtkdjpciegcofbaaDoorStOwn
import Derived.Test.YtkdjpciegcofbaaDoorStRest
import Derived.Test.YtkdjpciegcofbaaDoorStLaid
import Derived.Deep.RegionLaw
import Derived.Deep.RegionHeld3
import Derived.Deep.Cut
import Derived.Laws.Small
import Derived.WalkArith
namespace Go.Proofs.YtkdjpciegcofbaaDoor.stateRooms
open Go.ChangeShapes Go.WideShapes Go.ChangeAt Go.RowKit
set_option linter.unusedVariables false

theorem roomS_next {b B2 : Nat} {v0 v1 v2 v3 : Value} {w w1 w2 : World} (b2 : Below w1.heap.size w1 w2)
    (h : (w1.cell? ⟨b, 0, none⟩ = some v0 ∧ w1.cell? ⟨b, 1, none⟩ = some v1 ∧ w1.cell? ⟨b, 2, none⟩ = some v2 ∧ w1.cell? ⟨b, 3, none⟩ = some v3) ∧ (b < w1.heap.size ∧ B2 ≤ w1.heap.size) ∧ Below w.heap.size w w1) :
    (w2.cell? ⟨b, 0, none⟩ = some v0 ∧ w2.cell? ⟨b, 1, none⟩ = some v1 ∧ w2.cell? ⟨b, 2, none⟩ = some v2 ∧ w2.cell? ⟨b, 3, none⟩ = some v3) ∧ (b < w2.heap.size ∧ B2 ≤ w2.heap.size) ∧ Below w.heap.size w w2 := by
  obtain ⟨⟨c0, c1, c2, c3⟩, ⟨h1, h2⟩, h3⟩ := h
  have hs := b2.size
  exact ⟨⟨by rw [b2.cell (p := ⟨b, 0, none⟩) h1]; exact c0, by rw [b2.cell (p := ⟨b, 1, none⟩) h1]; exact c1, by rw [b2.cell (p := ⟨b, 2, none⟩) h1]; exact c2, by rw [b2.cell (p := ⟨b, 3, none⟩) h1]; exact c3⟩, ⟨by omega, by omega⟩, below_trans h3 b2 h3.size⟩
theorem roomS_set {b B2 b7 : Nat} {v0 v1 v2 v3 x0 x1 x2 x3 : Value} {w w1 : World} (h7 : b < b7) (hw : w.heap.size ≤ b7)
    (h : (w1.cell? ⟨b, 0, none⟩ = some v0 ∧ w1.cell? ⟨b, 1, none⟩ = some v1 ∧ w1.cell? ⟨b, 2, none⟩ = some v2 ∧ w1.cell? ⟨b, 3, none⟩ = some v3) ∧ (b < w1.heap.size ∧ B2 ≤ w1.heap.size) ∧ Below w.heap.size w w1) :
    ((set4 w1 b7 x0 x1 x2 x3).cell? ⟨b, 0, none⟩ = some v0 ∧ (set4 w1 b7 x0 x1 x2 x3).cell? ⟨b, 1, none⟩ = some v1 ∧ (set4 w1 b7 x0 x1 x2 x3).cell? ⟨b, 2, none⟩ = some v2 ∧ (set4 w1 b7 x0 x1 x2 x3).cell? ⟨b, 3, none⟩ = some v3) ∧ (b < (set4 w1 b7 x0 x1 x2 x3).heap.size ∧ B2 ≤ (set4 w1 b7 x0 x1 x2 x3).heap.size) ∧ Below w.heap.size w (set4 w1 b7 x0 x1 x2 x3) := by
  obtain ⟨⟨c0, c1, c2, c3⟩, ⟨h1, h2⟩, h3⟩ := h
  have hg := grown_set4 w1 b7 x0 x1 x2 x3
  have hs := hg.size
  have kk : ∀ j, (set4 w1 b7 x0 x1 x2 x3).cell? ⟨b, j, none⟩ = w1.cell? ⟨b, j, none⟩ := fun j => World.cell?_of_block (a := ⟨b, j, none⟩) (hg.block b h1 (by intro e; simp only [Option.some.injEq] at e; omega))
  exact ⟨⟨by rw [kk 0]; exact c0, by rw [kk 1]; exact c1, by rw [kk 2]; exact c2, by rw [kk 3]; exact c3⟩, ⟨by omega, by omega⟩, below_set4 h3 hw _ _ _ _⟩
theorem ownB_drew {b : Nat} {vs : List Value} {w : World} (h : OwnB b vs w) : OwnB b vs w.drew := h
theorem wf_i64 {d : Int} (h : 0 ≤ d ∧ d ≤ 1000000) : (Lit.int .i64 d).wf = true := by
  exact WalkArith.wf_i64 (by omega)
theorem own_other {w : World} {B B' e e' sz sz' n n' : Nat} {v v' : Value} {xs xs' : List Value} (h : w.ownsRow B e sz v n xs) (h' : w.ownsRow B' e' sz' v' n' xs') (hne : e ≠ e') : v.ownBlock = none ∨ v.ownBlock ≠ v'.ownBlock := by
  rcases h.2 with ⟨rfl, _⟩ | ⟨g, cap, cur, rfl, _, hg, _⟩
  · exact .inl rfl
  · rcases h'.2 with ⟨rfl, _⟩ | ⟨g', cap', cur', rfl, _, hg', _⟩
    · right; intro e; cases e
    · right
      intro he
      have he : some g = some g' := he
      simp only [Option.some.injEq] at he
      subst he
      rw [hg] at hg'
      simp only [Option.some.injEq, Obj.cells.injEq] at hg'
      exact hne hg'.2.1
theorem own_kept4 {w : World} {B e size n b : Nat} {v : Value} {xs : List Value} (h : w.ownsRow B e size v n xs) (hb : v.ownBlock ≠ some b) (x0 x1 x2 x3 : Value) : (set4 w b x0 x1 x2 x3).ownsRow B e size v n xs := h.kept (grown_set4 w b x0 x1 x2 x3) (.inr hb)
/-- One cell of a row written anew. -/
theorem node_set (l : List NodeD) (i : Nat) (h : i < l.length) (d : Int) : (cNodes l).set (i * 3 + 1) (.int .i64 d) = cNodes (l.set i { l[i] with room := d }) := by
  induction l generalizing i with
  | nil => simp at h
  | cons x l ih =>
    have e : ∀ (y : NodeD) (r : List NodeD), cNodes (y :: r) = cNode y ++ cNodes r := fun y r => by rw [show y :: r = [y] ++ r from rfl, cNodes_append, cNodes_one]
    cases i with
    | zero => rw [List.set_cons_zero, e, e]; rfl
    | succ i =>
      rw [List.set_cons_succ, e, e, List.set_append_right _ _ (by simp [cNode]; omega), List.getElem_cons_succ, ← ih i (by simpa using h)]
      congr 2
      simp [cNode]; omega
theorem job_set (l : List JobD) (i : Nat) (h : i < l.length) (d : Int) : (cJobs l).set (i * 5 + 2) (.int .i64 d) = cJobs (l.set i { l[i] with need := d }) := by
  induction l generalizing i with
  | nil => simp at h
  | cons x l ih =>
    have e : ∀ (y : JobD) (r : List JobD), cJobs (y :: r) = cJob y ++ cJobs r := fun y r => by rw [show y :: r = [y] ++ r from rfl, cJobs_append, cJobs_one]
    cases i with
    | zero => rw [List.set_cons_zero, e, e]; rfl
    | succ i =>
      rw [List.set_cons_succ, e, e, List.set_append_right _ _ (by simp [cJob]; omega), List.getElem_cons_succ, ← ih i (by simpa using h)]
      congr 2
      simp [cJob]; omega
set_option maxRecDepth 100000 in
set_option maxHeartbeats 3000000 in
theorem walk (M : StM) (s : StD) (k more : Int) (hw : wState s) (hk : (Lit.int .i64 k).wf = true) (hmo : (Lit.int .i64 more).wf = true) (hz : SzState s) (w : World) (hm : StateAt w M s) (hT : Tabs w) :
    Calls Tryd.prog 10 #[stV M s, .int .i64 k, .int .i64 more] w fun e w' => e = .returned (.bool true) ∧ Below w.heap.size w w' := by
  obtain ⟨rev, jobs, nodes, leases⟩ := s
  obtain ⟨aj, cj, an, cn, al, cl⟩ := M
  obtain ⟨hmj, hmn, hml⟩ := hm
  show Calls _ _ #[.agg #[.int .i64 rev, .slice aj jobs.length cj, .slice an nodes.length cn, .slice al leases.length cl], .int .i64 k, .int .i64 more] _ _
  simp only at hmj hmn hml
  have HMJ := Lib.hid hmj
  have HMN := Lib.hid hmn
  have HML := Lib.hid hml
  have HT := Lib.hid hT
  have HWS := Lib.hid hw
  obtain ⟨c, hc⟩ : ∃ c, checkE V8 ⟨rev, jobs, nodes, leases⟩ = c := ⟨_, rfl⟩
  have HC := Lib.hid hc
  have HCk := Lib.hid (fun v (hv : Below w.heap.size w v) => check_any rev aj an al cj cn cl jobs nodes leases hw v (hT.below hv) (jobsAt_next hmj hv) (nodesAt_next hmn hv) (leasesAt_next hml hv))
  rw [hc] at HCk
  have HSt := Lib.hid (fun v (hv : Below w.heap.size w v) => stated_is v (hT.below hv))
  clear hmj hmn hml hT hw hc
  clear hz hk hmo
  have bW := below_one w (.cells #[.int .i64 rev, .slice aj jobs.length cj, .slice an nodes.length cn, .slice al leases.length cl] 26)
  have q := box_new4 w (.int .i64 rev) (.slice aj jobs.length cj) (.slice an nodes.length cn) (.slice al leases.length cl) 26
  go_enter Tryd.func10, Tryd.ntmps10
  go_wp2_with fail
  refine (HSt.out _ bW).mono ?_
  rintro e w1 ⟨rfl, b1⟩
  have q1 := box_next q b1
  have hb1 := below_trans bW b1 bW.size
  clear q b1 bW
  have k0 := q1.1 0 _ rfl
  have k1 := q1.1 1 _ rfl
  have k2 := q1.1 2 _ rfl
  have k3 := q1.1 3 _ rfl
  go_wp2_with fail
  refine (HCk.out _ hb1).mono ?_
  rintro e w2 ⟨rfl, b2⟩
  have q2 := box_next q1 b2
  have hb2 := below_trans hb1 b2 hb1.size
  clear q1 k0 k1 k2 k3 b2 hb1
  by_cases h0 : c ≠ 0
  · have hc1 : ((c : Int) != 0) = true := by simp; omega
    go_wp2
    go_ret
    exact ⟨rfl, hb2⟩
  have h0 : c = 0 := by simpa using h0
  subst h0
  have hV := Lib.hid ((check_zero V8 _).1 HC.out)
  have hl := hV.out.2.1
  simp only at hl
  have HCJ := Lib.hid (fun v (hv : Below w.heap.size w v) => copy_job jobs aj cj hl.1 v (jobsAt_next HMJ.out hv))
  have HCN := Lib.hid (fun v (hv : Below w.heap.size w v) => copy_node nodes an cn (by omega) v (nodesAt_next HMN.out hv))
  have o1 : (w2.cell? ⟨w.heap.size, 0, none⟩ = some (.int .i64 rev) ∧ w2.cell? ⟨w.heap.size, 1, none⟩ = some (.slice aj jobs.length cj) ∧ w2.cell? ⟨w.heap.size, 2, none⟩ = some (.slice an nodes.length cn) ∧ w2.cell? ⟨w.heap.size, 3, none⟩ = some (.slice al leases.length cl)) ∧ (w.heap.size < w2.heap.size ∧ w2.heap.size ≤ w2.heap.size) ∧ Below w.heap.size w w2 := ⟨⟨q2.1 0 _ rfl, q2.1 1 _ rfl, q2.1 2 _ rfl, q2.1 3 _ rfl⟩, ⟨q2.2, Nat.le_refl _⟩, hb2⟩
  have HZ := Lib.hid (fun v (hv : (v.cell? ⟨w.heap.size, 0, none⟩ = some (.int .i64 rev) ∧ v.cell? ⟨w.heap.size, 1, none⟩ = some (.slice aj jobs.length cj) ∧ v.cell? ⟨w.heap.size, 2, none⟩ = some (.slice an nodes.length cn) ∧ v.cell? ⟨w.heap.size, 3, none⟩ = some (.slice al leases.length cl)) ∧ (w.heap.size < v.heap.size ∧ w2.heap.size ≤ v.heap.size) ∧ Below w.heap.size w v) => hv.2.1.2)
  have hq2 := q2.2
  go_upto_region 5 with fail
  go_cut [7] from 12 (fun v7 wc => ∃ b7 dj ej dn en, v7 = .pointer (some ⟨b7, 0, none⟩) ∧ w2.heap.size ≤ b7 ∧ OwnB b7 [.int .i64 rev, .slice dj jobs.length ej, .slice dn nodes.length en, .slice al leases.length cl] wc ∧ wc.ownsRow w2.heap.size 42 5 (.slice dj jobs.length ej) jobs.length (cJobs jobs) ∧ wc.ownsRow w2.heap.size 45 3 (.slice dn nodes.length en) nodes.length (cNodes nodes) ∧ (Value.slice dj jobs.length ej).ownBlock ≠ some b7 ∧ (Value.slice dn nodes.length en).ownBlock ≠ some b7 ∧ Below w.heap.size w wc)
  case first =>
    go_region_held3 (fun w' => (w'.cell? ⟨w.heap.size, 0, none⟩ = some (.int .i64 rev) ∧ w'.cell? ⟨w.heap.size, 1, none⟩ = some (.slice aj jobs.length cj) ∧ w'.cell? ⟨w.heap.size, 2, none⟩ = some (.slice an nodes.length cn) ∧ w'.cell? ⟨w.heap.size, 3, none⟩ = some (.slice al leases.length cl)) ∧ (w.heap.size < w'.heap.size ∧ w2.heap.size ≤ w'.heap.size) ∧ Below w.heap.size w w')
      (first | assumption | exact ⟨o1.1, o1.2.1, o1.2.2.drew⟩ | exact roomS_next (below_one _ _) (by assumption) | exact roomS_set (by first | exact hq2 | (have := HZ.out _ s2; omega)) (by first | exact hb2.size | (have := HZ.out _ s2; have := hb2.size; omega)) (by assumption))
      (first
        | (go_at_call 21; (with_reducible refine (HCJ.out _ (And.right (And.right (by assumption)))).mono ?_); rintro e xj ⟨dj, ej, rfl, oj', bj⟩; have oj := ownsRow_mono (B' := w2.heap.size) oj' (HZ.out _ (by assumption)); have s2 := roomS_next (w := w) bj (by assumption); (first | have r7 := ownB_next (ownB_new4 _ _ _ _ _ _) bj | have r7 := ownB_next (ownB_drew (ownB_new4 _ _ _ _ _ _)) bj | skip))
        | (go_at_call 22; (with_reducible refine (HCN.out _ (And.right (And.right (by assumption)))).mono ?_); rintro e xn ⟨dn, en, rfl, on', bn⟩; have on := ownsRow_mono (B' := w2.heap.size) on' (HZ.out _ (by assumption)); have oj := own_next (by first | exact oj | exact oj.alloc _) bn; have s2 := roomS_next (w := w) bn (by assumption); (first | have r7 := ownB_next r7 bn | have r7 := ownB_next (ownB_new4 _ _ _ _ _ _) bn | skip); (try have t0 := r7.1.1 0 _ rfl); (try have t1 := r7.1.1 1 _ rfl); (try have t2 := r7.1.1 2 _ rfl); (try have t3 := r7.1.1 3 _ rfl); (try have f0 := r7.2 0 (by simp)); (try have f1 := r7.2 1 (by simp)); (try have f2 := r7.2 2 (by simp)); (try have f3 := r7.2 3 (by simp))))
    · go_wp2_with fail
      go_meet
      case rel =>
        have hz2 := HZ.out _ s2
        have apj : (Value.slice dj jobs.length ej).ownBlock ≠ some xn.heap.size := fun e => by have h1 := (oj.lt _ e).2; omega
        have apn : (Value.slice dn nodes.length en).ownBlock ≠ some xn.heap.size := fun e => by have h1 := (on.lt _ e).2; omega
        exact ⟨xn.heap.size, dj, ej, dn, en, rfl, hz2, ownB_new4 _ _ _ _ _ _, oj.alloc _, on.alloc _, apj, apn, s2.2.2.alloc s2.2.2.size _⟩
    · go_wp2_with fail
      go_meet
      case rel =>
        have hj2 := bj.size
        have hz2 := HZ.out _ s2
        have hb2s := hb2.size
        have hx2 : w2.heap.size ≤ xj.heap.size := by simpa using hj2
        have apj : (Value.slice dj jobs.length ej).ownBlock ≠ some xj.heap.size := fun e => by have h1 := (oj'.lt _ e).2; omega
        have apn : (Value.slice dn nodes.length en).ownBlock ≠ some xj.heap.size := fun e => by have h1 := (on'.lt _ e).1; rw [World.size_alloc] at h1; omega
        exact ⟨xj.heap.size, dj, ej, dn, en, rfl, hx2, ownB_set4 r7 _ _ _ _, own_kept4 oj apj _ _ _ _, own_kept4 on apn _ _ _ _, apj, apn, below_set4 s2.2.2 (by omega) _ _ _ _⟩
    · go_wp2_with fail
      go_meet
      case rel =>
        have hj2 : (w2.alloc (.cells #[.int .i64 0, .slice none 0 0, .slice none 0 0, .slice none 0 0] 26)).heap.size ≤ xj.heap.size := bj.size
        rw [World.size_alloc] at hj2
        have apj : (Value.slice dj jobs.length ej).ownBlock ≠ some w2.heap.size := fun e => by
          have h1 : (w2.alloc (.cells #[.int .i64 0, .slice none 0 0, .slice none 0 0, .slice none 0 0] 26)).heap.size ≤ w2.heap.size := (oj'.lt _ e).1
          rw [World.size_alloc] at h1
          omega
        have apn : (Value.slice dn nodes.length en).ownBlock ≠ some w2.heap.size := fun e => by
          have h1 := (on'.lt _ e).1
          omega
        exact ⟨w2.heap.size, dj, ej, dn, en, rfl, Nat.le_refl _, ownB_set4 r7 _ _ _ _, own_kept4 oj apj _ _ _ _, own_kept4 on apn _ _ _ _, apj, apn, below_set4 s2.2.2 hb2.size _ _ _ _⟩
  case rest =>
    obtain ⟨b7, dj, ej, dn, en, rfl, h7, t7, oj, on, apj, apn, hb⟩ := hcut
    have hs2 := hb2.size
    clear o1 HCJ HCN HZ q2 hq2 hb2
    by_cases hn0 : ¬ 0 < nodes.length
    · obtain ⟨ns, hns⟩ : ∃ ns, nodes = ns := ⟨_, rfl⟩
      have HVn : Hid (Valid V8 ⟨rev, jobs, ns, leases⟩) := by show Valid _ _; rw [← hns]; exact hV.out
      have HWn : Hid (∀ y ∈ ns, wNode y) := by rw [← hns]; exact HWS.out.2.2.1
      have hlen : ns.length = nodes.length := by rw [hns]
      have onF : wc.ownsRow w2.heap.size 45 3 (.slice dn nodes.length en) nodes.length (cNodes ns) := by rw [← hns]; exact on
      clear hns
      have g0 := t7.1.1 0 _ rfl
      have g1 := t7.1.1 1 _ rfl
      have g2 := t7.1.1 2 _ rfl
      have g3 := t7.1.1 3 _ rfl
      by_cases hm0 : ¬ 0 < jobs.length
      · have hval : checkE V8 ⟨rev, jobs, ns, leases⟩ = 0 := (check_zero V8 _).2 HVn.out
        have hws : wState ⟨rev, jobs, ns, leases⟩ := ⟨HWS.out.1, HWS.out.2.1, HWn.out, HWS.out.2.2.2⟩
        have HC9 := Lib.hid (check_any rev dj dn al ej en cl jobs ns leases hws wc (HT.out.below hb) (ownJobs oj rfl) (ownNodes onF hlen.symm) (leasesAt_next HML.out hb))
        rw [hval, hlen] at HC9
        clear hval hws
        go_wp2_with fail
        refine HC9.out.mono ?_
        rintro e w9 ⟨rfl, b9⟩
        go_wp2
        go_ret
        exact ⟨rfl, below_trans hb b9 hb.size⟩
      have hm1 : 0 < jobs.length := by omega
      obtain ⟨j, hj, hkj⟩ := rest_nat k jobs.length hm1
      have HRj := Lib.hid (rest_is k (jobs.length : Int) (by omega) (by omega))
      rw [hkj] at HRj
      clear hkj
      obtain ⟨gj, capj, hfj, hBj, hglj⟩ := oj.form hm1
      simp only [Value.slice.injEq, true_and] at hfj
      obtain ⟨rfl, rfl⟩ := hfj
      have wj0 : (0 : Int) ≤ (j : Int) := by omega
      have wj1 : (j : Int) < (jobs.length : Int) := by omega
      go_wp2_with fail
      go_region_held3 (fun w' => w'.cell? ⟨b7, 1, none⟩ = some (.slice (some ⟨gj, 0, none⟩) jobs.length ej)) (first | assumption | exact g1)
        (first | (go_at_call 24; (with_reducible refine (HRj.out _).mono ?_); rintro e v ⟨rfl, rfl⟩))
      clear g0 g1 g2 g3
      have t8 : OwnB b7 [.int .i64 rev, .slice (some ⟨gj, 0, none⟩) jobs.length ej, .slice dn nodes.length en, .slice al leases.length cl] wc.drew := t7
      have oj8 := oj.drew
      have on8 := onF.drew
      have hb8 := hb.drew
      generalize wc.drew = W8 at t8 oj8 on8 hb8 ⊢
      have hjz := ((jobE_zero V8 jobs[j]).1 (HVn.out.2.2.1.1 jobs[j] (List.getElem_mem _))).2.2.1
      have hset := job_set jobs j hj
      have hrj := HVn.out
      obtain ⟨nd, hnd⟩ : ∃ nd, jobs[j].need = nd := ⟨_, rfl⟩
      have hcj : W8.drew.cell? ⟨gj, j * 5 + 2, none⟩ = some (.int .i64 nd) := by
        have h1 := oj8.drew.cellAt (j * 5 + 2) (by omega)
        rw [cJobs_at jobs j hj 2 (by omega)] at h1
        rw [← hnd]
        exact h1
      have hfj : W8.drew.frozen? ⟨gj, j * 5 + 2, none⟩ = false := oj8.drew.frozenAt (j * 5 + 2)
      rw [hnd] at hjz
      have h0r := Int.emod_nonneg more (b := nd + 1) (by omega)
      have h1r := Int.emod_lt_of_pos more (b := nd + 1) (by omega)
      have HRm := Lib.hid (rest_is more (nd + 1) (by omega) (by omega))
      obtain ⟨er, her⟩ : ∃ er, more % (nd + 1) = er := ⟨_, rfl⟩
      rw [her] at HRm h0r h1r
      have wn1 : IntKind.i64.wrap (nd + 1) = nd + 1 := IntWalk.i64_in _ (by omega)
      have wn2 : IntKind.i64.wrap (nd - er) = nd - er := IntWalk.i64_in _ (by omega)
      have st := oj8.stored (j * 5 + 2) (.int .i64 (nd - er))
      have ojF := st.1.drew
      rw [hset (nd - er)] at ojF
      have onF := (on8.kept st.2 (own_other on8 oj8 (by decide))).drew
      have tF := ownB_drew (ownB_grown t8 st.2 (by intro e; exact apj e.symm))
      have hbF : Below w.heap.size w (W8.setCell ⟨gj, j * 5 + 2, none⟩ (.int .i64 (nd - er))).drew := (hb8.setCell (p := ⟨gj, j * 5 + 2, none⟩) (by show _ ≤ gj; omega) _).drew
      have hval : checkE V8 ⟨rev, jobs.set j { jobs[j] with need := nd - er }, ns, leases⟩ = 0 := (check_zero V8 _).2 (rooms_job HVn.out j hj (nd - er) (by omega) (by rw [hnd]; omega))
      have hws : wState ⟨rev, jobs.set j { jobs[j] with need := nd - er }, ns, leases⟩ := ⟨HWS.out.1, fun y hy => by
        rcases List.mem_or_eq_of_mem_set hy with h | h
        · exact HWS.out.2.1 y h
        · subst h
          have h2 := HWS.out.2.1 jobs[j] (List.getElem_mem _)
          exact ⟨h2.1, h2.2.1, (show (Lit.int .i64 (nd - er)).wf = true from wf_i64 (by omega)), h2.2.2.2⟩, HWn.out, HWS.out.2.2.2⟩
      have HC9 := Lib.hid (check_any rev (some ⟨gj, 0, none⟩) dn al ej en cl (jobs.set j { jobs[j] with need := nd - er }) ns leases hws _ (HT.out.below hbF) (ownJobs ojF (List.length_set ..).symm) (ownNodes onF hlen.symm) (leasesAt_next HML.out hbF))
      rw [hval, hlen, List.length_set] at HC9
      have g0 := tF.1.1 0 _ rfl
      have g1 := tF.1.1 1 _ rfl
      have g2 := tF.1.1 2 _ rfl
      have g3 := tF.1.1 3 _ rfl
      clear hval hws ojF onF st hset hrj hnd her
      go_wp2_with fail
      go_region_law (first | (go_simp; go_at_call 24; refine (HRm.out _).mono ?_; rintro e v ⟨rfl, rfl⟩))
      all_goals
        go_wp2_with fail
        refine HC9.out.mono ?_
        rintro e w9 ⟨rfl, b9⟩
        go_wp2
        go_ret
        exact ⟨rfl, below_trans hbF b9 hbF.size⟩
    · have hn1 : 0 < nodes.length := by omega
      obtain ⟨i, hi, hki⟩ := rest_nat k nodes.length hn1
      have HRs := Lib.hid (rest_is k (nodes.length : Int) (by omega) (by omega))
      rw [hki] at HRs
      clear hki
      obtain ⟨g, cap, hfm, hBg, hgl⟩ := on.form hn1
      simp only [Value.slice.injEq, true_and] at hfm
      obtain ⟨rfl, rfl⟩ := hfm
      have wi0 : (0 : Int) ≤ (i : Int) := by omega
      have wi1 : (i : Int) < (nodes.length : Int) := by omega
      have g2 := t7.1.1 2 _ rfl
      go_wp2_with fail
      go_region_held3 (fun w' => w'.cell? ⟨b7, 2, none⟩ = some (.slice (some ⟨g, 0, none⟩) nodes.length en)) (first | assumption | exact g2)
        (first | (go_at_call 24; (with_reducible refine (HRs.out _).mono ?_); rintro e v ⟨rfl, rfl⟩))
      clear g2
      have t8 : OwnB b7 [.int .i64 rev, .slice dj jobs.length ej, .slice (some ⟨g, 0, none⟩) nodes.length en, .slice al leases.length cl] wc.drew := t7
      have oj8 := oj.drew
      have on8 := on.drew
      have hb8 := hb.drew
      generalize wc.drew = W8 at t8 oj8 on8 hb8 ⊢
      have hnz := ((nodeE_zero V8 nodes[i]).1 (hV.out.2.2.2.1.1 nodes[i] (List.getElem_mem _))).2
      have hset := node_set nodes i hi
      obtain ⟨rm, hrm⟩ : ∃ rm, nodes[i].room = rm := ⟨_, rfl⟩
      have hcn : W8.drew.cell? ⟨g, i * 3 + 1, none⟩ = some (.int .i64 rm) := by
        have h1 := on8.drew.cellAt (i * 3 + 1) (by omega)
        rw [cNodes_at nodes i hi 1 (by omega)] at h1
        rw [← hrm]
        exact h1
      have hfn : W8.drew.frozen? ⟨g, i * 3 + 1, none⟩ = false := on8.drew.frozenAt (i * 3 + 1)
      rw [hrm] at hnz
      have h0r := Int.emod_nonneg more (b := 1000) (by omega)
      have h1r := Int.emod_lt_of_pos more (b := 1000) (by omega)
      have HRm := Lib.hid (rest_is more 1000 (by omega) (by omega))
      obtain ⟨er, her⟩ : ∃ er, more % 1000 = er := ⟨_, rfl⟩
      rw [her] at HRm h0r h1r
      have wn1 : IntKind.i64.wrap (rm + er) = rm + er := IntWalk.i64_in _ (by omega)
      obtain ⟨d, hd⟩ : ∃ d, min 1000000 (rm + er) = d := ⟨_, rfl⟩
      have hd1 : rm ≤ d ∧ d ≤ 1000000 := by rw [← hd]; omega
      have st := on8.stored (i * 3 + 1) (.int .i64 d)
      have onF := st.1.drew
      rw [hset d] at onF
      have ojF := (oj8.kept st.2 (own_other oj8 on8 (by decide))).drew
      have tF := ownB_drew (ownB_grown t8 st.2 (by intro e; exact apn e.symm))
      have hbF : Below w.heap.size w (W8.setCell ⟨g, i * 3 + 1, none⟩ (.int .i64 d)).drew := (hb8.setCell (p := ⟨g, i * 3 + 1, none⟩) (by show _ ≤ g; omega) _).drew
      obtain ⟨ns, hns⟩ : ∃ ns, nodes.set i { nodes[i] with room := d } = ns := ⟨_, rfl⟩
      have HVn : Hid (Valid V8 ⟨rev, jobs, ns, leases⟩) := by
        show Valid _ _
        rw [← hns]
        exact rooms_node hV.out i hi d (by rw [hrm]; exact hd1.1) hd1.2
      have HWn : Hid (∀ y ∈ ns, wNode y) := by
        intro y hy
        rw [← hns] at hy
        rcases List.mem_or_eq_of_mem_set hy with h | h
        · exact HWS.out.2.2.1 y h
        · subst h
          have h2 := HWS.out.2.2.1 nodes[i] (List.getElem_mem _)
          exact ⟨h2.1, (show (Lit.int .i64 d).wf = true from wf_i64 (by omega)), h2.2.2⟩
      have hlen : ns.length = nodes.length := by rw [← hns, List.length_set]
      rw [hns] at onF
      clear hns hset st hnz hrm her oj on t7 hb
      go_wp2_with fail
      go_region_law (first | (go_simp; go_at_call 24; refine (HRm.out _).mono ?_; rintro e v ⟨rfl, rfl⟩))
      all_goals
        generalize (W8.setCell ⟨g, i * 3 + 1, none⟩ (.int .i64 d)).drew = WN at tF ojF onF hbF ⊢
        have g0 := tF.1.1 0 _ rfl
        have g1 := tF.1.1 1 _ rfl
        have g2 := tF.1.1 2 _ rfl
        have g3 := tF.1.1 3 _ rfl
        by_cases hm0 : ¬ 0 < jobs.length
        · have hval : checkE V8 ⟨rev, jobs, ns, leases⟩ = 0 := (check_zero V8 _).2 HVn.out
          have hws : wState ⟨rev, jobs, ns, leases⟩ := ⟨HWS.out.1, HWS.out.2.1, HWn.out, HWS.out.2.2.2⟩
          have HC9 := Lib.hid (check_any rev dj (some ⟨g, 0, none⟩) al ej en cl jobs ns leases hws WN (HT.out.below hbF) (ownJobs ojF rfl) (ownNodes onF hlen.symm) (leasesAt_next HML.out hbF))
          rw [hval, hlen] at HC9
          clear hval hws
          go_wp2_with fail
          refine HC9.out.mono ?_
          rintro e w9 ⟨rfl, b9⟩
          go_wp2
          go_ret
          exact ⟨rfl, below_trans hbF b9 hbF.size⟩
        have hm1 : 0 < jobs.length := by omega
        obtain ⟨j, hj, hkj⟩ := rest_nat k jobs.length hm1
        have HRj := Lib.hid (rest_is k (jobs.length : Int) (by omega) (by omega))
        rw [hkj] at HRj
        clear hkj
        obtain ⟨gj, capj, hfj, hBj, hglj⟩ := ojF.form hm1
        simp only [Value.slice.injEq, true_and] at hfj
        obtain ⟨rfl, rfl⟩ := hfj
        have wj0 : (0 : Int) ≤ (j : Int) := by omega
        have wj1 : (j : Int) < (jobs.length : Int) := by omega
        go_wp2_with fail
        go_region_held3 (fun w' => w'.cell? ⟨b7, 1, none⟩ = some (.slice (some ⟨gj, 0, none⟩) jobs.length ej)) (first | assumption | exact g1)
          (first | (go_at_call 24; (with_reducible refine (HRj.out _).mono ?_); rintro e v ⟨rfl, rfl⟩))
        clear g0 g1 g2 g3
        have t8 : OwnB b7 [.int .i64 rev, .slice (some ⟨gj, 0, none⟩) jobs.length ej, .slice (some ⟨g, 0, none⟩) nodes.length en, .slice al leases.length cl] WN.drew := tF
        have oj8 := ojF.drew
        have on8 := onF.drew
        have hb8 := hbF.drew
        generalize WN.drew = W8 at t8 oj8 on8 hb8 ⊢
        have hjz := ((jobE_zero V8 jobs[j]).1 (HVn.out.2.2.1.1 jobs[j] (List.getElem_mem _))).2.2.1
        have hset := job_set jobs j hj
        have hrj := HVn.out
        obtain ⟨nd, hnd⟩ : ∃ nd, jobs[j].need = nd := ⟨_, rfl⟩
        have hcj : W8.drew.cell? ⟨gj, j * 5 + 2, none⟩ = some (.int .i64 nd) := by
          have h1 := oj8.drew.cellAt (j * 5 + 2) (by omega)
          rw [cJobs_at jobs j hj 2 (by omega)] at h1
          rw [← hnd]
          exact h1
        have hfj : W8.drew.frozen? ⟨gj, j * 5 + 2, none⟩ = false := oj8.drew.frozenAt (j * 5 + 2)
        rw [hnd] at hjz
        have h0r := Int.emod_nonneg more (b := nd + 1) (by omega)
        have h1r := Int.emod_lt_of_pos more (b := nd + 1) (by omega)
        have HRm := Lib.hid (rest_is more (nd + 1) (by omega) (by omega))
        obtain ⟨er, her⟩ : ∃ er, more % (nd + 1) = er := ⟨_, rfl⟩
        rw [her] at HRm h0r h1r
        have wn1 : IntKind.i64.wrap (nd + 1) = nd + 1 := IntWalk.i64_in _ (by omega)
        have wn2 : IntKind.i64.wrap (nd - er) = nd - er := IntWalk.i64_in _ (by omega)
        have st := oj8.stored (j * 5 + 2) (.int .i64 (nd - er))
        have ojF := st.1.drew
        rw [hset (nd - er)] at ojF
        have onF := (on8.kept st.2 (own_other on8 oj8 (by decide))).drew
        have tF := ownB_drew (ownB_grown t8 st.2 (by intro e; exact apj e.symm))
        have hbF : Below w.heap.size w (W8.setCell ⟨gj, j * 5 + 2, none⟩ (.int .i64 (nd - er))).drew := (hb8.setCell (p := ⟨gj, j * 5 + 2, none⟩) (by show _ ≤ gj; omega) _).drew
        have hval : checkE V8 ⟨rev, jobs.set j { jobs[j] with need := nd - er }, ns, leases⟩ = 0 := (check_zero V8 _).2 (rooms_job HVn.out j hj (nd - er) (by omega) (by rw [hnd]; omega))
        have hws : wState ⟨rev, jobs.set j { jobs[j] with need := nd - er }, ns, leases⟩ := ⟨HWS.out.1, fun y hy => by
          rcases List.mem_or_eq_of_mem_set hy with h | h
          · exact HWS.out.2.1 y h
          · subst h
            have h2 := HWS.out.2.1 jobs[j] (List.getElem_mem _)
            exact ⟨h2.1, h2.2.1, (show (Lit.int .i64 (nd - er)).wf = true from wf_i64 (by omega)), h2.2.2.2⟩, HWn.out, HWS.out.2.2.2⟩
        have HC9 := Lib.hid (check_any rev (some ⟨gj, 0, none⟩) (some ⟨g, 0, none⟩) al ej en cl (jobs.set j { jobs[j] with need := nd - er }) ns leases hws _ (HT.out.below hbF) (ownJobs ojF (List.length_set ..).symm) (ownNodes onF hlen.symm) (leasesAt_next HML.out hbF))
        rw [hval, hlen, List.length_set] at HC9
        have g0 := tF.1.1 0 _ rfl
        have g1 := tF.1.1 1 _ rfl
        have g2 := tF.1.1 2 _ rfl
        have g3 := tF.1.1 3 _ rfl
        clear hval hws ojF onF st hset hrj hnd her
        go_wp2_with fail
        go_region_law (first | (go_simp; go_at_call 24; refine (HRm.out _).mono ?_; rintro e v ⟨rfl, rfl⟩))
        all_goals
          go_wp2_with fail
          refine HC9.out.mono ?_
          rintro e w9 ⟨rfl, b9⟩
          go_wp2
          go_ret
          exact ⟨rfl, below_trans hbF b9 hbF.size⟩

end Go.Proofs.YtkdjpciegcofbaaDoor.stateRooms
