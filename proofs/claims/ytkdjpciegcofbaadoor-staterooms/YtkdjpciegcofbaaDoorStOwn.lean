/- StateLess's own copy of a state (a closure); a row without one element. -/
import Derived.Test.YtkdjpciegcofbaaDoorStCopy
import Derived.Test.YtkdjpciegcofbaaDoorStStated
import Derived.Deep.RegionHeld3
namespace Go.Proofs.YtkdjpciegcofbaaDoor
open Go.RowKit

theorem own_prefix {w : World} {B e sz n g cap i : Nat} {xs : List Value} (h : w.ownsRow B e sz (.slice (some ⟨g, 0, none⟩) n cap) n xs) (hi : i ≤ n) : w.ownsRow B e sz (.slice (some ⟨g, 0, none⟩) i cap) i (xs.take (i * sz)) := by
  have hl := h.1
  have hm : i * sz ≤ n * sz := Nat.mul_le_mul_right sz hi
  refine ⟨by rw [List.length_take, hl, Nat.min_eq_left hm], ?_⟩
  rcases h.2 with ⟨h0, _⟩ | ⟨g', cap', cur, hv, hb, hg, hnc, hcm, hs, ht⟩
  · cases h0
  · simp only [Value.slice.injEq, Option.some.injEq, Addr.mk.injEq, true_and, and_true] at hv
    obtain ⟨rfl, rfl⟩ := hv
    refine .inr ⟨g, cap, cur, rfl, hb, hg, by omega, hcm, hs, ?_⟩
    rw [← ht, List.take_take, Nat.min_eq_left hm]
theorem own_cap {w : World} {B e sz n g cap : Nat} {xs : List Value} (h : w.ownsRow B e sz (.slice (some ⟨g, 0, none⟩) n cap) n xs) : n ≤ cap := by
  rcases h.2 with ⟨h0, _⟩ | ⟨g', cap', cur, hv, hb, hg, hnc, _⟩
  · cases h0
  · simp only [Value.slice.injEq, Option.some.injEq, Addr.mk.injEq, true_and, and_true] at hv
    obtain ⟨rfl, rfl⟩ := hv
    exact hnc
theorem cLeases_take (xs : List LeaseD) (i : Nat) (h : i ≤ xs.length) : (cLeases xs).take (i * 3) = cLeases (xs.take i) := by
  have e : cLeases xs = cLeases (xs.take i) ++ cLeases (xs.drop i) := by rw [← cLeases_append, List.take_append_drop]
  rw [e, List.take_left' (by rw [cLeases_length, List.length_take, Nat.min_eq_left h])]
theorem cJobs_take (xs : List JobD) (i : Nat) (h : i ≤ xs.length) : (cJobs xs).take (i * 5) = cJobs (xs.take i) := by
  have e : cJobs xs = cJobs (xs.take i) ++ cJobs (xs.drop i) := by rw [← cJobs_append, List.take_append_drop]
  rw [e, List.take_left' (by rw [cJobs_length, List.length_take, Nat.min_eq_left h])]
/-- Four cells written anew. -/
def set4 (w : World) (b : Nat) (x0 x1 x2 x3 : Value) : World := (((w.setCell ⟨b, 0, none⟩ x0).setCell ⟨b, 1, none⟩ x1).setCell ⟨b, 2, none⟩ x2).setCell ⟨b, 3, none⟩ x3
theorem ownB_set4 {b : Nat} {v0 v1 v2 v3 : Value} {w : World} (h : OwnB b [v0, v1, v2, v3] w) (x0 x1 x2 x3 : Value) : OwnB b [x0, x1, x2, x3] (set4 w b x0 x1 x2 x3) := by
  have hl := h.1.2
  have k0 := h.1.1 0 _ rfl
  have k1 := h.1.1 1 _ rfl
  have k2 := h.1.1 2 _ rfl
  have k3 := h.1.1 3 _ rfl
  have f0 := h.2 0 (by simp)
  have f1 := h.2 1 (by simp)
  have f2 := h.2 2 (by simp)
  have f3 := h.2 3 (by simp)
  refine ⟨⟨fun j v hj => ?_, by unfold set4; simp [World.setCell, hl]⟩, fun j hj => ?_⟩
  · match j with
    | 0 => simp at hj; subst hj; unfold set4; go_simp
    | 1 => simp at hj; subst hj; unfold set4; go_simp
    | 2 => simp at hj; subst hj; unfold set4; go_simp
    | 3 => simp at hj; subst hj; unfold set4; go_simp
    | j + 4 => simp at hj
  · match j with
    | 0 => unfold set4; go_simp
    | 1 => unfold set4; go_simp
    | 2 => unfold set4; go_simp
    | 3 => unfold set4; go_simp
    | j + 4 => exact absurd hj (by simp)
theorem grown_set4 (w : World) (b : Nat) (x0 x1 x2 x3 : Value) : w.grownBy (set4 w b x0 x1 x2 x3) (some b) := by
  have t : ∀ {a c d : World}, a.grownBy c (some b) → c.grownBy d (some b) → a.grownBy d (some b) := fun h k => ⟨k.os.trans h.os, k.tape.trans h.tape, k.output.trans h.output, Nat.le_trans h.size k.size, fun i hi hr => (k.block i (Nat.lt_of_lt_of_le hi h.size) hr).trans (h.block i hi hr)⟩
  exact t (t (t (grown_set w b 0 x0) (grown_set _ b 1 x1)) (grown_set _ b 2 x2)) (grown_set _ b 3 x3)
theorem below_set4 {B b : Nat} {w0 w : World} (h : Below B w0 w) (hb : B ≤ b) (x0 x1 x2 x3 : Value) : Below B w0 (set4 w b x0 x1 x2 x3) :=
  (((h.setCell (p := ⟨b, 0, none⟩) hb x0).setCell (p := ⟨b, 1, none⟩) hb x1).setCell (p := ⟨b, 2, none⟩) hb x2).setCell (p := ⟨b, 3, none⟩) hb x3
theorem own_set4 {w : World} {B e size n b : Nat} {v : Value} {xs : List Value} (h : w.ownsRow B e size v n xs) (hb : b < B) (x0 x1 x2 x3 : Value) : (set4 w b x0 x1 x2 x3).ownsRow B e size v n xs :=
  own_set (own_set (own_set (own_set h hb 0 x0) hb 1 x1) hb 2 x2) hb 3 x3
theorem ownsRow_mono {w : World} {B B' e size n : Nat} {v : Value} {xs : List Value} (h : w.ownsRow B e size v n xs) (hb : B' ≤ B) : w.ownsRow B' e size v n xs := by
  refine ⟨h.1, ?_⟩
  rcases h.2 with h0 | ⟨g, cap, cur, hv, hbg, r⟩
  · exact .inl h0
  · exact .inr ⟨g, cap, cur, hv, by omega, r⟩
/-- What the closure's region reads. -/
theorem ownS_next {b : Nat} {v0 v1 v2 v3 : Value} {w w1 w2 : World} (b2 : Below w1.heap.size w1 w2)
    (h : (w1.cell? ⟨b, 0, none⟩ = some v0 ∧ w1.cell? ⟨b, 1, none⟩ = some v1 ∧ w1.cell? ⟨b, 2, none⟩ = some v2 ∧ w1.cell? ⟨b, 3, none⟩ = some v3) ∧ (b < w.heap.size ∧ w.heap.size < w1.heap.size) ∧ Below w.heap.size w w1) :
    (w2.cell? ⟨b, 0, none⟩ = some v0 ∧ w2.cell? ⟨b, 1, none⟩ = some v1 ∧ w2.cell? ⟨b, 2, none⟩ = some v2 ∧ w2.cell? ⟨b, 3, none⟩ = some v3) ∧ (b < w.heap.size ∧ w.heap.size < w2.heap.size) ∧ Below w.heap.size w w2 := by
  obtain ⟨⟨c0, c1, c2, c3⟩, ⟨h1, h2⟩, h3⟩ := h
  have hs := b2.size
  have h4 : b < w1.heap.size := by omega
  exact ⟨⟨by rw [b2.cell (p := ⟨b, 0, none⟩) h4]; exact c0, by rw [b2.cell (p := ⟨b, 1, none⟩) h4]; exact c1, by rw [b2.cell (p := ⟨b, 2, none⟩) h4]; exact c2, by rw [b2.cell (p := ⟨b, 3, none⟩) h4]; exact c3⟩, ⟨h1, by omega⟩, below_trans h3 b2 h3.size⟩
theorem ownS_set {b : Nat} {v0 v1 v2 v3 x0 x1 x2 x3 : Value} {w w1 : World}
    (h : (w1.cell? ⟨b, 0, none⟩ = some v0 ∧ w1.cell? ⟨b, 1, none⟩ = some v1 ∧ w1.cell? ⟨b, 2, none⟩ = some v2 ∧ w1.cell? ⟨b, 3, none⟩ = some v3) ∧ (b < w.heap.size ∧ w.heap.size < w1.heap.size) ∧ Below w.heap.size w w1) :
    ((set4 w1 w.heap.size x0 x1 x2 x3).cell? ⟨b, 0, none⟩ = some v0 ∧ (set4 w1 w.heap.size x0 x1 x2 x3).cell? ⟨b, 1, none⟩ = some v1 ∧ (set4 w1 w.heap.size x0 x1 x2 x3).cell? ⟨b, 2, none⟩ = some v2 ∧ (set4 w1 w.heap.size x0 x1 x2 x3).cell? ⟨b, 3, none⟩ = some v3) ∧ (b < w.heap.size ∧ w.heap.size < (set4 w1 w.heap.size x0 x1 x2 x3).heap.size) ∧ Below w.heap.size w (set4 w1 w.heap.size x0 x1 x2 x3) := by
  obtain ⟨⟨c0, c1, c2, c3⟩, ⟨h1, h2⟩, h3⟩ := h
  have hg := grown_set4 w1 w.heap.size x0 x1 x2 x3
  have hs := hg.size
  have kk : ∀ j, (set4 w1 w.heap.size x0 x1 x2 x3).cell? ⟨b, j, none⟩ = w1.cell? ⟨b, j, none⟩ := fun j => World.cell?_of_block (a := ⟨b, j, none⟩) (hg.block b (by omega) (by intro e; simp only [Option.some.injEq] at e; omega))
  exact ⟨⟨by rw [kk 0]; exact c0, by rw [kk 1]; exact c1, by rw [kk 2]; exact c2, by rw [kk 3]; exact c3⟩, ⟨h1, by omega⟩, below_set4 h3 (Nat.le_refl _) _ _ _ _⟩
set_option maxRecDepth 100000 in
set_option maxHeartbeats 8000000 in
theorem ownCopy_is (rev : Int) (aj an al : Option Addr) (cj cn cl : Nat) (jobs : List JobD) (nodes : List NodeD) (leases : List LeaseD) (hj : jobs.length ≤ 40) (hn : nodes.length ≤ 20) (hl : leases.length ≤ 40) (b : Nat) (w : World) (q : Box b [.int .i64 rev, .slice aj jobs.length cj, .slice an nodes.length cn, .slice al leases.length cl] w) (hmj : JobsAt w aj jobs) (hmn : NodesAt w an nodes) (hml : LeasesAt w al leases) :
    Calls Tryd.prog 20 #[.pointer (some ⟨b, 0, none⟩)] w fun e w' => ∃ aj' cj' an' cn' al' cl', e = .returned (.agg #[.int .i64 rev, .slice aj' jobs.length cj', .slice an' nodes.length cn', .slice al' leases.length cl']) ∧ w'.ownsRow (w.heap.size + 1) 42 5 (.slice aj' jobs.length cj') jobs.length (cJobs jobs) ∧ w'.ownsRow (w.heap.size + 1) 45 3 (.slice an' nodes.length cn') nodes.length (cNodes nodes) ∧ w'.ownsRow (w.heap.size + 1) 48 3 (.slice al' leases.length cl') leases.length (cLeases leases) ∧ Below w.heap.size w w' := by
  have o1 : ((w.alloc (.cells #[.int .i64 0, .slice none 0 0, .slice none 0 0, .slice none 0 0] 26)).cell? ⟨b, 0, none⟩ = some (.int .i64 rev) ∧ (w.alloc (.cells #[.int .i64 0, .slice none 0 0, .slice none 0 0, .slice none 0 0] 26)).cell? ⟨b, 1, none⟩ = some (.slice aj jobs.length cj) ∧ (w.alloc (.cells #[.int .i64 0, .slice none 0 0, .slice none 0 0, .slice none 0 0] 26)).cell? ⟨b, 2, none⟩ = some (.slice an nodes.length cn) ∧ (w.alloc (.cells #[.int .i64 0, .slice none 0 0, .slice none 0 0, .slice none 0 0] 26)).cell? ⟨b, 3, none⟩ = some (.slice al leases.length cl)) ∧ (b < w.heap.size ∧ w.heap.size < (w.alloc (.cells #[.int .i64 0, .slice none 0 0, .slice none 0 0, .slice none 0 0] 26)).heap.size) ∧ Below w.heap.size w (w.alloc (.cells #[.int .i64 0, .slice none 0 0, .slice none 0 0, .slice none 0 0] 26)) := by
    have q1 := box_alloc q (.cells #[.int .i64 0, .slice none 0 0, .slice none 0 0, .slice none 0 0] 26)
    exact ⟨⟨q1.1 0 _ rfl, q1.1 1 _ rfl, q1.1 2 _ rfl, q1.1 3 _ rfl⟩, ⟨q.2, by simp⟩, below_one _ _⟩
  have r0 := ownB_new4 w (.int .i64 0) (.slice none 0 0) (.slice none 0 0) (.slice none 0 0) 26
  have HCJ := Lib.hid (fun v (hv : Below w.heap.size w v) => copy_job jobs aj cj hj v (jobsAt_next hmj hv))
  have HCN := Lib.hid (fun v (hv : Below w.heap.size w v) => copy_node nodes an cn (by omega) v (nodesAt_next hmn hv))
  have HCL := Lib.hid (fun v (hv : Below w.heap.size w v) => copy_lease leases al cl hl v (leasesAt_next hml hv))
  have HZ := Lib.hid (fun v (hv : (v.cell? ⟨b, 0, none⟩ = some (.int .i64 rev) ∧ v.cell? ⟨b, 1, none⟩ = some (.slice aj jobs.length cj) ∧ v.cell? ⟨b, 2, none⟩ = some (.slice an nodes.length cn) ∧ v.cell? ⟨b, 3, none⟩ = some (.slice al leases.length cl)) ∧ (b < w.heap.size ∧ w.heap.size < v.heap.size) ∧ Below w.heap.size w v) => (show w.heap.size + 1 ≤ v.heap.size from hv.2.1.2))
  clear q hmj hmn hml
  go_enter Tryd.func20, Tryd.ntmps20
  go_wp2_with fail
  generalize w.alloc (.cells #[.int .i64 0, .slice none 0 0, .slice none 0 0, .slice none 0 0] 26) = W at o1 r0 ⊢
  have r1 : OwnB w.heap.size [.int .i64 0, .slice none 0 0, .slice none 0 0, .slice none 0 0] W.drew := r0
  clear r0
  go_region_held3 (fun w' => (w'.cell? ⟨b, 0, none⟩ = some (.int .i64 rev) ∧ w'.cell? ⟨b, 1, none⟩ = some (.slice aj jobs.length cj) ∧ w'.cell? ⟨b, 2, none⟩ = some (.slice an nodes.length cn) ∧ w'.cell? ⟨b, 3, none⟩ = some (.slice al leases.length cl)) ∧ (b < w.heap.size ∧ w.heap.size < w'.heap.size) ∧ Below w.heap.size w w')
    (first | assumption | exact ⟨o1.1, o1.2.1, o1.2.2.drew⟩ | exact ownS_set (by assumption))
    (first
      | (go_at_call 21; (with_reducible refine (HCJ.out _ (And.right (And.right (by assumption)))).mono ?_); rintro e xj ⟨dj, ej, rfl, oj', bj⟩; have oj := ownsRow_mono (B' := w.heap.size + 1) oj' (HZ.out _ (by assumption)); have s2 := ownS_next (w := w) bj (by assumption); have r1 := ownB_next r1 bj; (try have on := own_next on bj); (try have ol := own_next ol bj); have t0 := r1.1.1 0 _ rfl; have t1 := r1.1.1 1 _ rfl; have t2 := r1.1.1 2 _ rfl; have t3 := r1.1.1 3 _ rfl; have f0 := r1.2 0 (by simp); have f1 := r1.2 1 (by simp); have f2 := r1.2 2 (by simp); have f3 := r1.2 3 (by simp))
      | (go_at_call 22; (with_reducible refine (HCN.out _ (And.right (And.right (by assumption)))).mono ?_); rintro e xn ⟨dn, en, rfl, on', bn⟩; have on := ownsRow_mono (B' := w.heap.size + 1) on' (HZ.out _ (by assumption)); have s2 := ownS_next (w := w) bn (by assumption); have r1 := ownB_next r1 bn; (try have oj := own_next oj bn); (try have ol := own_next ol bn); have t0 := r1.1.1 0 _ rfl; have t1 := r1.1.1 1 _ rfl; have t2 := r1.1.1 2 _ rfl; have t3 := r1.1.1 3 _ rfl; have f0 := r1.2 0 (by simp); have f1 := r1.2 1 (by simp); have f2 := r1.2 2 (by simp); have f3 := r1.2 3 (by simp))
      | (go_at_call 23; (with_reducible refine (HCL.out _ (And.right (And.right (by assumption)))).mono ?_); rintro e xl ⟨dl, el, rfl, ol', bl⟩; have ol := ownsRow_mono (B' := w.heap.size + 1) ol' (HZ.out _ (by assumption)); have s2 := ownS_next (w := w) bl (by assumption); have r1 := ownB_next r1 bl; (try have oj := own_next oj bl); (try have on := own_next on bl); have t0 := r1.1.1 0 _ rfl; have t1 := r1.1.1 1 _ rfl; have t2 := r1.1.1 2 _ rfl; have t3 := r1.1.1 3 _ rfl; have f0 := r1.2 0 (by simp); have f1 := r1.2 1 (by simp); have f2 := r1.2 2 (by simp); have f3 := r1.2 3 (by simp)))
  have q5 := ownB_set4 r1 (.int .i64 rev) (.slice dj jobs.length ej) (.slice dn nodes.length en) (.slice dl leases.length el)
  have oj5 := own_set4 oj (b := w.heap.size) (Nat.lt_succ_self _) (.int .i64 rev) (.slice dj jobs.length ej) (.slice dn nodes.length en) (.slice dl leases.length el)
  have on5 := own_set4 on (b := w.heap.size) (Nat.lt_succ_self _) (.int .i64 rev) (.slice dj jobs.length ej) (.slice dn nodes.length en) (.slice dl leases.length el)
  have ol5 := own_set4 ol (b := w.heap.size) (Nat.lt_succ_self _) (.int .i64 rev) (.slice dj jobs.length ej) (.slice dn nodes.length en) (.slice dl leases.length el)
  have hb5 := below_set4 s2.2.2 (Nat.le_refl _) (.int .i64 rev) (.slice dj jobs.length ej) (.slice dn nodes.length en) (.slice dl leases.length el)
  have k0 := q5.1.1 0 _ rfl
  have k1 := q5.1.1 1 _ rfl
  have k2 := q5.1.1 2 _ rfl
  have k3 := q5.1.1 3 _ rfl
  go_wp2
  unfold set4 at k0 k1 k2 k3 oj5 on5 ol5 hb5
  exact bodyPost_ret (v := .agg #[.int .i64 rev, .slice dj jobs.length ej, .slice dn nodes.length en, .slice dl leases.length el]) (by simp [results, Tryd.results20, go_sem, k0, k1, k2, k3]) rfl ⟨_, _, _, _, _, _, rfl, oj5, on5, ol5, hb5⟩
end Go.Proofs.YtkdjpciegcofbaaDoor
