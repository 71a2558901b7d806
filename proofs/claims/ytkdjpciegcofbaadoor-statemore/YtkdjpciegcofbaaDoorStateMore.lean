/- For every state s and every node n the law StateMore of the package brackenkeep returns true, as a tied card: with a node more, of another name, in its place, a valid state is valid. Condition: the library's two tables unicode/utf8.first and acceptRanges start as their text lays them (the card ties them; first is pinned). -/
import Derived.Test.YtkdjpciegcofbaaDoorStStated
import Derived.Test.YtkdjpciegcofbaaDoorStAt
import Derived.Test.YtkdjpciegcofbaaDoorStRef
import Derived.Test.YtkdjpciegcofbaaDoorStApp
import Derived.Test.YtkdjpciegcofbaaDoorStArg2
import Derived.Test.YtkdjpciegcofbaaDoorStLaid
import Derived.Deep.QuietTactic
import Derived.BigQuiet
namespace Go.Proofs.YtkdjpciegcofbaaDoor.stateMore
open Go.ChangeShapes Go.WideShapes Go.ChangeAt Go.RowKit
set_option linter.unusedVariables false

theorem open_state {H : Type} {enc : TypeId × Value → H} {w : World} {base : Nat} {spare : Nat → Bool} {held : Bool} {r : Reach} {b0 : Nat} {v : Value} {d : DataW H} {ps : List MemPlace} (hv : Value.okWide Tryd.prog w r b0 26 v) (h : DataW.Trod enc Tryd.prog w base spare held 26 v d ps) :
    ∃ (M : StM) (s : StD), v = stV M s ∧ StateCap w M s ∧ DSt d s ∧ wState s := open_stateCap hv h
theorem below_drewN {B : Nat} {w w' : World} (h : Below B w w') {n : Nat} : Below B w (w'.drewN n) := by
  induction n with
  | zero => exact h
  | succ n ih => exact ih.drew
theorem moreS_next {b B9 : Nat} {v u0 u1 u2 : Value} {vs : List Value} {w w1 w2 : World} (b2 : Below w1.heap.size w1 w2)
    (h : (w1.cell? ⟨b, 2, none⟩ = some v ∧ w1.cell? ⟨b + 1, 0, none⟩ = some u0 ∧ w1.cell? ⟨b + 1, 1, none⟩ = some u1 ∧ w1.cell? ⟨b + 1, 2, none⟩ = some u2) ∧ (b + 1 < w1.heap.size ∧ B9 ≤ w1.heap.size) ∧ (OwnB b vs w1 ∧ Below w.heap.size w w1)) :
    (w2.cell? ⟨b, 2, none⟩ = some v ∧ w2.cell? ⟨b + 1, 0, none⟩ = some u0 ∧ w2.cell? ⟨b + 1, 1, none⟩ = some u1 ∧ w2.cell? ⟨b + 1, 2, none⟩ = some u2) ∧ (b + 1 < w2.heap.size ∧ B9 ≤ w2.heap.size) ∧ (OwnB b vs w2 ∧ Below w.heap.size w w2) := by
  obtain ⟨⟨c0, p0, p1, p2⟩, ⟨h2, h4⟩, h5, h3⟩ := h
  have hs := b2.size
  have h1 : b < w1.heap.size := by omega
  exact ⟨⟨by rw [b2.cell (p := ⟨b, 2, none⟩) h1]; exact c0, by rw [b2.cell (p := ⟨b + 1, 0, none⟩) h2]; exact p0, by rw [b2.cell (p := ⟨b + 1, 1, none⟩) h2]; exact p1, by rw [b2.cell (p := ⟨b + 1, 2, none⟩) h2]; exact p2⟩, ⟨by omega, by omega⟩, ownB_next h5 b2, below_trans h3 b2 h3.size⟩
theorem moreS_grown {b B9 : Nat} {v u0 u1 u2 : Value} {vs : List Value} {w w1 w2 : World} {row : Option Nat} (hg : w1.grownBy w2 row) (hr : ∀ j, row = some j → B9 ≤ j) (h9 : b + 1 < B9) (hwb : w.heap.size ≤ b)
    (h : (w1.cell? ⟨b, 2, none⟩ = some v ∧ w1.cell? ⟨b + 1, 0, none⟩ = some u0 ∧ w1.cell? ⟨b + 1, 1, none⟩ = some u1 ∧ w1.cell? ⟨b + 1, 2, none⟩ = some u2) ∧ (b + 1 < w1.heap.size ∧ B9 ≤ w1.heap.size) ∧ (OwnB b vs w1 ∧ Below w.heap.size w w1)) :
    (w2.cell? ⟨b, 2, none⟩ = some v ∧ w2.cell? ⟨b + 1, 0, none⟩ = some u0 ∧ w2.cell? ⟨b + 1, 1, none⟩ = some u1 ∧ w2.cell? ⟨b + 1, 2, none⟩ = some u2) ∧ (b + 1 < w2.heap.size ∧ B9 ≤ w2.heap.size) ∧ (OwnB b vs w2 ∧ Below w.heap.size w w2) := by
  obtain ⟨⟨c0, p0, p1, p2⟩, ⟨h2, h4⟩, h5, h3⟩ := h
  have hs := hg.size
  have h1 : b < w1.heap.size := by omega
  have n0 : some b ≠ row := fun e => by have := hr b e.symm; omega
  have n1 : some (b + 1) ≠ row := fun e => by have := hr (b + 1) e.symm; omega
  have kk : ∀ j, w2.cell? ⟨b + 1, j, none⟩ = w1.cell? ⟨b + 1, j, none⟩ := fun j => World.cell?_of_block (a := ⟨b + 1, j, none⟩) (hg.block (b + 1) h2 n1)
  exact ⟨⟨by rw [World.cell?_of_block (w := w1) (a := ⟨b, 2, none⟩) (hg.block b h1 n0)]; exact c0, by rw [kk 0]; exact p0, by rw [kk 1]; exact p1, by rw [kk 2]; exact p2⟩, ⟨by omega, by omega⟩, ownB_grown h5 hg n0, h3.grown hg h3.size (fun j hj => by have := hr j hj; omega)⟩
theorem own_row {w : World} {B e sz n : Nat} {v : Value} {xs : List Value} (h : w.ownsRow B e sz v n xs) : ∀ j, v.ownBlock = some j → B ≤ j := fun j hj => (h.lt j hj).1
theorem nil_row (B : Nat) : ∀ j, (Value.slice none 0 0).ownBlock = some j → B ≤ j := fun j hj => by cases hj
/-- Cells of a block that a growth has left as they were. -/
theorem news_kept {w w' : World} {b : Nat} {news : List Value} (hg : w.grownBy w' (Value.slice none 0 0).ownBlock) (hb : b < w.heap.size) (h : ∀ j u, news[j]? = some u → w.cell? ((⟨b, 0, none⟩ : Addr).add j) = some u) :
    ∀ j u, news[j]? = some u → ∃ a, some (⟨b, 0, none⟩ : Addr) = some a ∧ w'.cell? (a.add j) = some u := by
  intro j u hj
  refine ⟨_, rfl, ?_⟩
  have := h j u hj
  rw [addr_add] at this ⊢
  rw [World.cell?_of_block (w := w) (a := ⟨b, j, none⟩) (hg.block b hb (by intro e; cases e))]
  exact this
theorem ownB_set2 {b : Nat} {v0 v1 v2 v3 : Value} {w : World} (h : OwnB b [v0, v1, v2, v3] w) (u : Value) : OwnB b [v0, v1, u, v3] (w.setCell ⟨b, 2, none⟩ u) := by
  have hl := h.1.2
  have k0 := h.1.1 0 _ rfl
  have k1 := h.1.1 1 _ rfl
  have k2 := h.1.1 2 _ rfl
  have k3 := h.1.1 3 _ rfl
  have f0 := h.2 0 (by simp)
  have f1 := h.2 1 (by simp)
  have f2 := h.2 2 (by simp)
  have f3 := h.2 3 (by simp)
  refine ⟨⟨fun j v hj => ?_, by simp [World.setCell, hl]⟩, fun j hj => ?_⟩
  · match j with
    | 0 => simp at hj; subst hj; go_simp
    | 1 => simp at hj; subst hj; go_simp
    | 2 => simp at hj; subst hj; go_simp
    | 3 => simp at hj; subst hj; go_simp
    | j + 4 => simp at hj
  · match j with
    | 0 => go_simp
    | 1 => go_simp
    | 2 => go_simp
    | 3 => go_simp
    | j + 4 => exact absurd hj (by simp)
/-- The nodes with one more, in its place. -/
def ins (nodes : List NodeD) (k : Nat) (x : NodeD) : List NodeD := nodes.take k ++ x :: nodes.drop k
theorem ins_cells (nodes : List NodeD) (k : Nat) (x : NodeD) : cNodes (nodes.take k) ++ cNode x ++ cNodes ((nodes.take nodes.length).drop k) = cNodes (ins nodes k x) := by
  unfold ins
  rw [cNodes_append, show x :: nodes.drop k = [x] ++ nodes.drop k from rfl, cNodes_append, cNodes_one, List.take_length, List.append_assoc]
theorem ins_length (nodes : List NodeD) (k : Nat) (x : NodeD) (h : k ≤ nodes.length) : (ins nodes k x).length = k + 1 + (nodes.length - k) := by
  unfold ins
  rw [List.length_append, List.length_cons, List.length_take, List.length_drop]; omega
theorem ins_mem {nodes : List NodeD} {k : Nat} {x y : NodeD} (h : y ∈ ins nodes k x) : y = x ∨ y ∈ nodes := by
  unfold ins at h
  rcases List.mem_append.1 h with h | h
  · exact .inr (List.mem_of_mem_take h)
  · rcases List.mem_cons.1 h with h | h
    · exact .inl h
    · exact .inr (List.mem_of_mem_drop h)
set_option maxRecDepth 100000 in
set_option maxHeartbeats 8000000 in
theorem walk (M : StM) (s : StD) (x : NodeD) (hw : wState s) (hwx : wNode x) (hz : SzState s) (w : World) (hm : StateCap w M s) (hT : Tabs w) :
    Calls Tryd.prog 9 #[stV M s, .agg #[.string x.name, .int .i64 x.room, .string x.zone]] w fun e w' => e = .returned (.bool true) ∧ Below w.heap.size w w' := by
  obtain ⟨hm, _, hcapN, _⟩ := hm
  obtain ⟨rev, jobs, nodes, leases⟩ := s
  obtain ⟨aj, cj, an, cn, al, cl⟩ := M
  obtain ⟨hmj, hmn, hml⟩ := hm
  show Calls _ _ #[.agg #[.int .i64 rev, .slice aj jobs.length cj, .slice an nodes.length cn, .slice al leases.length cl], .agg #[.string x.name, .int .i64 x.room, .string x.zone]] _ _
  simp only at hmj hmn hml
  have HMJ := Lib.hid hmj
  have HMN := Lib.hid hmn
  have HML := Lib.hid hml
  have HT := Lib.hid hT
  have HWS := Lib.hid hw
  obtain ⟨c, hc⟩ : ∃ c, checkE V8 ⟨rev, jobs, nodes, leases⟩ = c := ⟨_, rfl⟩
  have HC := Lib.hid hc
  have HCk := Lib.hid (fun v (hv : Below w.heap.size w v) => check_any rev aj an al cj cn cl jobs nodes leases hw v (hT.below hv) (jobsAt_next hmj hv) (nodesAt_next hmn hv) (leasesAt_next hml hv))
  rw [hc] at HCk
  have HSt := Lib.hid (fun v (hv : Below w.heap.size w v) => stated_is v (hT.below hv))
  clear hmj hmn hml hT hw hc
  simp only at hcapN
  obtain ⟨i0, hi0, hz0, hz1, hz2⟩ := info_parts' Tryd.info_node
  have Hi := Lib.hid hi0
  have Hz0 := Lib.hid hz0
  have Hz1 := Lib.hid hz1
  have Hz2 := Lib.hid hz2
  clear hi0 hz0 hz1 hz2 hz
  have HWX := Lib.hid hwx
  clear hwx
  obtain ⟨W, hW⟩ : ∃ W, (w.alloc (.cells #[.int .i64 rev, .slice aj jobs.length cj, .slice an nodes.length cn, .slice al leases.length cl] 26)).alloc (.cells #[.string x.name, .int .i64 x.room, .string x.zone] 45) = W := ⟨_, rfl⟩
  have q : OwnB w.heap.size [.int .i64 rev, .slice aj jobs.length cj, .slice an nodes.length cn, .slice al leases.length cl] W := by rw [← hW]; exact ownB_alloc (ownB_new4 _ _ _ _ _ _) _
  have p := box_new3 (w.alloc (.cells #[.int .i64 rev, .slice aj jobs.length cj, .slice an nodes.length cn, .slice al leases.length cl] 26)) (.string x.name) (.int .i64 x.room) (.string x.zone) 45
  rw [World.size_alloc, hW] at p
  have bW : Below w.heap.size w W := by rw [← hW]; exact (below_one _ _).alloc (by simp) _
  have HW := Lib.hid hW
  clear hW
  go_enter Tryd.func9, Tryd.ntmps9
  go_wp2_with fail
  rw [HW.out]
  refine (HSt.out _ bW).mono ?_
  rintro e w1 ⟨rfl, b1⟩
  have q1 := ownB_next q b1
  have p1 := box_next p b1
  have hb1 := below_trans bW b1 bW.size
  clear q p b1 bW HW
  have k0 := q1.1.1 0 _ rfl
  have k1 := q1.1.1 1 _ rfl
  have k2 := q1.1.1 2 _ rfl
  have k3 := q1.1.1 3 _ rfl
  have j0 := p1.1 0 _ rfl
  have j1 := p1.1 1 _ rfl
  have j2 := p1.1 2 _ rfl
  go_wp2_with fail
  refine (HCk.out _ hb1).mono ?_
  rintro e w2 ⟨rfl, b2⟩
  have q2 := ownB_next q1 b2
  have p2 := box_next p1 b2
  have hb2 := below_trans hb1 b2 hb1.size
  clear q1 p1 k0 k1 k2 k3 j0 j1 j2 b2 hb1
  by_cases h0 : c ≠ 0
  · have hc1 : ((c : Int) != 0) = true := by simp; omega
    go_wp2
    go_ret
    exact ⟨rfl, hb2⟩
  have h0 : c = 0 := by simpa using h0
  subst h0
  have hV := Lib.hid ((check_zero V8 _).1 HC.out)
  have hl := hV.out.2.1
  simp only at hl
  have k0 := q2.1.1 0 _ rfl
  have k1 := q2.1.1 1 _ rfl
  have k2 := q2.1.1 2 _ rfl
  have k3 := q2.1.1 3 _ rfl
  have j0 := p2.1 0 _ rfl
  have j1 := p2.1 1 _ rfl
  have j2 := p2.1 2 _ rfl
  by_cases h19 : ¬ nodes.length ≤ 19
  · go_wp2
    go_ret
    exact ⟨rfl, hb2⟩
  have h19 : nodes.length ≤ 19 := by omega
  have HA := Lib.hid (nodeAt_is nodes an cn (by omega) x.name w2 (nodesAt_next HMN.out hb2))
  go_wp2_with fail
  refine HA.out.mono ?_
  rintro e w3 ⟨r, rfl, hr, b3⟩
  have q3 := ownB_next q2 b3
  have p3 := box_next p2 b3
  have hb3 := below_trans hb2 b3 hb2.size
  have hrn := at_node hr
  clear q2 p2 k0 k1 k2 k3 j0 j1 j2 b3 hb2 HA hr
  have k0 := q3.1.1 0 _ rfl
  have k1 := q3.1.1 1 _ rfl
  have k2 := q3.1.1 2 _ rfl
  have k3 := q3.1.1 3 _ rfl
  have j0 := p3.1 0 _ rfl
  have j1 := p3.1 1 _ rfl
  have j2 := p3.1 2 _ rfl
  by_cases hr0 : 0 ≤ r
  · go_wp2
    go_ret
    exact ⟨rfl, hb3⟩
  rw [decide_eq_false hr0] at hrn
  have HRN := Lib.hid hrn
  have hr1 : r < 0 := by omega
  clear hr0 hrn
  have HNC := Lib.hid (rnodeCheck_is x w3)
  go_wp2_with fail
  refine HNC.out.mono ?_
  rintro e w4 ⟨rfl, b4⟩
  have q4 := ownB_next q3 b4
  have p4 := box_next p3 b4
  have hb4 := below_trans hb3 b4 hb3.size
  clear q3 p3 k0 k1 k2 k3 j0 j1 j2 b4 hb3 HNC
  obtain ⟨d, hd⟩ : ∃ d, nodeE V8 x = d := ⟨_, rfl⟩
  rw [hd]
  have HD := Lib.hid hd
  clear hd
  by_cases hd0 : d ≠ 0
  · have hc1 : ((d : Int) != 0) = true := by simp; omega
    go_wp2
    go_ret
    exact ⟨rfl, hb4⟩
  have hd0 : d = 0 := by simpa using hd0
  subst hd0
  go_wp2
  go_loopw [6] (fun iv wr => ∃ (k : Nat), iv = .int .i64 (k : Int) ∧ k ≤ nodes.length ∧ OwnB w.heap.size [.int .i64 rev, .slice aj jobs.length cj, .slice an nodes.length cn, .slice al leases.length cl] wr ∧ Box (w.heap.size + 1) [.string x.name, .int .i64 x.room, .string x.zone] wr ∧ Below w.heap.size w wr ∧ Hid (∀ j, (hj : j < nodes.length) → j < k → lt nodes[j].name x.name)) (fun iv _ => nodes.length - (intOf iv).toNat)
  case atStart => exact ⟨0, rfl, by omega, q4, p4, hb4, fun j _ hj => by omega⟩
  case round =>
    clear q4 p4 hb4
    obtain ⟨k, rfl, hk, q, p, hb, HS⟩ := hrel
    have k2 := q.1.1 2 _ rfl
    have j0 := p.1 0 _ rfl
    have hk0 : (0 : Int) ≤ (k : Int) := by omega
    by_cases h : (k : Int) < (nodes.length : Int)
    · have hil : k < nodes.length := by omega
      obtain ⟨a, rfl, hal, m0, m1, m2⟩ := nodesAt_next HMN.out hb k hil
      have hdl : decide (k < nodes.length) = true := by simpa using hil
      have hll := less_toList nodes[k].name x.name
      by_cases hlt : lt nodes[k].name x.name
      · rw [decide_eq_true hlt] at hll
        have HS2 : Hid (∀ j, (hj : j < nodes.length) → j < k + 1 → lt nodes[j].name x.name) := by
          intro j hj hji
          by_cases e : j = k
          · subst e; exact hlt
          · exact HS.out j hj (by omega)
        obtain ⟨y, hy⟩ : ∃ y, nodes[k].name = y := ⟨_, rfl⟩
        rw [hy] at m0 hll
        clear hy hlt m1 m2
        go_wp2_with fail
        go_quiet (fail)
        go_wp2
        go_roundw
        case rel => exact ⟨k + 1, by simp, by omega, q, p, below_drewN hb, HS2⟩
        case measure => simp [intOf]; omega
      · rw [decide_eq_false hlt] at hll
        have HS2 : Hid (∀ h : k < nodes.length, ¬ lt nodes[k].name x.name) := fun _ => hlt
        obtain ⟨y, hy⟩ : ∃ y, nodes[k].name = y := ⟨_, rfl⟩
        rw [hy] at m0 hll
        clear hy hlt m1 m2
        go_wp2_with fail
        go_quiet (fail)
        go_wp2_with fail
        have q9 : OwnB w.heap.size [.int .i64 rev, .slice aj jobs.length cj, .slice (some a) nodes.length cn, .slice al leases.length cl] (wr.drewN nq) := q
        have p9 : Box (w.heap.size + 1) [.string x.name, .int .i64 x.room, .string x.zone] (wr.drewN nq) := p
        have hb9 : Below w.heap.size w (wr.drewN nq) := below_drewN hb
        generalize wr.drewN nq = W9 at q9 p9 hb9 ⊢
        clear q p hb k2 j0
        have hkc : (k : Int) ≤ (cn : Int) := by omega
        have hkl : (k : Int) ≤ (nodes.length : Int) := by omega
        have o1 : (W9.cell? ⟨w.heap.size, 2, none⟩ = some (.slice (some a) nodes.length cn) ∧ W9.cell? ⟨w.heap.size + 1, 0, none⟩ = some (.string x.name) ∧ W9.cell? ⟨w.heap.size + 1, 1, none⟩ = some (.int .i64 x.room) ∧ W9.cell? ⟨w.heap.size + 1, 2, none⟩ = some (.string x.zone)) ∧ (w.heap.size + 1 < W9.heap.size ∧ W9.heap.size ≤ W9.heap.size) ∧ (OwnB w.heap.size [.int .i64 rev, .slice aj jobs.length cj, .slice (some a) nodes.length cn, .slice al leases.length cl] W9 ∧ Below w.heap.size w W9) := ⟨⟨q9.1.1 2 _ rfl, p9.1 0 _ rfl, p9.1 1 _ rfl, p9.1 2 _ rfl⟩, ⟨p9.2, Nat.le_refl _⟩, q9, hb9⟩
        have h9 : w.heap.size + 1 < W9.heap.size := p9.2
        have HN := Lib.hid (fun v (hv : (v.cell? ⟨w.heap.size, 2, none⟩ = some (.slice (some a) nodes.length cn) ∧ v.cell? ⟨w.heap.size + 1, 0, none⟩ = some (.string x.name) ∧ v.cell? ⟨w.heap.size + 1, 1, none⟩ = some (.int .i64 x.room) ∧ v.cell? ⟨w.heap.size + 1, 2, none⟩ = some (.string x.zone)) ∧ (w.heap.size + 1 < v.heap.size ∧ W9.heap.size ≤ v.heap.size) ∧ (OwnB w.heap.size [.int .i64 rev, .slice aj jobs.length cj, .slice (some a) nodes.length cn, .slice al leases.length cl] v ∧ Below w.heap.size w v)) => nodesAt_next HMN.out hv.2.2.2)
        have HZ := Lib.hid (fun v (hv : (v.cell? ⟨w.heap.size, 2, none⟩ = some (.slice (some a) nodes.length cn) ∧ v.cell? ⟨w.heap.size + 1, 0, none⟩ = some (.string x.name) ∧ v.cell? ⟨w.heap.size + 1, 1, none⟩ = some (.int .i64 x.room) ∧ v.cell? ⟨w.heap.size + 1, 2, none⟩ = some (.string x.zone)) ∧ (w.heap.size + 1 < v.heap.size ∧ W9.heap.size ≤ v.heap.size) ∧ (OwnB w.heap.size [.int .i64 rev, .slice aj jobs.length cj, .slice (some a) nodes.length cn, .slice al leases.length cl] v ∧ Below w.heap.size w v)) => hv.2.1.2)
        have L1 : Hid ((cNodes (nodes.take k)).length = k * 3) := by show _ = _; rw [cNodes_length, List.length_take, Nat.min_eq_left hk]
        have L3 : Hid ((cNodes ((nodes.take nodes.length).drop k)).length = (nodes.length - k) * 3) := by show _ = _; rw [cNodes_length, List.take_length, List.length_drop]
        have HKC := Lib.hid (And.intro hk hcapN)
        have H19 := Lib.hid h19
        have HHi : Hid (k + 1 + (nodes.length - k) ≤ 20) := by show _ ≤ _; omega
        clear q9 p9 hb9
        go_region_held3 (fun w' => (w'.cell? ⟨w.heap.size, 2, none⟩ = some (.slice (some a) nodes.length cn) ∧ w'.cell? ⟨w.heap.size + 1, 0, none⟩ = some (.string x.name) ∧ w'.cell? ⟨w.heap.size + 1, 1, none⟩ = some (.int .i64 x.room) ∧ w'.cell? ⟨w.heap.size + 1, 2, none⟩ = some (.string x.zone)) ∧ (w.heap.size + 1 < w'.heap.size ∧ W9.heap.size ≤ w'.heap.size) ∧ (OwnB w.heap.size [.int .i64 rev, .slice aj jobs.length cj, .slice (some a) nodes.length cn, .slice al leases.length cl] w' ∧ Below w.heap.size w w')) (first | assumption | exact ⟨o1.1, o1.2.1, o1.2.2.1, o1.2.2.2.drew⟩ | exact moreS_next (below_one _ _) (by assumption))
          (first
            | (refine step_app (by rfl) _ _ 23 (by rfl) W9.heap.size 45 i0 _ 3 40 Tryd.underlying23 Hi.out Hz0.out Hz1.out Hz2.out (by rfl) (by decide) _ _ _ (by rfl) (World.ownsRow_nil _ _ _ _) _ _ _ (cNodes (nodes.take k)) (by rfl) L1.out (src_node (nodesAt_take (HN.out _ (by assumption)) k)) (cNodes_ones _) (by have := HHi.out; unfold maxLen; omega) (by have := HHi.out; omega) (by first | exact Nat.le_refl _ | simp) ?_; intro v1 x1 own1 hg1 hat1; have s1 := moreS_grown (w := w) hg1 (nil_row W9.heap.size) h9 (Nat.le_refl _) (by assumption))
            | (refine step_app (by rfl) _ _ 23 (by rfl) W9.heap.size 45 i0 _ 3 40 Tryd.underlying23 Hi.out Hz0.out Hz1.out Hz2.out (by rfl) (by decide) _ _ _ (by rfl) (own1.alloc _) _ _ _ (cNode x) (by rfl) (by rfl) (fun j u hj => ⟨_, rfl, node_new x1 x _ j u hj⟩) (node_ones x) (by have := HHi.out; unfold maxLen; omega) (by have := HHi.out; omega) (by have := hg1.size; simp; omega) ?_; intro v2 x2 own2 hg2 hat2; have s2 := moreS_grown (w := w) hg2 (own_row own1) h9 (Nat.le_refl _) (by assumption))
            | (refine step_app (by rfl) _ _ 23 (by rfl) W9.heap.size 45 i0 _ 3 40 Tryd.underlying23 Hi.out Hz0.out Hz1.out Hz2.out (by rfl) (by decide) _ _ _ (by rfl) (own1) _ _ _ (cNode x) (by rfl) (by rfl) (news_kept hg1 (by simp) (node_new W9.drew x _)) (node_ones x) (by have := HHi.out; unfold maxLen; omega) (by have := HHi.out; omega) (by have := hg1.size; simp at this ⊢; omega) ?_; intro v2 x2 own2 hg2 hat2; have s2 := moreS_grown (w := w) hg2 (own_row own1) h9 (Nat.le_refl _) (by assumption))
            | (refine step_app (by rfl) _ _ 23 (by rfl) W9.heap.size 45 i0 _ 3 40 Tryd.underlying23 Hi.out Hz0.out Hz1.out Hz2.out (by rfl) (by decide) _ _ _ (by rfl) (own2) _ _ _ (cNodes ((nodes.take nodes.length).drop k)) (by rfl) L3.out (part_node (HN.out _ (by assumption)) k nodes.length cn (Nat.le_refl _) HKC.out.2) (cNodes_ones _) (by have := HHi.out; unfold maxLen; omega) (by have := HHi.out; omega) (HZ.out _ (by assumption)) ?_; intro v3 x3 own3 hg3 hat3; have s3 := moreS_grown (w := w) hg3 (own_row own2) h9 (Nat.le_refl _) (by assumption)))
        all_goals
          have own4 : x3.ownsRow W9.heap.size 45 3 v3 (ins nodes k x).length (cNodes (ins nodes k x)) := by
            rw [ins_length nodes k x HKC.out.1, ← ins_cells]
            simpa using own3
          have q5 := s3.2.2.1
          have hb5 := s3.2.2.2
          have hvalid : checkE V8 ⟨rev, jobs, ins nodes k x, leases⟩ = 0 := (check_zero V8 _).2 (more_node hV.out x HD.out H19.out HRN.out k (fun y hy => by
            obtain ⟨i, hi, rfl⟩ := List.getElem_of_mem hy
            rw [List.length_take] at hi
            rw [List.getElem_take]
            exact HS.out i (by omega) (by omega)) HS2.out)
          have hws : wState ⟨rev, jobs, ins nodes k x, leases⟩ := ⟨HWS.out.1, HWS.out.2.1, fun y hy => by
            rcases ins_mem hy with rfl | h
            · exact HWX.out
            · exact HWS.out.2.2.1 y h, HWS.out.2.2.2⟩
          generalize ins nodes k x = ns at own4 hvalid hws
          clear own1 own2 own3 hg1 hg2 hg3 hat1 hat2 hat3 s1 s2 s3
          try generalize (if cn = k then (some a) else Option.map (fun x => x.add (k * 3)) (some a)) = ado
          obtain ⟨ad, cap, rfl, _⟩ := own_nodes own4
          have own6 := own_set own4 (b := w.heap.size) (by omega) 2 (.slice ad ns.length cap)
          have q6 := ownB_set2 q5 (.slice ad ns.length cap)
          have hb6 := hb5.setCell (p := ⟨w.heap.size, 2, none⟩) (Nat.le_refl _) (.slice ad ns.length cap)
          have HC6 := Lib.hid (check_any rev aj ad al cj cap cl jobs ns leases hws _ (HT.out.below hb6) (jobsAt_next HMJ.out hb6) (ownNodes own6 rfl) (leasesAt_next HML.out hb6))
          rw [hvalid] at HC6
          have g2 := q5.1.1 2 _ rfl
          have f2 := q5.2 2 (by simp)
          have g0 := q6.1.1 0 _ rfl
          have g1 := q6.1.1 1 _ rfl
          have g3 := q6.1.1 2 _ rfl
          have g4 := q6.1.1 3 _ rfl
          clear hvalid hws own4 own6 q5 q6
          go_wp2_with fail
          refine HC6.out.mono ?_
          rintro e w6 ⟨rfl, b6⟩
          go_wp2
          go_ret
          exact ⟨rfl, below_trans hb6 b6 hb6.size⟩
    · have hdl : decide (k < nodes.length) = false := by simp; omega
      have HS2 : Hid (∀ h : k < nodes.length, ¬ lt nodes[k].name x.name) := fun h' => absurd h (by omega)
      go_wp2_with fail
      go_quiet (fail)
      go_wp2_with fail
      have q9 : OwnB w.heap.size [.int .i64 rev, .slice aj jobs.length cj, .slice an nodes.length cn, .slice al leases.length cl] (wr.drewN nq) := q
      have p9 : Box (w.heap.size + 1) [.string x.name, .int .i64 x.room, .string x.zone] (wr.drewN nq) := p
      have hb9 : Below w.heap.size w (wr.drewN nq) := below_drewN hb
      generalize wr.drewN nq = W9 at q9 p9 hb9 ⊢
      clear q p hb k2 j0
      have hkc : (k : Int) ≤ (cn : Int) := by omega
      have hkl : (k : Int) ≤ (nodes.length : Int) := by omega
      have o1 : (W9.cell? ⟨w.heap.size, 2, none⟩ = some (.slice an nodes.length cn) ∧ W9.cell? ⟨w.heap.size + 1, 0, none⟩ = some (.string x.name) ∧ W9.cell? ⟨w.heap.size + 1, 1, none⟩ = some (.int .i64 x.room) ∧ W9.cell? ⟨w.heap.size + 1, 2, none⟩ = some (.string x.zone)) ∧ (w.heap.size + 1 < W9.heap.size ∧ W9.heap.size ≤ W9.heap.size) ∧ (OwnB w.heap.size [.int .i64 rev, .slice aj jobs.length cj, .slice an nodes.length cn, .slice al leases.length cl] W9 ∧ Below w.heap.size w W9) := ⟨⟨q9.1.1 2 _ rfl, p9.1 0 _ rfl, p9.1 1 _ rfl, p9.1 2 _ rfl⟩, ⟨p9.2, Nat.le_refl _⟩, q9, hb9⟩
      have h9 : w.heap.size + 1 < W9.heap.size := p9.2
      have HN := Lib.hid (fun v (hv : (v.cell? ⟨w.heap.size, 2, none⟩ = some (.slice an nodes.length cn) ∧ v.cell? ⟨w.heap.size + 1, 0, none⟩ = some (.string x.name) ∧ v.cell? ⟨w.heap.size + 1, 1, none⟩ = some (.int .i64 x.room) ∧ v.cell? ⟨w.heap.size + 1, 2, none⟩ = some (.string x.zone)) ∧ (w.heap.size + 1 < v.heap.size ∧ W9.heap.size ≤ v.heap.size) ∧ (OwnB w.heap.size [.int .i64 rev, .slice aj jobs.length cj, .slice an nodes.length cn, .slice al leases.length cl] v ∧ Below w.heap.size w v)) => nodesAt_next HMN.out hv.2.2.2)
      have HZ := Lib.hid (fun v (hv : (v.cell? ⟨w.heap.size, 2, none⟩ = some (.slice an nodes.length cn) ∧ v.cell? ⟨w.heap.size + 1, 0, none⟩ = some (.string x.name) ∧ v.cell? ⟨w.heap.size + 1, 1, none⟩ = some (.int .i64 x.room) ∧ v.cell? ⟨w.heap.size + 1, 2, none⟩ = some (.string x.zone)) ∧ (w.heap.size + 1 < v.heap.size ∧ W9.heap.size ≤ v.heap.size) ∧ (OwnB w.heap.size [.int .i64 rev, .slice aj jobs.length cj, .slice an nodes.length cn, .slice al leases.length cl] v ∧ Below w.heap.size w v)) => hv.2.1.2)
      have L1 : Hid ((cNodes (nodes.take k)).length = k * 3) := by show _ = _; rw [cNodes_length, List.length_take, Nat.min_eq_left hk]
      have L3 : Hid ((cNodes ((nodes.take nodes.length).drop k)).length = (nodes.length - k) * 3) := by show _ = _; rw [cNodes_length, List.take_length, List.length_drop]
      have HKC := Lib.hid (And.intro hk hcapN)
      have H19 := Lib.hid h19
      have HHi : Hid (k + 1 + (nodes.length - k) ≤ 20) := by show _ ≤ _; omega
      clear q9 p9 hb9
      go_region_held3 (fun w' => (w'.cell? ⟨w.heap.size, 2, none⟩ = some (.slice an nodes.length cn) ∧ w'.cell? ⟨w.heap.size + 1, 0, none⟩ = some (.string x.name) ∧ w'.cell? ⟨w.heap.size + 1, 1, none⟩ = some (.int .i64 x.room) ∧ w'.cell? ⟨w.heap.size + 1, 2, none⟩ = some (.string x.zone)) ∧ (w.heap.size + 1 < w'.heap.size ∧ W9.heap.size ≤ w'.heap.size) ∧ (OwnB w.heap.size [.int .i64 rev, .slice aj jobs.length cj, .slice an nodes.length cn, .slice al leases.length cl] w' ∧ Below w.heap.size w w')) (first | assumption | exact ⟨o1.1, o1.2.1, o1.2.2.1, o1.2.2.2.drew⟩ | exact moreS_next (below_one _ _) (by assumption))
        (first
          | (refine step_app (by rfl) _ _ 23 (by rfl) W9.heap.size 45 i0 _ 3 40 Tryd.underlying23 Hi.out Hz0.out Hz1.out Hz2.out (by rfl) (by decide) _ _ _ (by rfl) (World.ownsRow_nil _ _ _ _) _ _ _ (cNodes (nodes.take k)) (by rfl) L1.out (src_node (nodesAt_take (HN.out _ (by assumption)) k)) (cNodes_ones _) (by have := HHi.out; unfold maxLen; omega) (by have := HHi.out; omega) (by first | exact Nat.le_refl _ | simp) ?_; intro v1 x1 own1 hg1 hat1; have s1 := moreS_grown (w := w) hg1 (nil_row W9.heap.size) h9 (Nat.le_refl _) (by assumption))
          | (refine step_app (by rfl) _ _ 23 (by rfl) W9.heap.size 45 i0 _ 3 40 Tryd.underlying23 Hi.out Hz0.out Hz1.out Hz2.out (by rfl) (by decide) _ _ _ (by rfl) (own1.alloc _) _ _ _ (cNode x) (by rfl) (by rfl) (fun j u hj => ⟨_, rfl, node_new x1 x _ j u hj⟩) (node_ones x) (by have := HHi.out; unfold maxLen; omega) (by have := HHi.out; omega) (by have := hg1.size; simp; omega) ?_; intro v2 x2 own2 hg2 hat2; have s2 := moreS_grown (w := w) hg2 (own_row own1) h9 (Nat.le_refl _) (by assumption))
          | (refine step_app (by rfl) _ _ 23 (by rfl) W9.heap.size 45 i0 _ 3 40 Tryd.underlying23 Hi.out Hz0.out Hz1.out Hz2.out (by rfl) (by decide) _ _ _ (by rfl) (own1) _ _ _ (cNode x) (by rfl) (by rfl) (news_kept hg1 (by simp) (node_new W9.drew x _)) (node_ones x) (by have := HHi.out; unfold maxLen; omega) (by have := HHi.out; omega) (by have := hg1.size; simp at this ⊢; omega) ?_; intro v2 x2 own2 hg2 hat2; have s2 := moreS_grown (w := w) hg2 (own_row own1) h9 (Nat.le_refl _) (by assumption))
          | (refine step_app (by rfl) _ _ 23 (by rfl) W9.heap.size 45 i0 _ 3 40 Tryd.underlying23 Hi.out Hz0.out Hz1.out Hz2.out (by rfl) (by decide) _ _ _ (by rfl) (own2) _ _ _ (cNodes ((nodes.take nodes.length).drop k)) (by rfl) L3.out (part_node (HN.out _ (by assumption)) k nodes.length cn (Nat.le_refl _) HKC.out.2) (cNodes_ones _) (by have := HHi.out; unfold maxLen; omega) (by have := HHi.out; omega) (HZ.out _ (by assumption)) ?_; intro v3 x3 own3 hg3 hat3; have s3 := moreS_grown (w := w) hg3 (own_row own2) h9 (Nat.le_refl _) (by assumption)))
      all_goals
        have own4 : x3.ownsRow W9.heap.size 45 3 v3 (ins nodes k x).length (cNodes (ins nodes k x)) := by
          rw [ins_length nodes k x HKC.out.1, ← ins_cells]
          simpa using own3
        have q5 := s3.2.2.1
        have hb5 := s3.2.2.2
        have hvalid : checkE V8 ⟨rev, jobs, ins nodes k x, leases⟩ = 0 := (check_zero V8 _).2 (more_node hV.out x HD.out H19.out HRN.out k (fun y hy => by
          obtain ⟨i, hi, rfl⟩ := List.getElem_of_mem hy
          rw [List.length_take] at hi
          rw [List.getElem_take]
          exact HS.out i (by omega) (by omega)) HS2.out)
        have hws : wState ⟨rev, jobs, ins nodes k x, leases⟩ := ⟨HWS.out.1, HWS.out.2.1, fun y hy => by
          rcases ins_mem hy with rfl | h
          · exact HWX.out
          · exact HWS.out.2.2.1 y h, HWS.out.2.2.2⟩
        generalize ins nodes k x = ns at own4 hvalid hws
        clear own1 own2 own3 hg1 hg2 hg3 hat1 hat2 hat3 s1 s2 s3
        try generalize (if cn = k then an else Option.map (fun x => x.add (k * 3)) an) = ado
        obtain ⟨ad, cap, rfl, _⟩ := own_nodes own4
        have own6 := own_set own4 (b := w.heap.size) (by omega) 2 (.slice ad ns.length cap)
        have q6 := ownB_set2 q5 (.slice ad ns.length cap)
        have hb6 := hb5.setCell (p := ⟨w.heap.size, 2, none⟩) (Nat.le_refl _) (.slice ad ns.length cap)
        have HC6 := Lib.hid (check_any rev aj ad al cj cap cl jobs ns leases hws _ (HT.out.below hb6) (jobsAt_next HMJ.out hb6) (ownNodes own6 rfl) (leasesAt_next HML.out hb6))
        rw [hvalid] at HC6
        have g2 := q5.1.1 2 _ rfl
        have f2 := q5.2 2 (by simp)
        have g0 := q6.1.1 0 _ rfl
        have g1 := q6.1.1 1 _ rfl
        have g3 := q6.1.1 2 _ rfl
        have g4 := q6.1.1 3 _ rfl
        clear hvalid hws own4 own6 q5 q6
        go_wp2_with fail
        refine HC6.out.mono ?_
        rintro e w6 ⟨rfl, b6⟩
        go_wp2
        go_ret
        exact ⟨rfl, below_trans hb6 b6 hb6.size⟩

theorem own : ownKnob Tryd.prog.godebug = none := by kernel_rfl
theorem laidOut : laidOutB Tryd.prog = true := by kernel_rfl
theorem laid_met (os : Os) : laidMet Tryd.prog Rows.stateMoreRow.laid ((laidWorld os).forCall (fun _ _ => 0) ⟨#[], #[.agg #[.int .i64 0, .slice none 0 0, .slice none 0 0, .slice none 0 0], .agg #[.string ⟨#[]⟩, .int .i64 0, .string ⟨#[]⟩]], []⟩).memory :=
  laidMet_of_run' 8 (by kernel_rfl) (by kernel_rfl)
theorem reads (os : Os) {H : Type} (enc : TypeId × Value → H) : ∃ places, DataW.whole enc Tryd.prog ((laidWorld os).forCall (fun _ _ => 0) ⟨#[], #[.agg #[.int .i64 0, .slice none 0 0, .slice none 0 0, .slice none 0 0], .agg #[.string ⟨#[]⟩, .int .i64 0, .string ⟨#[]⟩]], []⟩).memory Tryd.f9.params.toList Rows.stateMoreSpec.vars false #[Value.agg #[.int .i64 0, .slice none 0 0, .slice none 0 0, .slice none 0 0], Value.agg #[.string ⟨#[]⟩, .int .i64 0, .string ⟨#[]⟩]].toList 8 = some ([.agg [.lit (.int .i64 0), .nil, .nil, .nil], .agg [.lit (.string []), .lit (.int .i64 0), .lit (.string [])]], [], places) :=
  ⟨[], by kernel_rfl⟩
set_option maxRecDepth 100000 in
set_option maxHeartbeats 2000000 in
theorem lifted (os : Os) (started : os.Started) (H : Type) (enc : TypeId × Value → H) (F : Stop.Interp) :
    ReturnsInHanded {} Tryd.checked os 9 .any ((OpenSpec.ofChange Rows.stateMoreSpec).preRow enc Tryd.prog Tryd.f9 Rows.stateMoreRow.domain false Rows.stateMoreRow.laid) (((OpenSpec.ofChange Rows.stateMoreSpec).at F).post enc Tryd.prog Tryd.f9 false true false false) := by
  obtain ⟨places, hx⟩ := reads os enc
  refine returnsInHanded_of_row (C := Tryd.checked) (s := (OpenSpec.ofChange Rows.stateMoreSpec)) own started (by kernel_rfl) Tryd.func9
    (witness_row_atRef (enc := enc) (C := Tryd.checked) false (laidWorld os) #[.agg #[.int .i64 0, .slice none 0 0, .slice none 0 0, .slice none 0 0], .agg #[.string ⟨#[]⟩, .int .i64 0, .string ⟨#[]⟩]] rfl (by kernel_rfl) (by kernel_rfl) (by kernel_rfl)
      (OpenSpec.preRow_of_cond 8 hx (by kernel_rfl) (fun k hk => by cases hk) (by kernel_rfl) (laid_met os))) ?_
  intro W base args ds gs before hval0 hW _ _ hsz0 hL _ _
  have hval : ∀ (j : Nat) t v, Tryd.f9.params[j]? = some t → args[j]? = some v → Value.okWide Tryd.prog W .any base t v := hval0
  have hW' := hW
  obtain ⟨p, q, hA0, hV, rfl, hfz, hnd⟩ := hW
  have hA : DataW.TrodAll enc Tryd.prog W 0 (fun _ => true) true Tryd.f9.params.toList args.toList ds p := hA0
  have hsz : (DataW.weightsEach Tryd.prog (Tryd.f9.params.toList ++ Rows.stateMoreSpec.plain.varTypes Tryd.prog) (ds ++ gs)).all (· ≤ reachBytes) = true := hsz0
  rw [Tryd.params9] at hA hval hsz
  obtain ⟨v0, vs0, d0, ds0, p0, q0, hargs, rfl, rfl, h0, r0⟩ := trodAll_cons hA
  obtain ⟨v1, vs1, d1, ds1, p1, q1, rfl, rfl, rfl, h1, r1⟩ := trodAll_cons r0
  obtain ⟨rfl, rfl, rfl⟩ := trodAll_nil r1
  obtain rfl : args = #[v0, v1] := by cases args; simp_all
  obtain ⟨rfl, rfl⟩ := trodVars_none hV
  obtain ⟨M0, st0, rfl, m0, x0, w0⟩ := open_state (hval 0 26 v0 rfl rfl) h0
  obtain ⟨x1, rfl, rfl, rfl, w1⟩ := open_Node (hval 1 45 v1 rfl rfl) h1
  have s0 := sized_state hsz rfl (j := 0) rfl x0
  clear hA0 hval0
  refine (walk M0 st0 x1 w0 w1 s0 W m0 (tabs_of hL)).mono fun e W' ⟨he, bel⟩ => ?_
  subst he
  exact ⟨_, rfl, _, _, _, [], _, [], hW', trodAll_mk1 (shut_bool Tryd.underlying4 _), (trodAll_cons_mk (Below.trod laidOut (by kernel_rfl) (of_decide_eq_true (by kernel_rfl)) h0 bel (fun x hx => by simpa using hW'.lt x (by simp [hx]))) (trodAll_cons_mk (Below.trod laidOut (by kernel_rfl) (of_decide_eq_true (by kernel_rfl)) h1 bel (fun x hx => by cases hx)) trodAll_mk0)), rfl, bel.frame _, fun h => by cases h⟩
theorem said : Rows.StateMoreSaid :=
  OpenClaim.holds_of_cond 9 Tryd.f9 rfl rfl rfl rfl rfl rfl rfl ⟨rfl, rfl, rfl, rfl, rfl⟩ rfl rfl rfl rfl rfl (by kernel_rfl) Tryd.func9 (by kernel_rfl)
    (of_decide_eq_true (by kernel_rfl)) (by unfold Func.isWrapper; first | (rw [if_pos (by decide +kernel)]; kernel_rfl) | (rw [if_neg (by decide +kernel)]; exact ⟨rfl, rfl⟩))
    (fun os started H enc _ F => by rw [OpenClaim.pre_eq_preRow]; exact lifted os started H enc F)
theorem plain (f : FuncId) (fn : Func) (hf : Tryd.pinned.checked.prog.funcNamed Rows.stateMoreRow.func = some f) (hfn : Tryd.pinned.checked.prog.funcs[f]? = some fn) :
    false = Tryd.pinned.checked.prog.looks [] ∧ ∀ (j : Nat) t, fn.params[j]? = some t → Tryd.pinned.checked.prog.wantsStandIn t = false := by
  obtain rfl : f = 9 := Option.some.inj ((show Tryd.prog.funcNamed Rows.stateMoreRow.func = some 9 by kernel_rfl).symm.trans hf) |>.symm
  obtain rfl : fn = Tryd.f9 := (Option.some.inj (Tryd.func9.symm.trans hfn)).symm
  refine ⟨by kernel_rfl, fun j t ht => ?_⟩
  rw [Tryd.params9] at ht
  have hm : t = 26 ∨ t = 45 := by simpa using Array.mem_of_getElem? ht
  rcases hm with rfl | rfl
  · exact (show Tryd.prog.wantsStandIn 26 = false by kernel_rfl)
  · exact (show Tryd.prog.wantsStandIn 45 = false by kernel_rfl)
theorem proved : Rows.StateMoreCardSaid :=
  Claim7.holds_tied_plain_at .later [] _ _ _ _ said (fun _ h => by cases h) (by kernel_rfl) (fun _ h => by cases h) stateMore_row_tie rfl ⟨rfl, rfl⟩ (by kernel_rfl) rfl plain (by kernel_rfl)
#print axioms proved
end Go.Proofs.YtkdjpciegcofbaaDoor.stateMore
