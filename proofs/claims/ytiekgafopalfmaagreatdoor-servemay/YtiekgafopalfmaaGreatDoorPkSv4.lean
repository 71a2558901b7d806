import Derived.Test.YtiekgafopalfmaaGreatDoorPkSv3
import Derived.Deep.RegionHeld3
import Derived.Shelf.Abstract
import Derived.WalkSmall
import Derived.Test.YtiekgafopalfmaaGreatDoorPkSv2
import Derived.Test.YtiekgafopalfmaaGreatDoorPkSv1
/- A transaction's methods: deleteJob, deleteNode, free, tick. -/
namespace Go.Proofs.YtiekgafopalfmaaGreatDoor
open Go.RowKit Go.Lib Go.Shelf

theorem g2_trans {w w1 w2 : World} {c : Nat} (h : w.grownBy w1 (some c)) (k : w1.grownBy w2 (some c)) : w.grownBy w2 (some c) := ⟨k.os.trans h.os, k.tape.trans h.tape, k.output.trans h.output, Nat.le_trans h.size k.size, fun i hi hn => (k.block i (Nat.lt_of_lt_of_le hi h.size) hn).trans (h.block i hi hn)⟩
theorem held2b {W V V' : World} {p q : Addr} {a b : Value} (hp : p.block < W.heap.size) (hq : q.block < W.heap.size) (h : (V.cell? p = some a ∧ V.cell? q = some b) ∧ Below W.heap.size W V) (k : Below V.heap.size V V') : (V'.cell? p = some a ∧ V'.cell? q = some b) ∧ Below W.heap.size W V' :=
  ⟨⟨by rw [k.cell (Nat.lt_of_lt_of_le hp h.2.size)]; exact h.1.1, by rw [k.cell (Nat.lt_of_lt_of_le hq h.2.size)]; exact h.1.2⟩, below_trans h.2 k h.2.size⟩

set_option maxRecDepth 100000 in
theorem txc_deleteJob (x : LeaseD) (k : ByteArray) (NB : Nat) (w : World) (h : ObjAt NB #[.string k] 9 w) : Calls Tryz.prog 101 #[.agg #[.string x.job, .string x.node, .int .i64 x.til], .pointer (some ⟨NB, 0, none⟩)] w fun e w' => e = .returned (.bool (decide (x.job = k))) ∧ Below w.heap.size w w' := by
  have bA := below_one w (.cells #[.string x.job, .string x.node, .int .i64 x.til] 42)
  have oX := objAt_new w #[.string x.job, .string x.node, .int .i64 x.til] 42
  have oK := objAt_next h bA
  obtain ⟨W, hW⟩ : ∃ W, w.alloc (.cells #[.string x.job, .string x.node, .int .i64 x.til] 42) = W := ⟨_, rfl⟩
  rw [hW] at bA oX oK
  have x0 := objAt_cell oX 0 rfl
  have x1 := objAt_cell oX 1 rfl
  have x2 := objAt_cell oX 2 rfl
  have k0 := objAt_cell oK 0 rfl
  have BA := Lib.hid bA
  clear bA oX oK h
  go_enter Tryz.func101, Tryz.ntmps101
  go_wp2
  go_ret
  exact ⟨by first | rw [← same_lists]; rfl | simp [← same_lists], BA.out⟩
set_option maxRecDepth 100000 in
theorem txc_deleteNode (x : LeaseD) (k : ByteArray) (NB : Nat) (w : World) (h : ObjAt NB #[.string k] 9 w) : Calls Tryz.prog 102 #[.agg #[.string x.job, .string x.node, .int .i64 x.til], .pointer (some ⟨NB, 0, none⟩)] w fun e w' => e = .returned (.bool (decide (x.node = k))) ∧ Below w.heap.size w w' := by
  have bA := below_one w (.cells #[.string x.job, .string x.node, .int .i64 x.til] 42)
  have oX := objAt_new w #[.string x.job, .string x.node, .int .i64 x.til] 42
  have oK := objAt_next h bA
  obtain ⟨W, hW⟩ : ∃ W, w.alloc (.cells #[.string x.job, .string x.node, .int .i64 x.til] 42) = W := ⟨_, rfl⟩
  rw [hW] at bA oX oK
  have x0 := objAt_cell oX 0 rfl
  have x1 := objAt_cell oX 1 rfl
  have x2 := objAt_cell oX 2 rfl
  have k0 := objAt_cell oK 0 rfl
  have BA := Lib.hid bA
  clear bA oX oK h
  go_enter Tryz.func102, Tryz.ntmps102
  go_wp2
  go_ret
  exact ⟨by first | rw [← same_lists]; rfl | simp [← same_lists], BA.out⟩
set_option maxRecDepth 100000 in
theorem txc_free (x : LeaseD) (k : ByteArray) (NB : Nat) (w : World) (h : ObjAt NB #[.string k] 9 w) : Calls Tryz.prog 105 #[.agg #[.string x.job, .string x.node, .int .i64 x.til], .pointer (some ⟨NB, 0, none⟩)] w fun e w' => e = .returned (.bool (decide (x.job = k))) ∧ Below w.heap.size w w' := by
  have bA := below_one w (.cells #[.string x.job, .string x.node, .int .i64 x.til] 42)
  have oX := objAt_new w #[.string x.job, .string x.node, .int .i64 x.til] 42
  have oK := objAt_next h bA
  obtain ⟨W, hW⟩ : ∃ W, w.alloc (.cells #[.string x.job, .string x.node, .int .i64 x.til] 42) = W := ⟨_, rfl⟩
  rw [hW] at bA oX oK
  have x0 := objAt_cell oX 0 rfl
  have x1 := objAt_cell oX 1 rfl
  have x2 := objAt_cell oX 2 rfl
  have k0 := objAt_cell oK 0 rfl
  have BA := Lib.hid bA
  clear bA oX oK h
  go_enter Tryz.func105, Tryz.ntmps105
  go_wp2
  go_ret
  exact ⟨by first | rw [← same_lists]; rfl | simp [← same_lists], BA.out⟩
set_option maxRecDepth 100000 in
theorem txc_tick (x : LeaseD) (TB c : Nat) (t : Int) (a0 a1 a2 a3 : Value) (w : World) (h : ObjAt TB #[.pointer (some ⟨c, 0, none⟩)] 119 w) (hc : ObjAt c #[a0, a1, a2, a3, .int .i64 t] 96 w) : Calls Tryz.prog 106 #[.agg #[.string x.job, .string x.node, .int .i64 x.til], .pointer (some ⟨TB, 0, none⟩)] w fun e w' => e = .returned (.bool (decide (x.til ≤ t))) ∧ Below w.heap.size w w' := by
  have bA := below_one w (.cells #[.string x.job, .string x.node, .int .i64 x.til] 42)
  have oX := objAt_new w #[.string x.job, .string x.node, .int .i64 x.til] 42
  have oK := objAt_next h bA
  have oC := objAt_next hc bA
  obtain ⟨W, hW⟩ : ∃ W, w.alloc (.cells #[.string x.job, .string x.node, .int .i64 x.til] 42) = W := ⟨_, rfl⟩
  rw [hW] at bA oX oK oC
  have x0 := objAt_cell oX 0 rfl
  have x1 := objAt_cell oX 1 rfl
  have x2 := objAt_cell oX 2 rfl
  have k0 := objAt_cell oK 0 rfl
  have c4 := objAt_cell oC 4 rfl
  have lc := objAt_lt oC
  have BA := Lib.hid bA
  clear bA oX oK oC h hc
  go_enter Tryz.func106, Tryz.ntmps106
  go_wp2_with fail
  go_quiet (fail)
  go_wp2
  go_ret
  exact ⟨rfl, BA.out.trans ⟨rfl, rfl, rfl, Nat.le_refl _, fun _ _ => rfl⟩⟩
theorem parts2Job (w : World) (ad : Option Addr) (xs : List JobD) (cap p k : Nat) (h : JobsAt w ad xs) (hc : xs.length ≤ cap) (hp : p ≤ xs.length) : PartsJob ((w.alloc (.cells #[.slice ad p cap, .slice (if cap = k then ad else Option.map (fun a => a.add (k * 5)) ad) (xs.length - k) (cap - k)] 22)).drew) w.heap.size [(ad, xs.take p, cap), (if cap = k then ad else Option.map (fun a => a.add (k * 5)) ad, xs.drop k, cap - k)] := by
  obtain ⟨q, hq⟩ : ∃ q, (if cap = k then ad else Option.map (fun a => a.add (k * 5)) ad) = q := ⟨_, rfl⟩
  have ht := tailJobAt (k := k) h hc
  rw [hq] at ht ⊢
  have o2 := objAt_new w #[.slice ad p cap, .slice q (xs.length - k) (cap - k)] 22
  have b2 := below_one w (.cells #[.slice ad p cap, .slice q (xs.length - k) (cap - k)] 22)
  obtain ⟨W2, h2⟩ : ∃ W, w.alloc (.cells #[.slice ad p cap, .slice q (xs.length - k) (cap - k)] 22) = W := ⟨_, rfl⟩
  rw [h2] at o2 b2 ⊢
  have z : ∀ i, W2.drew.cell? ⟨w.heap.size, i, none⟩ = W2.cell? ⟨w.heap.size, i, none⟩ := fun i => rfl
  refine ⟨objAt_lt (objAt_drew o2), fun i hi => ?_⟩
  have hi : i < 2 := hi
  obtain rfl | rfl : i = 0 ∨ i = 1 := by omega
  · refine ⟨?_, jobsAt_next (jobsAt_take h p) b2.drew⟩
    show W2.drew.cell? _ = some (.slice ad (xs.take p).length cap)
    rw [z, List.length_take, Nat.min_eq_left hp]; exact objAt_cell o2 0 rfl
  · refine ⟨?_, jobsAt_next ht b2.drew⟩
    show W2.drew.cell? _ = some (.slice q (xs.drop k).length (cap - k))
    rw [z, List.length_drop]; exact objAt_cell o2 1 rfl
set_option maxRecDepth 100000 in
set_option maxHeartbeats 4000000 in
theorem tx_deleteJob_yes (v : SvD) (hv : checkE V8 v.s = 0) (x : ByteArray) (hh : hasJob v.s.jobs x = true) (c : Nat) (w : World) (h : TxAt c v w) :
    Calls Tryz.prog 84 #[.pointer (some ⟨c, 0, none⟩), .string x] w fun e w' => e = .returned (.int .i64 0) ∧ TxAt c ⟨delJ x v.s, v.now⟩ w' ∧ w.grownBy w' (some c) := by
  obtain ⟨aj, an, al, cj, cn, cl, ho, hx⟩ := h
  unfold svC at ho
  have hf := valid_facts hv
  have ha := hf.1.1
  have hl := hf.2.1.1
  have hll := hf.2.1.2.2
  have hll' : v.s.leases.length ≤ 100 := by omega
  obtain ⟨W, hW⟩ : ∃ W, w.alloc (.cells #[.string x] 9) = W := ⟨_, rfl⟩
  have bA := below_one w (.cells #[.string x] 9)
  have oN := objAt_new w #[.string x] 9
  rw [hW] at bA oN
  have oT := objAt_next ho bA
  have xT := ownS_next hx bA
  have hcw := objAt_lt ho
  have k1 := objAt_cell oT 1 rfl
  have n0 := objAt_cell oN 0 rfl
  have lT := objAt_lt oT
  have lN := objAt_lt oN
  have hcap := own_caps xT.1
  have HF := fun (V : World) (h : ((V.cell? ⟨c, 1, none⟩ = some (.slice aj v.s.jobs.length cj) ∧ V.cell? ⟨w.heap.size, 0, none⟩ = some (.string x)) ∧ Below W.heap.size W V)) => svFindJob_is v.s.jobs ha x aj cj (by omega) V (jobsAt_next (ownS_at xT).1 h.2)
  simp only [hh] at HF
  have HF := Lib.hid HF
  have s0 : ((W.drew.cell? ⟨c, 1, none⟩ = some (.slice aj v.s.jobs.length cj) ∧ W.drew.cell? ⟨w.heap.size, 0, none⟩ = some (.string x)) ∧ Below W.heap.size W W.drew) := ⟨⟨k1, n0⟩, (Below.refl _ _).drew⟩
  have OT := Lib.hid oT
  have XT := Lib.hid xT
  have ON := Lib.hid oN
  have BA := Lib.hid bA
  have HA := Lib.hid ha
  have HH := Lib.hid hh
  clear oT xT oN bA ha hh k1 n0 hf ho hx
  go_enter Tryz.func84, Tryz.ntmps84
  go_wp2_with fail
  go_region_held3 (fun w' => ((w'.cell? ⟨c, 1, none⟩ = some (.slice aj v.s.jobs.length cj) ∧ w'.cell? ⟨w.heap.size, 0, none⟩ = some (.string x)) ∧ Below W.heap.size W w'))
    (first | assumption | exact s0)
    (first
      | (go_at_call 96; (with_reducible refine (HF.out _ (by assumption)).mono ?_); rintro e w2 ⟨p, rfl, hp, b2⟩; have o2 := held2b (p := ⟨c, 1, none⟩) (q := ⟨w.heap.size, 0, none⟩) lT lN (by assumption) b2))
  rename_i o3
  obtain ⟨⟨k1, n0⟩, b3⟩ := o3
  have hpl := hp.1
  have hpc : p ≤ cj := Nat.le_trans hpl hcap
  obtain ⟨hpp, _⟩ := pos_has HA.out hp ((hasJob_iff _ _).1 HH.out)
  have hp1 : (0 : Int) ≤ (p : Int) + 1 ∧ (p : Int) + 1 ≤ (v.s.jobs.length : Int) := ⟨by omega, by omega⟩
  obtain ⟨hp1, hp2⟩ := hp1
  have hwr : IntKind.i64.wrap ((p : Int) + 1) = (p : Int) + 1 := IntWalk.i64_in _ (by omega)
  have HE := but_pos (key := fun z : JobD => z.name) (fun z : JobD => decide (z.name = x)) (fun z => by simp) HA.out hp ((hasJob_iff _ _).1 HH.out)
  obtain ⟨out, hout⟩ : ∃ out, v.s.jobs.take p ++ v.s.jobs.drop (p + 1) = out := ⟨_, rfl⟩
  rw [hout] at HE
  have hlo : out.length ≤ 1000 := by rw [HE]; exact Nat.le_trans (List.length_filter_le _ _) (by omega)
  have oT3 := objAt_next OT.out b3
  have xT3 := ownS_next XT.out b3
  have oN3 := objAt_next ON.out b3
  have B3 := below_trans BA.out b3 BA.out.size
  have C2 := Lib.hid (svCat2Job_is (c := 2) hout hlo (parts2Job w2 aj v.s.jobs cj p (p + 1) (ownS_at xT3).1 hcap hpl))
  have b4 : Below w2.heap.size w2 ((w2.alloc (.cells #[.slice aj p cj, .slice (if cj = p + 1 then aj else Option.map (fun a => a.add ((p + 1) * 5)) aj) (v.s.jobs.length - (p + 1)) (cj - (p + 1))] 22)).drew) := (below_one _ _).drew
  have B4 := Lib.hid (below_trans B3 b4 B3.size)
  have OT4 := Lib.hid (objAt_next oT3 b4)
  have XT4 := Lib.hid (ownS_next xT3 b4)
  have ON4 := Lib.hid (objAt_next oN3 b4)
  have HEh := Lib.hid HE
  clear oT3 xT3 oN3 B3 b4 hout hlo n0 b3 hp s0 HE
  go_wp2_with fail
  go_region_law (first | (go_simp; go_at_call 97; (with_reducible refine C2.out.mono ?_); rintro e u5 ⟨rad, rcap, rfl, rown, rb⟩; have kc := objAt_cell (objAt_next OT4.out rb) 1 rfl; have fc := objAt_free (objAt_next OT4.out rb) 1))
  all_goals
    have oT5 := objAt_next OT4.out rb
    have xT5 := ownS_next XT4.out rb
    have oN5 := objAt_next ON4.out rb
    have B5 := below_trans B4.out rb B4.out.size
    obtain ⟨U, hU⟩ : ∃ U, u5.setCell ⟨c, 1, none⟩ (.slice rad out.length rcap) = U := ⟨_, rfl⟩
    have oU : ObjAt c (svC ⟨⟨v.s.rev, out, v.s.nodes, v.s.leases⟩, v.now⟩ rad an al rcap cn cl) 96 U := by rw [← hU]; exact objAt_set oT5 1 _
    have xU : OwnS 0 rad an al rcap cn cl (SvD.mk ⟨v.s.rev, out, v.s.nodes, v.s.leases⟩ v.now).s U := by rw [← hU]; exact ⟨own_box (own_is rown) oT5 rowT_tx.1 1 _, own_box xT5.2.1 oT5 rowT_tx.2.1 1 _, own_box xT5.2.2 oT5 rowT_tx.2.2 1 _⟩
    have oNU : ObjAt w.heap.size #[.string x] 9 U := by rw [← hU]; exact objAt_other oN5 (by omega) _ _
    have gU : w.grownBy U (some c) := by rw [← hU]; exact gN_set (gN_of_below B5) _ _
    have hNU := objAt_lt oNU
    have C3 := Lib.hid (svEnd_is 101 #[.pointer (some ⟨w.heap.size, 0, none⟩)] (enters_of Tryz.func101 (by kernel_rfl) rfl) (fun y : LeaseD => decide (y.job = x)) (fun V => ObjAt w.heap.size #[.string x] 9 V) (fun _ _ h b => objAt_next h b) (fun y V h => txc_deleteJob y x w.heap.size V h) ⟨⟨v.s.rev, out, v.s.nodes, v.s.leases⟩, v.now⟩ rad an al rcap cn cl c hll' U oNU (fun V b j u hb h => objAt_other h (by omega) j u) oU xU)
    have GU := Lib.hid gU
    clear oT5 xT5 oN5 B5 oU xU oNU gU rown rb kc fc C2 B4 OT4 XT4 ON4
    generalize (if cj = p + 1 then aj else Option.map (fun x => x.add ((p + 1) * 5)) aj) = qq
    go_wp2_with fail
    refine C3.out.mono ?_
    rintro e u6 ⟨rfl, t6, g6⟩
    have T6 := Lib.hid t6
    have G6 := Lib.hid (g2_trans GU.out g6)
    clear t6 g6
    go_wp2
    go_ret
    refine ⟨rfl, ?_, G6.out⟩
    have h6 := T6.out
    rw [HEh.out] at h6
    exact h6
set_option maxRecDepth 100000 in
set_option maxHeartbeats 4000000 in
theorem tx_deleteJob_no (v : SvD) (hv : checkE V8 v.s = 0) (x : ByteArray) (hh : hasJob v.s.jobs x = false) (c : Nat) (w : World) (h : TxAt c v w) :
    Calls Tryz.prog 84 #[.pointer (some ⟨c, 0, none⟩), .string x] w fun e w' => e = .returned (.int .i64 6) ∧ w.grownBy w' (some c) := by
  obtain ⟨aj, an, al, cj, cn, cl, ho, hx⟩ := h
  unfold svC at ho
  have hf := valid_facts hv
  have ha := hf.1.1
  have hl := hf.2.1.1
  have hll := hf.2.1.2.2
  have hll' : v.s.leases.length ≤ 100 := by omega
  obtain ⟨W, hW⟩ : ∃ W, w.alloc (.cells #[.string x] 9) = W := ⟨_, rfl⟩
  have bA := below_one w (.cells #[.string x] 9)
  have oN := objAt_new w #[.string x] 9
  rw [hW] at bA oN
  have oT := objAt_next ho bA
  have xT := ownS_next hx bA
  have hcw := objAt_lt ho
  have k1 := objAt_cell oT 1 rfl
  have n0 := objAt_cell oN 0 rfl
  have lT := objAt_lt oT
  have lN := objAt_lt oN
  have hcap := own_caps xT.1
  have HF := fun (V : World) (h : ((V.cell? ⟨c, 1, none⟩ = some (.slice aj v.s.jobs.length cj) ∧ V.cell? ⟨w.heap.size, 0, none⟩ = some (.string x)) ∧ Below W.heap.size W V)) => svFindJob_is v.s.jobs ha x aj cj (by omega) V (jobsAt_next (ownS_at xT).1 h.2)
  simp only [hh] at HF
  have HF := Lib.hid HF
  have s0 : ((W.drew.cell? ⟨c, 1, none⟩ = some (.slice aj v.s.jobs.length cj) ∧ W.drew.cell? ⟨w.heap.size, 0, none⟩ = some (.string x)) ∧ Below W.heap.size W W.drew) := ⟨⟨k1, n0⟩, (Below.refl _ _).drew⟩
  have OT := Lib.hid oT
  have XT := Lib.hid xT
  have ON := Lib.hid oN
  have BA := Lib.hid bA
  have HA := Lib.hid ha
  have HH := Lib.hid hh
  clear oT xT oN bA ha hh k1 n0 hf ho hx
  go_enter Tryz.func84, Tryz.ntmps84
  go_wp2_with fail
  go_region_held3 (fun w' => ((w'.cell? ⟨c, 1, none⟩ = some (.slice aj v.s.jobs.length cj) ∧ w'.cell? ⟨w.heap.size, 0, none⟩ = some (.string x)) ∧ Below W.heap.size W w'))
    (first | assumption | exact s0)
    (first
      | (go_at_call 96; (with_reducible refine (HF.out _ (by assumption)).mono ?_); rintro e w2 ⟨p, rfl, hp, b2⟩; have o2 := held2b (p := ⟨c, 1, none⟩) (q := ⟨w.heap.size, 0, none⟩) lT lN (by assumption) b2))
  all_goals
    rename_i o3
    have B3 := Lib.hid (below_trans BA.out o3.2 BA.out.size)
    clear o3 s0
    go_wp2
    go_ret
    exact ⟨rfl, gN_of_below B3.out⟩
theorem parts2Node (w : World) (ad : Option Addr) (xs : List NodeD) (cap p k : Nat) (h : NodesAt w ad xs) (hc : xs.length ≤ cap) (hp : p ≤ xs.length) : PartsNode ((w.alloc (.cells #[.slice ad p cap, .slice (if cap = k then ad else Option.map (fun a => a.add (k * 3)) ad) (xs.length - k) (cap - k)] 23)).drew) w.heap.size [(ad, xs.take p, cap), (if cap = k then ad else Option.map (fun a => a.add (k * 3)) ad, xs.drop k, cap - k)] := by
  obtain ⟨q, hq⟩ : ∃ q, (if cap = k then ad else Option.map (fun a => a.add (k * 3)) ad) = q := ⟨_, rfl⟩
  have ht := tailNodeAt (k := k) h hc
  rw [hq] at ht ⊢
  have o2 := objAt_new w #[.slice ad p cap, .slice q (xs.length - k) (cap - k)] 23
  have b2 := below_one w (.cells #[.slice ad p cap, .slice q (xs.length - k) (cap - k)] 23)
  obtain ⟨W2, h2⟩ : ∃ W, w.alloc (.cells #[.slice ad p cap, .slice q (xs.length - k) (cap - k)] 23) = W := ⟨_, rfl⟩
  rw [h2] at o2 b2 ⊢
  have z : ∀ i, W2.drew.cell? ⟨w.heap.size, i, none⟩ = W2.cell? ⟨w.heap.size, i, none⟩ := fun i => rfl
  refine ⟨objAt_lt (objAt_drew o2), fun i hi => ?_⟩
  have hi : i < 2 := hi
  obtain rfl | rfl : i = 0 ∨ i = 1 := by omega
  · refine ⟨?_, nodesAt_next (nodesAt_take h p) b2.drew⟩
    show W2.drew.cell? _ = some (.slice ad (xs.take p).length cap)
    rw [z, List.length_take, Nat.min_eq_left hp]; exact objAt_cell o2 0 rfl
  · refine ⟨?_, nodesAt_next ht b2.drew⟩
    show W2.drew.cell? _ = some (.slice q (xs.drop k).length (cap - k))
    rw [z, List.length_drop]; exact objAt_cell o2 1 rfl
set_option maxRecDepth 100000 in
set_option maxHeartbeats 4000000 in
theorem tx_deleteNode_yes (v : SvD) (hv : checkE V8 v.s = 0) (x : ByteArray) (hh : hasNode v.s.nodes x = true) (c : Nat) (w : World) (h : TxAt c v w) :
    Calls Tryz.prog 85 #[.pointer (some ⟨c, 0, none⟩), .string x] w fun e w' => e = .returned (.int .i64 0) ∧ TxAt c ⟨delN x v.s, v.now⟩ w' ∧ w.grownBy w' (some c) := by
  obtain ⟨aj, an, al, cj, cn, cl, ho, hx⟩ := h
  unfold svC at ho
  have hf := valid_facts hv
  have ha := hf.1.2.1
  have hl := hf.2.1.2.1
  have hll := hf.2.1.2.2
  have hll' : v.s.leases.length ≤ 100 := by omega
  obtain ⟨W, hW⟩ : ∃ W, w.alloc (.cells #[.string x] 9) = W := ⟨_, rfl⟩
  have bA := below_one w (.cells #[.string x] 9)
  have oN := objAt_new w #[.string x] 9
  rw [hW] at bA oN
  have oT := objAt_next ho bA
  have xT := ownS_next hx bA
  have hcw := objAt_lt ho
  have k1 := objAt_cell oT 2 rfl
  have n0 := objAt_cell oN 0 rfl
  have lT := objAt_lt oT
  have lN := objAt_lt oN
  have hcap := own_caps xT.2.1
  have HF := fun (V : World) (h : ((V.cell? ⟨c, 2, none⟩ = some (.slice an v.s.nodes.length cn) ∧ V.cell? ⟨w.heap.size, 0, none⟩ = some (.string x)) ∧ Below W.heap.size W V)) => svFindNode_is v.s.nodes ha x an cn (by omega) V (nodesAt_next (ownS_at xT).2.1 h.2)
  simp only [hh] at HF
  have HF := Lib.hid HF
  have s0 : ((W.drew.cell? ⟨c, 2, none⟩ = some (.slice an v.s.nodes.length cn) ∧ W.drew.cell? ⟨w.heap.size, 0, none⟩ = some (.string x)) ∧ Below W.heap.size W W.drew) := ⟨⟨k1, n0⟩, (Below.refl _ _).drew⟩
  have OT := Lib.hid oT
  have XT := Lib.hid xT
  have ON := Lib.hid oN
  have BA := Lib.hid bA
  have HA := Lib.hid ha
  have HH := Lib.hid hh
  clear oT xT oN bA ha hh k1 n0 hf ho hx
  go_enter Tryz.func85, Tryz.ntmps85
  go_wp2_with fail
  go_region_held3 (fun w' => ((w'.cell? ⟨c, 2, none⟩ = some (.slice an v.s.nodes.length cn) ∧ w'.cell? ⟨w.heap.size, 0, none⟩ = some (.string x)) ∧ Below W.heap.size W w'))
    (first | assumption | exact s0)
    (first
      | (go_at_call 98; (with_reducible refine (HF.out _ (by assumption)).mono ?_); rintro e w2 ⟨p, rfl, hp, b2⟩; have o2 := held2b (p := ⟨c, 2, none⟩) (q := ⟨w.heap.size, 0, none⟩) lT lN (by assumption) b2))
  rename_i o3
  obtain ⟨⟨k1, n0⟩, b3⟩ := o3
  have hpl := hp.1
  have hpc : p ≤ cn := Nat.le_trans hpl hcap
  obtain ⟨hpp, _⟩ := pos_has HA.out hp ((hasNode_iff _ _).1 HH.out)
  have hp1 : (0 : Int) ≤ (p : Int) + 1 ∧ (p : Int) + 1 ≤ (v.s.nodes.length : Int) := ⟨by omega, by omega⟩
  obtain ⟨hp1, hp2⟩ := hp1
  have hwr : IntKind.i64.wrap ((p : Int) + 1) = (p : Int) + 1 := IntWalk.i64_in _ (by omega)
  have HE := but_pos (key := fun z : NodeD => z.name) (fun z : NodeD => decide (z.name = x)) (fun z => by simp) HA.out hp ((hasNode_iff _ _).1 HH.out)
  obtain ⟨out, hout⟩ : ∃ out, v.s.nodes.take p ++ v.s.nodes.drop (p + 1) = out := ⟨_, rfl⟩
  rw [hout] at HE
  have hlo : out.length ≤ 1000 := by rw [HE]; exact Nat.le_trans (List.length_filter_le _ _) (by omega)
  have oT3 := objAt_next OT.out b3
  have xT3 := ownS_next XT.out b3
  have oN3 := objAt_next ON.out b3
  have B3 := below_trans BA.out b3 BA.out.size
  have C2 := Lib.hid (svCat2Node_is (c := 2) hout hlo (parts2Node w2 an v.s.nodes cn p (p + 1) (ownS_at xT3).2.1 hcap hpl))
  have b4 : Below w2.heap.size w2 ((w2.alloc (.cells #[.slice an p cn, .slice (if cn = p + 1 then an else Option.map (fun a => a.add ((p + 1) * 3)) an) (v.s.nodes.length - (p + 1)) (cn - (p + 1))] 23)).drew) := (below_one _ _).drew
  have B4 := Lib.hid (below_trans B3 b4 B3.size)
  have OT4 := Lib.hid (objAt_next oT3 b4)
  have XT4 := Lib.hid (ownS_next xT3 b4)
  have ON4 := Lib.hid (objAt_next oN3 b4)
  have HEh := Lib.hid HE
  clear oT3 xT3 oN3 B3 b4 hout hlo n0 b3 hp s0 HE
  go_wp2_with fail
  go_region_law (first | (go_simp; go_at_call 99; (with_reducible refine C2.out.mono ?_); rintro e u5 ⟨rad, rcap, rfl, rown, rb⟩; have kc := objAt_cell (objAt_next OT4.out rb) 2 rfl; have fc := objAt_free (objAt_next OT4.out rb) 2))
  all_goals
    have oT5 := objAt_next OT4.out rb
    have xT5 := ownS_next XT4.out rb
    have oN5 := objAt_next ON4.out rb
    have B5 := below_trans B4.out rb B4.out.size
    obtain ⟨U, hU⟩ : ∃ U, u5.setCell ⟨c, 2, none⟩ (.slice rad out.length rcap) = U := ⟨_, rfl⟩
    have oU : ObjAt c (svC ⟨⟨v.s.rev, v.s.jobs, out, v.s.leases⟩, v.now⟩ aj rad al cj rcap cl) 96 U := by rw [← hU]; exact objAt_set oT5 2 _
    have xU : OwnS 0 aj rad al cj rcap cl (SvD.mk ⟨v.s.rev, v.s.jobs, out, v.s.leases⟩ v.now).s U := by rw [← hU]; exact ⟨own_box xT5.1 oT5 rowT_tx.1 2 _, own_box (own_is rown) oT5 rowT_tx.2.1 2 _, own_box xT5.2.2 oT5 rowT_tx.2.2 2 _⟩
    have oNU : ObjAt w.heap.size #[.string x] 9 U := by rw [← hU]; exact objAt_other oN5 (by omega) _ _
    have gU : w.grownBy U (some c) := by rw [← hU]; exact gN_set (gN_of_below B5) _ _
    have hNU := objAt_lt oNU
    have C3 := Lib.hid (svEnd_is 102 #[.pointer (some ⟨w.heap.size, 0, none⟩)] (enters_of Tryz.func102 (by kernel_rfl) rfl) (fun y : LeaseD => decide (y.node = x)) (fun V => ObjAt w.heap.size #[.string x] 9 V) (fun _ _ h b => objAt_next h b) (fun y V h => txc_deleteNode y x w.heap.size V h) ⟨⟨v.s.rev, v.s.jobs, out, v.s.leases⟩, v.now⟩ aj rad al cj rcap cl c hll' U oNU (fun V b j u hb h => objAt_other h (by omega) j u) oU xU)
    have GU := Lib.hid gU
    clear oT5 xT5 oN5 B5 oU xU oNU gU rown rb kc fc C2 B4 OT4 XT4 ON4
    generalize (if cn = p + 1 then an else Option.map (fun x => x.add ((p + 1) * 3)) an) = qq
    go_wp2_with fail
    refine C3.out.mono ?_
    rintro e u6 ⟨rfl, t6, g6⟩
    have T6 := Lib.hid t6
    have G6 := Lib.hid (g2_trans GU.out g6)
    clear t6 g6
    go_wp2
    go_ret
    refine ⟨rfl, ?_, G6.out⟩
    have h6 := T6.out
    rw [HEh.out] at h6
    exact h6
set_option maxRecDepth 100000 in
set_option maxHeartbeats 4000000 in
theorem tx_deleteNode_no (v : SvD) (hv : checkE V8 v.s = 0) (x : ByteArray) (hh : hasNode v.s.nodes x = false) (c : Nat) (w : World) (h : TxAt c v w) :
    Calls Tryz.prog 85 #[.pointer (some ⟨c, 0, none⟩), .string x] w fun e w' => e = .returned (.int .i64 6) ∧ w.grownBy w' (some c) := by
  obtain ⟨aj, an, al, cj, cn, cl, ho, hx⟩ := h
  unfold svC at ho
  have hf := valid_facts hv
  have ha := hf.1.2.1
  have hl := hf.2.1.2.1
  have hll := hf.2.1.2.2
  have hll' : v.s.leases.length ≤ 100 := by omega
  obtain ⟨W, hW⟩ : ∃ W, w.alloc (.cells #[.string x] 9) = W := ⟨_, rfl⟩
  have bA := below_one w (.cells #[.string x] 9)
  have oN := objAt_new w #[.string x] 9
  rw [hW] at bA oN
  have oT := objAt_next ho bA
  have xT := ownS_next hx bA
  have hcw := objAt_lt ho
  have k1 := objAt_cell oT 2 rfl
  have n0 := objAt_cell oN 0 rfl
  have lT := objAt_lt oT
  have lN := objAt_lt oN
  have hcap := own_caps xT.2.1
  have HF := fun (V : World) (h : ((V.cell? ⟨c, 2, none⟩ = some (.slice an v.s.nodes.length cn) ∧ V.cell? ⟨w.heap.size, 0, none⟩ = some (.string x)) ∧ Below W.heap.size W V)) => svFindNode_is v.s.nodes ha x an cn (by omega) V (nodesAt_next (ownS_at xT).2.1 h.2)
  simp only [hh] at HF
  have HF := Lib.hid HF
  have s0 : ((W.drew.cell? ⟨c, 2, none⟩ = some (.slice an v.s.nodes.length cn) ∧ W.drew.cell? ⟨w.heap.size, 0, none⟩ = some (.string x)) ∧ Below W.heap.size W W.drew) := ⟨⟨k1, n0⟩, (Below.refl _ _).drew⟩
  have OT := Lib.hid oT
  have XT := Lib.hid xT
  have ON := Lib.hid oN
  have BA := Lib.hid bA
  have HA := Lib.hid ha
  have HH := Lib.hid hh
  clear oT xT oN bA ha hh k1 n0 hf ho hx
  go_enter Tryz.func85, Tryz.ntmps85
  go_wp2_with fail
  go_region_held3 (fun w' => ((w'.cell? ⟨c, 2, none⟩ = some (.slice an v.s.nodes.length cn) ∧ w'.cell? ⟨w.heap.size, 0, none⟩ = some (.string x)) ∧ Below W.heap.size W w'))
    (first | assumption | exact s0)
    (first
      | (go_at_call 98; (with_reducible refine (HF.out _ (by assumption)).mono ?_); rintro e w2 ⟨p, rfl, hp, b2⟩; have o2 := held2b (p := ⟨c, 2, none⟩) (q := ⟨w.heap.size, 0, none⟩) lT lN (by assumption) b2))
  all_goals
    rename_i o3
    have B3 := Lib.hid (below_trans BA.out o3.2 BA.out.size)
    clear o3 s0
    go_wp2
    go_ret
    exact ⟨rfl, gN_of_below B3.out⟩
set_option maxRecDepth 100000 in
set_option maxHeartbeats 4000000 in
theorem tx_free_yes (v : SvD) (hv : checkE V8 v.s = 0) (x : ByteArray) (hh : hasLease v.s.leases x = true) (c : Nat) (w : World) (h : TxAt c v w) :
    Calls Tryz.prog 87 #[.pointer (some ⟨c, 0, none⟩), .string x] w fun e w' => e = .returned (.int .i64 0) ∧ TxAt c ⟨freeS x v.s, v.now⟩ w' ∧ w.grownBy w' (some c) := by
  obtain ⟨aj, an, al, cj, cn, cl, ho, hx⟩ := h
  unfold svC at ho
  have hf := valid_facts hv
  have ha := hf.1.2.2
  have hl := hf.2.1.2.2
  have hll := hf.2.1.2.2
  have hll' : v.s.leases.length ≤ 100 := by omega
  obtain ⟨W, hW⟩ : ∃ W, w.alloc (.cells #[.string x] 9) = W := ⟨_, rfl⟩
  have bA := below_one w (.cells #[.string x] 9)
  have oN := objAt_new w #[.string x] 9
  rw [hW] at bA oN
  have oT := objAt_next ho bA
  have xT := ownS_next hx bA
  have hcw := objAt_lt ho
  have k1 := objAt_cell oT 3 rfl
  have n0 := objAt_cell oN 0 rfl
  have lT := objAt_lt oT
  have lN := objAt_lt oN
  have hcap := own_caps xT.2.2
  have HF := fun (V : World) (h : ((V.cell? ⟨c, 3, none⟩ = some (.slice al v.s.leases.length cl) ∧ V.cell? ⟨w.heap.size, 0, none⟩ = some (.string x)) ∧ Below W.heap.size W V)) => svFindLease_is v.s.leases ha x al cl (by omega) V (leasesAt_next (ownS_at xT).2.2 h.2)
  simp only [hh] at HF
  have HF := Lib.hid HF
  have s0 : ((W.drew.cell? ⟨c, 3, none⟩ = some (.slice al v.s.leases.length cl) ∧ W.drew.cell? ⟨w.heap.size, 0, none⟩ = some (.string x)) ∧ Below W.heap.size W W.drew) := ⟨⟨k1, n0⟩, (Below.refl _ _).drew⟩
  have OT := Lib.hid oT
  have XT := Lib.hid xT
  have ON := Lib.hid oN
  have BA := Lib.hid bA
  have HA := Lib.hid ha
  have HH := Lib.hid hh
  clear oT xT oN bA ha hh k1 n0 hf ho hx
  go_enter Tryz.func87, Tryz.ntmps87
  go_wp2_with fail
  go_region_held3 (fun w' => ((w'.cell? ⟨c, 3, none⟩ = some (.slice al v.s.leases.length cl) ∧ w'.cell? ⟨w.heap.size, 0, none⟩ = some (.string x)) ∧ Below W.heap.size W w'))
    (first | assumption | exact s0)
    (first
      | (go_at_call 103; (with_reducible refine (HF.out _ (by assumption)).mono ?_); rintro e w2 ⟨p, rfl, hp, b2⟩; have o2 := held2b (p := ⟨c, 3, none⟩) (q := ⟨w.heap.size, 0, none⟩) lT lN (by assumption) b2))
  rename_i o3
  obtain ⟨⟨k1, n0⟩, b3⟩ := o3
  have oT3 := objAt_next OT.out b3
  have xT3 := ownS_next XT.out b3
  have oN3 := objAt_next ON.out b3
  have B3 := below_trans BA.out b3 BA.out.size
  have hN3 := objAt_lt oN3
  have C3 := Lib.hid (svEnd_is 105 #[.pointer (some ⟨w.heap.size, 0, none⟩)] (enters_of Tryz.func105 (by kernel_rfl) rfl) (fun y : LeaseD => decide (y.job = x)) (fun V => ObjAt w.heap.size #[.string x] 9 V) (fun _ _ h b => objAt_next h b) (fun y V h => txc_free y x w.heap.size V h) v aj an al cj cn cl c hll' w2 oN3 (fun V b j u hb h => objAt_other h (by omega) j u) oT3 xT3)
  have GU : Hid (w.grownBy w2 (some c)) := gN_of_below B3
  clear oT3 xT3 oN3 B3 k1 n0 b3 hp s0
  go_wp2_with fail
  refine C3.out.mono ?_
  rintro e u6 ⟨rfl, t6, g6⟩
  have T6 := Lib.hid t6
  have G6 := Lib.hid (g2_trans GU.out g6)
  clear t6 g6
  go_wp2
  go_ret
  exact ⟨rfl, T6.out, G6.out⟩
set_option maxRecDepth 100000 in
set_option maxHeartbeats 4000000 in
theorem tx_free_no (v : SvD) (hv : checkE V8 v.s = 0) (x : ByteArray) (hh : hasLease v.s.leases x = false) (c : Nat) (w : World) (h : TxAt c v w) :
    Calls Tryz.prog 87 #[.pointer (some ⟨c, 0, none⟩), .string x] w fun e w' => e = .returned (.int .i64 6) ∧ w.grownBy w' (some c) := by
  obtain ⟨aj, an, al, cj, cn, cl, ho, hx⟩ := h
  unfold svC at ho
  have hf := valid_facts hv
  have ha := hf.1.2.2
  have hl := hf.2.1.2.2
  have hll := hf.2.1.2.2
  have hll' : v.s.leases.length ≤ 100 := by omega
  obtain ⟨W, hW⟩ : ∃ W, w.alloc (.cells #[.string x] 9) = W := ⟨_, rfl⟩
  have bA := below_one w (.cells #[.string x] 9)
  have oN := objAt_new w #[.string x] 9
  rw [hW] at bA oN
  have oT := objAt_next ho bA
  have xT := ownS_next hx bA
  have hcw := objAt_lt ho
  have k1 := objAt_cell oT 3 rfl
  have n0 := objAt_cell oN 0 rfl
  have lT := objAt_lt oT
  have lN := objAt_lt oN
  have hcap := own_caps xT.2.2
  have HF := fun (V : World) (h : ((V.cell? ⟨c, 3, none⟩ = some (.slice al v.s.leases.length cl) ∧ V.cell? ⟨w.heap.size, 0, none⟩ = some (.string x)) ∧ Below W.heap.size W V)) => svFindLease_is v.s.leases ha x al cl (by omega) V (leasesAt_next (ownS_at xT).2.2 h.2)
  simp only [hh] at HF
  have HF := Lib.hid HF
  have s0 : ((W.drew.cell? ⟨c, 3, none⟩ = some (.slice al v.s.leases.length cl) ∧ W.drew.cell? ⟨w.heap.size, 0, none⟩ = some (.string x)) ∧ Below W.heap.size W W.drew) := ⟨⟨k1, n0⟩, (Below.refl _ _).drew⟩
  have OT := Lib.hid oT
  have XT := Lib.hid xT
  have ON := Lib.hid oN
  have BA := Lib.hid bA
  have HA := Lib.hid ha
  have HH := Lib.hid hh
  clear oT xT oN bA ha hh k1 n0 hf ho hx
  go_enter Tryz.func87, Tryz.ntmps87
  go_wp2_with fail
  go_region_held3 (fun w' => ((w'.cell? ⟨c, 3, none⟩ = some (.slice al v.s.leases.length cl) ∧ w'.cell? ⟨w.heap.size, 0, none⟩ = some (.string x)) ∧ Below W.heap.size W w'))
    (first | assumption | exact s0)
    (first
      | (go_at_call 103; (with_reducible refine (HF.out _ (by assumption)).mono ?_); rintro e w2 ⟨p, rfl, hp, b2⟩; have o2 := held2b (p := ⟨c, 3, none⟩) (q := ⟨w.heap.size, 0, none⟩) lT lN (by assumption) b2))
  all_goals
    rename_i o3
    have B3 := Lib.hid (below_trans BA.out o3.2 BA.out.size)
    clear o3 s0
    go_wp2
    go_ret
    exact ⟨rfl, gN_of_below B3.out⟩
set_option maxRecDepth 100000 in
set_option maxHeartbeats 4000000 in
theorem tx_tick_yes (v : SvD) (hv : checkE V8 v.s = 0) (n : Int) (hn : 0 ≤ n ∧ n ≤ 1099511627776) (hnow : 0 ≤ v.now ∧ v.now ≤ 1099511627776) (hh : ¬ 1099511627776 < v.now + n) (c : Nat) (w : World) (h : TxAt c v w) :
    Calls Tryz.prog 88 #[.pointer (some ⟨c, 0, none⟩), .int .i64 n] w fun e w' => e = .returned (.int .i64 0) ∧ TxAt c ⟨tickS (v.now + n) v.s, v.now + n⟩ w' ∧ w.grownBy w' (some c) := by
  obtain ⟨aj, an, al, cj, cn, cl, ho, hx⟩ := h
  unfold svC at ho
  have hf := valid_facts hv
  have hll : v.s.leases.length ≤ 100 := by omega
  obtain ⟨W, hW⟩ : ∃ W, w.alloc (.cells #[.pointer (some ⟨c, 0, none⟩)] 119) = W := ⟨_, rfl⟩
  have bA := below_one w (.cells #[.pointer (some ⟨c, 0, none⟩)] 119)
  have oN := objAt_new w #[.pointer (some ⟨c, 0, none⟩)] 119
  rw [hW] at bA oN
  have oT := objAt_next ho bA
  have xT := ownS_next hx bA
  have hcw := objAt_lt ho
  have k4 := objAt_cell oT 4 rfl
  have n0 := objAt_cell oN 0 rfl
  have lT := objAt_lt oT
  have lN := objAt_lt oN
  have f4 := objAt_free oT 4
  have hw1 : IntKind.i64.wrap (1099511627776 - v.now) = 1099511627776 - v.now := IntWalk.i64_in _ (by omega)
  have hw2 : IntKind.i64.wrap (v.now + n) = v.now + n := IntWalk.i64_in _ (by omega)
  have hcmp : ¬ 1099511627776 - v.now < n := by omega
  obtain ⟨U, hU⟩ : ∃ U, W.setCell ⟨c, 4, none⟩ (.int .i64 (v.now + n)) = U := ⟨_, rfl⟩
  have oU : ObjAt c (svC ⟨v.s, v.now + n⟩ aj an al cj cn cl) 96 U := by rw [← hU]; exact objAt_set oT 4 _
  have xU : OwnS 0 aj an al cj cn cl v.s U := by rw [← hU]; exact ownS_set1 xT oT rowT_tx 4 _
  have oNU : ObjAt w.heap.size #[.pointer (some ⟨c, 0, none⟩)] 119 U := by rw [← hU]; exact objAt_other oN (by omega) _ _
  have gU : w.grownBy U (some c) := by rw [← hU]; exact gN_set (gN_of_below bA) _ _
  have hNU := objAt_lt oNU
  have hCU := objAt_lt oU
  have m0 := objAt_cell oNU 0 rfl
  have C3 := Lib.hid (svEnd_is 106 #[.pointer (some ⟨w.heap.size, 0, none⟩)] (enters_of Tryz.func106 (by kernel_rfl) rfl) (fun y : LeaseD => decide (y.til ≤ v.now + n)) (fun V => ObjAt w.heap.size #[.pointer (some ⟨c, 0, none⟩)] 119 V ∧ ObjAt c (svC ⟨v.s, v.now + n⟩ aj an al cj cn cl) 96 V) (fun _ _ h b => ⟨objAt_next h.1 b, objAt_next h.2 b⟩) (fun y V h => txc_tick y w.heap.size c (v.now + n) _ _ _ _ V h.1 h.2) ⟨v.s, v.now + n⟩ aj an al cj cn cl c hll U ⟨oNU, oU⟩ (fun V b j u hb h => ⟨objAt_other h.1 (by omega) j u, objAt_other h.2 (by omega) j u⟩) oU xU)
  have GU := Lib.hid gU
  clear oT xT oN bA hf ho hx oU xU oNU gU
  go_enter Tryz.func88, Tryz.ntmps88
  go_wp2_with fail
  refine C3.out.mono ?_
  rintro e u6 ⟨rfl, t6, g6⟩
  have T6 := Lib.hid t6
  have G6 := Lib.hid (g2_trans GU.out g6)
  clear t6 g6
  go_wp2
  go_ret
  exact ⟨rfl, T6.out, G6.out⟩
set_option maxRecDepth 100000 in
set_option maxHeartbeats 4000000 in
theorem tx_tick_no (v : SvD) (hv : checkE V8 v.s = 0) (n : Int) (hn : 0 ≤ n ∧ n ≤ 1099511627776) (hnow : 0 ≤ v.now ∧ v.now ≤ 1099511627776) (hh : 1099511627776 < v.now + n) (c : Nat) (w : World) (h : TxAt c v w) :
    Calls Tryz.prog 88 #[.pointer (some ⟨c, 0, none⟩), .int .i64 n] w fun e w' => e = .returned (.int .i64 1) ∧ w.grownBy w' (some c) := by
  obtain ⟨aj, an, al, cj, cn, cl, ho, hx⟩ := h
  unfold svC at ho
  have hf := valid_facts hv
  have hll : v.s.leases.length ≤ 100 := by omega
  obtain ⟨W, hW⟩ : ∃ W, w.alloc (.cells #[.pointer (some ⟨c, 0, none⟩)] 119) = W := ⟨_, rfl⟩
  have bA := below_one w (.cells #[.pointer (some ⟨c, 0, none⟩)] 119)
  have oN := objAt_new w #[.pointer (some ⟨c, 0, none⟩)] 119
  rw [hW] at bA oN
  have oT := objAt_next ho bA
  have xT := ownS_next hx bA
  have hcw := objAt_lt ho
  have k4 := objAt_cell oT 4 rfl
  have n0 := objAt_cell oN 0 rfl
  have lT := objAt_lt oT
  have lN := objAt_lt oN
  have f4 := objAt_free oT 4
  have hw1 : IntKind.i64.wrap (1099511627776 - v.now) = 1099511627776 - v.now := IntWalk.i64_in _ (by omega)
  have hw2 : IntKind.i64.wrap (v.now + n) = v.now + n := IntWalk.i64_in _ (by omega)
  have hcmp : 1099511627776 - v.now < n := by omega
  have BA := Lib.hid bA
  clear oT xT oN bA hf ho hx
  go_enter Tryz.func88, Tryz.ntmps88
  go_wp2
  go_ret
  exact ⟨rfl, gN_of_below BA.out⟩
end Go.Proofs.YtiekgafopalfmaaGreatDoor

/- A transaction's grant. -/
namespace Go.Proofs.YtiekgafopalfmaaGreatDoor
open Go.RowKit Go.Lib Go.Shelf

theorem held5b {W V V' : World} {c b : Nat} {a1 a2 a3 b0 b1 : Value} (hc : c < W.heap.size) (hb : b < W.heap.size) (h : (V.cell? ⟨c, 1, none⟩ = some a1 ∧ V.cell? ⟨c, 2, none⟩ = some a2 ∧ V.cell? ⟨c, 3, none⟩ = some a3 ∧ V.cell? ⟨b, 0, none⟩ = some b0 ∧ V.cell? ⟨b, 1, none⟩ = some b1) ∧ Below W.heap.size W V) (k : Below V.heap.size V V') :
    (V'.cell? ⟨c, 1, none⟩ = some a1 ∧ V'.cell? ⟨c, 2, none⟩ = some a2 ∧ V'.cell? ⟨c, 3, none⟩ = some a3 ∧ V'.cell? ⟨b, 0, none⟩ = some b0 ∧ V'.cell? ⟨b, 1, none⟩ = some b1) ∧ Below W.heap.size W V' := by
  have hs := h.2.size
  exact ⟨⟨by rw [k.cell (p := ⟨c, 1, none⟩) (by show c < _; omega)]; exact h.1.1, by rw [k.cell (p := ⟨c, 2, none⟩) (by show c < _; omega)]; exact h.1.2.1, by rw [k.cell (p := ⟨c, 3, none⟩) (by show c < _; omega)]; exact h.1.2.2.1, by rw [k.cell (p := ⟨b, 0, none⟩) (by show b < _; omega)]; exact h.1.2.2.2.1, by rw [k.cell (p := ⟨b, 1, none⟩) (by show b < _; omega)]; exact h.1.2.2.2.2⟩, below_trans h.2 k hs⟩
theorem jobOf_at {U : ByteArray → Bool} {s : StD} (h : Valid U s) {x : ByteArray} {p : Nat} (hp : p < s.jobs.length) (e : s.jobs[p].name = x) : jobOf s.jobs x = s.jobs[p] := by
  have m : ∀ (l : List JobD), Asc (·.name) l → ∀ (p : Nat) (hp : p < l.length), l[p].name = x → jobOf l x = l[p] := by
    intro l
    induction l with
    | nil => intro _ p hp; simp at hp
    | cons j l ih =>
      intro ha p hp e
      have h' := List.pairwise_cons.1 ha
      unfold jobOf
      cases p with
      | zero => have e : j.name = x := e; rw [if_pos e]; rfl
      | succ p =>
        have hp' : p < l.length := by simpa using hp
        have e' : l[p].name = x := e
        rw [if_neg (fun z => lt_ne (h'.1 _ (List.getElem_mem hp')) (by show j.name = l[p].name; rw [z, e'])), ih h'.2 p hp' e']; rfl
  exact m s.jobs h.2.2.1.2 p hp e

theorem wJob_tried {y : JobD} (h : wJob y) (ht : 0 ≤ y.tries ∧ y.tries ≤ 100) : wJob (triedJ y) := by
  obtain ⟨h1, h2, h3, _, h5⟩ := h
  exact ⟨h1, h2, h3, wf_sv (by show _ ≤ y.tries + 1 ∧ y.tries + 1 ≤ _; omega), h5⟩
theorem wState_grant {s : StD} {l : LeaseD} (h : checkE V8 s = 0) (hl : wLease l) : wState (grantS l s) := by
  have hw := wState_sv h
  have hv := (check_zero V8 s).1 h
  refine ⟨hw.1, fun x hx => ?_, hw.2.2.1, fun x hx => ?_⟩
  · rcases (put_mem hv.2.2.1.2 _ x).1 hx with rfl | ⟨hx, _⟩
    · cases hh : hasJob s.jobs l.job with
      | true =>
        have m := (jobOf_mem hh).1
        exact wJob_tried (hw.2.1 _ m) ((jobE_zero V8 _).1 (hv.2.2.1.1 _ m)).2.2.2
      | false =>
        have e : jobOf s.jobs l.job = zJob := by
          have : ∀ (k : List JobD), hasJob k l.job = false → jobOf k l.job = zJob := by
            intro k
            induction k with
            | nil => intro _; rfl
            | cons j k ih =>
              intro hk
              have h1 : ¬ j.name = l.job := fun e => by rw [(hasJob_iff _ _).2 ⟨j, List.mem_cons_self, e⟩] at hk; cases hk
              have h2 : hasJob k l.job = false := by
                cases h3 : hasJob k l.job with
                | false => rfl
                | true => obtain ⟨z, hz, ez⟩ := (hasJob_iff _ _).1 h3; rw [(hasJob_iff _ _).2 ⟨z, List.mem_cons_of_mem _ hz, ez⟩] at hk; cases hk
              unfold jobOf; rw [if_neg h1]; exact ih h2
          exact this _ hh
        rw [e]
        exact ⟨by decide, by decide, by decide, by decide, by decide⟩
    · exact hw.2.1 x hx
  · rcases (put_mem hv.2.2.2.2.1.2 _ x).1 hx with rfl | ⟨hx, _⟩
    · exact hl
    · exact hw.2.2.2 x hx
set_option maxRecDepth 100000 in
set_option maxHeartbeats 8000000 in
theorem tx_grant_none (v : SvD) (hv : checkE V8 v.s = 0) (l : LeaseD) (hc : (hasJob v.s.jobs l.job && hasNode v.s.nodes l.node) = false) (c : Nat) (w : World) (h : TxAt c v w) :
    Calls Tryz.prog 86 #[.pointer (some ⟨c, 0, none⟩), .agg #[.string l.job, .string l.node, .int .i64 l.til]] w fun e w' => e = .returned (.int .i64 6) ∧ w.grownBy w' (some c) := by
  obtain ⟨aj, an, al, cj, cn, cl, ho, hx⟩ := h
  unfold svC at ho
  have hf := valid_facts hv
  obtain ⟨⟨ha1, ha2, ha3⟩, ⟨hl1, hl2, hl3⟩, _⟩ := hf
  obtain ⟨W, hW⟩ : ∃ W, w.alloc (.cells #[.string l.job, .string l.node, .int .i64 l.til] 42) = W := ⟨_, rfl⟩
  have bA := below_one w (.cells #[.string l.job, .string l.node, .int .i64 l.til] 42)
  have oL := objAt_new w #[.string l.job, .string l.node, .int .i64 l.til] 42
  rw [hW] at bA oL
  have oT := objAt_next ho bA
  have xT := ownS_next hx bA
  have hcw := objAt_lt ho
  have lT := objAt_lt oT
  have lL := objAt_lt oL
  have s0 : ((W.drew.cell? ⟨c, 1, none⟩ = some (.slice aj v.s.jobs.length cj) ∧ W.drew.cell? ⟨c, 2, none⟩ = some (.slice an v.s.nodes.length cn) ∧ W.drew.cell? ⟨c, 3, none⟩ = some (.slice al v.s.leases.length cl) ∧ W.drew.cell? ⟨w.heap.size, 0, none⟩ = some (.string l.job) ∧ W.drew.cell? ⟨w.heap.size, 1, none⟩ = some (.string l.node)) ∧ Below W.heap.size W W.drew) := ⟨⟨objAt_cell oT 1 rfl, objAt_cell oT 2 rfl, objAt_cell oT 3 rfl, objAt_cell oL 0 rfl, objAt_cell oL 1 rfl⟩, (Below.refl _ _).drew⟩
  obtain ⟨c1, hc1⟩ : ∃ b, hasJob v.s.jobs l.job = b := ⟨_, rfl⟩
  obtain ⟨c2, hc2⟩ : ∃ b, hasNode v.s.nodes l.node = b := ⟨_, rfl⟩
  rw [hc1, hc2] at hc
  have HF1 := fun (V : World) (h : ((V.cell? ⟨c, 1, none⟩ = some (.slice aj v.s.jobs.length cj) ∧ V.cell? ⟨c, 2, none⟩ = some (.slice an v.s.nodes.length cn) ∧ V.cell? ⟨c, 3, none⟩ = some (.slice al v.s.leases.length cl) ∧ V.cell? ⟨w.heap.size, 0, none⟩ = some (.string l.job) ∧ V.cell? ⟨w.heap.size, 1, none⟩ = some (.string l.node)) ∧ Below W.heap.size W V)) => svFindJob_is v.s.jobs ha1 l.job aj cj (by omega) V (jobsAt_next (ownS_at xT).1 h.2)
  simp only [hc1] at HF1
  have HF1 := Lib.hid HF1
  have HF2 := fun (V : World) (h : ((V.cell? ⟨c, 1, none⟩ = some (.slice aj v.s.jobs.length cj) ∧ V.cell? ⟨c, 2, none⟩ = some (.slice an v.s.nodes.length cn) ∧ V.cell? ⟨c, 3, none⟩ = some (.slice al v.s.leases.length cl) ∧ V.cell? ⟨w.heap.size, 0, none⟩ = some (.string l.job) ∧ V.cell? ⟨w.heap.size, 1, none⟩ = some (.string l.node)) ∧ Below W.heap.size W V)) => svFindNode_is v.s.nodes ha2 l.node an cn (by omega) V (nodesAt_next (ownS_at xT).2.1 h.2)
  simp only [hc2] at HF2
  have HF2 := Lib.hid HF2
  have OT := Lib.hid oT
  have XT := Lib.hid xT
  have OL := Lib.hid oL
  have BA := Lib.hid bA
  have HA1 := Lib.hid ha1
  have HA3 := Lib.hid ha3
  clear hc1 hc2
  clear oT xT oL bA ha1 ha2 ha3 ho hx
  go_enter Tryz.func86, Tryz.ntmps86
  go_wp2_with fail
  go_region_held3 (fun w' => ((w'.cell? ⟨c, 1, none⟩ = some (.slice aj v.s.jobs.length cj) ∧ w'.cell? ⟨c, 2, none⟩ = some (.slice an v.s.nodes.length cn) ∧ w'.cell? ⟨c, 3, none⟩ = some (.slice al v.s.leases.length cl) ∧ w'.cell? ⟨w.heap.size, 0, none⟩ = some (.string l.job) ∧ w'.cell? ⟨w.heap.size, 1, none⟩ = some (.string l.node)) ∧ Below W.heap.size W w'))
    (first | assumption | exact s0)
    (first
      | (go_at_call 96; (with_reducible refine (HF1.out _ (by assumption)).mono ?_); rintro e w2 ⟨p1, rfl, hp1, bw2⟩; have ow2 := held5b lT lL (by assumption) bw2))
  rename_i o2
  have s1 : ((w2.drew.cell? ⟨c, 1, none⟩ = some (.slice aj v.s.jobs.length cj) ∧ w2.drew.cell? ⟨c, 2, none⟩ = some (.slice an v.s.nodes.length cn) ∧ w2.drew.cell? ⟨c, 3, none⟩ = some (.slice al v.s.leases.length cl) ∧ w2.drew.cell? ⟨w.heap.size, 0, none⟩ = some (.string l.job) ∧ w2.drew.cell? ⟨w.heap.size, 1, none⟩ = some (.string l.node)) ∧ Below W.heap.size W w2.drew) := ⟨o2.1, o2.2.drew⟩
  go_wp2_with fail
  go_region_held3 (fun w' => ((w'.cell? ⟨c, 1, none⟩ = some (.slice aj v.s.jobs.length cj) ∧ w'.cell? ⟨c, 2, none⟩ = some (.slice an v.s.nodes.length cn) ∧ w'.cell? ⟨c, 3, none⟩ = some (.slice al v.s.leases.length cl) ∧ w'.cell? ⟨w.heap.size, 0, none⟩ = some (.string l.job) ∧ w'.cell? ⟨w.heap.size, 1, none⟩ = some (.string l.node)) ∧ Below W.heap.size W w'))
    (first | assumption | exact s1)
    (first
      | (go_at_call 98; (with_reducible refine (HF2.out _ (by assumption)).mono ?_); rintro e w3 ⟨p2, rfl, hp2, bw3⟩; have ow3 := held5b lT lL (by assumption) bw3))
  rename_i o3
  have B3 := Lib.hid (below_trans BA.out o3.2 BA.out.size)
  clear s0 s1 o2 o3
  cases c1 <;> cases c2
  all_goals
    first
      | (exact absurd hc (by decide))
      | (go_wp2; go_ret; exact ⟨rfl, gN_of_below B3.out⟩)
set_option maxRecDepth 100000 in
set_option maxHeartbeats 8000000 in
theorem tx_grant_twice (v : SvD) (hv : checkE V8 v.s = 0) (l : LeaseD) (h1 : hasJob v.s.jobs l.job = true) (h2 : hasNode v.s.nodes l.node = true) (h3 : hasLease v.s.leases l.job = true) (c : Nat) (w : World) (h : TxAt c v w) :
    Calls Tryz.prog 86 #[.pointer (some ⟨c, 0, none⟩), .agg #[.string l.job, .string l.node, .int .i64 l.til]] w fun e w' => e = .returned (.int .i64 7) ∧ w.grownBy w' (some c) := by
  obtain ⟨aj, an, al, cj, cn, cl, ho, hx⟩ := h
  unfold svC at ho
  have hf := valid_facts hv
  obtain ⟨⟨ha1, ha2, ha3⟩, ⟨hl1, hl2, hl3⟩, _⟩ := hf
  obtain ⟨W, hW⟩ : ∃ W, w.alloc (.cells #[.string l.job, .string l.node, .int .i64 l.til] 42) = W := ⟨_, rfl⟩
  have bA := below_one w (.cells #[.string l.job, .string l.node, .int .i64 l.til] 42)
  have oL := objAt_new w #[.string l.job, .string l.node, .int .i64 l.til] 42
  rw [hW] at bA oL
  have oT := objAt_next ho bA
  have xT := ownS_next hx bA
  have hcw := objAt_lt ho
  have lT := objAt_lt oT
  have lL := objAt_lt oL
  have s0 : ((W.drew.cell? ⟨c, 1, none⟩ = some (.slice aj v.s.jobs.length cj) ∧ W.drew.cell? ⟨c, 2, none⟩ = some (.slice an v.s.nodes.length cn) ∧ W.drew.cell? ⟨c, 3, none⟩ = some (.slice al v.s.leases.length cl) ∧ W.drew.cell? ⟨w.heap.size, 0, none⟩ = some (.string l.job) ∧ W.drew.cell? ⟨w.heap.size, 1, none⟩ = some (.string l.node)) ∧ Below W.heap.size W W.drew) := ⟨⟨objAt_cell oT 1 rfl, objAt_cell oT 2 rfl, objAt_cell oT 3 rfl, objAt_cell oL 0 rfl, objAt_cell oL 1 rfl⟩, (Below.refl _ _).drew⟩
  have HF1 := fun (V : World) (h : ((V.cell? ⟨c, 1, none⟩ = some (.slice aj v.s.jobs.length cj) ∧ V.cell? ⟨c, 2, none⟩ = some (.slice an v.s.nodes.length cn) ∧ V.cell? ⟨c, 3, none⟩ = some (.slice al v.s.leases.length cl) ∧ V.cell? ⟨w.heap.size, 0, none⟩ = some (.string l.job) ∧ V.cell? ⟨w.heap.size, 1, none⟩ = some (.string l.node)) ∧ Below W.heap.size W V)) => svFindJob_is v.s.jobs ha1 l.job aj cj (by omega) V (jobsAt_next (ownS_at xT).1 h.2)
  simp only [h1] at HF1
  have HF1 := Lib.hid HF1
  have HF2 := fun (V : World) (h : ((V.cell? ⟨c, 1, none⟩ = some (.slice aj v.s.jobs.length cj) ∧ V.cell? ⟨c, 2, none⟩ = some (.slice an v.s.nodes.length cn) ∧ V.cell? ⟨c, 3, none⟩ = some (.slice al v.s.leases.length cl) ∧ V.cell? ⟨w.heap.size, 0, none⟩ = some (.string l.job) ∧ V.cell? ⟨w.heap.size, 1, none⟩ = some (.string l.node)) ∧ Below W.heap.size W V)) => svFindNode_is v.s.nodes ha2 l.node an cn (by omega) V (nodesAt_next (ownS_at xT).2.1 h.2)
  simp only [h2] at HF2
  have HF2 := Lib.hid HF2
  have HF3 := fun (V : World) (h : ((V.cell? ⟨c, 1, none⟩ = some (.slice aj v.s.jobs.length cj) ∧ V.cell? ⟨c, 2, none⟩ = some (.slice an v.s.nodes.length cn) ∧ V.cell? ⟨c, 3, none⟩ = some (.slice al v.s.leases.length cl) ∧ V.cell? ⟨w.heap.size, 0, none⟩ = some (.string l.job) ∧ V.cell? ⟨w.heap.size, 1, none⟩ = some (.string l.node)) ∧ Below W.heap.size W V)) => svFindLease_is v.s.leases ha3 l.job al cl (by omega) V (leasesAt_next (ownS_at xT).2.2 h.2)
  simp only [h3] at HF3
  have HF3 := Lib.hid HF3
  have OT := Lib.hid oT
  have XT := Lib.hid xT
  have OL := Lib.hid oL
  have BA := Lib.hid bA
  have HA1 := Lib.hid ha1
  have HA3 := Lib.hid ha3
  have HH1 := Lib.hid h1
  have HH3 := Lib.hid h3
  clear h1 h2 h3
  clear oT xT oL bA ha1 ha2 ha3 ho hx
  go_enter Tryz.func86, Tryz.ntmps86
  go_wp2_with fail
  go_region_held3 (fun w' => ((w'.cell? ⟨c, 1, none⟩ = some (.slice aj v.s.jobs.length cj) ∧ w'.cell? ⟨c, 2, none⟩ = some (.slice an v.s.nodes.length cn) ∧ w'.cell? ⟨c, 3, none⟩ = some (.slice al v.s.leases.length cl) ∧ w'.cell? ⟨w.heap.size, 0, none⟩ = some (.string l.job) ∧ w'.cell? ⟨w.heap.size, 1, none⟩ = some (.string l.node)) ∧ Below W.heap.size W w'))
    (first | assumption | exact s0)
    (first
      | (go_at_call 96; (with_reducible refine (HF1.out _ (by assumption)).mono ?_); rintro e w2 ⟨p1, rfl, hp1, bw2⟩; have ow2 := held5b lT lL (by assumption) bw2))
  rename_i o2
  have s1 : ((w2.drew.cell? ⟨c, 1, none⟩ = some (.slice aj v.s.jobs.length cj) ∧ w2.drew.cell? ⟨c, 2, none⟩ = some (.slice an v.s.nodes.length cn) ∧ w2.drew.cell? ⟨c, 3, none⟩ = some (.slice al v.s.leases.length cl) ∧ w2.drew.cell? ⟨w.heap.size, 0, none⟩ = some (.string l.job) ∧ w2.drew.cell? ⟨w.heap.size, 1, none⟩ = some (.string l.node)) ∧ Below W.heap.size W w2.drew) := ⟨o2.1, o2.2.drew⟩
  go_wp2_with fail
  go_region_held3 (fun w' => ((w'.cell? ⟨c, 1, none⟩ = some (.slice aj v.s.jobs.length cj) ∧ w'.cell? ⟨c, 2, none⟩ = some (.slice an v.s.nodes.length cn) ∧ w'.cell? ⟨c, 3, none⟩ = some (.slice al v.s.leases.length cl) ∧ w'.cell? ⟨w.heap.size, 0, none⟩ = some (.string l.job) ∧ w'.cell? ⟨w.heap.size, 1, none⟩ = some (.string l.node)) ∧ Below W.heap.size W w'))
    (first | assumption | exact s1)
    (first
      | (go_at_call 98; (with_reducible refine (HF2.out _ (by assumption)).mono ?_); rintro e w3 ⟨p2, rfl, hp2, bw3⟩; have ow3 := held5b lT lL (by assumption) bw3))
  rename_i o3
  have s2 : ((w3.drew.cell? ⟨c, 1, none⟩ = some (.slice aj v.s.jobs.length cj) ∧ w3.drew.cell? ⟨c, 2, none⟩ = some (.slice an v.s.nodes.length cn) ∧ w3.drew.cell? ⟨c, 3, none⟩ = some (.slice al v.s.leases.length cl) ∧ w3.drew.cell? ⟨w.heap.size, 0, none⟩ = some (.string l.job) ∧ w3.drew.cell? ⟨w.heap.size, 1, none⟩ = some (.string l.node)) ∧ Below W.heap.size W w3.drew) := ⟨o3.1, o3.2.drew⟩
  go_wp2_with fail
  go_region_held3 (fun w' => ((w'.cell? ⟨c, 1, none⟩ = some (.slice aj v.s.jobs.length cj) ∧ w'.cell? ⟨c, 2, none⟩ = some (.slice an v.s.nodes.length cn) ∧ w'.cell? ⟨c, 3, none⟩ = some (.slice al v.s.leases.length cl) ∧ w'.cell? ⟨w.heap.size, 0, none⟩ = some (.string l.job) ∧ w'.cell? ⟨w.heap.size, 1, none⟩ = some (.string l.node)) ∧ Below W.heap.size W w'))
    (first | assumption | exact s2)
    (first
      | (go_at_call 103; (with_reducible refine (HF3.out _ (by assumption)).mono ?_); rintro e w4 ⟨p3, rfl, hp3, bw4⟩; have ow4 := held5b lT lL (by assumption) bw4))
  rename_i o4
  have oT4 := objAt_next OT.out o4.2
  have oL4 := objAt_next OL.out o4.2
  have xT4 := ownS_next XT.out o4.2
  have B4 := Lib.hid (below_trans BA.out o4.2 BA.out.size)
  have k4 := objAt_cell oT4 4 rfl
  have k1 := objAt_cell oT4 1 rfl
  have q2 := objAt_cell oL4 2 rfl
  have lT4 := objAt_lt oT4
  have lL4 := objAt_lt oL4
  clear s0 s1 s2 o2 o3 o4
  go_wp2
  go_ret
  exact ⟨rfl, gN_of_below B4.out⟩
set_option maxRecDepth 100000 in
set_option maxHeartbeats 8000000 in
theorem tx_grant_old (v : SvD) (hv : checkE V8 v.s = 0) (l : LeaseD) (h1 : hasJob v.s.jobs l.job = true) (h2 : hasNode v.s.nodes l.node = true) (h3 : hasLease v.s.leases l.job = false) (h4 : l.til ≤ v.now) (c : Nat) (w : World) (h : TxAt c v w) :
    Calls Tryz.prog 86 #[.pointer (some ⟨c, 0, none⟩), .agg #[.string l.job, .string l.node, .int .i64 l.til]] w fun e w' => e = .returned (.int .i64 1) ∧ w.grownBy w' (some c) := by
  obtain ⟨aj, an, al, cj, cn, cl, ho, hx⟩ := h
  unfold svC at ho
  have hf := valid_facts hv
  obtain ⟨⟨ha1, ha2, ha3⟩, ⟨hl1, hl2, hl3⟩, _⟩ := hf
  obtain ⟨W, hW⟩ : ∃ W, w.alloc (.cells #[.string l.job, .string l.node, .int .i64 l.til] 42) = W := ⟨_, rfl⟩
  have bA := below_one w (.cells #[.string l.job, .string l.node, .int .i64 l.til] 42)
  have oL := objAt_new w #[.string l.job, .string l.node, .int .i64 l.til] 42
  rw [hW] at bA oL
  have oT := objAt_next ho bA
  have xT := ownS_next hx bA
  have hcw := objAt_lt ho
  have lT := objAt_lt oT
  have lL := objAt_lt oL
  have s0 : ((W.drew.cell? ⟨c, 1, none⟩ = some (.slice aj v.s.jobs.length cj) ∧ W.drew.cell? ⟨c, 2, none⟩ = some (.slice an v.s.nodes.length cn) ∧ W.drew.cell? ⟨c, 3, none⟩ = some (.slice al v.s.leases.length cl) ∧ W.drew.cell? ⟨w.heap.size, 0, none⟩ = some (.string l.job) ∧ W.drew.cell? ⟨w.heap.size, 1, none⟩ = some (.string l.node)) ∧ Below W.heap.size W W.drew) := ⟨⟨objAt_cell oT 1 rfl, objAt_cell oT 2 rfl, objAt_cell oT 3 rfl, objAt_cell oL 0 rfl, objAt_cell oL 1 rfl⟩, (Below.refl _ _).drew⟩
  have HF1 := fun (V : World) (h : ((V.cell? ⟨c, 1, none⟩ = some (.slice aj v.s.jobs.length cj) ∧ V.cell? ⟨c, 2, none⟩ = some (.slice an v.s.nodes.length cn) ∧ V.cell? ⟨c, 3, none⟩ = some (.slice al v.s.leases.length cl) ∧ V.cell? ⟨w.heap.size, 0, none⟩ = some (.string l.job) ∧ V.cell? ⟨w.heap.size, 1, none⟩ = some (.string l.node)) ∧ Below W.heap.size W V)) => svFindJob_is v.s.jobs ha1 l.job aj cj (by omega) V (jobsAt_next (ownS_at xT).1 h.2)
  simp only [h1] at HF1
  have HF1 := Lib.hid HF1
  have HF2 := fun (V : World) (h : ((V.cell? ⟨c, 1, none⟩ = some (.slice aj v.s.jobs.length cj) ∧ V.cell? ⟨c, 2, none⟩ = some (.slice an v.s.nodes.length cn) ∧ V.cell? ⟨c, 3, none⟩ = some (.slice al v.s.leases.length cl) ∧ V.cell? ⟨w.heap.size, 0, none⟩ = some (.string l.job) ∧ V.cell? ⟨w.heap.size, 1, none⟩ = some (.string l.node)) ∧ Below W.heap.size W V)) => svFindNode_is v.s.nodes ha2 l.node an cn (by omega) V (nodesAt_next (ownS_at xT).2.1 h.2)
  simp only [h2] at HF2
  have HF2 := Lib.hid HF2
  have HF3 := fun (V : World) (h : ((V.cell? ⟨c, 1, none⟩ = some (.slice aj v.s.jobs.length cj) ∧ V.cell? ⟨c, 2, none⟩ = some (.slice an v.s.nodes.length cn) ∧ V.cell? ⟨c, 3, none⟩ = some (.slice al v.s.leases.length cl) ∧ V.cell? ⟨w.heap.size, 0, none⟩ = some (.string l.job) ∧ V.cell? ⟨w.heap.size, 1, none⟩ = some (.string l.node)) ∧ Below W.heap.size W V)) => svFindLease_is v.s.leases ha3 l.job al cl (by omega) V (leasesAt_next (ownS_at xT).2.2 h.2)
  simp only [h3] at HF3
  have HF3 := Lib.hid HF3
  have OT := Lib.hid oT
  have XT := Lib.hid xT
  have OL := Lib.hid oL
  have BA := Lib.hid bA
  have HA1 := Lib.hid ha1
  have HA3 := Lib.hid ha3
  have HH1 := Lib.hid h1
  have HH3 := Lib.hid h3
  clear h1 h2 h3
  clear oT xT oL bA ha1 ha2 ha3 ho hx
  go_enter Tryz.func86, Tryz.ntmps86
  go_wp2_with fail
  go_region_held3 (fun w' => ((w'.cell? ⟨c, 1, none⟩ = some (.slice aj v.s.jobs.length cj) ∧ w'.cell? ⟨c, 2, none⟩ = some (.slice an v.s.nodes.length cn) ∧ w'.cell? ⟨c, 3, none⟩ = some (.slice al v.s.leases.length cl) ∧ w'.cell? ⟨w.heap.size, 0, none⟩ = some (.string l.job) ∧ w'.cell? ⟨w.heap.size, 1, none⟩ = some (.string l.node)) ∧ Below W.heap.size W w'))
    (first | assumption | exact s0)
    (first
      | (go_at_call 96; (with_reducible refine (HF1.out _ (by assumption)).mono ?_); rintro e w2 ⟨p1, rfl, hp1, bw2⟩; have ow2 := held5b lT lL (by assumption) bw2))
  rename_i o2
  have s1 : ((w2.drew.cell? ⟨c, 1, none⟩ = some (.slice aj v.s.jobs.length cj) ∧ w2.drew.cell? ⟨c, 2, none⟩ = some (.slice an v.s.nodes.length cn) ∧ w2.drew.cell? ⟨c, 3, none⟩ = some (.slice al v.s.leases.length cl) ∧ w2.drew.cell? ⟨w.heap.size, 0, none⟩ = some (.string l.job) ∧ w2.drew.cell? ⟨w.heap.size, 1, none⟩ = some (.string l.node)) ∧ Below W.heap.size W w2.drew) := ⟨o2.1, o2.2.drew⟩
  go_wp2_with fail
  go_region_held3 (fun w' => ((w'.cell? ⟨c, 1, none⟩ = some (.slice aj v.s.jobs.length cj) ∧ w'.cell? ⟨c, 2, none⟩ = some (.slice an v.s.nodes.length cn) ∧ w'.cell? ⟨c, 3, none⟩ = some (.slice al v.s.leases.length cl) ∧ w'.cell? ⟨w.heap.size, 0, none⟩ = some (.string l.job) ∧ w'.cell? ⟨w.heap.size, 1, none⟩ = some (.string l.node)) ∧ Below W.heap.size W w'))
    (first | assumption | exact s1)
    (first
      | (go_at_call 98; (with_reducible refine (HF2.out _ (by assumption)).mono ?_); rintro e w3 ⟨p2, rfl, hp2, bw3⟩; have ow3 := held5b lT lL (by assumption) bw3))
  rename_i o3
  have s2 : ((w3.drew.cell? ⟨c, 1, none⟩ = some (.slice aj v.s.jobs.length cj) ∧ w3.drew.cell? ⟨c, 2, none⟩ = some (.slice an v.s.nodes.length cn) ∧ w3.drew.cell? ⟨c, 3, none⟩ = some (.slice al v.s.leases.length cl) ∧ w3.drew.cell? ⟨w.heap.size, 0, none⟩ = some (.string l.job) ∧ w3.drew.cell? ⟨w.heap.size, 1, none⟩ = some (.string l.node)) ∧ Below W.heap.size W w3.drew) := ⟨o3.1, o3.2.drew⟩
  go_wp2_with fail
  go_region_held3 (fun w' => ((w'.cell? ⟨c, 1, none⟩ = some (.slice aj v.s.jobs.length cj) ∧ w'.cell? ⟨c, 2, none⟩ = some (.slice an v.s.nodes.length cn) ∧ w'.cell? ⟨c, 3, none⟩ = some (.slice al v.s.leases.length cl) ∧ w'.cell? ⟨w.heap.size, 0, none⟩ = some (.string l.job) ∧ w'.cell? ⟨w.heap.size, 1, none⟩ = some (.string l.node)) ∧ Below W.heap.size W w'))
    (first | assumption | exact s2)
    (first
      | (go_at_call 103; (with_reducible refine (HF3.out _ (by assumption)).mono ?_); rintro e w4 ⟨p3, rfl, hp3, bw4⟩; have ow4 := held5b lT lL (by assumption) bw4))
  rename_i o4
  have oT4 := objAt_next OT.out o4.2
  have oL4 := objAt_next OL.out o4.2
  have xT4 := ownS_next XT.out o4.2
  have B4 := Lib.hid (below_trans BA.out o4.2 BA.out.size)
  have k4 := objAt_cell oT4 4 rfl
  have k1 := objAt_cell oT4 1 rfl
  have q2 := objAt_cell oL4 2 rfl
  have lT4 := objAt_lt oT4
  have lL4 := objAt_lt oL4
  clear s0 s1 s2 o2 o3 o4
  go_wp2_with fail
  go_quiet (fail)
  go_wp2
  go_ret
  exact ⟨rfl, gN_of_below (B4.out.trans ⟨rfl, rfl, rfl, Nat.le_refl _, fun _ _ => rfl⟩)⟩
set_option maxRecDepth 100000 in
set_option maxHeartbeats 8000000 in
theorem tx_grant_full (v : SvD) (hv : checkE V8 v.s = 0) (l : LeaseD) (h1 : hasJob v.s.jobs l.job = true) (h2 : hasNode v.s.nodes l.node = true) (h3 : hasLease v.s.leases l.job = false) (h4 : ¬ l.til ≤ v.now) (h5 : (jobOf v.s.jobs l.job).tries = 100) (c : Nat) (w : World) (h : TxAt c v w) :
    Calls Tryz.prog 86 #[.pointer (some ⟨c, 0, none⟩), .agg #[.string l.job, .string l.node, .int .i64 l.til]] w fun e w' => e = .returned (.int .i64 2) ∧ w.grownBy w' (some c) := by
  obtain ⟨aj, an, al, cj, cn, cl, ho, hx⟩ := h
  unfold svC at ho
  have hf := valid_facts hv
  obtain ⟨⟨ha1, ha2, ha3⟩, ⟨hl1, hl2, hl3⟩, _⟩ := hf
  obtain ⟨W, hW⟩ : ∃ W, w.alloc (.cells #[.string l.job, .string l.node, .int .i64 l.til] 42) = W := ⟨_, rfl⟩
  have bA := below_one w (.cells #[.string l.job, .string l.node, .int .i64 l.til] 42)
  have oL := objAt_new w #[.string l.job, .string l.node, .int .i64 l.til] 42
  rw [hW] at bA oL
  have oT := objAt_next ho bA
  have xT := ownS_next hx bA
  have hcw := objAt_lt ho
  have lT := objAt_lt oT
  have lL := objAt_lt oL
  have s0 : ((W.drew.cell? ⟨c, 1, none⟩ = some (.slice aj v.s.jobs.length cj) ∧ W.drew.cell? ⟨c, 2, none⟩ = some (.slice an v.s.nodes.length cn) ∧ W.drew.cell? ⟨c, 3, none⟩ = some (.slice al v.s.leases.length cl) ∧ W.drew.cell? ⟨w.heap.size, 0, none⟩ = some (.string l.job) ∧ W.drew.cell? ⟨w.heap.size, 1, none⟩ = some (.string l.node)) ∧ Below W.heap.size W W.drew) := ⟨⟨objAt_cell oT 1 rfl, objAt_cell oT 2 rfl, objAt_cell oT 3 rfl, objAt_cell oL 0 rfl, objAt_cell oL 1 rfl⟩, (Below.refl _ _).drew⟩
  have HF1 := fun (V : World) (h : ((V.cell? ⟨c, 1, none⟩ = some (.slice aj v.s.jobs.length cj) ∧ V.cell? ⟨c, 2, none⟩ = some (.slice an v.s.nodes.length cn) ∧ V.cell? ⟨c, 3, none⟩ = some (.slice al v.s.leases.length cl) ∧ V.cell? ⟨w.heap.size, 0, none⟩ = some (.string l.job) ∧ V.cell? ⟨w.heap.size, 1, none⟩ = some (.string l.node)) ∧ Below W.heap.size W V)) => svFindJob_is v.s.jobs ha1 l.job aj cj (by omega) V (jobsAt_next (ownS_at xT).1 h.2)
  simp only [h1] at HF1
  have HF1 := Lib.hid HF1
  have HF2 := fun (V : World) (h : ((V.cell? ⟨c, 1, none⟩ = some (.slice aj v.s.jobs.length cj) ∧ V.cell? ⟨c, 2, none⟩ = some (.slice an v.s.nodes.length cn) ∧ V.cell? ⟨c, 3, none⟩ = some (.slice al v.s.leases.length cl) ∧ V.cell? ⟨w.heap.size, 0, none⟩ = some (.string l.job) ∧ V.cell? ⟨w.heap.size, 1, none⟩ = some (.string l.node)) ∧ Below W.heap.size W V)) => svFindNode_is v.s.nodes ha2 l.node an cn (by omega) V (nodesAt_next (ownS_at xT).2.1 h.2)
  simp only [h2] at HF2
  have HF2 := Lib.hid HF2
  have HF3 := fun (V : World) (h : ((V.cell? ⟨c, 1, none⟩ = some (.slice aj v.s.jobs.length cj) ∧ V.cell? ⟨c, 2, none⟩ = some (.slice an v.s.nodes.length cn) ∧ V.cell? ⟨c, 3, none⟩ = some (.slice al v.s.leases.length cl) ∧ V.cell? ⟨w.heap.size, 0, none⟩ = some (.string l.job) ∧ V.cell? ⟨w.heap.size, 1, none⟩ = some (.string l.node)) ∧ Below W.heap.size W V)) => svFindLease_is v.s.leases ha3 l.job al cl (by omega) V (leasesAt_next (ownS_at xT).2.2 h.2)
  simp only [h3] at HF3
  have HF3 := Lib.hid HF3
  have OT := Lib.hid oT
  have XT := Lib.hid xT
  have OL := Lib.hid oL
  have BA := Lib.hid bA
  have HA1 := Lib.hid ha1
  have HA3 := Lib.hid ha3
  have HH1 := Lib.hid h1
  have HH3 := Lib.hid h3
  clear h1 h2 h3
  clear oT xT oL bA ha1 ha2 ha3 ho hx
  go_enter Tryz.func86, Tryz.ntmps86
  go_wp2_with fail
  go_region_held3 (fun w' => ((w'.cell? ⟨c, 1, none⟩ = some (.slice aj v.s.jobs.length cj) ∧ w'.cell? ⟨c, 2, none⟩ = some (.slice an v.s.nodes.length cn) ∧ w'.cell? ⟨c, 3, none⟩ = some (.slice al v.s.leases.length cl) ∧ w'.cell? ⟨w.heap.size, 0, none⟩ = some (.string l.job) ∧ w'.cell? ⟨w.heap.size, 1, none⟩ = some (.string l.node)) ∧ Below W.heap.size W w'))
    (first | assumption | exact s0)
    (first
      | (go_at_call 96; (with_reducible refine (HF1.out _ (by assumption)).mono ?_); rintro e w2 ⟨p1, rfl, hp1, bw2⟩; have ow2 := held5b lT lL (by assumption) bw2))
  rename_i o2
  have s1 : ((w2.drew.cell? ⟨c, 1, none⟩ = some (.slice aj v.s.jobs.length cj) ∧ w2.drew.cell? ⟨c, 2, none⟩ = some (.slice an v.s.nodes.length cn) ∧ w2.drew.cell? ⟨c, 3, none⟩ = some (.slice al v.s.leases.length cl) ∧ w2.drew.cell? ⟨w.heap.size, 0, none⟩ = some (.string l.job) ∧ w2.drew.cell? ⟨w.heap.size, 1, none⟩ = some (.string l.node)) ∧ Below W.heap.size W w2.drew) := ⟨o2.1, o2.2.drew⟩
  go_wp2_with fail
  go_region_held3 (fun w' => ((w'.cell? ⟨c, 1, none⟩ = some (.slice aj v.s.jobs.length cj) ∧ w'.cell? ⟨c, 2, none⟩ = some (.slice an v.s.nodes.length cn) ∧ w'.cell? ⟨c, 3, none⟩ = some (.slice al v.s.leases.length cl) ∧ w'.cell? ⟨w.heap.size, 0, none⟩ = some (.string l.job) ∧ w'.cell? ⟨w.heap.size, 1, none⟩ = some (.string l.node)) ∧ Below W.heap.size W w'))
    (first | assumption | exact s1)
    (first
      | (go_at_call 98; (with_reducible refine (HF2.out _ (by assumption)).mono ?_); rintro e w3 ⟨p2, rfl, hp2, bw3⟩; have ow3 := held5b lT lL (by assumption) bw3))
  rename_i o3
  have s2 : ((w3.drew.cell? ⟨c, 1, none⟩ = some (.slice aj v.s.jobs.length cj) ∧ w3.drew.cell? ⟨c, 2, none⟩ = some (.slice an v.s.nodes.length cn) ∧ w3.drew.cell? ⟨c, 3, none⟩ = some (.slice al v.s.leases.length cl) ∧ w3.drew.cell? ⟨w.heap.size, 0, none⟩ = some (.string l.job) ∧ w3.drew.cell? ⟨w.heap.size, 1, none⟩ = some (.string l.node)) ∧ Below W.heap.size W w3.drew) := ⟨o3.1, o3.2.drew⟩
  go_wp2_with fail
  go_region_held3 (fun w' => ((w'.cell? ⟨c, 1, none⟩ = some (.slice aj v.s.jobs.length cj) ∧ w'.cell? ⟨c, 2, none⟩ = some (.slice an v.s.nodes.length cn) ∧ w'.cell? ⟨c, 3, none⟩ = some (.slice al v.s.leases.length cl) ∧ w'.cell? ⟨w.heap.size, 0, none⟩ = some (.string l.job) ∧ w'.cell? ⟨w.heap.size, 1, none⟩ = some (.string l.node)) ∧ Below W.heap.size W w'))
    (first | assumption | exact s2)
    (first
      | (go_at_call 103; (with_reducible refine (HF3.out _ (by assumption)).mono ?_); rintro e w4 ⟨p3, rfl, hp3, bw4⟩; have ow4 := held5b lT lL (by assumption) bw4))
  rename_i o4
  have oT4 := objAt_next OT.out o4.2
  have oL4 := objAt_next OL.out o4.2
  have xT4 := ownS_next XT.out o4.2
  have B4 := Lib.hid (below_trans BA.out o4.2 BA.out.size)
  have k4 := objAt_cell oT4 4 rfl
  have k1 := objAt_cell oT4 1 rfl
  have q2 := objAt_cell oL4 2 rfl
  have lT4 := objAt_lt oT4
  have lL4 := objAt_lt oL4
  clear s0 s1 s2 o2 o3 o4
  obtain ⟨hpp, hpe⟩ := pos_has HA1.out hp1 ((hasJob_iff _ _).1 HH1.out)
  obtain ⟨a, rfl, hal, m0, m1, m2, m3, m4⟩ := (ownS_at xT4).1 p1 hpp
  have hjo := jobOf_at ((check_zero V8 _).1 hv) hpp hpe
  rw [hjo] at h5
  obtain ⟨y, hy⟩ : ∃ y, v.s.jobs[p1] = y := ⟨_, rfl⟩
  rw [hy] at m0 m1 m2 m3 m4 h5 hjo hpe
  have HJO := Lib.hid hjo
  have HPE := Lib.hid hpe
  have hidx : (p1 : Int) < (v.s.jobs.length : Int) := by omega
  have h5b : (y.tries == 100) = true := by rw [h5]; rfl
  have OT4 := Lib.hid oT4
  have OL4 := Lib.hid oL4
  have XT4 := Lib.hid xT4
  have HY := Lib.hid hy
  clear h5 hjo hpe hy oT4 oL4 xT4 m0 m1 m2 m3 m4
  go_wp2_with fail
  go_quiet (fail)
  clear k1 k4 q2 lT4 lL4
  have d5 : Below w4.heap.size w4 (w4.drewN nq) := ⟨rfl, rfl, rfl, Nat.le_refl _, fun _ _ => rfl⟩
  have B5 := Lib.hid (below_trans B4.out d5 B4.out.size)
  have oT5 := objAt_next OT4.out d5
  have oL5 := objAt_next OL4.out d5
  have xT5 := ownS_next XT4.out d5
  obtain ⟨w5, hw5⟩ : ∃ W, w4.drewN nq = W := ⟨_, rfl⟩
  rw [hw5] at oT5 oL5 xT5 B5 ⊢
  obtain ⟨a', ha', hal5, m0, m1, m2, m3, m4⟩ := (ownS_at xT5).1 p1 hpp
  obtain rfl : a = a' := by simpa using ha'
  rw [HY.out] at m0 m1 m2 m3 m4
  have k1 := objAt_cell oT5 1 rfl
  have lT5 := objAt_lt oT5
  have lL5 := objAt_lt oL5
  clear d5 hw5 ha'
  go_wp2
  go_ret
  exact ⟨rfl, gN_of_below (by first | exact B5.out | exact B5.out.alloc B5.out.size _)⟩
set_option maxRecDepth 100000 in
set_option maxHeartbeats 8000000 in
theorem tx_grant_ok (v : SvD) (hv : checkE V8 v.s = 0) (l : LeaseD) (hwl : wLease l) (h1 : hasJob v.s.jobs l.job = true) (h2 : hasNode v.s.nodes l.node = true) (h3 : hasLease v.s.leases l.job = false) (h4 : ¬ l.til ≤ v.now) (h5 : (jobOf v.s.jobs l.job).tries ≠ 100) (c : Nat) (w : World) (hT : Tabs w) (h : TxAt c v w) :
    Calls Tryz.prog 86 #[.pointer (some ⟨c, 0, none⟩), .agg #[.string l.job, .string l.node, .int .i64 l.til]] w fun e w' => e = .returned (.int .i64 (checkE V8 (grantS l v.s) : Nat)) ∧ TxAt c ⟨grantS l v.s, v.now⟩ w' ∧ w.grownBy w' (some c) := by
  obtain ⟨aj, an, al, cj, cn, cl, ho, hx⟩ := h
  unfold svC at ho
  have hf := valid_facts hv
  obtain ⟨⟨ha1, ha2, ha3⟩, ⟨hl1, hl2, hl3⟩, _⟩ := hf
  obtain ⟨W, hW⟩ : ∃ W, w.alloc (.cells #[.string l.job, .string l.node, .int .i64 l.til] 42) = W := ⟨_, rfl⟩
  have bA := below_one w (.cells #[.string l.job, .string l.node, .int .i64 l.til] 42)
  have oL := objAt_new w #[.string l.job, .string l.node, .int .i64 l.til] 42
  rw [hW] at bA oL
  have oT := objAt_next ho bA
  have xT := ownS_next hx bA
  have hcw := objAt_lt ho
  have lT := objAt_lt oT
  have lL := objAt_lt oL
  have s0 : ((W.drew.cell? ⟨c, 1, none⟩ = some (.slice aj v.s.jobs.length cj) ∧ W.drew.cell? ⟨c, 2, none⟩ = some (.slice an v.s.nodes.length cn) ∧ W.drew.cell? ⟨c, 3, none⟩ = some (.slice al v.s.leases.length cl) ∧ W.drew.cell? ⟨w.heap.size, 0, none⟩ = some (.string l.job) ∧ W.drew.cell? ⟨w.heap.size, 1, none⟩ = some (.string l.node)) ∧ Below W.heap.size W W.drew) := ⟨⟨objAt_cell oT 1 rfl, objAt_cell oT 2 rfl, objAt_cell oT 3 rfl, objAt_cell oL 0 rfl, objAt_cell oL 1 rfl⟩, (Below.refl _ _).drew⟩
  have HF1 := fun (V : World) (h : ((V.cell? ⟨c, 1, none⟩ = some (.slice aj v.s.jobs.length cj) ∧ V.cell? ⟨c, 2, none⟩ = some (.slice an v.s.nodes.length cn) ∧ V.cell? ⟨c, 3, none⟩ = some (.slice al v.s.leases.length cl) ∧ V.cell? ⟨w.heap.size, 0, none⟩ = some (.string l.job) ∧ V.cell? ⟨w.heap.size, 1, none⟩ = some (.string l.node)) ∧ Below W.heap.size W V)) => svFindJob_is v.s.jobs ha1 l.job aj cj (by omega) V (jobsAt_next (ownS_at xT).1 h.2)
  simp only [h1] at HF1
  have HF1 := Lib.hid HF1
  have HF2 := fun (V : World) (h : ((V.cell? ⟨c, 1, none⟩ = some (.slice aj v.s.jobs.length cj) ∧ V.cell? ⟨c, 2, none⟩ = some (.slice an v.s.nodes.length cn) ∧ V.cell? ⟨c, 3, none⟩ = some (.slice al v.s.leases.length cl) ∧ V.cell? ⟨w.heap.size, 0, none⟩ = some (.string l.job) ∧ V.cell? ⟨w.heap.size, 1, none⟩ = some (.string l.node)) ∧ Below W.heap.size W V)) => svFindNode_is v.s.nodes ha2 l.node an cn (by omega) V (nodesAt_next (ownS_at xT).2.1 h.2)
  simp only [h2] at HF2
  have HF2 := Lib.hid HF2
  have HF3 := fun (V : World) (h : ((V.cell? ⟨c, 1, none⟩ = some (.slice aj v.s.jobs.length cj) ∧ V.cell? ⟨c, 2, none⟩ = some (.slice an v.s.nodes.length cn) ∧ V.cell? ⟨c, 3, none⟩ = some (.slice al v.s.leases.length cl) ∧ V.cell? ⟨w.heap.size, 0, none⟩ = some (.string l.job) ∧ V.cell? ⟨w.heap.size, 1, none⟩ = some (.string l.node)) ∧ Below W.heap.size W V)) => svFindLease_is v.s.leases ha3 l.job al cl (by omega) V (leasesAt_next (ownS_at xT).2.2 h.2)
  simp only [h3] at HF3
  have HF3 := Lib.hid HF3
  have HOW := Lib.hid ho
  have HT := Lib.hid hT
  have HV := Lib.hid hv
  have hcap1 := own_caps xT.1
  have hcap3 := own_caps xT.2.2
  clear hT
  have OT := Lib.hid oT
  have XT := Lib.hid xT
  have OL := Lib.hid oL
  have BA := Lib.hid bA
  have HA1 := Lib.hid ha1
  have HA3 := Lib.hid ha3
  have HH1 := Lib.hid h1
  have HH3 := Lib.hid h3
  clear h1 h2 h3
  clear oT xT oL bA ha1 ha2 ha3 ho hx
  go_enter Tryz.func86, Tryz.ntmps86
  go_wp2_with fail
  go_region_held3 (fun w' => ((w'.cell? ⟨c, 1, none⟩ = some (.slice aj v.s.jobs.length cj) ∧ w'.cell? ⟨c, 2, none⟩ = some (.slice an v.s.nodes.length cn) ∧ w'.cell? ⟨c, 3, none⟩ = some (.slice al v.s.leases.length cl) ∧ w'.cell? ⟨w.heap.size, 0, none⟩ = some (.string l.job) ∧ w'.cell? ⟨w.heap.size, 1, none⟩ = some (.string l.node)) ∧ Below W.heap.size W w'))
    (first | assumption | exact s0)
    (first
      | (go_at_call 96; (with_reducible refine (HF1.out _ (by assumption)).mono ?_); rintro e w2 ⟨p1, rfl, hp1, bw2⟩; have ow2 := held5b lT lL (by assumption) bw2))
  rename_i o2
  have s1 : ((w2.drew.cell? ⟨c, 1, none⟩ = some (.slice aj v.s.jobs.length cj) ∧ w2.drew.cell? ⟨c, 2, none⟩ = some (.slice an v.s.nodes.length cn) ∧ w2.drew.cell? ⟨c, 3, none⟩ = some (.slice al v.s.leases.length cl) ∧ w2.drew.cell? ⟨w.heap.size, 0, none⟩ = some (.string l.job) ∧ w2.drew.cell? ⟨w.heap.size, 1, none⟩ = some (.string l.node)) ∧ Below W.heap.size W w2.drew) := ⟨o2.1, o2.2.drew⟩
  go_wp2_with fail
  go_region_held3 (fun w' => ((w'.cell? ⟨c, 1, none⟩ = some (.slice aj v.s.jobs.length cj) ∧ w'.cell? ⟨c, 2, none⟩ = some (.slice an v.s.nodes.length cn) ∧ w'.cell? ⟨c, 3, none⟩ = some (.slice al v.s.leases.length cl) ∧ w'.cell? ⟨w.heap.size, 0, none⟩ = some (.string l.job) ∧ w'.cell? ⟨w.heap.size, 1, none⟩ = some (.string l.node)) ∧ Below W.heap.size W w'))
    (first | assumption | exact s1)
    (first
      | (go_at_call 98; (with_reducible refine (HF2.out _ (by assumption)).mono ?_); rintro e w3 ⟨p2, rfl, hp2, bw3⟩; have ow3 := held5b lT lL (by assumption) bw3))
  rename_i o3
  have s2 : ((w3.drew.cell? ⟨c, 1, none⟩ = some (.slice aj v.s.jobs.length cj) ∧ w3.drew.cell? ⟨c, 2, none⟩ = some (.slice an v.s.nodes.length cn) ∧ w3.drew.cell? ⟨c, 3, none⟩ = some (.slice al v.s.leases.length cl) ∧ w3.drew.cell? ⟨w.heap.size, 0, none⟩ = some (.string l.job) ∧ w3.drew.cell? ⟨w.heap.size, 1, none⟩ = some (.string l.node)) ∧ Below W.heap.size W w3.drew) := ⟨o3.1, o3.2.drew⟩
  go_wp2_with fail
  go_region_held3 (fun w' => ((w'.cell? ⟨c, 1, none⟩ = some (.slice aj v.s.jobs.length cj) ∧ w'.cell? ⟨c, 2, none⟩ = some (.slice an v.s.nodes.length cn) ∧ w'.cell? ⟨c, 3, none⟩ = some (.slice al v.s.leases.length cl) ∧ w'.cell? ⟨w.heap.size, 0, none⟩ = some (.string l.job) ∧ w'.cell? ⟨w.heap.size, 1, none⟩ = some (.string l.node)) ∧ Below W.heap.size W w'))
    (first | assumption | exact s2)
    (first
      | (go_at_call 103; (with_reducible refine (HF3.out _ (by assumption)).mono ?_); rintro e w4 ⟨p3, rfl, hp3, bw4⟩; have ow4 := held5b lT lL (by assumption) bw4))
  rename_i o4
  have oT4 := objAt_next OT.out o4.2
  have oL4 := objAt_next OL.out o4.2
  have xT4 := ownS_next XT.out o4.2
  have B4 := Lib.hid (below_trans BA.out o4.2 BA.out.size)
  have k4 := objAt_cell oT4 4 rfl
  have k1 := objAt_cell oT4 1 rfl
  have q2 := objAt_cell oL4 2 rfl
  have lT4 := objAt_lt oT4
  have lL4 := objAt_lt oL4
  clear s0 s1 s2 o2 o3 o4
  obtain ⟨hpp, hpe⟩ := pos_has HA1.out hp1 ((hasJob_iff _ _).1 HH1.out)
  obtain ⟨a, rfl, hal, m0, m1, m2, m3, m4⟩ := (ownS_at xT4).1 p1 hpp
  have hjo := jobOf_at ((check_zero V8 _).1 hv) hpp hpe
  rw [hjo] at h5
  obtain ⟨y, hy⟩ : ∃ y, v.s.jobs[p1] = y := ⟨_, rfl⟩
  rw [hy] at m0 m1 m2 m3 m4 h5 hjo hpe
  have HJO := Lib.hid hjo
  have HPE := Lib.hid hpe
  have hidx : (p1 : Int) < (v.s.jobs.length : Int) := by omega
  have h5b : (y.tries == 100) = false := by simpa using h5
  have hjy := ((check_zero V8 _).1 hv).2.2.1.1 y (by rw [← hy]; exact List.getElem_mem hpp)
  have htr := ((jobE_zero V8 y).1 hjy).2.2.2
  have hwr : IntKind.i64.wrap (y.tries + 1) = y.tries + 1 := IntWalk.i64_in _ (by omega)
  have OT4 := Lib.hid oT4
  have OL4 := Lib.hid oL4
  have XT4 := Lib.hid xT4
  have HY := Lib.hid hy
  have HJY := Lib.hid hjy
  clear hjo hpe hy oT4 oL4 xT4 hjy h5 m0 m1 m2 m3 m4
  go_wp2_with fail
  go_quiet (fail)
  clear k1 k4 q2 lT4 lL4
  have d5 : Below w4.heap.size w4 (w4.drewN nq) := ⟨rfl, rfl, rfl, Nat.le_refl _, fun _ _ => rfl⟩
  have B5 := Lib.hid (below_trans B4.out d5 B4.out.size)
  have oT5 := objAt_next OT4.out d5
  have oL5 := objAt_next OL4.out d5
  have xT5 := ownS_next XT4.out d5
  obtain ⟨w5, hw5⟩ : ∃ W, w4.drewN nq = W := ⟨_, rfl⟩
  rw [hw5] at oT5 oL5 xT5 B5 ⊢
  obtain ⟨a', ha', hal5, m0, m1, m2, m3, m4⟩ := (ownS_at xT5).1 p1 hpp
  obtain rfl : a = a' := by simpa using ha'
  rw [HY.out] at m0 m1 m2 m3 m4
  have k1 := objAt_cell oT5 1 rfl
  have lT5 := objAt_lt oT5
  have lL5 := objAt_lt oL5
  clear d5 hw5 ha'
  go_wp2_with fail
  clear k1
  obtain ⟨X, hX⟩ : ∃ X, w5.alloc (.cells #[.string y.name, .int .i64 y.prio, .int .i64 y.need, .int .i64 (y.tries + 1), .string y.tag] 38) = X := ⟨_, rfl⟩
  have b6 := below_one w5 (.cells #[.string y.name, .int .i64 y.prio, .int .i64 y.need, .int .i64 (y.tries + 1), .string y.tag] 38)
  have oJ := objAt_new w5 #[.string y.name, .int .i64 y.prio, .int .i64 y.need, .int .i64 (y.tries + 1), .string y.tag] 38
  rw [hX] at b6 oJ
  have HXW := Lib.hid hX
  have oT6 := objAt_next oT5 b6
  have oL6 := objAt_next oL5 b6
  have xT6 := ownS_next xT5 b6
  have B6 := below_trans B5.out b6 B5.out.size
  obtain ⟨J, hJ⟩ : ∃ J, putL (fun z : JobD => z.name) (triedJ y) v.s.jobs = J := ⟨_, rfl⟩
  have hlJ : J.length ≤ 100 := by have := put_len2 (fun z : JobD => z.name) (triedJ y) v.s.jobs; rw [hJ] at this; omega
  have C14 : Calls Tryz.prog 82 #[.slice (some a) v.s.jobs.length cj, .agg #[.string y.name, .int .i64 y.prio, .int .i64 y.need, .int .i64 (y.tries + 1), .string y.tag], .func (.func 34) #[] #[]] X.drew fun e w' => ∃ ad' cap', e = .returned (.slice ad' J.length cap') ∧ w'.ownsRow X.drew.heap.size 38 5 (.slice ad' J.length cap') J.length (cJobs J) ∧ Below X.drew.heap.size X.drew w' := by
    have z := svInsJob_old v.s.jobs HA1.out (triedJ y) (some a) cj (by omega) hcap1 (by show hasJob v.s.jobs y.name = true; rw [HPE.out]; exact HH1.out) X.drew (jobsAt_next (ownS_at xT6).1 (Below.refl _ _).drew)
    rw [hJ] at z
    exact z
  have C14 := Lib.hid C14
  have hgap : c ≠ X.heap.size ∧ c < X.heap.size := ⟨by have := objAt_lt oT6; omega, objAt_lt oT6⟩
  have j0 := objAt_cell oJ 0 rfl
  have j1 := objAt_cell oJ 1 rfl
  have j2 := objAt_cell oJ 2 rfl
  have j3 := objAt_cell oJ 3 rfl
  have j4 := objAt_cell oJ 4 rfl
  have jl := objAt_lt oJ
  have k1 := objAt_cell oT6 1 rfl
  have d7 : Below X.heap.size X X.drew := (Below.refl _ _).drew
  have OT7 := Lib.hid (objAt_next oT6 d7)
  have OL7 := Lib.hid (objAt_next oL6 d7)
  have XT7 := Lib.hid (ownS_next xT6 d7)
  have B7 := Lib.hid (below_trans B6 d7 B6.size)
  have HJ := Lib.hid hJ
  clear oT5 oL5 xT5 b6 oJ oT6 oL6 xT6 B6 d7 hJ m0 m1 m2 m3 m4 hal5 hal
  rw [HXW.out]
  go_region_law (first | (go_simp; go_at_call 82; (with_reducible refine C14.out.mono ?_); rintro e u6 ⟨rad, rcap, rfl, rown, rb⟩; have kc := objAt_cell (objAt_next OT7.out rb) 1 rfl; have fc := objAt_free (objAt_next OT7.out rb) 1; have lc := objAt_lt (objAt_next OT7.out rb)))
  all_goals
    have oT8 := objAt_next OT7.out rb
    have oL8 := objAt_next OL7.out rb
    have xT8 := ownS_next XT7.out rb
    have B8 := below_trans B7.out rb B7.out.size
    obtain ⟨U, hU⟩ : ∃ U, u6.setCell ⟨c, 1, none⟩ (.slice rad J.length rcap) = U := ⟨_, rfl⟩
    have oU : ObjAt c #[.int .i64 v.s.rev, .slice rad J.length rcap, .slice an v.s.nodes.length cn, .slice al v.s.leases.length cl, .int .i64 v.now] 96 U := by rw [← hU]; exact objAt_set oT8 1 _
    have xU : OwnS 0 rad an al rcap cn cl ⟨v.s.rev, J, v.s.nodes, v.s.leases⟩ U := by rw [← hU]; exact ⟨own_box (own_is rown) oT8 rowT_tx.1 1 _, own_box xT8.2.1 oT8 rowT_tx.2.1 1 _, own_box xT8.2.2 oT8 rowT_tx.2.2 1 _⟩
    have oLU : ObjAt w.heap.size #[.string l.job, .string l.node, .int .i64 l.til] 42 U := by rw [← hU]; exact objAt_other oL8 (by omega) _ _
    have gU : w.grownBy U (some c) := by rw [← hU]; exact gN_set (gN_of_below B8) _ _
    obtain ⟨L, hL⟩ : ∃ L, putL (fun z : LeaseD => z.job) l v.s.leases = L := ⟨_, rfl⟩
    have C15 := svInsLease_new v.s.leases HA3.out l al cl (by omega) hcap3 HH3.out U.drew (leasesAt_next (ownS_at xU).2.2 (Below.refl _ _).drew)
    rw [hL] at C15
    have C15 := Lib.hid C15
    have HL := Lib.hid hL
    have q0 := objAt_cell oLU 0 rfl
    have q1 := objAt_cell oLU 1 rfl
    have q2 := objAt_cell oLU 2 rfl
    have ql := objAt_lt oLU
    have k3 := objAt_cell oU 3 rfl
    have lU := objAt_lt oU
    have d9 : Below U.heap.size U U.drew := (Below.refl _ _).drew
    have OU9 := Lib.hid (objAt_next oU d9)
    have XU9 := Lib.hid (ownS_next xU d9)
    have GU9 := Lib.hid (gN_next gU d9)
    clear oT8 oL8 xT8 B8 oU xU oLU gU rown rb kc fc C14 OT7 OL7 XT7 B7 d9 hL j0 j1 j2 j3 j4 jl k1
    go_wp2_with fail
    go_region_law (first | (go_simp; go_at_call 104; (with_reducible refine C15.out.mono ?_); rintro e u7 ⟨rad2, rcap2, rfl, rown2, rb2⟩; have kc2 := objAt_cell (objAt_next OU9.out rb2) 3 rfl; have fc2 := objAt_free (objAt_next OU9.out rb2) 3; have lc2 := objAt_lt (objAt_next OU9.out rb2)))
    all_goals
      have o10 := objAt_next OU9.out rb2
      have x10 := ownS_next XU9.out rb2
      obtain ⟨V, hV⟩ : ∃ V, u7.setCell ⟨c, 3, none⟩ (.slice rad2 L.length rcap2) = V := ⟨_, rfl⟩
      have oV : ObjAt c #[.int .i64 v.s.rev, .slice rad J.length rcap, .slice an v.s.nodes.length cn, .slice rad2 L.length rcap2, .int .i64 v.now] 96 V := by rw [← hV]; exact objAt_set o10 3 _
      have xV : OwnS 0 rad an rad2 rcap cn rcap2 ⟨v.s.rev, J, v.s.nodes, L⟩ V := by rw [← hV]; exact ⟨own_box x10.1 o10 rowT_tx.1 3 _, own_box x10.2.1 o10 rowT_tx.2.1 3 _, own_box (own_is rown2) o10 rowT_tx.2.2 3 _⟩
      have gV : w.grownBy V (some c) := by rw [← hV]; exact gN_set (gN_next GU9.out rb2) _ _
      have hgr : grantS l v.s = ⟨v.s.rev, J, v.s.nodes, L⟩ := by unfold grantS; rw [HJO.out, HJ.out, HL.out]
      have hws : wState ⟨v.s.rev, J, v.s.nodes, L⟩ := by rw [← hgr]; exact wState_grant HV.out hwl
      have C16 := check_any v.s.rev rad an rad2 rcap cn rcap2 J v.s.nodes L hws V (tabs_gN HT.out HOW.out rfl gV) (ownS_at xV).1 (ownS_at xV).2.1 (ownS_at xV).2.2
      rw [← hgr] at C16
      obtain ⟨z, hz⟩ : ∃ z : Nat, checkE V8 (grantS l v.s) = z := ⟨_, rfl⟩
      rw [hz] at C16
      have C16 := Lib.hid C16
      have HZ := Lib.hid hz
      have HGR := Lib.hid hgr
      have v0 := objAt_cell oV 0 rfl
      have v1 := objAt_cell oV 1 rfl
      have v2 := objAt_cell oV 2 rfl
      have v3 := objAt_cell oV 3 rfl
      have vl := objAt_lt oV
      have OV := Lib.hid oV
      have XV := Lib.hid xV
      have GV := Lib.hid gV
      clear o10 x10 oV xV gV rown2 rb2 kc2 fc2 C15 OU9 XU9 GU9 hz hgr hws q0 q1 q2 ql k3
      go_wp2_with fail
      refine C16.out.mono ?_
      rintro e u8 ⟨rfl, b8⟩
      have G8 := Lib.hid (gN_next GV.out b8)
      have T8 : Hid (TxAt c ⟨grantS l v.s, v.now⟩ u8) := by show TxAt _ _ _; rw [HGR.out]; exact ⟨rad, an, rad2, rcap, cn, rcap2, objAt_next OV.out b8, ownS_next XV.out b8⟩
      clear b8 v0 v1 v2 v3
      go_wp2
      go_ret
      exact ⟨by rw [HZ.out]; rfl, T8.out, G8.out⟩
end Go.Proofs.YtiekgafopalfmaaGreatDoor
