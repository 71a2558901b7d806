/- A transaction's methods: deleteJob, deleteNode, free, tick. -/
import Derived.Test.YthpgkfonbmffdaaGreatDoorSvIns
import Derived.Test.YthpgkfonbmffdaaGreatDoorSvDel
import Derived.Deep.RegionHeld3
import Derived.Shelf.Abstract
import Derived.WalkSmall
namespace Go.Proofs.YthpgkfonbmffdaaGreatDoor
open Go.RowKit Go.Lib Go.Shelf

theorem g2_trans {w w1 w2 : World} {c : Nat} (h : w.grownBy w1 (some c)) (k : w1.grownBy w2 (some c)) : w.grownBy w2 (some c) := ⟨k.os.trans h.os, k.tape.trans h.tape, k.output.trans h.output, Nat.le_trans h.size k.size, fun i hi hn => (k.block i (Nat.lt_of_lt_of_le hi h.size) hn).trans (h.block i hi hn)⟩
theorem held2b {W V V' : World} {p q : Addr} {a b : Value} (hp : p.block < W.heap.size) (hq : q.block < W.heap.size) (h : (V.cell? p = some a ∧ V.cell? q = some b) ∧ Below W.heap.size W V) (k : Below V.heap.size V V') : (V'.cell? p = some a ∧ V'.cell? q = some b) ∧ Below W.heap.size W V' :=
  ⟨⟨by rw [k.cell (Nat.lt_of_lt_of_le hp h.2.size)]; exact h.1.1, by rw [k.cell (Nat.lt_of_lt_of_le hq h.2.size)]; exact h.1.2⟩, below_trans h.2 k h.2.size⟩

set_option maxRecDepth 100000 in
theorem txc_deleteJob (x : LeaseD) (k : ByteArray) (NB : Nat) (w : World) (h : ObjAt NB #[.string k] 9 w) : Calls Tryz.prog 140 #[.agg #[.string x.job, .string x.node, .int .i64 x.til], .pointer (some ⟨NB, 0, none⟩)] w fun e w' => e = .returned (.bool (decide (x.job = k))) ∧ Below w.heap.size w w' := by
  have bA := below_one w (.cells #[.string x.job, .string x.node, .int .i64 x.til] 42)
  have oX := objAt_new w #[.string x.job, .string x.node, .int .i64 x.til] 42
  have oK := objAt_next h bA
  obtain ⟨W, hW⟩ : ∃ W, w.alloc (.cells #[.string x.job, .string x.node, .int .i64 x.til] 42) = W := ⟨_, rfl⟩
  rw [hW] at bA oX oK
  have x0 := objAt_cell oX 0 rfl
  have x1 := objAt_cell oX 1 rfl
  have x2 := objAt_cell oX 2 rfl
  have k0 := objAt_cell oK 0 rfl
  have BA := Lib.hid bA
  clear bA oX oK h
  go_enter Tryz.func140, Tryz.ntmps140
  go_wp2
  go_ret
  exact ⟨by first | rw [← same_lists]; rfl | simp [← same_lists], BA.out⟩
set_option maxRecDepth 100000 in
theorem txc_deleteNode (x : LeaseD) (k : ByteArray) (NB : Nat) (w : World) (h : ObjAt NB #[.string k] 9 w) : Calls Tryz.prog 141 #[.agg #[.string x.job, .string x.node, .int .i64 x.til], .pointer (some ⟨NB, 0, none⟩)] w fun e w' => e = .returned (.bool (decide (x.node = k))) ∧ Below w.heap.size w w' := by
  have bA := below_one w (.cells #[.string x.job, .string x.node, .int .i64 x.til] 42)
  have oX := objAt_new w #[.string x.job, .string x.node, .int .i64 x.til] 42
  have oK := objAt_next h bA
  obtain ⟨W, hW⟩ : ∃ W, w.alloc (.cells #[.string x.job, .string x.node, .int .i64 x.til] 42) = W := ⟨_, rfl⟩
  rw [hW] at bA oX oK
  have x0 := objAt_cell oX 0 rfl
  have x1 := objAt_cell oX 1 rfl
  have x2 := objAt_cell oX 2 rfl
  have k0 := objAt_cell oK 0 rfl
  have BA := Lib.hid bA
  clear bA oX oK h
  go_enter Tryz.func141, Tryz.ntmps141
  go_wp2
  go_ret
  exact ⟨by first | rw [← same_lists]; rfl | simp [← same_lists], BA.out⟩
set_option maxRecDepth 100000 in
theorem txc_free (x : LeaseD) (k : ByteArray) (NB : Nat) (w : World) (h : ObjAt NB #[.string k] 9 w) : Calls Tryz.prog 144 #[.agg #[.string x.job, .string x.node, .int .i64 x.til], .pointer (some ⟨NB, 0, none⟩)] w fun e w' => e = .returned (.bool (decide (x.job = k))) ∧ Below w.heap.size w w' := by
  have bA := below_one w (.cells #[.string x.job, .string x.node, .int .i64 x.til] 42)
  have oX := objAt_new w #[.string x.job, .string x.node, .int .i64 x.til] 42
  have oK := objAt_next h bA
  obtain ⟨W, hW⟩ : ∃ W, w.alloc (.cells #[.string x.job, .string x.node, .int .i64 x.til] 42) = W := ⟨_, rfl⟩
  rw [hW] at bA oX oK
  have x0 := objAt_cell oX 0 rfl
  have x1 := objAt_cell oX 1 rfl
  have x2 := objAt_cell oX 2 rfl
  have k0 := objAt_cell oK 0 rfl
  have BA := Lib.hid bA
  clear bA oX oK h
  go_enter Tryz.func144, Tryz.ntmps144
  go_wp2
  go_ret
  exact ⟨by first | rw [← same_lists]; rfl | simp [← same_lists], BA.out⟩
set_option maxRecDepth 100000 in
theorem txc_tick (x : LeaseD) (TB c : Nat) (t : Int) (a0 a1 a2 a3 : Value) (w : World) (h : ObjAt TB #[.pointer (some ⟨c, 0, none⟩)] 149 w) (hc : ObjAt c #[a0, a1, a2, a3, .int .i64 t] 117 w) : Calls Tryz.prog 145 #[.agg #[.string x.job, .string x.node, .int .i64 x.til], .pointer (some ⟨TB, 0, none⟩)] w fun e w' => e = .returned (.bool (decide (x.til ≤ t))) ∧ Below w.heap.size w w' := by
  have bA := below_one w (.cells #[.string x.job, .string x.node, .int .i64 x.til] 42)
  have oX := objAt_new w #[.string x.job, .string x.node, .int .i64 x.til] 42
  have oK := objAt_next h bA
  have oC := objAt_next hc bA
  obtain ⟨W, hW⟩ : ∃ W, w.alloc (.cells #[.string x.job, .string x.node, .int .i64 x.til] 42) = W := ⟨_, rfl⟩
  rw [hW] at bA oX oK oC
  have x0 := objAt_cell oX 0 rfl
  have x1 := objAt_cell oX 1 rfl
  have x2 := objAt_cell oX 2 rfl
  have k0 := objAt_cell oK 0 rfl
  have c4 := objAt_cell oC 4 rfl
  have lc := objAt_lt oC
  have BA := Lib.hid bA
  clear bA oX oK oC h hc
  go_enter Tryz.func145, Tryz.ntmps145
  go_wp2_with fail
  go_quiet (fail)
  go_wp2
  go_ret
  exact ⟨rfl, BA.out.trans ⟨rfl, rfl, rfl, Nat.le_refl _, fun _ _ => rfl⟩⟩
theorem parts2Job (w : World) (ad : Option Addr) (xs : List JobD) (cap p k : Nat) (h : JobsAt w ad xs) (hc : xs.length ≤ cap) (hp : p ≤ xs.length) : PartsJob ((w.alloc (.cells #[.slice ad p cap, .slice (if cap = k then ad else Option.map (fun a => a.add (k * 5)) ad) (xs.length - k) (cap - k)] 22)).drew) w.heap.size [(ad, xs.take p, cap), (if cap = k then ad else Option.map (fun a => a.add (k * 5)) ad, xs.drop k, cap - k)] := by
  obtain ⟨q, hq⟩ : ∃ q, (if cap = k then ad else Option.map (fun a => a.add (k * 5)) ad) = q := ⟨_, rfl⟩
  have ht := tailJobAt (k := k) h hc
  rw [hq] at ht ⊢
  have o2 := objAt_new w #[.slice ad p cap, .slice q (xs.length - k) (cap - k)] 22
  have b2 := below_one w (.cells #[.slice ad p cap, .slice q (xs.length - k) (cap - k)] 22)
  obtain ⟨W2, h2⟩ : ∃ W, w.alloc (.cells #[.slice ad p cap, .slice q (xs.length - k) (cap - k)] 22) = W := ⟨_, rfl⟩
  rw [h2] at o2 b2 ⊢
  have z : ∀ i, W2.drew.cell? ⟨w.heap.size, i, none⟩ = W2.cell? ⟨w.heap.size, i, none⟩ := fun i => rfl
  refine ⟨objAt_lt (objAt_drew o2), fun i hi => ?_⟩
  have hi : i < 2 := hi
  obtain rfl | rfl : i = 0 ∨ i = 1 := by omega
  · refine ⟨?_, jobsAt_next (jobsAt_take h p) b2.drew⟩
    show W2.drew.cell? _ = some (.slice ad (xs.take p).length cap)
    rw [z, List.length_take, Nat.min_eq_left hp]; exact objAt_cell o2 0 rfl
  · refine ⟨?_, jobsAt_next ht b2.drew⟩
    show W2.drew.cell? _ = some (.slice q (xs.drop k).length (cap - k))
    rw [z, List.length_drop]; exact objAt_cell o2 1 rfl
set_option maxRecDepth 100000 in
set_option maxHeartbeats 4000000 in
theorem tx_deleteJob_yes (v : SvD) (hv : checkE V8 v.s = 0) (x : ByteArray) (hh : hasJob v.s.jobs x = true) (c : Nat) (w : World) (h : TxAt c v w) :
    Calls Tryz.prog 113 #[.pointer (some ⟨c, 0, none⟩), .string x] w fun e w' => e = .returned (.int .i64 0) ∧ TxAt c ⟨delJ x v.s, v.now⟩ w' ∧ w.grownBy w' (some c) := by
  obtain ⟨aj, an, al, cj, cn, cl, ho, hx⟩ := h
  unfold svC at ho
  have hf := valid_facts hv
  have ha := hf.1.1
  have hl := hf.2.1.1
  have hll := hf.2.1.2.2
  have hll' : v.s.leases.length ≤ 100 := by omega
  obtain ⟨W, hW⟩ : ∃ W, w.alloc (.cells #[.string x] 9) = W := ⟨_, rfl⟩
  have bA := below_one w (.cells #[.string x] 9)
  have oN := objAt_new w #[.string x] 9
  rw [hW] at bA oN
  have oT := objAt_next ho bA
  have xT := ownS_next hx bA
  have hcw := objAt_lt ho
  have k1 := objAt_cell oT 1 rfl
  have n0 := objAt_cell oN 0 rfl
  have lT := objAt_lt oT
  have lN := objAt_lt oN
  have hcap := own_caps xT.1
  have HF := fun (V : World) (h : ((V.cell? ⟨c, 1, none⟩ = some (.slice aj v.s.jobs.length cj) ∧ V.cell? ⟨w.heap.size, 0, none⟩ = some (.string x)) ∧ Below W.heap.size W V)) => svFindJob_is v.s.jobs ha x aj cj (by omega) V (jobsAt_next (ownS_at xT).1 h.2)
  simp only [hh] at HF
  have HF := Lib.hid HF
  have s0 : ((W.drew.cell? ⟨c, 1, none⟩ = some (.slice aj v.s.jobs.length cj) ∧ W.drew.cell? ⟨w.heap.size, 0, none⟩ = some (.string x)) ∧ Below W.heap.size W W.drew) := ⟨⟨k1, n0⟩, (Below.refl _ _).drew⟩
  have OT := Lib.hid oT
  have XT := Lib.hid xT
  have ON := Lib.hid oN
  have BA := Lib.hid bA
  have HA := Lib.hid ha
  have HH := Lib.hid hh
  clear oT xT oN bA ha hh k1 n0 hf ho hx
  go_enter Tryz.func113, Tryz.ntmps113
  go_wp2_with fail
  go_region_held3 (fun w' => ((w'.cell? ⟨c, 1, none⟩ = some (.slice aj v.s.jobs.length cj) ∧ w'.cell? ⟨w.heap.size, 0, none⟩ = some (.string x)) ∧ Below W.heap.size W w'))
    (first | assumption | exact s0)
    (first
      | (go_at_call 135; (with_reducible refine (HF.out _ (by assumption)).mono ?_); rintro e w2 ⟨p, rfl, hp, b2⟩; have o2 := held2b (p := ⟨c, 1, none⟩) (q := ⟨w.heap.size, 0, none⟩) lT lN (by assumption) b2))
  rename_i o3
  obtain ⟨⟨k1, n0⟩, b3⟩ := o3
  have hpl := hp.1
  have hpc : p ≤ cj := Nat.le_trans hpl hcap
  obtain ⟨hpp, _⟩ := pos_has HA.out hp ((hasJob_iff _ _).1 HH.out)
  have hp1 : (0 : Int) ≤ (p : Int) + 1 ∧ (p : Int) + 1 ≤ (v.s.jobs.length : Int) := ⟨by omega, by omega⟩
  obtain ⟨hp1, hp2⟩ := hp1
  have hwr : IntKind.i64.wrap ((p : Int) + 1) = (p : Int) + 1 := IntWalk.i64_in _ (by omega)
  have HE := but_pos (key := fun z : JobD => z.name) (fun z : JobD => decide (z.name = x)) (fun z => by simp) HA.out hp ((hasJob_iff _ _).1 HH.out)
  obtain ⟨out, hout⟩ : ∃ out, v.s.jobs.take p ++ v.s.jobs.drop (p + 1) = out := ⟨_, rfl⟩
  rw [hout] at HE
  have hlo : out.length ≤ 1000 := by rw [HE]; exact Nat.le_trans (List.length_filter_le _ _) (by omega)
  have oT3 := objAt_next OT.out b3
  have xT3 := ownS_next XT.out b3
  have oN3 := objAt_next ON.out b3
  have B3 := below_trans BA.out b3 BA.out.size
  have C2 := Lib.hid (svCat2Job_is (c := 2) hout hlo (parts2Job w2 aj v.s.jobs cj p (p + 1) (ownS_at xT3).1 hcap hpl))
  have b4 : Below w2.heap.size w2 ((w2.alloc (.cells #[.slice aj p cj, .slice (if cj = p + 1 then aj else Option.map (fun a => a.add ((p + 1) * 5)) aj) (v.s.jobs.length - (p + 1)) (cj - (p + 1))] 22)).drew) := (below_one _ _).drew
  have B4 := Lib.hid (below_trans B3 b4 B3.size)
  have OT4 := Lib.hid (objAt_next oT3 b4)
  have XT4 := Lib.hid (ownS_next xT3 b4)
  have ON4 := Lib.hid (objAt_next oN3 b4)
  have HEh := Lib.hid HE
  clear oT3 xT3 oN3 B3 b4 hout hlo n0 b3 hp s0 HE
  go_wp2_with fail
  go_region_law (first | (go_simp; go_at_call 136; (with_reducible refine C2.out.mono ?_); rintro e u5 ⟨rad, rcap, rfl, rown, rb⟩; have kc := objAt_cell (objAt_next OT4.out rb) 1 rfl; have fc := objAt_free (objAt_next OT4.out rb) 1))
  all_goals
    have oT5 := objAt_next OT4.out rb
    have xT5 := ownS_next XT4.out rb
    have oN5 := objAt_next ON4.out rb
    have B5 := below_trans B4.out rb B4.out.size
    obtain ⟨U, hU⟩ : ∃ U, u5.setCell ⟨c, 1, none⟩ (.slice rad out.length rcap) = U := ⟨_, rfl⟩
    have oU : ObjAt c (svC ⟨⟨v.s.rev, out, v.s.nodes, v.s.leases⟩, v.now⟩ rad an al rcap cn cl) 117 U := by rw [← hU]; exact objAt_set oT5 1 _
    have xU : OwnS 0 rad an al rcap cn cl (SvD.mk ⟨v.s.rev, out, v.s.nodes, v.s.leases⟩ v.now).s U := by rw [← hU]; exact ⟨own_box (own_is rown) oT5 rowT_tx.1 1 _, own_box xT5.2.1 oT5 rowT_tx.2.1 1 _, own_box xT5.2.2 oT5 rowT_tx.2.2 1 _⟩
    have oNU : ObjAt w.heap.size #[.string x] 9 U := by rw [← hU]; exact objAt_other oN5 (by omega) _ _
    have gU : w.grownBy U (some c) := by rw [← hU]; exact gN_set (gN_of_below B5) _ _
    have hNU := objAt_lt oNU
    have C3 := Lib.hid (svEnd_is 140 #[.pointer (some ⟨w.heap.size, 0, none⟩)] (enters_of Tryz.func140 (by kernel_rfl) rfl) (fun y : LeaseD => decide (y.job = x)) (fun V => ObjAt w.heap.size #[.string x] 9 V) (fun _ _ h b => objAt_next h b) (fun y V h => txc_deleteJob y x w.heap.size V h) ⟨⟨v.s.rev, out, v.s.nodes, v.s.leases⟩, v.now⟩ rad an al rcap cn cl c hll' U oNU (fun V b j u hb h => objAt_other h (by omega) j u) oU xU)
    have GU := Lib.hid gU
    clear oT5 xT5 oN5 B5 oU xU oNU gU rown rb kc fc C2 B4 OT4 XT4 ON4
    generalize (if cj = p + 1 then aj else Option.map (fun x => x.add ((p + 1) * 5)) aj) = qq
    go_wp2_with fail
    refine C3.out.mono ?_
    rintro e u6 ⟨rfl, t6, g6⟩
    have T6 := Lib.hid t6
    have G6 := Lib.hid (g2_trans GU.out g6)
    clear t6 g6
    go_wp2
    go_ret
    refine ⟨rfl, ?_, G6.out⟩
    have h6 := T6.out
    rw [HEh.out] at h6
    exact h6
set_option maxRecDepth 100000 in
set_option maxHeartbeats 4000000 in
theorem tx_deleteJob_no (v : SvD) (hv : checkE V8 v.s = 0) (x : ByteArray) (hh : hasJob v.s.jobs x = false) (c : Nat) (w : World) (h : TxAt c v w) :
    Calls Tryz.prog 113 #[.pointer (some ⟨c, 0, none⟩), .string x] w fun e w' => e = .returned (.int .i64 6) ∧ w.grownBy w' (some c) := by
  obtain ⟨aj, an, al, cj, cn, cl, ho, hx⟩ := h
  unfold svC at ho
  have hf := valid_facts hv
  have ha := hf.1.1
  have hl := hf.2.1.1
  have hll := hf.2.1.2.2
  have hll' : v.s.leases.length ≤ 100 := by omega
  obtain ⟨W, hW⟩ : ∃ W, w.alloc (.cells #[.string x] 9) = W := ⟨_, rfl⟩
  have bA := below_one w (.cells #[.string x] 9)
  have oN := objAt_new w #[.string x] 9
  rw [hW] at bA oN
  have oT := objAt_next ho bA
  have xT := ownS_next hx bA
  have hcw := objAt_lt ho
  have k1 := objAt_cell oT 1 rfl
  have n0 := objAt_cell oN 0 rfl
  have lT := objAt_lt oT
  have lN := objAt_lt oN
  have hcap := own_caps xT.1
  have HF := fun (V : World) (h : ((V.cell? ⟨c, 1, none⟩ = some (.slice aj v.s.jobs.length cj) ∧ V.cell? ⟨w.heap.size, 0, none⟩ = some (.string x)) ∧ Below W.heap.size W V)) => svFindJob_is v.s.jobs ha x aj cj (by omega) V (jobsAt_next (ownS_at xT).1 h.2)
  simp only [hh] at HF
  have HF := Lib.hid HF
  have s0 : ((W.drew.cell? ⟨c, 1, none⟩ = some (.slice aj v.s.jobs.length cj) ∧ W.drew.cell? ⟨w.heap.size, 0, none⟩ = some (.string x)) ∧ Below W.heap.size W W.drew) := ⟨⟨k1, n0⟩, (Below.refl _ _).drew⟩
  have OT := Lib.hid oT
  have XT := Lib.hid xT
  have ON := Lib.hid oN
  have BA := Lib.hid bA
  have HA := Lib.hid ha
  have HH := Lib.hid hh
  clear oT xT oN bA ha hh k1 n0 hf ho hx
  go_enter Tryz.func113, Tryz.ntmps113
  go_wp2_with fail
  go_region_held3 (fun w' => ((w'.cell? ⟨c, 1, none⟩ = some (.slice aj v.s.jobs.length cj) ∧ w'.cell? ⟨w.heap.size, 0, none⟩ = some (.string x)) ∧ Below W.heap.size W w'))
    (first | assumption | exact s0)
    (first
      | (go_at_call 135; (with_reducible refine (HF.out _ (by assumption)).mono ?_); rintro e w2 ⟨p, rfl, hp, b2⟩; have o2 := held2b (p := ⟨c, 1, none⟩) (q := ⟨w.heap.size, 0, none⟩) lT lN (by assumption) b2))
  all_goals
    rename_i o3
    have B3 := Lib.hid (below_trans BA.out o3.2 BA.out.size)
    clear o3 s0
    go_wp2
    go_ret
    exact ⟨rfl, gN_of_below B3.out⟩
theorem parts2Node (w : World) (ad : Option Addr) (xs : List NodeD) (cap p k : Nat) (h : NodesAt w ad xs) (hc : xs.length ≤ cap) (hp : p ≤ xs.length) : PartsNode ((w.alloc (.cells #[.slice ad p cap, .slice (if cap = k then ad else Option.map (fun a => a.add (k * 3)) ad) (xs.length - k) (cap - k)] 23)).drew) w.heap.size [(ad, xs.take p, cap), (if cap = k then ad else Option.map (fun a => a.add (k * 3)) ad, xs.drop k, cap - k)] := by
  obtain ⟨q, hq⟩ : ∃ q, (if cap = k then ad else Option.map (fun a => a.add (k * 3)) ad) = q := ⟨_, rfl⟩
  have ht := tailNodeAt (k := k) h hc
  rw [hq] at ht ⊢
  have o2 := objAt_new w #[.slice ad p cap, .slice q (xs.length - k) (cap - k)] 23
  have b2 := below_one w (.cells #[.slice ad p cap, .slice q (xs.length - k) (cap - k)] 23)
  obtain ⟨W2, h2⟩ : ∃ W, w.alloc (.cells #[.slice ad p cap, .slice q (xs.length - k) (cap - k)] 23) = W := ⟨_, rfl⟩
  rw [h2] at o2 b2 ⊢
  have z : ∀ i, W2.drew.cell? ⟨w.heap.size, i, none⟩ = W2.cell? ⟨w.heap.size, i, none⟩ := fun i => rfl
  refine ⟨objAt_lt (objAt_drew o2), fun i hi => ?_⟩
  have hi : i < 2 := hi
  obtain rfl | rfl : i = 0 ∨ i = 1 := by omega
  · refine ⟨?_, nodesAt_next (nodesAt_take h p) b2.drew⟩
    show W2.drew.cell? _ = some (.slice ad (xs.take p).length cap)
    rw [z, List.length_take, Nat.min_eq_left hp]; exact objAt_cell o2 0 rfl
  · refine ⟨?_, nodesAt_next ht b2.drew⟩
    show W2.drew.cell? _ = some (.slice q (xs.drop k).length (cap - k))
    rw [z, List.length_drop]; exact objAt_cell o2 1 rfl
set_option maxRecDepth 100000 in
set_option maxHeartbeats 4000000 in
theorem tx_deleteNode_yes (v : SvD) (hv : checkE V8 v.s = 0) (x : ByteArray) (hh : hasNode v.s.nodes x = true) (c : Nat) (w : World) (h : TxAt c v w) :
    Calls Tryz.prog 114 #[.pointer (some ⟨c, 0, none⟩), .string x] w fun e w' => e = .returned (.int .i64 0) ∧ TxAt c ⟨delN x v.s, v.now⟩ w' ∧ w.grownBy w' (some c) := by
  obtain ⟨aj, an, al, cj, cn, cl, ho, hx⟩ := h
  unfold svC at ho
  have hf := valid_facts hv
  have ha := hf.1.2.1
  have hl := hf.2.1.2.1
  have hll := hf.2.1.2.2
  have hll' : v.s.leases.length ≤ 100 := by omega
  obtain ⟨W, hW⟩ : ∃ W, w.alloc (.cells #[.string x] 9) = W := ⟨_, rfl⟩
  have bA := below_one w (.cells #[.string x] 9)
  have oN := objAt_new w #[.string x] 9
  rw [hW] at bA oN
  have oT := objAt_next ho bA
  have xT := ownS_next hx bA
  have hcw := objAt_lt ho
  have k1 := objAt_cell oT 2 rfl
  have n0 := objAt_cell oN 0 rfl
  have lT := objAt_lt oT
  have lN := objAt_lt oN
  have hcap := own_caps xT.2.1
  have HF := fun (V : World) (h : ((V.cell? ⟨c, 2, none⟩ = some (.slice an v.s.nodes.length cn) ∧ V.cell? ⟨w.heap.size, 0, none⟩ = some (.string x)) ∧ Below W.heap.size W V)) => svFindNode_is v.s.nodes ha x an cn (by omega) V (nodesAt_next (ownS_at xT).2.1 h.2)
  simp only [hh] at HF
  have HF := Lib.hid HF
  have s0 : ((W.drew.cell? ⟨c, 2, none⟩ = some (.slice an v.s.nodes.length cn) ∧ W.drew.cell? ⟨w.heap.size, 0, none⟩ = some (.string x)) ∧ Below W.heap.size W W.drew) := ⟨⟨k1, n0⟩, (Below.refl _ _).drew⟩
  have OT := Lib.hid oT
  have XT := Lib.hid xT
  have ON := Lib.hid oN
  have BA := Lib.hid bA
  have HA := Lib.hid ha
  have HH := Lib.hid hh
  clear oT xT oN bA ha hh k1 n0 hf ho hx
  go_enter Tryz.func114, Tryz.ntmps114
  go_wp2_with fail
  go_region_held3 (fun w' => ((w'.cell? ⟨c, 2, none⟩ = some (.slice an v.s.nodes.length cn) ∧ w'.cell? ⟨w.heap.size, 0, none⟩ = some (.string x)) ∧ Below W.heap.size W w'))
    (first | assumption | exact s0)
    (first
      | (go_at_call 137; (with_reducible refine (HF.out _ (by assumption)).mono ?_); rintro e w2 ⟨p, rfl, hp, b2⟩; have o2 := held2b (p := ⟨c, 2, none⟩) (q := ⟨w.heap.size, 0, none⟩) lT lN (by assumption) b2))
  rename_i o3
  obtain ⟨⟨k1, n0⟩, b3⟩ := o3
  have hpl := hp.1
  have hpc : p ≤ cn := Nat.le_trans hpl hcap
  obtain ⟨hpp, _⟩ := pos_has HA.out hp ((hasNode_iff _ _).1 HH.out)
  have hp1 : (0 : Int) ≤ (p : Int) + 1 ∧ (p : Int) + 1 ≤ (v.s.nodes.length : Int) := ⟨by omega, by omega⟩
  obtain ⟨hp1, hp2⟩ := hp1
  have hwr : IntKind.i64.wrap ((p : Int) + 1) = (p : Int) + 1 := IntWalk.i64_in _ (by omega)
  have HE := but_pos (key := fun z : NodeD => z.name) (fun z : NodeD => decide (z.name = x)) (fun z => by simp) HA.out hp ((hasNode_iff _ _).1 HH.out)
  obtain ⟨out, hout⟩ : ∃ out, v.s.nodes.take p ++ v.s.nodes.drop (p + 1) = out := ⟨_, rfl⟩
  rw [hout] at HE
  have hlo : out.length ≤ 1000 := by rw [HE]; exact Nat.le_trans (List.length_filter_le _ _) (by omega)
  have oT3 := objAt_next OT.out b3
  have xT3 := ownS_next XT.out b3
  have oN3 := objAt_next ON.out b3
  have B3 := below_trans BA.out b3 BA.out.size
  have C2 := Lib.hid (svCat2Node_is (c := 2) hout hlo (parts2Node w2 an v.s.nodes cn p (p + 1) (ownS_at xT3).2.1 hcap hpl))
  have b4 : Below w2.heap.size w2 ((w2.alloc (.cells #[.slice an p cn, .slice (if cn = p + 1 then an else Option.map (fun a => a.add ((p + 1) * 3)) an) (v.s.nodes.length - (p + 1)) (cn - (p + 1))] 23)).drew) := (below_one _ _).drew
  have B4 := Lib.hid (below_trans B3 b4 B3.size)
  have OT4 := Lib.hid (objAt_next oT3 b4)
  have XT4 := Lib.hid (ownS_next xT3 b4)
  have ON4 := Lib.hid (objAt_next oN3 b4)
  have HEh := Lib.hid HE
  clear oT3 xT3 oN3 B3 b4 hout hlo n0 b3 hp s0 HE
  go_wp2_with fail
  go_region_law (first | (go_simp; go_at_call 138; (with_reducible refine C2.out.mono ?_); rintro e u5 ⟨rad, rcap, rfl, rown, rb⟩; have kc := objAt_cell (objAt_next OT4.out rb) 2 rfl; have fc := objAt_free (objAt_next OT4.out rb) 2))
  all_goals
    have oT5 := objAt_next OT4.out rb
    have xT5 := ownS_next XT4.out rb
    have oN5 := objAt_next ON4.out rb
    have B5 := below_trans B4.out rb B4.out.size
    obtain ⟨U, hU⟩ : ∃ U, u5.setCell ⟨c, 2, none⟩ (.slice rad out.length rcap) = U := ⟨_, rfl⟩
    have oU : ObjAt c (svC ⟨⟨v.s.rev, v.s.jobs, out, v.s.leases⟩, v.now⟩ aj rad al cj rcap cl) 117 U := by rw [← hU]; exact objAt_set oT5 2 _
    have xU : OwnS 0 aj rad al cj rcap cl (SvD.mk ⟨v.s.rev, v.s.jobs, out, v.s.leases⟩ v.now).s U := by rw [← hU]; exact ⟨own_box xT5.1 oT5 rowT_tx.1 2 _, own_box (own_is rown) oT5 rowT_tx.2.1 2 _, own_box xT5.2.2 oT5 rowT_tx.2.2 2 _⟩
    have oNU : ObjAt w.heap.size #[.string x] 9 U := by rw [← hU]; exact objAt_other oN5 (by omega) _ _
    have gU : w.grownBy U (some c) := by rw [← hU]; exact gN_set (gN_of_below B5) _ _
    have hNU := objAt_lt oNU
    have C3 := Lib.hid (svEnd_is 141 #[.pointer (some ⟨w.heap.size, 0, none⟩)] (enters_of Tryz.func141 (by kernel_rfl) rfl) (fun y : LeaseD => decide (y.node = x)) (fun V => ObjAt w.heap.size #[.string x] 9 V) (fun _ _ h b => objAt_next h b) (fun y V h => txc_deleteNode y x w.heap.size V h) ⟨⟨v.s.rev, v.s.jobs, out, v.s.leases⟩, v.now⟩ aj rad al cj rcap cl c hll' U oNU (fun V b j u hb h => objAt_other h (by omega) j u) oU xU)
    have GU := Lib.hid gU
    clear oT5 xT5 oN5 B5 oU xU oNU gU rown rb kc fc C2 B4 OT4 XT4 ON4
    generalize (if cn = p + 1 then an else Option.map (fun x => x.add ((p + 1) * 3)) an) = qq
    go_wp2_with fail
    refine C3.out.mono ?_
    rintro e u6 ⟨rfl, t6, g6⟩
    have T6 := Lib.hid t6
    have G6 := Lib.hid (g2_trans GU.out g6)
    clear t6 g6
    go_wp2
    go_ret
    refine ⟨rfl, ?_, G6.out⟩
    have h6 := T6.out
    rw [HEh.out] at h6
    exact h6
set_option maxRecDepth 100000 in
set_option maxHeartbeats 4000000 in
theorem tx_deleteNode_no (v : SvD) (hv : checkE V8 v.s = 0) (x : ByteArray) (hh : hasNode v.s.nodes x = false) (c : Nat) (w : World) (h : TxAt c v w) :
    Calls Tryz.prog 114 #[.pointer (some ⟨c, 0, none⟩), .string x] w fun e w' => e = .returned (.int .i64 6) ∧ w.grownBy w' (some c) := by
  obtain ⟨aj, an, al, cj, cn, cl, ho, hx⟩ := h
  unfold svC at ho
  have hf := valid_facts hv
  have ha := hf.1.2.1
  have hl := hf.2.1.2.1
  have hll := hf.2.1.2.2
  have hll' : v.s.leases.length ≤ 100 := by omega
  obtain ⟨W, hW⟩ : ∃ W, w.alloc (.cells #[.string x] 9) = W := ⟨_, rfl⟩
  have bA := below_one w (.cells #[.string x] 9)
  have oN := objAt_new w #[.string x] 9
  rw [hW] at bA oN
  have oT := objAt_next ho bA
  have xT := ownS_next hx bA
  have hcw := objAt_lt ho
  have k1 := objAt_cell oT 2 rfl
  have n0 := objAt_cell oN 0 rfl
  have lT := objAt_lt oT
  have lN := objAt_lt oN
  have hcap := own_caps xT.2.1
  have HF := fun (V : World) (h : ((V.cell? ⟨c, 2, none⟩ = some (.slice an v.s.nodes.length cn) ∧ V.cell? ⟨w.heap.size, 0, none⟩ = some (.string x)) ∧ Below W.heap.size W V)) => svFindNode_is v.s.nodes ha x an cn (by omega) V (nodesAt_next (ownS_at xT).2.1 h.2)
  simp only [hh] at HF
  have HF := Lib.hid HF
  have s0 : ((W.drew.cell? ⟨c, 2, none⟩ = some (.slice an v.s.nodes.length cn) ∧ W.drew.cell? ⟨w.heap.size, 0, none⟩ = some (.string x)) ∧ Below W.heap.size W W.drew) := ⟨⟨k1, n0⟩, (Below.refl _ _).drew⟩
  have OT := Lib.hid oT
  have XT := Lib.hid xT
  have ON := Lib.hid oN
  have BA := Lib.hid bA
  have HA := Lib.hid ha
  have HH := Lib.hid hh
  clear oT xT oN bA ha hh k1 n0 hf ho hx
  go_enter Tryz.func114, Tryz.ntmps114
  go_wp2_with fail
  go_region_held3 (fun w' => ((w'.cell? ⟨c, 2, none⟩ = some (.slice an v.s.nodes.length cn) ∧ w'.cell? ⟨w.heap.size, 0, none⟩ = some (.string x)) ∧ Below W.heap.size W w'))
    (first | assumption | exact s0)
    (first
      | (go_at_call 137; (with_reducible refine (HF.out _ (by assumption)).mono ?_); rintro e w2 ⟨p, rfl, hp, b2⟩; have o2 := held2b (p := ⟨c, 2, none⟩) (q := ⟨w.heap.size, 0, none⟩) lT lN (by assumption) b2))
  all_goals
    rename_i o3
    have B3 := Lib.hid (below_trans BA.out o3.2 BA.out.size)
    clear o3 s0
    go_wp2
    go_ret
    exact ⟨rfl, gN_of_below B3.out⟩
set_option maxRecDepth 100000 in
set_option maxHeartbeats 4000000 in
theorem tx_free_yes (v : SvD) (hv : checkE V8 v.s = 0) (x : ByteArray) (hh : hasLease v.s.leases x = true) (c : Nat) (w : World) (h : TxAt c v w) :
    Calls Tryz.prog 116 #[.pointer (some ⟨c, 0, none⟩), .string x] w fun e w' => e = .returned (.int .i64 0) ∧ TxAt c ⟨freeS x v.s, v.now⟩ w' ∧ w.grownBy w' (some c) := by
  obtain ⟨aj, an, al, cj, cn, cl, ho, hx⟩ := h
  unfold svC at ho
  have hf := valid_facts hv
  have ha := hf.1.2.2
  have hl := hf.2.1.2.2
  have hll := hf.2.1.2.2
  have hll' : v.s.leases.length ≤ 100 := by omega
  obtain ⟨W, hW⟩ : ∃ W, w.alloc (.cells #[.string x] 9) = W := ⟨_, rfl⟩
  have bA := below_one w (.cells #[.string x] 9)
  have oN := objAt_new w #[.string x] 9
  rw [hW] at bA oN
  have oT := objAt_next ho bA
  have xT := ownS_next hx bA
  have hcw := objAt_lt ho
  have k1 := objAt_cell oT 3 rfl
  have n0 := objAt_cell oN 0 rfl
  have lT := objAt_lt oT
  have lN := objAt_lt oN
  have hcap := own_caps xT.2.2
  have HF := fun (V : World) (h : ((V.cell? ⟨c, 3, none⟩ = some (.slice al v.s.leases.length cl) ∧ V.cell? ⟨w.heap.size, 0, none⟩ = some (.string x)) ∧ Below W.heap.size W V)) => svFindLease_is v.s.leases ha x al cl (by omega) V (leasesAt_next (ownS_at xT).2.2 h.2)
  simp only [hh] at HF
  have HF := Lib.hid HF
  have s0 : ((W.drew.cell? ⟨c, 3, none⟩ = some (.slice al v.s.leases.length cl) ∧ W.drew.cell? ⟨w.heap.size, 0, none⟩ = some (.string x)) ∧ Below W.heap.size W W.drew) := ⟨⟨k1, n0⟩, (Below.refl _ _).drew⟩
  have OT := Lib.hid oT
  have XT := Lib.hid xT
  have ON := Lib.hid oN
  have BA := Lib.hid bA
  have HA := Lib.hid ha
  have HH := Lib.hid hh
  clear oT xT oN bA ha hh k1 n0 hf ho hx
  go_enter Tryz.func116, Tryz.ntmps116
  go_wp2_with fail
  go_region_held3 (fun w' => ((w'.cell? ⟨c, 3, none⟩ = some (.slice al v.s.leases.length cl) ∧ w'.cell? ⟨w.heap.size, 0, none⟩ = some (.string x)) ∧ Below W.heap.size W w'))
    (first | assumption | exact s0)
    (first
      | (go_at_call 142; (with_reducible refine (HF.out _ (by assumption)).mono ?_); rintro e w2 ⟨p, rfl, hp, b2⟩; have o2 := held2b (p := ⟨c, 3, none⟩) (q := ⟨w.heap.size, 0, none⟩) lT lN (by assumption) b2))
  rename_i o3
  obtain ⟨⟨k1, n0⟩, b3⟩ := o3
  have oT3 := objAt_next OT.out b3
  have xT3 := ownS_next XT.out b3
  have oN3 := objAt_next ON.out b3
  have B3 := below_trans BA.out b3 BA.out.size
  have hN3 := objAt_lt oN3
  have C3 := Lib.hid (svEnd_is 144 #[.pointer (some ⟨w.heap.size, 0, none⟩)] (enters_of Tryz.func144 (by kernel_rfl) rfl) (fun y : LeaseD => decide (y.job = x)) (fun V => ObjAt w.heap.size #[.string x] 9 V) (fun _ _ h b => objAt_next h b) (fun y V h => txc_free y x w.heap.size V h) v aj an al cj cn cl c hll' w2 oN3 (fun V b j u hb h => objAt_other h (by omega) j u) oT3 xT3)
  have GU : Hid (w.grownBy w2 (some c)) := gN_of_below B3
  clear oT3 xT3 oN3 B3 k1 n0 b3 hp s0
  go_wp2_with fail
  refine C3.out.mono ?_
  rintro e u6 ⟨rfl, t6, g6⟩
  have T6 := Lib.hid t6
  have G6 := Lib.hid (g2_trans GU.out g6)
  clear t6 g6
  go_wp2
  go_ret
  exact ⟨rfl, T6.out, G6.out⟩
set_option maxRecDepth 100000 in
set_option maxHeartbeats 4000000 in
theorem tx_free_no (v : SvD) (hv : checkE V8 v.s = 0) (x : ByteArray) (hh : hasLease v.s.leases x = false) (c : Nat) (w : World) (h : TxAt c v w) :
    Calls Tryz.prog 116 #[.pointer (some ⟨c, 0, none⟩), .string x] w fun e w' => e = .returned (.int .i64 6) ∧ w.grownBy w' (some c) := by
  obtain ⟨aj, an, al, cj, cn, cl, ho, hx⟩ := h
  unfold svC at ho
  have hf := valid_facts hv
  have ha := hf.1.2.2
  have hl := hf.2.1.2.2
  have hll := hf.2.1.2.2
  have hll' : v.s.leases.length ≤ 100 := by omega
  obtain ⟨W, hW⟩ : ∃ W, w.alloc (.cells #[.string x] 9) = W := ⟨_, rfl⟩
  have bA := below_one w (.cells #[.string x] 9)
  have oN := objAt_new w #[.string x] 9
  rw [hW] at bA oN
  have oT := objAt_next ho bA
  have xT := ownS_next hx bA
  have hcw := objAt_lt ho
  have k1 := objAt_cell oT 3 rfl
  have n0 := objAt_cell oN 0 rfl
  have lT := objAt_lt oT
  have lN := objAt_lt oN
  have hcap := own_caps xT.2.2
  have HF := fun (V : World) (h : ((V.cell? ⟨c, 3, none⟩ = some (.slice al v.s.leases.length cl) ∧ V.cell? ⟨w.heap.size, 0, none⟩ = some (.string x)) ∧ Below W.heap.size W V)) => svFindLease_is v.s.leases ha x al cl (by omega) V (leasesAt_next (ownS_at xT).2.2 h.2)
  simp only [hh] at HF
  have HF := Lib.hid HF
  have s0 : ((W.drew.cell? ⟨c, 3, none⟩ = some (.slice al v.s.leases.length cl) ∧ W.drew.cell? ⟨w.heap.size, 0, none⟩ = some (.string x)) ∧ Below W.heap.size W W.drew) := ⟨⟨k1, n0⟩, (Below.refl _ _).drew⟩
  have OT := Lib.hid oT
  have XT := Lib.hid xT
  have ON := Lib.hid oN
  have BA := Lib.hid bA
  have HA := Lib.hid ha
  have HH := Lib.hid hh
  clear oT xT oN bA ha hh k1 n0 hf ho hx
  go_enter Tryz.func116, Tryz.ntmps116
  go_wp2_with fail
  go_region_held3 (fun w' => ((w'.cell? ⟨c, 3, none⟩ = some (.slice al v.s.leases.length cl) ∧ w'.cell? ⟨w.heap.size, 0, none⟩ = some (.string x)) ∧ Below W.heap.size W w'))
    (first | assumption | exact s0)
    (first
      | (go_at_call 142; (with_reducible refine (HF.out _ (by assumption)).mono ?_); rintro e w2 ⟨p, rfl, hp, b2⟩; have o2 := held2b (p := ⟨c, 3, none⟩) (q := ⟨w.heap.size, 0, none⟩) lT lN (by assumption) b2))
  all_goals
    rename_i o3
    have B3 := Lib.hid (below_trans BA.out o3.2 BA.out.size)
    clear o3 s0
    go_wp2
    go_ret
    exact ⟨rfl, gN_of_below B3.out⟩
set_option maxRecDepth 100000 in
set_option maxHeartbeats 4000000 in
theorem tx_tick_yes (v : SvD) (hv : checkE V8 v.s = 0) (n : Int) (hn : 0 ≤ n ∧ n ≤ 1099511627776) (hnow : 0 ≤ v.now ∧ v.now ≤ 1099511627776) (hh : ¬ 1099511627776 < v.now + n) (c : Nat) (w : World) (h : TxAt c v w) :
    Calls Tryz.prog 117 #[.pointer (some ⟨c, 0, none⟩), .int .i64 n] w fun e w' => e = .returned (.int .i64 0) ∧ TxAt c ⟨tickS (v.now + n) v.s, v.now + n⟩ w' ∧ w.grownBy w' (some c) := by
  obtain ⟨aj, an, al, cj, cn, cl, ho, hx⟩ := h
  unfold svC at ho
  have hf := valid_facts hv
  have hll : v.s.leases.length ≤ 100 := by omega
  obtain ⟨W, hW⟩ : ∃ W, w.alloc (.cells #[.pointer (some ⟨c, 0, none⟩)] 149) = W := ⟨_, rfl⟩
  have bA := below_one w (.cells #[.pointer (some ⟨c, 0, none⟩)] 149)
  have oN := objAt_new w #[.pointer (some ⟨c, 0, none⟩)] 149
  rw [hW] at bA oN
  have oT := objAt_next ho bA
  have xT := ownS_next hx bA
  have hcw := objAt_lt ho
  have k4 := objAt_cell oT 4 rfl
  have n0 := objAt_cell oN 0 rfl
  have lT := objAt_lt oT
  have lN := objAt_lt oN
  have f4 := objAt_free oT 4
  have hw1 : IntKind.i64.wrap (1099511627776 - v.now) = 1099511627776 - v.now := IntWalk.i64_in _ (by omega)
  have hw2 : IntKind.i64.wrap (v.now + n) = v.now + n := IntWalk.i64_in _ (by omega)
  have hcmp : ¬ 1099511627776 - v.now < n := by omega
  obtain ⟨U, hU⟩ : ∃ U, W.setCell ⟨c, 4, none⟩ (.int .i64 (v.now + n)) = U := ⟨_, rfl⟩
  have oU : ObjAt c (svC ⟨v.s, v.now + n⟩ aj an al cj cn cl) 117 U := by rw [← hU]; exact objAt_set oT 4 _
  have xU : OwnS 0 aj an al cj cn cl v.s U := by rw [← hU]; exact ownS_set1 xT oT rowT_tx 4 _
  have oNU : ObjAt w.heap.size #[.pointer (some ⟨c, 0, none⟩)] 149 U := by rw [← hU]; exact objAt_other oN (by omega) _ _
  have gU : w.grownBy U (some c) := by rw [← hU]; exact gN_set (gN_of_below bA) _ _
  have hNU := objAt_lt oNU
  have hCU := objAt_lt oU
  have m0 := objAt_cell oNU 0 rfl
  have C3 := Lib.hid (svEnd_is 145 #[.pointer (some ⟨w.heap.size, 0, none⟩)] (enters_of Tryz.func145 (by kernel_rfl) rfl) (fun y : LeaseD => decide (y.til ≤ v.now + n)) (fun V => ObjAt w.heap.size #[.pointer (some ⟨c, 0, none⟩)] 149 V ∧ ObjAt c (svC ⟨v.s, v.now + n⟩ aj an al cj cn cl) 117 V) (fun _ _ h b => ⟨objAt_next h.1 b, objAt_next h.2 b⟩) (fun y V h => txc_tick y w.heap.size c (v.now + n) _ _ _ _ V h.1 h.2) ⟨v.s, v.now + n⟩ aj an al cj cn cl c hll U ⟨oNU, oU⟩ (fun V b j u hb h => ⟨objAt_other h.1 (by omega) j u, objAt_other h.2 (by omega) j u⟩) oU xU)
  have GU := Lib.hid gU
  clear oT xT oN bA hf ho hx oU xU oNU gU
  go_enter Tryz.func117, Tryz.ntmps117
  go_wp2_with fail
  refine C3.out.mono ?_
  rintro e u6 ⟨rfl, t6, g6⟩
  have T6 := Lib.hid t6
  have G6 := Lib.hid (g2_trans GU.out g6)
  clear t6 g6
  go_wp2
  go_ret
  exact ⟨rfl, T6.out, G6.out⟩
set_option maxRecDepth 100000 in
set_option maxHeartbeats 4000000 in
theorem tx_tick_no (v : SvD) (hv : checkE V8 v.s = 0) (n : Int) (hn : 0 ≤ n ∧ n ≤ 1099511627776) (hnow : 0 ≤ v.now ∧ v.now ≤ 1099511627776) (hh : 1099511627776 < v.now + n) (c : Nat) (w : World) (h : TxAt c v w) :
    Calls Tryz.prog 117 #[.pointer (some ⟨c, 0, none⟩), .int .i64 n] w fun e w' => e = .returned (.int .i64 1) ∧ w.grownBy w' (some c) := by
  obtain ⟨aj, an, al, cj, cn, cl, ho, hx⟩ := h
  unfold svC at ho
  have hf := valid_facts hv
  have hll : v.s.leases.length ≤ 100 := by omega
  obtain ⟨W, hW⟩ : ∃ W, w.alloc (.cells #[.pointer (some ⟨c, 0, none⟩)] 149) = W := ⟨_, rfl⟩
  have bA := below_one w (.cells #[.pointer (some ⟨c, 0, none⟩)] 149)
  have oN := objAt_new w #[.pointer (some ⟨c, 0, none⟩)] 149
  rw [hW] at bA oN
  have oT := objAt_next ho bA
  have xT := ownS_next hx bA
  have hcw := objAt_lt ho
  have k4 := objAt_cell oT 4 rfl
  have n0 := objAt_cell oN 0 rfl
  have lT := objAt_lt oT
  have lN := objAt_lt oN
  have f4 := objAt_free oT 4
  have hw1 : IntKind.i64.wrap (1099511627776 - v.now) = 1099511627776 - v.now := IntWalk.i64_in _ (by omega)
  have hw2 : IntKind.i64.wrap (v.now + n) = v.now + n := IntWalk.i64_in _ (by omega)
  have hcmp : 1099511627776 - v.now < n := by omega
  have BA := Lib.hid bA
  clear oT xT oN bA hf ho hx
  go_enter Tryz.func117, Tryz.ntmps117
  go_wp2
  go_ret
  exact ⟨rfl, gN_of_below BA.out⟩
end Go.Proofs.YthpgkfonbmffdaaGreatDoor
