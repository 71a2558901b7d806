/- A transaction's run, at every request. -/
import Derived.Test.YtiekgafopalfmaaGreatDoorPkSv4
import Derived.Test.YtiekgafopalfmaaGreatDoorPkRq2
namespace Go.Proofs.YtiekgafopalfmaaGreatDoor
open Go.RowKit Go.Lib Go.Shelf


theorem svInsJob_is (xs : List JobD) (ha : Asc (·.name) xs) (x : JobD) (ad : Option Addr) (cap : Nat) (hl : xs.length ≤ 100) (hcap : xs.length ≤ cap) (w : World) (hx : JobsAt w ad xs) :
    Calls Tryz.prog 82 #[.slice ad xs.length cap, .agg #[.string x.name, .int .i64 x.prio, .int .i64 x.need, .int .i64 x.tries, .string x.tag], .func (.func 34) #[] #[]] w fun e w' => ∃ ad' cap', e = .returned (.slice ad' (putL (·.name) x xs).length cap') ∧ w'.ownsRow w.heap.size 38 5 (.slice ad' (putL (·.name) x xs).length cap') (putL (·.name) x xs).length (cJobs (putL (·.name) x xs)) ∧ Below w.heap.size w w' := by
  cases hh : hasJob xs x.name with
  | true => exact svInsJob_old xs ha x ad cap hl hcap hh w hx
  | false => exact svInsJob_new xs ha x ad cap hl hcap hh w hx
theorem svInsNode_is (xs : List NodeD) (ha : Asc (·.name) xs) (x : NodeD) (ad : Option Addr) (cap : Nat) (hl : xs.length ≤ 100) (hcap : xs.length ≤ cap) (w : World) (hx : NodesAt w ad xs) :
    Calls Tryz.prog 83 #[.slice ad xs.length cap, .agg #[.string x.name, .int .i64 x.room, .string x.zone], .func (.func 37) #[] #[]] w fun e w' => ∃ ad' cap', e = .returned (.slice ad' (putL (·.name) x xs).length cap') ∧ w'.ownsRow w.heap.size 40 3 (.slice ad' (putL (·.name) x xs).length cap') (putL (·.name) x xs).length (cNodes (putL (·.name) x xs)) ∧ Below w.heap.size w w' := by
  cases hh : hasNode xs x.name with
  | true => exact svInsNode_old xs ha x ad cap hl hcap hh w hx
  | false => exact svInsNode_new xs ha x ad cap hl hcap hh w hx
theorem wState_putJ {s : StD} {j : JobD} (h : checkE V8 s = 0) (hj : wJob j) : wState (putJ j s) := by
  have hw := wState_sv h
  have hv := (check_zero V8 s).1 h
  refine ⟨hw.1, fun x hx => ?_, hw.2.2.1, hw.2.2.2⟩
  rcases (put_mem hv.2.2.1.2 _ x).1 hx with rfl | ⟨hx, _⟩
  · exact hj
  · exact hw.2.1 x hx
theorem wState_putN {s : StD} {n : NodeD} (h : checkE V8 s = 0) (hj : wNode n) : wState (putN n s) := by
  have hw := wState_sv h
  have hv := (check_zero V8 s).1 h
  refine ⟨hw.1, hw.2.1, fun x hx => ?_, hw.2.2.2⟩
  rcases (put_mem hv.2.2.2.1.2 _ x).1 hx with rfl | ⟨hx, _⟩
  · exact hj
  · exact hw.2.2.1 x hx
/-- What an operation leaves behind: its error; the transaction, if there is none. -/
def OpPost (c : Nat) (r : SvD × Nat) (w : World) (e : Ending) (w' : World) : Prop := e = .returned (.int .i64 (r.2 : Nat)) ∧ (r.2 = 0 → TxAt c r.1 w') ∧ w.grownBy w' (some c)
theorem m3_is (v : SvD) (hv : checkE V8 v.s = 0) (j : JobD) (n : NodeD) (l : LeaseD) (nm : ByteArray) (N : Int) (c : Nat) (w : World) (h : TxAt c v w) : Calls Tryz.prog 84 #[.pointer (some ⟨c, 0, none⟩), .string nm] w (OpPost c (opR V8 v.s v.now (⟨3, j, n, l, nm, N⟩ : ReqD)) w) := by
  rw [opR_3 (q := (⟨3, j, n, l, nm, N⟩ : ReqD)) rfl]
  simp only
  cases hh : hasJob v.s.jobs nm with
  | true => rw [if_pos rfl]; exact (tx_deleteJob_yes v hv nm hh c w h).mono fun e w' z => ⟨z.1, fun _ => z.2.1, z.2.2⟩
  | false => rw [if_neg (by decide)]; exact (tx_deleteJob_no v hv nm hh c w h).mono fun e w' z => ⟨z.1, fun q => (by cases q), z.2⟩
theorem m4_is (v : SvD) (hv : checkE V8 v.s = 0) (j : JobD) (n : NodeD) (l : LeaseD) (nm : ByteArray) (N : Int) (c : Nat) (w : World) (h : TxAt c v w) : Calls Tryz.prog 85 #[.pointer (some ⟨c, 0, none⟩), .string nm] w (OpPost c (opR V8 v.s v.now (⟨4, j, n, l, nm, N⟩ : ReqD)) w) := by
  rw [opR_4 (q := (⟨4, j, n, l, nm, N⟩ : ReqD)) rfl]
  simp only
  cases hh : hasNode v.s.nodes nm with
  | true => rw [if_pos rfl]; exact (tx_deleteNode_yes v hv nm hh c w h).mono fun e w' z => ⟨z.1, fun _ => z.2.1, z.2.2⟩
  | false => rw [if_neg (by decide)]; exact (tx_deleteNode_no v hv nm hh c w h).mono fun e w' z => ⟨z.1, fun q => (by cases q), z.2⟩
theorem m6_is (v : SvD) (hv : checkE V8 v.s = 0) (j : JobD) (n : NodeD) (l : LeaseD) (nm : ByteArray) (N : Int) (c : Nat) (w : World) (h : TxAt c v w) : Calls Tryz.prog 87 #[.pointer (some ⟨c, 0, none⟩), .string nm] w (OpPost c (opR V8 v.s v.now (⟨6, j, n, l, nm, N⟩ : ReqD)) w) := by
  rw [opR_6 (q := (⟨6, j, n, l, nm, N⟩ : ReqD)) rfl]
  simp only
  cases hh : hasLease v.s.leases nm with
  | true => rw [if_pos rfl]; exact (tx_free_yes v hv nm hh c w h).mono fun e w' z => ⟨z.1, fun _ => z.2.1, z.2.2⟩
  | false => rw [if_neg (by decide)]; exact (tx_free_no v hv nm hh c w h).mono fun e w' z => ⟨z.1, fun q => (by cases q), z.2⟩
theorem m7_is (v : SvD) (hv : checkE V8 v.s = 0) (j : JobD) (n : NodeD) (l : LeaseD) (nm : ByteArray) (N : Int) (c : Nat) (w : World) (hN : 0 ≤ N ∧ N ≤ 1099511627776) (hnow : 0 ≤ v.now ∧ v.now ≤ 1099511627776) (h : TxAt c v w) : Calls Tryz.prog 88 #[.pointer (some ⟨c, 0, none⟩), .int .i64 N] w (OpPost c (opR V8 v.s v.now (⟨7, j, n, l, nm, N⟩ : ReqD)) w) := by
  rw [opR_7 (q := (⟨7, j, n, l, nm, N⟩ : ReqD)) rfl]
  simp only
  by_cases hh : 1099511627776 < v.now + N
  · rw [if_pos hh]; exact (tx_tick_no v hv N hN hnow hh c w h).mono fun e w' z => ⟨z.1, fun q => (by cases q), z.2⟩
  · rw [if_neg hh]; exact (tx_tick_yes v hv N hN hnow hh c w h).mono fun e w' z => ⟨z.1, fun _ => z.2.1, z.2.2⟩
theorem m5_is (v : SvD) (hv : checkE V8 v.s = 0) (j : JobD) (n : NodeD) (l : LeaseD) (nm : ByteArray) (N : Int) (c : Nat) (w : World) (hwl : wLease l) (hT : Tabs w) (h : TxAt c v w) : Calls Tryz.prog 86 #[.pointer (some ⟨c, 0, none⟩), .agg #[.string l.job, .string l.node, .int .i64 l.til]] w (OpPost c (opR V8 v.s v.now (⟨5, j, n, l, nm, N⟩ : ReqD)) w) := by
  rw [opR_5 (q := (⟨5, j, n, l, nm, N⟩ : ReqD)) rfl]
  simp only
  by_cases h0 : (hasJob v.s.jobs l.job && hasNode v.s.nodes l.node) = true
  · rw [if_pos h0]
    obtain ⟨h1, h2⟩ := (Bool.and_eq_true _ _ ▸ h0 : _ ∧ _)
    cases h3 : hasLease v.s.leases l.job with
    | true => rw [if_pos rfl]; exact (tx_grant_twice v hv l h1 h2 h3 c w h).mono fun e w' z => ⟨z.1, fun q => (by cases q), z.2⟩
    | false =>
      rw [if_neg (by decide)]
      by_cases h4 : l.til ≤ v.now
      · rw [if_pos h4]; exact (tx_grant_old v hv l h1 h2 h3 h4 c w h).mono fun e w' z => ⟨z.1, fun q => (by cases q), z.2⟩
      · rw [if_neg h4]
        by_cases h5 : (jobOf v.s.jobs l.job).tries = 100
        · rw [if_pos h5]; exact (tx_grant_full v hv l h1 h2 h3 h4 h5 c w h).mono fun e w' z => ⟨z.1, fun q => (by cases q), z.2⟩
        · rw [if_neg h5]; exact (tx_grant_ok v hv l hwl h1 h2 h3 h4 h5 c w hT h).mono fun e w' z => ⟨z.1, fun _ => z.2.1, z.2.2⟩
  · rw [if_neg h0]; exact (tx_grant_none v hv l (by simpa using h0) c w h).mono fun e w' z => ⟨z.1, fun q => (by cases q), z.2⟩
set_option maxRecDepth 100000 in
set_option maxHeartbeats 4000000 in
theorem runbad_is (v : SvD) (hv : checkE V8 v.s = 0) (_hnow : 0 ≤ v.now ∧ v.now ≤ 1099511627776) (k : Int) (j : JobD) (n : NodeD) (l : LeaseD) (nm : ByteArray) (N : Int) (hwq : wReq (⟨k, j, n, l, nm, N⟩ : ReqD)) (hq : qcheckE V8 (⟨k, j, n, l, nm, N⟩ : ReqD) ≠ 0) (c : Nat) (w : World) (hT : Tabs w) (h : TxAt c v w) :
    Calls Tryz.prog 51 #[.pointer (some ⟨c, 0, none⟩), .agg #[.int .i64 k, .string j.name, .int .i64 j.prio, .int .i64 j.need, .int .i64 j.tries, .string j.tag, .string n.name, .int .i64 n.room, .string n.zone, .string l.job, .string l.node, .int .i64 l.til, .string nm, .int .i64 N]] w (OpPost c (runR V8 v.s v.now (⟨k, j, n, l, nm, N⟩ : ReqD)) w) := by
  obtain ⟨W, hW⟩ : ∃ W, w.alloc (.cells #[.int .i64 k, .string j.name, .int .i64 j.prio, .int .i64 j.need, .int .i64 j.tries, .string j.tag, .string n.name, .int .i64 n.room, .string n.zone, .string l.job, .string l.node, .int .i64 l.til, .string nm, .int .i64 N] 44) = W := ⟨_, rfl⟩
  have bA := below_one w (.cells #[.int .i64 k, .string j.name, .int .i64 j.prio, .int .i64 j.need, .int .i64 j.tries, .string j.tag, .string n.name, .int .i64 n.room, .string n.zone, .string l.job, .string l.node, .int .i64 l.til, .string nm, .int .i64 N] 44)
  have oQ := objAt_new w #[.int .i64 k, .string j.name, .int .i64 j.prio, .int .i64 j.need, .int .i64 j.tries, .string j.tag, .string n.name, .int .i64 n.room, .string n.zone, .string l.job, .string l.node, .int .i64 l.til, .string nm, .int .i64 N] 44
  rw [hW] at bA oQ
  have HQ := qcheck_any (⟨k, j, n, l, nm, N⟩ : ReqD) hwq W (fun _ => hT.below bA)
  obtain ⟨z, hz⟩ : ∃ z : Nat, qcheckE V8 (⟨k, j, n, l, nm, N⟩ : ReqD) = z := ⟨_, rfl⟩
  have hR := runR_bad (s := v.s) (now := v.now) hq
  rw [hz] at HQ hR hq
  rw [hR]
  simp only at HQ
  have HQ := Lib.hid HQ
  have HT := Lib.hid hT
  have HV := Lib.hid hv
  have y0 := objAt_cell oQ 0 rfl
  have y1 := objAt_cell oQ 1 rfl
  have y2 := objAt_cell oQ 2 rfl
  have y3 := objAt_cell oQ 3 rfl
  have y4 := objAt_cell oQ 4 rfl
  have y5 := objAt_cell oQ 5 rfl
  have y6 := objAt_cell oQ 6 rfl
  have y7 := objAt_cell oQ 7 rfl
  have y8 := objAt_cell oQ 8 rfl
  have y9 := objAt_cell oQ 9 rfl
  have y10 := objAt_cell oQ 10 rfl
  have y11 := objAt_cell oQ 11 rfl
  have y12 := objAt_cell oQ 12 rfl
  have y13 := objAt_cell oQ 13 rfl
  have OQ := Lib.hid oQ
  have BA := Lib.hid bA
  have HX := Lib.hid h
  have hzz : ((z : Int) == 0) = false := by simpa using hq
  clear oQ bA hT h hv hz hR
  go_enter Tryz.func51, Tryz.ntmps51
  go_wp2_with fail
  refine HQ.out.mono ?_
  rintro e w1 ⟨rfl, b1⟩
  have B1 := Lib.hid (below_trans BA.out b1 BA.out.size)
  clear b1 y0 y1 y2 y3 y4 y5 y6 y7 y8 y9 y10 y11 y12 y13
  go_wp2
  go_ret
  exact ⟨rfl, fun q => absurd q hq, gN_of_below B1.out⟩
set_option maxRecDepth 100000 in
set_option maxHeartbeats 4000000 in
theorem run3_is (v : SvD) (hv : checkE V8 v.s = 0) (_hnow : 0 ≤ v.now ∧ v.now ≤ 1099511627776) (j : JobD) (n : NodeD) (l : LeaseD) (nm : ByteArray) (N : Int) (hwq : wReq (⟨3, j, n, l, nm, N⟩ : ReqD)) (hq : qcheckE V8 (⟨3, j, n, l, nm, N⟩ : ReqD) = 0) (c : Nat) (w : World) (hT : Tabs w) (h : TxAt c v w) :
    Calls Tryz.prog 51 #[.pointer (some ⟨c, 0, none⟩), .agg #[.int .i64 3, .string j.name, .int .i64 j.prio, .int .i64 j.need, .int .i64 j.tries, .string j.tag, .string n.name, .int .i64 n.room, .string n.zone, .string l.job, .string l.node, .int .i64 l.til, .string nm, .int .i64 N]] w (OpPost c (opR V8 v.s v.now (⟨3, j, n, l, nm, N⟩ : ReqD)) w) := by
  obtain ⟨W, hW⟩ : ∃ W, w.alloc (.cells #[.int .i64 3, .string j.name, .int .i64 j.prio, .int .i64 j.need, .int .i64 j.tries, .string j.tag, .string n.name, .int .i64 n.room, .string n.zone, .string l.job, .string l.node, .int .i64 l.til, .string nm, .int .i64 N] 44) = W := ⟨_, rfl⟩
  have bA := below_one w (.cells #[.int .i64 3, .string j.name, .int .i64 j.prio, .int .i64 j.need, .int .i64 j.tries, .string j.tag, .string n.name, .int .i64 n.room, .string n.zone, .string l.job, .string l.node, .int .i64 l.til, .string nm, .int .i64 N] 44)
  have oQ := objAt_new w #[.int .i64 3, .string j.name, .int .i64 j.prio, .int .i64 j.need, .int .i64 j.tries, .string j.tag, .string n.name, .int .i64 n.room, .string n.zone, .string l.job, .string l.node, .int .i64 l.til, .string nm, .int .i64 N] 44
  rw [hW] at bA oQ
  have HQ := qcheck_any (⟨3, j, n, l, nm, N⟩ : ReqD) hwq W (fun _ => hT.below bA)
  rw [hq] at HQ
  simp only at HQ
  have HQ := Lib.hid HQ
  have HT := Lib.hid hT
  have HV := Lib.hid hv
  have y0 := objAt_cell oQ 0 rfl
  have y1 := objAt_cell oQ 1 rfl
  have y2 := objAt_cell oQ 2 rfl
  have y3 := objAt_cell oQ 3 rfl
  have y4 := objAt_cell oQ 4 rfl
  have y5 := objAt_cell oQ 5 rfl
  have y6 := objAt_cell oQ 6 rfl
  have y7 := objAt_cell oQ 7 rfl
  have y8 := objAt_cell oQ 8 rfl
  have y9 := objAt_cell oQ 9 rfl
  have y10 := objAt_cell oQ 10 rfl
  have y11 := objAt_cell oQ 11 rfl
  have y12 := objAt_cell oQ 12 rfl
  have y13 := objAt_cell oQ 13 rfl
  have OQ := Lib.hid oQ
  have BA := Lib.hid bA
  have HX := Lib.hid h
  clear oQ bA hT h hv hq
  go_enter Tryz.func51, Tryz.ntmps51
  go_wp2_with fail
  refine HQ.out.mono ?_
  rintro e w1 ⟨rfl, b1⟩
  have oQ1 := objAt_next OQ.out b1
  have B1 := below_trans BA.out b1 BA.out.size
  have hX1 := txAt_next HX.out B1
  clear y0 y1 y2 y3 y4 y5 y6 y7 y8 y9 y10 y11 y12 y13
  have y0 := objAt_cell oQ1 0 rfl
  have y1 := objAt_cell oQ1 1 rfl
  have y2 := objAt_cell oQ1 2 rfl
  have y3 := objAt_cell oQ1 3 rfl
  have y4 := objAt_cell oQ1 4 rfl
  have y5 := objAt_cell oQ1 5 rfl
  have y6 := objAt_cell oQ1 6 rfl
  have y7 := objAt_cell oQ1 7 rfl
  have y8 := objAt_cell oQ1 8 rfl
  have y9 := objAt_cell oQ1 9 rfl
  have y10 := objAt_cell oQ1 10 rfl
  have y11 := objAt_cell oQ1 11 rfl
  have y12 := objAt_cell oQ1 12 rfl
  have y13 := objAt_cell oQ1 13 rfl
  have ql := objAt_lt oQ1
  have C1 := m3_is v HV.out j n l nm N c w1 hX1
  obtain ⟨R, hR⟩ : ∃ R, opR V8 v.s v.now (⟨3, j, n, l, nm, N⟩ : ReqD) = R := ⟨_, rfl⟩
  rw [hR] at C1
  obtain ⟨t, z⟩ := R
  have C1 := Lib.hid C1
  have BB := Lib.hid B1
  have HR := Lib.hid hR
  clear oQ1 B1 hX1 b1 hR
  go_wp2_with fail
  refine C1.out.mono ?_
  rintro e w2 ⟨rfl, t2, g2⟩
  have T2 := Lib.hid t2
  have G2 := Lib.hid (g2_trans (gN_of_below BB.out) g2)
  clear t2 g2 y0 y1 y2 y3 y4 y5 y6 y7 y8 y9 y10 y11 y12 y13
  go_wp2
  go_ret
  rw [HR.out]
  exact ⟨rfl, T2.out, G2.out⟩
set_option maxRecDepth 100000 in
set_option maxHeartbeats 4000000 in
theorem run4_is (v : SvD) (hv : checkE V8 v.s = 0) (_hnow : 0 ≤ v.now ∧ v.now ≤ 1099511627776) (j : JobD) (n : NodeD) (l : LeaseD) (nm : ByteArray) (N : Int) (hwq : wReq (⟨4, j, n, l, nm, N⟩ : ReqD)) (hq : qcheckE V8 (⟨4, j, n, l, nm, N⟩ : ReqD) = 0) (c : Nat) (w : World) (hT : Tabs w) (h : TxAt c v w) :
    Calls Tryz.prog 51 #[.pointer (some ⟨c, 0, none⟩), .agg #[.int .i64 4, .string j.name, .int .i64 j.prio, .int .i64 j.need, .int .i64 j.tries, .string j.tag, .string n.name, .int .i64 n.room, .string n.zone, .string l.job, .string l.node, .int .i64 l.til, .string nm, .int .i64 N]] w (OpPost c (opR V8 v.s v.now (⟨4, j, n, l, nm, N⟩ : ReqD)) w) := by
  obtain ⟨W, hW⟩ : ∃ W, w.alloc (.cells #[.int .i64 4, .string j.name, .int .i64 j.prio, .int .i64 j.need, .int .i64 j.tries, .string j.tag, .string n.name, .int .i64 n.room, .string n.zone, .string l.job, .string l.node, .int .i64 l.til, .string nm, .int .i64 N] 44) = W := ⟨_, rfl⟩
  have bA := below_one w (.cells #[.int .i64 4, .string j.name, .int .i64 j.prio, .int .i64 j.need, .int .i64 j.tries, .string j.tag, .string n.name, .int .i64 n.room, .string n.zone, .string l.job, .string l.node, .int .i64 l.til, .string nm, .int .i64 N] 44)
  have oQ := objAt_new w #[.int .i64 4, .string j.name, .int .i64 j.prio, .int .i64 j.need, .int .i64 j.tries, .string j.tag, .string n.name, .int .i64 n.room, .string n.zone, .string l.job, .string l.node, .int .i64 l.til, .string nm, .int .i64 N] 44
  rw [hW] at bA oQ
  have HQ := qcheck_any (⟨4, j, n, l, nm, N⟩ : ReqD) hwq W (fun _ => hT.below bA)
  rw [hq] at HQ
  simp only at HQ
  have HQ := Lib.hid HQ
  have HT := Lib.hid hT
  have HV := Lib.hid hv
  have y0 := objAt_cell oQ 0 rfl
  have y1 := objAt_cell oQ 1 rfl
  have y2 := objAt_cell oQ 2 rfl
  have y3 := objAt_cell oQ 3 rfl
  have y4 := objAt_cell oQ 4 rfl
  have y5 := objAt_cell oQ 5 rfl
  have y6 := objAt_cell oQ 6 rfl
  have y7 := objAt_cell oQ 7 rfl
  have y8 := objAt_cell oQ 8 rfl
  have y9 := objAt_cell oQ 9 rfl
  have y10 := objAt_cell oQ 10 rfl
  have y11 := objAt_cell oQ 11 rfl
  have y12 := objAt_cell oQ 12 rfl
  have y13 := objAt_cell oQ 13 rfl
  have OQ := Lib.hid oQ
  have BA := Lib.hid bA
  have HX := Lib.hid h
  clear oQ bA hT h hv hq
  go_enter Tryz.func51, Tryz.ntmps51
  go_wp2_with fail
  refine HQ.out.mono ?_
  rintro e w1 ⟨rfl, b1⟩
  have oQ1 := objAt_next OQ.out b1
  have B1 := below_trans BA.out b1 BA.out.size
  have hX1 := txAt_next HX.out B1
  clear y0 y1 y2 y3 y4 y5 y6 y7 y8 y9 y10 y11 y12 y13
  have y0 := objAt_cell oQ1 0 rfl
  have y1 := objAt_cell oQ1 1 rfl
  have y2 := objAt_cell oQ1 2 rfl
  have y3 := objAt_cell oQ1 3 rfl
  have y4 := objAt_cell oQ1 4 rfl
  have y5 := objAt_cell oQ1 5 rfl
  have y6 := objAt_cell oQ1 6 rfl
  have y7 := objAt_cell oQ1 7 rfl
  have y8 := objAt_cell oQ1 8 rfl
  have y9 := objAt_cell oQ1 9 rfl
  have y10 := objAt_cell oQ1 10 rfl
  have y11 := objAt_cell oQ1 11 rfl
  have y12 := objAt_cell oQ1 12 rfl
  have y13 := objAt_cell oQ1 13 rfl
  have ql := objAt_lt oQ1
  have C1 := m4_is v HV.out j n l nm N c w1 hX1
  obtain ⟨R, hR⟩ : ∃ R, opR V8 v.s v.now (⟨4, j, n, l, nm, N⟩ : ReqD) = R := ⟨_, rfl⟩
  rw [hR] at C1
  obtain ⟨t, z⟩ := R
  have C1 := Lib.hid C1
  have BB := Lib.hid B1
  have HR := Lib.hid hR
  clear oQ1 B1 hX1 b1 hR
  go_wp2_with fail
  refine C1.out.mono ?_
  rintro e w2 ⟨rfl, t2, g2⟩
  have T2 := Lib.hid t2
  have G2 := Lib.hid (g2_trans (gN_of_below BB.out) g2)
  clear t2 g2 y0 y1 y2 y3 y4 y5 y6 y7 y8 y9 y10 y11 y12 y13
  go_wp2
  go_ret
  rw [HR.out]
  exact ⟨rfl, T2.out, G2.out⟩
set_option maxRecDepth 100000 in
set_option maxHeartbeats 4000000 in
theorem run5_is (v : SvD) (hv : checkE V8 v.s = 0) (_hnow : 0 ≤ v.now ∧ v.now ≤ 1099511627776) (j : JobD) (n : NodeD) (l : LeaseD) (nm : ByteArray) (N : Int) (hwq : wReq (⟨5, j, n, l, nm, N⟩ : ReqD)) (hq : qcheckE V8 (⟨5, j, n, l, nm, N⟩ : ReqD) = 0) (c : Nat) (w : World) (hT : Tabs w) (h : TxAt c v w) :
    Calls Tryz.prog 51 #[.pointer (some ⟨c, 0, none⟩), .agg #[.int .i64 5, .string j.name, .int .i64 j.prio, .int .i64 j.need, .int .i64 j.tries, .string j.tag, .string n.name, .int .i64 n.room, .string n.zone, .string l.job, .string l.node, .int .i64 l.til, .string nm, .int .i64 N]] w (OpPost c (opR V8 v.s v.now (⟨5, j, n, l, nm, N⟩ : ReqD)) w) := by
  obtain ⟨W, hW⟩ : ∃ W, w.alloc (.cells #[.int .i64 5, .string j.name, .int .i64 j.prio, .int .i64 j.need, .int .i64 j.tries, .string j.tag, .string n.name, .int .i64 n.room, .string n.zone, .string l.job, .string l.node, .int .i64 l.til, .string nm, .int .i64 N] 44) = W := ⟨_, rfl⟩
  have bA := below_one w (.cells #[.int .i64 5, .string j.name, .int .i64 j.prio, .int .i64 j.need, .int .i64 j.tries, .string j.tag, .string n.name, .int .i64 n.room, .string n.zone, .string l.job, .string l.node, .int .i64 l.til, .string nm, .int .i64 N] 44)
  have oQ := objAt_new w #[.int .i64 5, .string j.name, .int .i64 j.prio, .int .i64 j.need, .int .i64 j.tries, .string j.tag, .string n.name, .int .i64 n.room, .string n.zone, .string l.job, .string l.node, .int .i64 l.til, .string nm, .int .i64 N] 44
  rw [hW] at bA oQ
  have HQ := qcheck_any (⟨5, j, n, l, nm, N⟩ : ReqD) hwq W (fun _ => hT.below bA)
  rw [hq] at HQ
  simp only at HQ
  have HQ := Lib.hid HQ
  have HT := Lib.hid hT
  have HV := Lib.hid hv
  have y0 := objAt_cell oQ 0 rfl
  have y1 := objAt_cell oQ 1 rfl
  have y2 := objAt_cell oQ 2 rfl
  have y3 := objAt_cell oQ 3 rfl
  have y4 := objAt_cell oQ 4 rfl
  have y5 := objAt_cell oQ 5 rfl
  have y6 := objAt_cell oQ 6 rfl
  have y7 := objAt_cell oQ 7 rfl
  have y8 := objAt_cell oQ 8 rfl
  have y9 := objAt_cell oQ 9 rfl
  have y10 := objAt_cell oQ 10 rfl
  have y11 := objAt_cell oQ 11 rfl
  have y12 := objAt_cell oQ 12 rfl
  have y13 := objAt_cell oQ 13 rfl
  have OQ := Lib.hid oQ
  have BA := Lib.hid bA
  have HX := Lib.hid h
  have hwl : wLease l := hwq.2.2.2.1
  clear oQ bA hT h hv hq
  go_enter Tryz.func51, Tryz.ntmps51
  go_wp2_with fail
  refine HQ.out.mono ?_
  rintro e w1 ⟨rfl, b1⟩
  have oQ1 := objAt_next OQ.out b1
  have B1 := below_trans BA.out b1 BA.out.size
  have hX1 := txAt_next HX.out B1
  clear y0 y1 y2 y3 y4 y5 y6 y7 y8 y9 y10 y11 y12 y13
  have y0 := objAt_cell oQ1 0 rfl
  have y1 := objAt_cell oQ1 1 rfl
  have y2 := objAt_cell oQ1 2 rfl
  have y3 := objAt_cell oQ1 3 rfl
  have y4 := objAt_cell oQ1 4 rfl
  have y5 := objAt_cell oQ1 5 rfl
  have y6 := objAt_cell oQ1 6 rfl
  have y7 := objAt_cell oQ1 7 rfl
  have y8 := objAt_cell oQ1 8 rfl
  have y9 := objAt_cell oQ1 9 rfl
  have y10 := objAt_cell oQ1 10 rfl
  have y11 := objAt_cell oQ1 11 rfl
  have y12 := objAt_cell oQ1 12 rfl
  have y13 := objAt_cell oQ1 13 rfl
  have ql := objAt_lt oQ1
  have C1 := m5_is v HV.out j n l nm N c w1 hwl (HT.out.below B1) hX1
  obtain ⟨R, hR⟩ : ∃ R, opR V8 v.s v.now (⟨5, j, n, l, nm, N⟩ : ReqD) = R := ⟨_, rfl⟩
  rw [hR] at C1
  obtain ⟨t, z⟩ := R
  have C1 := Lib.hid C1
  have BB := Lib.hid B1
  have HR := Lib.hid hR
  clear oQ1 B1 hX1 b1 hR
  go_wp2_with fail
  refine C1.out.mono ?_
  rintro e w2 ⟨rfl, t2, g2⟩
  have T2 := Lib.hid t2
  have G2 := Lib.hid (g2_trans (gN_of_below BB.out) g2)
  clear t2 g2 y0 y1 y2 y3 y4 y5 y6 y7 y8 y9 y10 y11 y12 y13
  go_wp2
  go_ret
  rw [HR.out]
  exact ⟨rfl, T2.out, G2.out⟩
set_option maxRecDepth 100000 in
set_option maxHeartbeats 4000000 in
theorem run6_is (v : SvD) (hv : checkE V8 v.s = 0) (_hnow : 0 ≤ v.now ∧ v.now ≤ 1099511627776) (j : JobD) (n : NodeD) (l : LeaseD) (nm : ByteArray) (N : Int) (hwq : wReq (⟨6, j, n, l, nm, N⟩ : ReqD)) (hq : qcheckE V8 (⟨6, j, n, l, nm, N⟩ : ReqD) = 0) (c : Nat) (w : World) (hT : Tabs w) (h : TxAt c v w) :
    Calls Tryz.prog 51 #[.pointer (some ⟨c, 0, none⟩), .agg #[.int .i64 6, .string j.name, .int .i64 j.prio, .int .i64 j.need, .int .i64 j.tries, .string j.tag, .string n.name, .int .i64 n.room, .string n.zone, .string l.job, .string l.node, .int .i64 l.til, .string nm, .int .i64 N]] w (OpPost c (opR V8 v.s v.now (⟨6, j, n, l, nm, N⟩ : ReqD)) w) := by
  obtain ⟨W, hW⟩ : ∃ W, w.alloc (.cells #[.int .i64 6, .string j.name, .int .i64 j.prio, .int .i64 j.need, .int .i64 j.tries, .string j.tag, .string n.name, .int .i64 n.room, .string n.zone, .string l.job, .string l.node, .int .i64 l.til, .string nm, .int .i64 N] 44) = W := ⟨_, rfl⟩
  have bA := below_one w (.cells #[.int .i64 6, .string j.name, .int .i64 j.prio, .int .i64 j.need, .int .i64 j.tries, .string j.tag, .string n.name, .int .i64 n.room, .string n.zone, .string l.job, .string l.node, .int .i64 l.til, .string nm, .int .i64 N] 44)
  have oQ := objAt_new w #[.int .i64 6, .string j.name, .int .i64 j.prio, .int .i64 j.need, .int .i64 j.tries, .string j.tag, .string n.name, .int .i64 n.room, .string n.zone, .string l.job, .string l.node, .int .i64 l.til, .string nm, .int .i64 N] 44
  rw [hW] at bA oQ
  have HQ := qcheck_any (⟨6, j, n, l, nm, N⟩ : ReqD) hwq W (fun _ => hT.below bA)
  rw [hq] at HQ
  simp only at HQ
  have HQ := Lib.hid HQ
  have HT := Lib.hid hT
  have HV := Lib.hid hv
  have y0 := objAt_cell oQ 0 rfl
  have y1 := objAt_cell oQ 1 rfl
  have y2 := objAt_cell oQ 2 rfl
  have y3 := objAt_cell oQ 3 rfl
  have y4 := objAt_cell oQ 4 rfl
  have y5 := objAt_cell oQ 5 rfl
  have y6 := objAt_cell oQ 6 rfl
  have y7 := objAt_cell oQ 7 rfl
  have y8 := objAt_cell oQ 8 rfl
  have y9 := objAt_cell oQ 9 rfl
  have y10 := objAt_cell oQ 10 rfl
  have y11 := objAt_cell oQ 11 rfl
  have y12 := objAt_cell oQ 12 rfl
  have y13 := objAt_cell oQ 13 rfl
  have OQ := Lib.hid oQ
  have BA := Lib.hid bA
  have HX := Lib.hid h
  clear oQ bA hT h hv hq
  go_enter Tryz.func51, Tryz.ntmps51
  go_wp2_with fail
  refine HQ.out.mono ?_
  rintro e w1 ⟨rfl, b1⟩
  have oQ1 := objAt_next OQ.out b1
  have B1 := below_trans BA.out b1 BA.out.size
  have hX1 := txAt_next HX.out B1
  clear y0 y1 y2 y3 y4 y5 y6 y7 y8 y9 y10 y11 y12 y13
  have y0 := objAt_cell oQ1 0 rfl
  have y1 := objAt_cell oQ1 1 rfl
  have y2 := objAt_cell oQ1 2 rfl
  have y3 := objAt_cell oQ1 3 rfl
  have y4 := objAt_cell oQ1 4 rfl
  have y5 := objAt_cell oQ1 5 rfl
  have y6 := objAt_cell oQ1 6 rfl
  have y7 := objAt_cell oQ1 7 rfl
  have y8 := objAt_cell oQ1 8 rfl
  have y9 := objAt_cell oQ1 9 rfl
  have y10 := objAt_cell oQ1 10 rfl
  have y11 := objAt_cell oQ1 11 rfl
  have y12 := objAt_cell oQ1 12 rfl
  have y13 := objAt_cell oQ1 13 rfl
  have ql := objAt_lt oQ1
  have C1 := m6_is v HV.out j n l nm N c w1 hX1
  obtain ⟨R, hR⟩ : ∃ R, opR V8 v.s v.now (⟨6, j, n, l, nm, N⟩ : ReqD) = R := ⟨_, rfl⟩
  rw [hR] at C1
  obtain ⟨t, z⟩ := R
  have C1 := Lib.hid C1
  have BB := Lib.hid B1
  have HR := Lib.hid hR
  clear oQ1 B1 hX1 b1 hR
  go_wp2_with fail
  refine C1.out.mono ?_
  rintro e w2 ⟨rfl, t2, g2⟩
  have T2 := Lib.hid t2
  have G2 := Lib.hid (g2_trans (gN_of_below BB.out) g2)
  clear t2 g2 y0 y1 y2 y3 y4 y5 y6 y7 y8 y9 y10 y11 y12 y13
  go_wp2
  go_ret
  rw [HR.out]
  exact ⟨rfl, T2.out, G2.out⟩
set_option maxRecDepth 100000 in
set_option maxHeartbeats 4000000 in
theorem run7_is (v : SvD) (hv : checkE V8 v.s = 0) (hnow : 0 ≤ v.now ∧ v.now ≤ 1099511627776) (j : JobD) (n : NodeD) (l : LeaseD) (nm : ByteArray) (N : Int) (hwq : wReq (⟨7, j, n, l, nm, N⟩ : ReqD)) (hq : qcheckE V8 (⟨7, j, n, l, nm, N⟩ : ReqD) = 0) (c : Nat) (w : World) (hT : Tabs w) (h : TxAt c v w) :
    Calls Tryz.prog 51 #[.pointer (some ⟨c, 0, none⟩), .agg #[.int .i64 7, .string j.name, .int .i64 j.prio, .int .i64 j.need, .int .i64 j.tries, .string j.tag, .string n.name, .int .i64 n.room, .string n.zone, .string l.job, .string l.node, .int .i64 l.til, .string nm, .int .i64 N]] w (OpPost c (opR V8 v.s v.now (⟨7, j, n, l, nm, N⟩ : ReqD)) w) := by
  obtain ⟨W, hW⟩ : ∃ W, w.alloc (.cells #[.int .i64 7, .string j.name, .int .i64 j.prio, .int .i64 j.need, .int .i64 j.tries, .string j.tag, .string n.name, .int .i64 n.room, .string n.zone, .string l.job, .string l.node, .int .i64 l.til, .string nm, .int .i64 N] 44) = W := ⟨_, rfl⟩
  have bA := below_one w (.cells #[.int .i64 7, .string j.name, .int .i64 j.prio, .int .i64 j.need, .int .i64 j.tries, .string j.tag, .string n.name, .int .i64 n.room, .string n.zone, .string l.job, .string l.node, .int .i64 l.til, .string nm, .int .i64 N] 44)
  have oQ := objAt_new w #[.int .i64 7, .string j.name, .int .i64 j.prio, .int .i64 j.need, .int .i64 j.tries, .string j.tag, .string n.name, .int .i64 n.room, .string n.zone, .string l.job, .string l.node, .int .i64 l.til, .string nm, .int .i64 N] 44
  rw [hW] at bA oQ
  have HQ := qcheck_any (⟨7, j, n, l, nm, N⟩ : ReqD) hwq W (fun _ => hT.below bA)
  rw [hq] at HQ
  simp only at HQ
  have HQ := Lib.hid HQ
  have HT := Lib.hid hT
  have HV := Lib.hid hv
  have y0 := objAt_cell oQ 0 rfl
  have y1 := objAt_cell oQ 1 rfl
  have y2 := objAt_cell oQ 2 rfl
  have y3 := objAt_cell oQ 3 rfl
  have y4 := objAt_cell oQ 4 rfl
  have y5 := objAt_cell oQ 5 rfl
  have y6 := objAt_cell oQ 6 rfl
  have y7 := objAt_cell oQ 7 rfl
  have y8 := objAt_cell oQ 8 rfl
  have y9 := objAt_cell oQ 9 rfl
  have y10 := objAt_cell oQ 10 rfl
  have y11 := objAt_cell oQ 11 rfl
  have y12 := objAt_cell oQ 12 rfl
  have y13 := objAt_cell oQ 13 rfl
  have OQ := Lib.hid oQ
  have BA := Lib.hid bA
  have HX := Lib.hid h
  have hN : 0 ≤ N ∧ N ≤ 1099511627776 := by
    have z := ((qcheck_zero V8 (⟨7, j, n, l, nm, N⟩ : ReqD)).1 hq).2.2
    have z : (if inR N 0 1099511627776 = true then 0 else 1) = 0 := z
    by_cases c : inR N 0 1099511627776 = true
    · exact (inR_iff _ _ _).1 c
    · rw [if_neg c] at z; cases z
  clear oQ bA hT h hv hq
  go_enter Tryz.func51, Tryz.ntmps51
  go_wp2_with fail
  refine HQ.out.mono ?_
  rintro e w1 ⟨rfl, b1⟩
  have oQ1 := objAt_next OQ.out b1
  have B1 := below_trans BA.out b1 BA.out.size
  have hX1 := txAt_next HX.out B1
  clear y0 y1 y2 y3 y4 y5 y6 y7 y8 y9 y10 y11 y12 y13
  have y0 := objAt_cell oQ1 0 rfl
  have y1 := objAt_cell oQ1 1 rfl
  have y2 := objAt_cell oQ1 2 rfl
  have y3 := objAt_cell oQ1 3 rfl
  have y4 := objAt_cell oQ1 4 rfl
  have y5 := objAt_cell oQ1 5 rfl
  have y6 := objAt_cell oQ1 6 rfl
  have y7 := objAt_cell oQ1 7 rfl
  have y8 := objAt_cell oQ1 8 rfl
  have y9 := objAt_cell oQ1 9 rfl
  have y10 := objAt_cell oQ1 10 rfl
  have y11 := objAt_cell oQ1 11 rfl
  have y12 := objAt_cell oQ1 12 rfl
  have y13 := objAt_cell oQ1 13 rfl
  have ql := objAt_lt oQ1
  have C1 := m7_is v HV.out j n l nm N c w1 hN hnow hX1
  obtain ⟨R, hR⟩ : ∃ R, opR V8 v.s v.now (⟨7, j, n, l, nm, N⟩ : ReqD) = R := ⟨_, rfl⟩
  rw [hR] at C1
  obtain ⟨t, z⟩ := R
  have C1 := Lib.hid C1
  have BB := Lib.hid B1
  have HR := Lib.hid hR
  clear oQ1 B1 hX1 b1 hR
  go_wp2_with fail
  refine C1.out.mono ?_
  rintro e w2 ⟨rfl, t2, g2⟩
  have T2 := Lib.hid t2
  have G2 := Lib.hid (g2_trans (gN_of_below BB.out) g2)
  clear t2 g2 y0 y1 y2 y3 y4 y5 y6 y7 y8 y9 y10 y11 y12 y13
  go_wp2
  go_ret
  rw [HR.out]
  exact ⟨rfl, T2.out, G2.out⟩
set_option maxRecDepth 100000 in
set_option maxHeartbeats 4000000 in
theorem run8_is (v : SvD) (hv : checkE V8 v.s = 0) (_hnow : 0 ≤ v.now ∧ v.now ≤ 1099511627776) (j : JobD) (n : NodeD) (l : LeaseD) (nm : ByteArray) (N : Int) (hwq : wReq (⟨8, j, n, l, nm, N⟩ : ReqD)) (hq : qcheckE V8 (⟨8, j, n, l, nm, N⟩ : ReqD) = 0) (c : Nat) (w : World) (hT : Tabs w) (h : TxAt c v w) :
    Calls Tryz.prog 51 #[.pointer (some ⟨c, 0, none⟩), .agg #[.int .i64 8, .string j.name, .int .i64 j.prio, .int .i64 j.need, .int .i64 j.tries, .string j.tag, .string n.name, .int .i64 n.room, .string n.zone, .string l.job, .string l.node, .int .i64 l.til, .string nm, .int .i64 N]] w (OpPost c (opR V8 v.s v.now (⟨8, j, n, l, nm, N⟩ : ReqD)) w) := by
  obtain ⟨W, hW⟩ : ∃ W, w.alloc (.cells #[.int .i64 8, .string j.name, .int .i64 j.prio, .int .i64 j.need, .int .i64 j.tries, .string j.tag, .string n.name, .int .i64 n.room, .string n.zone, .string l.job, .string l.node, .int .i64 l.til, .string nm, .int .i64 N] 44) = W := ⟨_, rfl⟩
  have bA := below_one w (.cells #[.int .i64 8, .string j.name, .int .i64 j.prio, .int .i64 j.need, .int .i64 j.tries, .string j.tag, .string n.name, .int .i64 n.room, .string n.zone, .string l.job, .string l.node, .int .i64 l.til, .string nm, .int .i64 N] 44)
  have oQ := objAt_new w #[.int .i64 8, .string j.name, .int .i64 j.prio, .int .i64 j.need, .int .i64 j.tries, .string j.tag, .string n.name, .int .i64 n.room, .string n.zone, .string l.job, .string l.node, .int .i64 l.til, .string nm, .int .i64 N] 44
  rw [hW] at bA oQ
  have HQ := qcheck_any (⟨8, j, n, l, nm, N⟩ : ReqD) hwq W (fun _ => hT.below bA)
  rw [hq] at HQ
  simp only at HQ
  have HQ := Lib.hid HQ
  have HT := Lib.hid hT
  have HV := Lib.hid hv
  have y0 := objAt_cell oQ 0 rfl
  have y1 := objAt_cell oQ 1 rfl
  have y2 := objAt_cell oQ 2 rfl
  have y3 := objAt_cell oQ 3 rfl
  have y4 := objAt_cell oQ 4 rfl
  have y5 := objAt_cell oQ 5 rfl
  have y6 := objAt_cell oQ 6 rfl
  have y7 := objAt_cell oQ 7 rfl
  have y8 := objAt_cell oQ 8 rfl
  have y9 := objAt_cell oQ 9 rfl
  have y10 := objAt_cell oQ 10 rfl
  have y11 := objAt_cell oQ 11 rfl
  have y12 := objAt_cell oQ 12 rfl
  have y13 := objAt_cell oQ 13 rfl
  have OQ := Lib.hid oQ
  have BA := Lib.hid bA
  have HX := Lib.hid h
  clear oQ bA hT h hv hq
  go_enter Tryz.func51, Tryz.ntmps51
  go_wp2_with fail
  refine HQ.out.mono ?_
  rintro e w1 ⟨rfl, b1⟩
  have oQ1 := objAt_next OQ.out b1
  have B1 := below_trans BA.out b1 BA.out.size
  have hX1 := txAt_next HX.out B1
  clear y0 y1 y2 y3 y4 y5 y6 y7 y8 y9 y10 y11 y12 y13
  have y0 := objAt_cell oQ1 0 rfl
  have y1 := objAt_cell oQ1 1 rfl
  have y2 := objAt_cell oQ1 2 rfl
  have y3 := objAt_cell oQ1 3 rfl
  have y4 := objAt_cell oQ1 4 rfl
  have y5 := objAt_cell oQ1 5 rfl
  have y6 := objAt_cell oQ1 6 rfl
  have y7 := objAt_cell oQ1 7 rfl
  have y8 := objAt_cell oQ1 8 rfl
  have y9 := objAt_cell oQ1 9 rfl
  have y10 := objAt_cell oQ1 10 rfl
  have y11 := objAt_cell oQ1 11 rfl
  have y12 := objAt_cell oQ1 12 rfl
  have y13 := objAt_cell oQ1 13 rfl
  have ql := objAt_lt oQ1
  have BB := Lib.hid B1
  have HX1 := Lib.hid hX1
  clear oQ1 B1 hX1 b1
  go_wp2
  go_ret
  rw [opR_8 (q := (⟨8, j, n, l, nm, N⟩ : ReqD)) (by show (8 : Int) ≤ 8; decide)]
  exact ⟨rfl, fun _ => HX1.out, gN_of_below BB.out⟩
set_option maxRecDepth 100000 in
set_option maxHeartbeats 4000000 in
theorem run9_is (v : SvD) (hv : checkE V8 v.s = 0) (_hnow : 0 ≤ v.now ∧ v.now ≤ 1099511627776) (j : JobD) (n : NodeD) (l : LeaseD) (nm : ByteArray) (N : Int) (hwq : wReq (⟨9, j, n, l, nm, N⟩ : ReqD)) (hq : qcheckE V8 (⟨9, j, n, l, nm, N⟩ : ReqD) = 0) (c : Nat) (w : World) (hT : Tabs w) (h : TxAt c v w) :
    Calls Tryz.prog 51 #[.pointer (some ⟨c, 0, none⟩), .agg #[.int .i64 9, .string j.name, .int .i64 j.prio, .int .i64 j.need, .int .i64 j.tries, .string j.tag, .string n.name, .int .i64 n.room, .string n.zone, .string l.job, .string l.node, .int .i64 l.til, .string nm, .int .i64 N]] w (OpPost c (opR V8 v.s v.now (⟨9, j, n, l, nm, N⟩ : ReqD)) w) := by
  obtain ⟨W, hW⟩ : ∃ W, w.alloc (.cells #[.int .i64 9, .string j.name, .int .i64 j.prio, .int .i64 j.need, .int .i64 j.tries, .string j.tag, .string n.name, .int .i64 n.room, .string n.zone, .string l.job, .string l.node, .int .i64 l.til, .string nm, .int .i64 N] 44) = W := ⟨_, rfl⟩
  have bA := below_one w (.cells #[.int .i64 9, .string j.name, .int .i64 j.prio, .int .i64 j.need, .int .i64 j.tries, .string j.tag, .string n.name, .int .i64 n.room, .string n.zone, .string l.job, .string l.node, .int .i64 l.til, .string nm, .int .i64 N] 44)
  have oQ := objAt_new w #[.int .i64 9, .string j.name, .int .i64 j.prio, .int .i64 j.need, .int .i64 j.tries, .string j.tag, .string n.name, .int .i64 n.room, .string n.zone, .string l.job, .string l.node, .int .i64 l.til, .string nm, .int .i64 N] 44
  rw [hW] at bA oQ
  have HQ := qcheck_any (⟨9, j, n, l, nm, N⟩ : ReqD) hwq W (fun _ => hT.below bA)
  rw [hq] at HQ
  simp only at HQ
  have HQ := Lib.hid HQ
  have HT := Lib.hid hT
  have HV := Lib.hid hv
  have y0 := objAt_cell oQ 0 rfl
  have y1 := objAt_cell oQ 1 rfl
  have y2 := objAt_cell oQ 2 rfl
  have y3 := objAt_cell oQ 3 rfl
  have y4 := objAt_cell oQ 4 rfl
  have y5 := objAt_cell oQ 5 rfl
  have y6 := objAt_cell oQ 6 rfl
  have y7 := objAt_cell oQ 7 rfl
  have y8 := objAt_cell oQ 8 rfl
  have y9 := objAt_cell oQ 9 rfl
  have y10 := objAt_cell oQ 10 rfl
  have y11 := objAt_cell oQ 11 rfl
  have y12 := objAt_cell oQ 12 rfl
  have y13 := objAt_cell oQ 13 rfl
  have OQ := Lib.hid oQ
  have BA := Lib.hid bA
  have HX := Lib.hid h
  clear oQ bA hT h hv hq
  go_enter Tryz.func51, Tryz.ntmps51
  go_wp2_with fail
  refine HQ.out.mono ?_
  rintro e w1 ⟨rfl, b1⟩
  have oQ1 := objAt_next OQ.out b1
  have B1 := below_trans BA.out b1 BA.out.size
  have hX1 := txAt_next HX.out B1
  clear y0 y1 y2 y3 y4 y5 y6 y7 y8 y9 y10 y11 y12 y13
  have y0 := objAt_cell oQ1 0 rfl
  have y1 := objAt_cell oQ1 1 rfl
  have y2 := objAt_cell oQ1 2 rfl
  have y3 := objAt_cell oQ1 3 rfl
  have y4 := objAt_cell oQ1 4 rfl
  have y5 := objAt_cell oQ1 5 rfl
  have y6 := objAt_cell oQ1 6 rfl
  have y7 := objAt_cell oQ1 7 rfl
  have y8 := objAt_cell oQ1 8 rfl
  have y9 := objAt_cell oQ1 9 rfl
  have y10 := objAt_cell oQ1 10 rfl
  have y11 := objAt_cell oQ1 11 rfl
  have y12 := objAt_cell oQ1 12 rfl
  have y13 := objAt_cell oQ1 13 rfl
  have ql := objAt_lt oQ1
  have BB := Lib.hid B1
  have HX1 := Lib.hid hX1
  clear oQ1 B1 hX1 b1
  go_wp2
  go_ret
  rw [opR_8 (q := (⟨9, j, n, l, nm, N⟩ : ReqD)) (by show (8 : Int) ≤ 9; decide)]
  exact ⟨rfl, fun _ => HX1.out, gN_of_below BB.out⟩
set_option maxRecDepth 100000 in
set_option maxHeartbeats 4000000 in
theorem run1_is (v : SvD) (hv : checkE V8 v.s = 0) (_hnow : 0 ≤ v.now ∧ v.now ≤ 1099511627776) (j : JobD) (n : NodeD) (l : LeaseD) (nm : ByteArray) (N : Int) (hwq : wReq (⟨1, j, n, l, nm, N⟩ : ReqD)) (hq : qcheckE V8 (⟨1, j, n, l, nm, N⟩ : ReqD) = 0) (c : Nat) (w : World) (hT : Tabs w) (h : TxAt c v w) :
    Calls Tryz.prog 51 #[.pointer (some ⟨c, 0, none⟩), .agg #[.int .i64 1, .string j.name, .int .i64 j.prio, .int .i64 j.need, .int .i64 j.tries, .string j.tag, .string n.name, .int .i64 n.room, .string n.zone, .string l.job, .string l.node, .int .i64 l.til, .string nm, .int .i64 N]] w (OpPost c (opR V8 v.s v.now (⟨1, j, n, l, nm, N⟩ : ReqD)) w) := by
  obtain ⟨W, hW⟩ : ∃ W, w.alloc (.cells #[.int .i64 1, .string j.name, .int .i64 j.prio, .int .i64 j.need, .int .i64 j.tries, .string j.tag, .string n.name, .int .i64 n.room, .string n.zone, .string l.job, .string l.node, .int .i64 l.til, .string nm, .int .i64 N] 44) = W := ⟨_, rfl⟩
  have bA := below_one w (.cells #[.int .i64 1, .string j.name, .int .i64 j.prio, .int .i64 j.need, .int .i64 j.tries, .string j.tag, .string n.name, .int .i64 n.room, .string n.zone, .string l.job, .string l.node, .int .i64 l.til, .string nm, .int .i64 N] 44)
  have oQ := objAt_new w #[.int .i64 1, .string j.name, .int .i64 j.prio, .int .i64 j.need, .int .i64 j.tries, .string j.tag, .string n.name, .int .i64 n.room, .string n.zone, .string l.job, .string l.node, .int .i64 l.til, .string nm, .int .i64 N] 44
  rw [hW] at bA oQ
  have HQ := qcheck_any (⟨1, j, n, l, nm, N⟩ : ReqD) hwq W (fun _ => hT.below bA)
  rw [hq] at HQ
  simp only at HQ
  have HQ := Lib.hid HQ
  have HT := Lib.hid hT
  have HV := Lib.hid hv
  have y0 := objAt_cell oQ 0 rfl
  have y1 := objAt_cell oQ 1 rfl
  have y2 := objAt_cell oQ 2 rfl
  have y3 := objAt_cell oQ 3 rfl
  have y4 := objAt_cell oQ 4 rfl
  have y5 := objAt_cell oQ 5 rfl
  have y6 := objAt_cell oQ 6 rfl
  have y7 := objAt_cell oQ 7 rfl
  have y8 := objAt_cell oQ 8 rfl
  have y9 := objAt_cell oQ 9 rfl
  have y10 := objAt_cell oQ 10 rfl
  have y11 := objAt_cell oQ 11 rfl
  have y12 := objAt_cell oQ 12 rfl
  have y13 := objAt_cell oQ 13 rfl
  have OQ := Lib.hid oQ
  have BA := Lib.hid bA
  have HX := Lib.hid h
  have hwx := hwq.2.1
  have hws := wState_putJ hv hwx
  obtain ⟨⟨ha1, ha2, _⟩, ⟨hl1, hl2, _⟩, _⟩ := valid_facts hv
  have HWS := Lib.hid hws
  have HA1 := Lib.hid ha1
  have HA2 := Lib.hid ha2
  clear ha1 ha2 hws
  clear oQ bA hT h hv hq
  go_enter Tryz.func51, Tryz.ntmps51
  go_wp2_with fail
  refine HQ.out.mono ?_
  rintro e w1 ⟨rfl, b1⟩
  have oQ1 := objAt_next OQ.out b1
  have B1 := below_trans BA.out b1 BA.out.size
  have hX1 := txAt_next HX.out B1
  clear y0 y1 y2 y3 y4 y5 y6 y7 y8 y9 y10 y11 y12 y13
  have y0 := objAt_cell oQ1 0 rfl
  have y1 := objAt_cell oQ1 1 rfl
  have y2 := objAt_cell oQ1 2 rfl
  have y3 := objAt_cell oQ1 3 rfl
  have y4 := objAt_cell oQ1 4 rfl
  have y5 := objAt_cell oQ1 5 rfl
  have y6 := objAt_cell oQ1 6 rfl
  have y7 := objAt_cell oQ1 7 rfl
  have y8 := objAt_cell oQ1 8 rfl
  have y9 := objAt_cell oQ1 9 rfl
  have y10 := objAt_cell oQ1 10 rfl
  have y11 := objAt_cell oQ1 11 rfl
  have y12 := objAt_cell oQ1 12 rfl
  have y13 := objAt_cell oQ1 13 rfl
  have ql := objAt_lt oQ1
  obtain ⟨aj, an, al, cj, cn, cl, oT1, xT1⟩ := hX1
  unfold svC at oT1
  have hcap := own_caps xT1.1
  have k1 := objAt_cell oT1 1 rfl
  have lT := objAt_lt oT1
  obtain ⟨J, hJ⟩ : ∃ J, putL (fun z : JobD => z.name) j v.s.jobs = J := ⟨_, rfl⟩
  have C1 := svInsJob_is v.s.jobs HA1.out j aj cj (by omega) hcap w1.drew (jobsAt_next (ownS_at xT1).1 (Below.refl _ _).drew)
  rw [hJ] at C1
  have C1 := Lib.hid C1
  have d1 : Below w1.heap.size w1 w1.drew := (Below.refl _ _).drew
  have OT := Lib.hid (objAt_next oT1 d1)
  have XT := Lib.hid (ownS_next xT1 d1)
  have BB := Lib.hid (below_trans B1 d1 B1.size)
  have HJ := Lib.hid hJ
  have hTw : Hid (TxAt c v w) := HX.out
  clear oQ1 B1 b1 oT1 xT1 d1 hJ
  go_wp2_with fail
  go_region_law (first | (go_simp; go_at_call 82; (with_reducible refine C1.out.mono ?_); rintro e u6 ⟨rad, rcap, rfl, rown, rb⟩; have kc := objAt_cell (objAt_next OT.out rb) 1 rfl; have fc := objAt_free (objAt_next OT.out rb) 1; have lc := objAt_lt (objAt_next OT.out rb)))
  all_goals
    have oT8 := objAt_next OT.out rb
    have xT8 := ownS_next XT.out rb
    obtain ⟨V, hV⟩ : ∃ V, u6.setCell ⟨c, 1, none⟩ (.slice rad J.length rcap) = V := ⟨_, rfl⟩
    have oV : ObjAt c #[.int .i64 v.s.rev, .slice rad J.length rcap, .slice an v.s.nodes.length cn, .slice al v.s.leases.length cl, .int .i64 v.now] 96 V := by rw [← hV]; exact objAt_set oT8 1 _
    have xV : OwnS 0 rad an al rcap cn cl ⟨v.s.rev, J, v.s.nodes, v.s.leases⟩ V := by rw [← hV]; exact ⟨own_box (own_is rown) oT8 rowT_tx.1 1 _, own_box xT8.2.1 oT8 rowT_tx.2.1 1 _, own_box xT8.2.2 oT8 rowT_tx.2.2 1 _⟩
    have gV : w.grownBy V (some c) := by rw [← hV]; exact gN_set (gN_next (gN_of_below BB.out) rb) _ _
    have hgr : putJ j v.s = ⟨v.s.rev, J, v.s.nodes, v.s.leases⟩ := by unfold putJ; rw [HJ.out]
    have hws : wState ⟨v.s.rev, J, v.s.nodes, v.s.leases⟩ := by rw [← hgr]; exact HWS.out
    have hTV : Tabs V := by obtain ⟨_, _, _, _, _, _, o0, _⟩ := hTw.out; exact tabs_gN HT.out o0 rfl gV
    have C16 := check_any v.s.rev rad an al rcap cn cl J v.s.nodes v.s.leases hws V hTV (ownS_at xV).1 (ownS_at xV).2.1 (ownS_at xV).2.2
    rw [← hgr] at C16
    obtain ⟨z, hz⟩ : ∃ z : Nat, checkE V8 (putJ j v.s) = z := ⟨_, rfl⟩
    rw [hz] at C16
    have C16 := Lib.hid C16
    have HZ := Lib.hid hz
    have HGR := Lib.hid hgr
    have v0 := objAt_cell oV 0 rfl
    have v1 := objAt_cell oV 1 rfl
    have v2 := objAt_cell oV 2 rfl
    have v3 := objAt_cell oV 3 rfl
    have vl := objAt_lt oV
    have OV := Lib.hid oV
    have XV := Lib.hid xV
    have GV := Lib.hid gV
    clear oT8 xT8 oV xV gV rown rb kc fc lc C1 OT XT BB hz hgr hws hTV k1 y0 y1 y2 y3 y4 y5 y6 y7 y8 y9 y10 y11 y12 y13
    go_wp2_with fail
    refine C16.out.mono ?_
    rintro e u8 ⟨rfl, b8⟩
    have G8 := Lib.hid (gN_next GV.out b8)
    have T8 : Hid (TxAt c ⟨putJ j v.s, v.now⟩ u8) := by show TxAt _ _ _; rw [HGR.out]; exact ⟨rad, an, al, rcap, cn, cl, objAt_next OV.out b8, ownS_next XV.out b8⟩
    clear b8 v0 v1 v2 v3
    go_wp2
    go_ret
    rw [opR_1 (q := (⟨1, j, n, l, nm, N⟩ : ReqD)) rfl]
    exact ⟨by show _ = Ending.returned (.int .i64 (checkE V8 (putJ j v.s) : Nat)); rw [HZ.out]; rfl, fun _ => T8.out, G8.out⟩
set_option maxRecDepth 100000 in
set_option maxHeartbeats 4000000 in
theorem run2_is (v : SvD) (hv : checkE V8 v.s = 0) (_hnow : 0 ≤ v.now ∧ v.now ≤ 1099511627776) (j : JobD) (n : NodeD) (l : LeaseD) (nm : ByteArray) (N : Int) (hwq : wReq (⟨2, j, n, l, nm, N⟩ : ReqD)) (hq : qcheckE V8 (⟨2, j, n, l, nm, N⟩ : ReqD) = 0) (c : Nat) (w : World) (hT : Tabs w) (h : TxAt c v w) :
    Calls Tryz.prog 51 #[.pointer (some ⟨c, 0, none⟩), .agg #[.int .i64 2, .string j.name, .int .i64 j.prio, .int .i64 j.need, .int .i64 j.tries, .string j.tag, .string n.name, .int .i64 n.room, .string n.zone, .string l.job, .string l.node, .int .i64 l.til, .string nm, .int .i64 N]] w (OpPost c (opR V8 v.s v.now (⟨2, j, n, l, nm, N⟩ : ReqD)) w) := by
  obtain ⟨W, hW⟩ : ∃ W, w.alloc (.cells #[.int .i64 2, .string j.name, .int .i64 j.prio, .int .i64 j.need, .int .i64 j.tries, .string j.tag, .string n.name, .int .i64 n.room, .string n.zone, .string l.job, .string l.node, .int .i64 l.til, .string nm, .int .i64 N] 44) = W := ⟨_, rfl⟩
  have bA := below_one w (.cells #[.int .i64 2, .string j.name, .int .i64 j.prio, .int .i64 j.need, .int .i64 j.tries, .string j.tag, .string n.name, .int .i64 n.room, .string n.zone, .string l.job, .string l.node, .int .i64 l.til, .string nm, .int .i64 N] 44)
  have oQ := objAt_new w #[.int .i64 2, .string j.name, .int .i64 j.prio, .int .i64 j.need, .int .i64 j.tries, .string j.tag, .string n.name, .int .i64 n.room, .string n.zone, .string l.job, .string l.node, .int .i64 l.til, .string nm, .int .i64 N] 44
  rw [hW] at bA oQ
  have HQ := qcheck_any (⟨2, j, n, l, nm, N⟩ : ReqD) hwq W (fun _ => hT.below bA)
  rw [hq] at HQ
  simp only at HQ
  have HQ := Lib.hid HQ
  have HT := Lib.hid hT
  have HV := Lib.hid hv
  have y0 := objAt_cell oQ 0 rfl
  have y1 := objAt_cell oQ 1 rfl
  have y2 := objAt_cell oQ 2 rfl
  have y3 := objAt_cell oQ 3 rfl
  have y4 := objAt_cell oQ 4 rfl
  have y5 := objAt_cell oQ 5 rfl
  have y6 := objAt_cell oQ 6 rfl
  have y7 := objAt_cell oQ 7 rfl
  have y8 := objAt_cell oQ 8 rfl
  have y9 := objAt_cell oQ 9 rfl
  have y10 := objAt_cell oQ 10 rfl
  have y11 := objAt_cell oQ 11 rfl
  have y12 := objAt_cell oQ 12 rfl
  have y13 := objAt_cell oQ 13 rfl
  have OQ := Lib.hid oQ
  have BA := Lib.hid bA
  have HX := Lib.hid h
  have hwx := hwq.2.2.1
  have hws := wState_putN hv hwx
  obtain ⟨⟨ha1, ha2, _⟩, ⟨hl1, hl2, _⟩, _⟩ := valid_facts hv
  have HWS := Lib.hid hws
  have HA1 := Lib.hid ha1
  have HA2 := Lib.hid ha2
  clear ha1 ha2 hws
  clear oQ bA hT h hv hq
  go_enter Tryz.func51, Tryz.ntmps51
  go_wp2_with fail
  refine HQ.out.mono ?_
  rintro e w1 ⟨rfl, b1⟩
  have oQ1 := objAt_next OQ.out b1
  have B1 := below_trans BA.out b1 BA.out.size
  have hX1 := txAt_next HX.out B1
  clear y0 y1 y2 y3 y4 y5 y6 y7 y8 y9 y10 y11 y12 y13
  have y0 := objAt_cell oQ1 0 rfl
  have y1 := objAt_cell oQ1 1 rfl
  have y2 := objAt_cell oQ1 2 rfl
  have y3 := objAt_cell oQ1 3 rfl
  have y4 := objAt_cell oQ1 4 rfl
  have y5 := objAt_cell oQ1 5 rfl
  have y6 := objAt_cell oQ1 6 rfl
  have y7 := objAt_cell oQ1 7 rfl
  have y8 := objAt_cell oQ1 8 rfl
  have y9 := objAt_cell oQ1 9 rfl
  have y10 := objAt_cell oQ1 10 rfl
  have y11 := objAt_cell oQ1 11 rfl
  have y12 := objAt_cell oQ1 12 rfl
  have y13 := objAt_cell oQ1 13 rfl
  have ql := objAt_lt oQ1
  obtain ⟨aj, an, al, cj, cn, cl, oT1, xT1⟩ := hX1
  unfold svC at oT1
  have hcap := own_caps xT1.2.1
  have k1 := objAt_cell oT1 2 rfl
  have lT := objAt_lt oT1
  obtain ⟨J, hJ⟩ : ∃ J, putL (fun z : NodeD => z.name) n v.s.nodes = J := ⟨_, rfl⟩
  have C1 := svInsNode_is v.s.nodes HA2.out n an cn (by omega) hcap w1.drew (nodesAt_next (ownS_at xT1).2.1 (Below.refl _ _).drew)
  rw [hJ] at C1
  have C1 := Lib.hid C1
  have d1 : Below w1.heap.size w1 w1.drew := (Below.refl _ _).drew
  have OT := Lib.hid (objAt_next oT1 d1)
  have XT := Lib.hid (ownS_next xT1 d1)
  have BB := Lib.hid (below_trans B1 d1 B1.size)
  have HJ := Lib.hid hJ
  have hTw : Hid (TxAt c v w) := HX.out
  clear oQ1 B1 b1 oT1 xT1 d1 hJ
  go_wp2_with fail
  go_region_law (first | (go_simp; go_at_call 83; (with_reducible refine C1.out.mono ?_); rintro e u6 ⟨rad, rcap, rfl, rown, rb⟩; have kc := objAt_cell (objAt_next OT.out rb) 2 rfl; have fc := objAt_free (objAt_next OT.out rb) 2; have lc := objAt_lt (objAt_next OT.out rb)))
  all_goals
    have oT8 := objAt_next OT.out rb
    have xT8 := ownS_next XT.out rb
    obtain ⟨V, hV⟩ : ∃ V, u6.setCell ⟨c, 2, none⟩ (.slice rad J.length rcap) = V := ⟨_, rfl⟩
    have oV : ObjAt c #[.int .i64 v.s.rev, .slice aj v.s.jobs.length cj, .slice rad J.length rcap, .slice al v.s.leases.length cl, .int .i64 v.now] 96 V := by rw [← hV]; exact objAt_set oT8 2 _
    have xV : OwnS 0 aj rad al cj rcap cl ⟨v.s.rev, v.s.jobs, J, v.s.leases⟩ V := by rw [← hV]; exact ⟨own_box xT8.1 oT8 rowT_tx.1 2 _, own_box (own_is rown) oT8 rowT_tx.2.1 2 _, own_box xT8.2.2 oT8 rowT_tx.2.2 2 _⟩
    have gV : w.grownBy V (some c) := by rw [← hV]; exact gN_set (gN_next (gN_of_below BB.out) rb) _ _
    have hgr : putN n v.s = ⟨v.s.rev, v.s.jobs, J, v.s.leases⟩ := by unfold putN; rw [HJ.out]
    have hws : wState ⟨v.s.rev, v.s.jobs, J, v.s.leases⟩ := by rw [← hgr]; exact HWS.out
    have hTV : Tabs V := by obtain ⟨_, _, _, _, _, _, o0, _⟩ := hTw.out; exact tabs_gN HT.out o0 rfl gV
    have C16 := check_any v.s.rev aj rad al cj rcap cl v.s.jobs J v.s.leases hws V hTV (ownS_at xV).1 (ownS_at xV).2.1 (ownS_at xV).2.2
    rw [← hgr] at C16
    obtain ⟨z, hz⟩ : ∃ z : Nat, checkE V8 (putN n v.s) = z := ⟨_, rfl⟩
    rw [hz] at C16
    have C16 := Lib.hid C16
    have HZ := Lib.hid hz
    have HGR := Lib.hid hgr
    have v0 := objAt_cell oV 0 rfl
    have v1 := objAt_cell oV 1 rfl
    have v2 := objAt_cell oV 2 rfl
    have v3 := objAt_cell oV 3 rfl
    have vl := objAt_lt oV
    have OV := Lib.hid oV
    have XV := Lib.hid xV
    have GV := Lib.hid gV
    clear oT8 xT8 oV xV gV rown rb kc fc lc C1 OT XT BB hz hgr hws hTV k1 y0 y1 y2 y3 y4 y5 y6 y7 y8 y9 y10 y11 y12 y13
    go_wp2_with fail
    refine C16.out.mono ?_
    rintro e u8 ⟨rfl, b8⟩
    have G8 := Lib.hid (gN_next GV.out b8)
    have T8 : Hid (TxAt c ⟨putN n v.s, v.now⟩ u8) := by show TxAt _ _ _; rw [HGR.out]; exact ⟨aj, rad, al, cj, rcap, cl, objAt_next OV.out b8, ownS_next XV.out b8⟩
    clear b8 v0 v1 v2 v3
    go_wp2
    go_ret
    rw [opR_2 (q := (⟨2, j, n, l, nm, N⟩ : ReqD)) rfl]
    exact ⟨by show _ = Ending.returned (.int .i64 (checkE V8 (putN n v.s) : Nat)); rw [HZ.out]; rfl, fun _ => T8.out, G8.out⟩
theorem run_any (v : SvD) (hv : checkE V8 v.s = 0) (hnow : 0 ≤ v.now ∧ v.now ≤ 1099511627776) (q : ReqD) (hwq : wReq q) (c : Nat) (w : World) (hT : Tabs w) (h : TxAt c v w) :
    Calls Tryz.prog 51 #[.pointer (some ⟨c, 0, none⟩), .agg #[.int .i64 q.kind, .string q.job.name, .int .i64 q.job.prio, .int .i64 q.job.need, .int .i64 q.job.tries, .string q.job.tag, .string q.node.name, .int .i64 q.node.room, .string q.node.zone, .string q.lease.job, .string q.lease.node, .int .i64 q.lease.til, .string q.name, .int .i64 q.n]] w (OpPost c (runR V8 v.s v.now q) w) := by
  obtain ⟨k, j, n, l, nm, N⟩ := q
  simp only
  by_cases hq : qcheckE V8 (⟨k, j, n, l, nm, N⟩ : ReqD) = 0
  · have hk := ((qcheck_zero V8 _).1 hq).1
    have hk : 1 ≤ k ∧ k ≤ 9 := hk
    rw [runR_op hq]
    obtain rfl | rfl | rfl | rfl | rfl | rfl | rfl | rfl | rfl : k = 1 ∨ k = 2 ∨ k = 3 ∨ k = 4 ∨ k = 5 ∨ k = 6 ∨ k = 7 ∨ k = 8 ∨ k = 9 := by omega
    · exact run1_is v hv hnow j n l nm N hwq hq c w hT h
    · exact run2_is v hv hnow j n l nm N hwq hq c w hT h
    · exact run3_is v hv hnow j n l nm N hwq hq c w hT h
    · exact run4_is v hv hnow j n l nm N hwq hq c w hT h
    · exact run5_is v hv hnow j n l nm N hwq hq c w hT h
    · exact run6_is v hv hnow j n l nm N hwq hq c w hT h
    · exact run7_is v hv hnow j n l nm N hwq hq c w hT h
    · exact run8_is v hv hnow j n l nm N hwq hq c w hT h
    · exact run9_is v hv hnow j n l nm N hwq hq c w hT h
  · exact runbad_is v hv hnow k j n l nm N hwq hq c w hT h
end Go.Proofs.YtiekgafopalfmaaGreatDoor
