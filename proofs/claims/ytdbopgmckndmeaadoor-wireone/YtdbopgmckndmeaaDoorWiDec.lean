/- Package wire: Decode. -/
import Derived.Test.YtdbopgmckndmeaaDoorWiEnc
namespace Go.Proofs.YtdbopgmckndmeaaDoor
open Go.RowKit

theorem zag_in {n : Int} (h : zig n ≤ 4611686018427387904) : (Lit.int .i64 n).wf = true := by
  unfold zig at h
  simp [Lit.wf, IntKind.min, IntKind.max, IntKind.signed, IntKind.bits]
  split at h <;> omega
theorem int_in {n : Int} (h : 0 ≤ n ∧ n ≤ 4611686018427387904) : (Lit.int .i64 n).wf = true := by
  simp [Lit.wf, IntKind.min, IntKind.max, IntKind.signed, IntKind.bits]; omega
theorem note_max {s : ByteArray} (h : isNote V8 s = true) : s.size ≤ maxLen := by have := note_size h; unfold maxLen; omega
/-- What is read can be checked. -/
theorem wState_ok {v : Int} {s : StD} (h : okSt V8 v s) : wState s := by
  obtain ⟨h1, ⟨_, h2⟩, ⟨_, h3⟩, ⟨_, h4⟩⟩ := h
  refine ⟨?_, fun x hx => ?_, fun x hx => ?_, fun x hx => ?_⟩
  · split at h1
    · exact int_in h1
    · rw [h1]; decide
  · obtain ⟨a, b, c, d, e⟩ := h2 x hx
    refine ⟨note_max a, zag_in b, int_in c, ?_, ?_⟩
    · split at d
      · exact int_in d
      · rw [d]; decide
    · split at e
      · exact note_max e
      · rw [e]; exact Nat.zero_le _
  · obtain ⟨a, b, c⟩ := h3 x hx
    refine ⟨note_max a, int_in b, ?_⟩
    split at c
    · exact note_max c
    · rw [c]; exact Nat.zero_le _
  · obtain ⟨a, b, c⟩ := h4 x hx
    exact ⟨note_max a, note_max b, int_in c⟩
theorem ok_zeroSt (v : Int) : okSt V8 v zeroSt := by
  refine ⟨?_, ⟨by decide, fun x hx => by cases hx⟩, ⟨by decide, fun x hx => by cases hx⟩, ⟨by decide, fun x hx => by cases hx⟩⟩
  split
  · decide
  · rfl
/-- What end answers behind whole, and what was read then. -/
theorem read_cases (v : Int) (s : ByteArray) :
    (endE (wholeS v zeroSt ⟨true, [], s, 0⟩).2 ≠ 0 ∧ wireD V8 v s.data.toList = (zeroSt, endE (wholeS v zeroSt ⟨true, [], s, 0⟩).2)) ∨
    (endE (wholeS v zeroSt ⟨true, [], s, 0⟩).2 = 0 ∧ okSt V8 v (wholeS v zeroSt ⟨true, [], s, 0⟩).1 ∧
      wireD V8 v s.data.toList = if checkE V8 (wholeS v zeroSt ⟨true, [], s, 0⟩).1 ≠ 0 then (zeroSt, checkE V8 (wholeS v zeroSt ⟨true, [], s, 0⟩).1) else ((wholeS v zeroSt ⟨true, [], s, 0⟩).1, 0)) := by
  have h := (rdg_whole v ⟨true, [], s, 0⟩ rfl).1 rfl
  simp only at h
  cases hr : stR V8 v s.data.toList with
  | inl e =>
    left
    have h1 := h.1 e hr
    have e1 : endE (wholeS v zeroSt ⟨true, [], s, 0⟩).2 = e := by
      unfold endE
      rw [h1.2.2.1, h1.2.1]
      simp [ByteArray.size]
    rw [e1]
    refine ⟨h1.1, ?_⟩
    unfold wireD
    rw [hr]
  | inr x =>
    obtain ⟨t, r⟩ := x
    have h1 := h.2 t r hr
    rw [h1]
    simp only
    by_cases hz : r = []
    · right
      subst hz
      have e1 : endE ⟨true, [], ⟨([] : List UInt8).toArray⟩, 0⟩ = 0 := rfl
      refine ⟨e1, ((stC V8 v).sound _ _ _ hr).1, ?_⟩
      unfold wireD
      rw [hr]
      simp
    · left
      have e1 : endE ⟨true, [], ⟨r.toArray⟩, 0⟩ = 4 := by
        unfold endE
        have : (⟨r.toArray⟩ : ByteArray).size ≠ 0 := by
          simp [ByteArray.size]; exact hz
        rw [if_pos this]; rfl
      rw [e1]
      refine ⟨by omega, ?_⟩
      unfold wireD
      rw [hr]
      simp [hz]
set_option maxRecDepth 100000 in
set_option maxHeartbeats 4000000 in
theorem wdecode_any (s : ByteArray) (hs : s.size ≤ 1152921504606846976) (v : Int) (w : World) (hT : Tabs w) :
    Calls Tryd.prog 13 #[.string s, .int .i64 v] w fun e w' => ∃ aj an al cj cn cl, e = .returned (.tuple #[.agg #[.int .i64 (wdecR v s.data.toList).1.rev, .slice aj (wdecR v s.data.toList).1.jobs.length cj, .slice an (wdecR v s.data.toList).1.nodes.length cn, .slice al (wdecR v s.data.toList).1.leases.length cl], .int .i64 (wdecR v s.data.toList).2]) ∧
      w'.ownsRow w.heap.size 64 5 (.slice aj (wdecR v s.data.toList).1.jobs.length cj) (wdecR v s.data.toList).1.jobs.length (cJobs (wdecR v s.data.toList).1.jobs) ∧ w'.ownsRow w.heap.size 67 3 (.slice an (wdecR v s.data.toList).1.nodes.length cn) (wdecR v s.data.toList).1.nodes.length (cNodes (wdecR v s.data.toList).1.nodes) ∧ w'.ownsRow w.heap.size 70 3 (.slice al (wdecR v s.data.toList).1.leases.length cl) (wdecR v s.data.toList).1.leases.length (cLeases (wdecR v s.data.toList).1.leases) ∧ Below w.heap.size w w' := by
  by_cases hv : 1 ≤ v ∧ v ≤ 3
  · have hD : wdecR v s.data.toList = wireD V8 v s.data.toList := by unfold wdecR; rw [if_pos hv]
    rw [hD]
    obtain ⟨W0, hW0⟩ : ∃ W0, w.alloc (.cells #[.int .i64 0, .slice none 0 0, .slice none 0 0, .slice none 0 0] 26) = W0 := ⟨_, rfl⟩
    have o0 := objAt_new w #[.int .i64 0, .slice none 0 0, .slice none 0 0, .slice none 0 0] 26
    have bW := below_one w (.cells #[.int .i64 0, .slice none 0 0, .slice none 0 0, .slice none 0 0] 26)
    have sW : W0.heap.size = w.heap.size + 1 := by rw [← hW0, World.size_alloc]
    rw [hW0] at o0 bW
    have bA := below_one W0 (.cells #[.int .i64 v, .bool true, .slice none 0 0, .string s, .int .i64 0] 49)
    have hc0 := code_new W0 v true s
    have nil : ∀ w' : World, JobsAt w' none zeroSt.jobs ∧ NodesAt w' none zeroSt.nodes ∧ LeasesAt w' none zeroSt.leases := fun w' => ⟨fun i hi => absurd hi (by simp [zeroSt]), fun i hi => absurd hi (by simp [zeroSt]), fun i hi => absurd hi (by simp [zeroSt])⟩
    have HWh := whole_is zeroSt none none none 0 0 0 (ok_zeroSt v) hs (Nat.zero_le _) _ hc0 ⟨W0, rfl, hT.below bW, bA⟩ ⟨W0, rfl, bA, (nil W0).1, (nil W0).2.1, (nil W0).2.2⟩
    have hcs := read_cases v s
    obtain ⟨q, hq⟩ : ∃ q, wholeS v zeroSt ⟨true, [], s, 0⟩ = q := ⟨_, rfl⟩
    rw [hq] at HWh hcs
    rw [sW] at HWh
    generalize wireD V8 v s.data.toList = D at hcs ⊢
    have HWh := Lib.hid HWh
    have HT := Lib.hid hT
    have BW := Lib.hid bW
    have OA := Lib.hid (objAt_next o0 bA)
    have v1 : (1 : Int) ≤ v := hv.1
    have v3 : v ≤ 3 := hv.2
    clear hD hq o0 bW bA hc0 nil hT hv
    go_enter Tryd.func13, Tryd.ntmps13
    go_wp2_with fail
    refine HWh.out.mono ?_
    rintro e w2 ⟨y1, y2, y3, rfl, oj, on, ol, hc2, hk2⟩
    obtain ⟨d1, p1, rfl⟩ := ownRow_slice oj
    obtain ⟨d2, p2, rfl⟩ := ownRow_slice on
    obtain ⟨d3, p3, rfl⟩ := ownRow_slice ol
    have hsz : (W0.alloc (.cells #[.int .i64 v, .bool true, .slice none 0 0, .string s, .int .i64 0] 49)).heap.size = w.heap.size + 2 := by rw [World.size_alloc, sW]
    have hs2 := hk2.size
    rw [hsz] at oj on ol hs2
    have bW2 : Below w.heap.size w w2 := keep_below_of BW.out sW.symm _ hk2
    have o2 := keep_obj OA.out hk2 (by omega) (by decide)
    obtain ⟨T, hTT⟩ : ∃ T, w2.heap.size = T := ⟨_, rfl⟩
    have oT := objAt_new w2 #[.int .i64 q.1.rev, .slice d1 q.1.jobs.length p1, .slice d2 q.1.nodes.length p2, .slice d3 q.1.leases.length p3] 26
    have b3 := below_one w2 (.cells #[.int .i64 q.1.rev, .slice d1 q.1.jobs.length p1, .slice d2 q.1.nodes.length p2, .slice d3 q.1.leases.length p3] 26)
    have o3 := objAt_next o2 b3
    have HEnd := Lib.hid (end_is _ (code_next hc2 b3))
    have O3 := Lib.hid o3
    have OT := Lib.hid oT
    have OJ := Lib.hid (own_below oj b3)
    have ON := Lib.hid (own_below on b3)
    have OL := Lib.hid (own_below ol b3)
    have BW3 := Lib.hid (below_trans bW2 b3 bW2.size)
    rw [hTT] at OT
    have hT2 : w.heap.size + 2 ≤ T := by omega
    clear oj on ol hc2 hk2 o2 oT o3 bW2
    go_wp2_with fail
    refine HEnd.out.mono ?_
    rintro e w4 ⟨rfl, hk4⟩
    have bs4 := hk4.size
    have s3 : (w2.alloc (.cells #[.int .i64 q.1.rev, .slice d1 q.1.jobs.length p1, .slice d2 q.1.nodes.length p2, .slice d3 q.1.leases.length p3] 26)).heap.size = T + 1 := by rw [World.size_alloc, hTT]
    rw [s3] at bs4
    have o4 := keep_obj O3.out hk4 (by omega) (by decide)
    have T4 := keep_obj OT.out hk4 (by omega) (by decide)
    have oj4 := keep_row OJ.out hk4 (by omega) (by decide)
    have on4 := keep_row ON.out hk4 (by omega) (by decide)
    have ol4 := keep_row OL.out hk4 (by omega) (by decide)
    have b4 : Below w.heap.size w w4 := BW3.out.trans ((keep_low hk4 (by omega)).mono (by omega))
    clear hk4 HEnd O3 OT OJ ON OL b3 s3 HWh OA
    rcases hcs with ⟨hne, hD⟩ | ⟨he0, hok, hD⟩
    · have HD := Lib.hid hD
      have hne' : ((endE q.2 : Int) != 0) = true := by simp; omega
      have Z := Lib.hid (World.ownsRow_nil (((((w4).setCell ⟨w.heap.size, 0, none⟩ (.int .i64 0)).setCell ⟨w.heap.size, 1, none⟩ (.slice none 0 0)).setCell ⟨w.heap.size, 2, none⟩ (.slice none 0 0)).setCell ⟨w.heap.size, 3, none⟩ (.slice none 0 0)) w.heap.size)
      have B4 := Lib.hid (((((b4).setCell (p := ⟨w.heap.size, 0, none⟩) (Nat.le_refl _) (.int .i64 0)).setCell (p := ⟨w.heap.size, 1, none⟩) (Nat.le_refl _) (.slice none 0 0)).setCell (p := ⟨w.heap.size, 2, none⟩) (Nat.le_refl _) (.slice none 0 0)).setCell (p := ⟨w.heap.size, 3, none⟩) (Nat.le_refl _) (.slice none 0 0))
      have c0 := objAt_cell o4 0 rfl
      have c1 := objAt_cell o4 1 rfl
      have c2 := objAt_cell o4 2 rfl
      have c3 := objAt_cell o4 3 rfl
      have f0 := objAt_free o4 0
      have f1 := objAt_free o4 1
      have f2 := objAt_free o4 2
      have f3 := objAt_free o4 3
      have zl := objAt_lt o4
      have oF := objAt_set (objAt_set (objAt_set (objAt_set (o4) 0 (.int .i64 0)) 1 (.slice none 0 0)) 2 (.slice none 0 0)) 3 (.slice none 0 0)
      have t0 := objAt_cell oF 0 rfl
      have t1 := objAt_cell oF 1 rfl
      have t2 := objAt_cell oF 2 rfl
      have t3 := objAt_cell oF 3 rfl
      have TT := Lib.hid (And.intro t0 (And.intro t1 (And.intro t2 t3)))
      clear oF t0 t1 t2 t3
      clear hD hne T4 oj4 on4 ol4 b4
      go_wp2
      obtain ⟨t0, t1, t2, t3⟩ := TT.out
      exact bodyPost_ret (v := .tuple #[.agg #[.int .i64 0, .slice none 0 0, .slice none 0 0, .slice none 0 0], .int .i64 (endE q.2 : Int)]) (by simp [results, Tryd.results13, go_sem, t0, t1, t2, t3]) rfl (by rw [HD.out]; exact ⟨none, none, none, 0, 0, 0, rfl, Z.out _ _, Z.out _ _, Z.out _ _, B4.out⟩)
    · rw [he0]
      have HC := Lib.hid (check_any q.1.rev d1 d2 d3 p1 p2 p3 q.1.jobs q.1.nodes q.1.leases (wState_ok hok) w4 (HT.out.below b4) (ownJobs oj4 rfl) (ownNodes on4 rfl) (ownLeases ol4 rfl))
      have es : (⟨q.1.rev, q.1.jobs, q.1.nodes, q.1.leases⟩ : StD) = q.1 := rfl
      rw [es] at HC
      obtain ⟨c, hc⟩ : ∃ c, checkE V8 q.1 = c := ⟨_, rfl⟩
      rw [hc] at HC hD
      have HD := Lib.hid hD
      have x0 := objAt_cell T4 0 rfl
      have x1 := objAt_cell T4 1 rfl
      have x2 := objAt_cell T4 2 rfl
      have x3 := objAt_cell T4 3 rfl
      have xl := objAt_lt T4
      have O4 := Lib.hid o4
      have OT := Lib.hid T4
      have OJ := Lib.hid oj4
      have ON := Lib.hid on4
      have OL := Lib.hid ol4
      have BB := Lib.hid b4
      clear o4 T4 oj4 on4 ol4 b4 hD hok es hc he0
      go_wp2_with fail
      refine HC.out.mono ?_
      rintro e w5 ⟨rfl, b5⟩
      have o5 := objAt_next O4.out b5
      have T5 := objAt_next OT.out b5
      have hB5 := below_trans BB.out b5 BB.out.size
      have oj5 := own_below OJ.out b5
      have on5 := own_below ON.out b5
      have ol5 := own_below OL.out b5
      have y0 := objAt_cell T5 0 rfl
      have y1 := objAt_cell T5 1 rfl
      have y2 := objAt_cell T5 2 rfl
      have y3 := objAt_cell T5 3 rfl
      have yl := objAt_lt T5
      clear x0 x1 x2 x3 xl O4 OT OJ ON OL BB HC b5 T5
      by_cases h0 : c ≠ 0
      · have hD := HD.out
        rw [if_pos h0] at hD
        have HD := Lib.hid hD
        clear hD
        have h0' : ((c : Int) != 0) = true := by simp; omega
        have Z := Lib.hid (World.ownsRow_nil (((((w5).setCell ⟨w.heap.size, 0, none⟩ (.int .i64 0)).setCell ⟨w.heap.size, 1, none⟩ (.slice none 0 0)).setCell ⟨w.heap.size, 2, none⟩ (.slice none 0 0)).setCell ⟨w.heap.size, 3, none⟩ (.slice none 0 0)) w.heap.size)
        have B4 := Lib.hid (((((hB5).setCell (p := ⟨w.heap.size, 0, none⟩) (Nat.le_refl _) (.int .i64 0)).setCell (p := ⟨w.heap.size, 1, none⟩) (Nat.le_refl _) (.slice none 0 0)).setCell (p := ⟨w.heap.size, 2, none⟩) (Nat.le_refl _) (.slice none 0 0)).setCell (p := ⟨w.heap.size, 3, none⟩) (Nat.le_refl _) (.slice none 0 0))
        have c0 := objAt_cell o5 0 rfl
        have c1 := objAt_cell o5 1 rfl
        have c2 := objAt_cell o5 2 rfl
        have c3 := objAt_cell o5 3 rfl
        have f0 := objAt_free o5 0
        have f1 := objAt_free o5 1
        have f2 := objAt_free o5 2
        have f3 := objAt_free o5 3
        have zl := objAt_lt o5
        have oF := objAt_set (objAt_set (objAt_set (objAt_set (o5) 0 (.int .i64 0)) 1 (.slice none 0 0)) 2 (.slice none 0 0)) 3 (.slice none 0 0)
        have t0 := objAt_cell oF 0 rfl
        have t1 := objAt_cell oF 1 rfl
        have t2 := objAt_cell oF 2 rfl
        have t3 := objAt_cell oF 3 rfl
        have TT := Lib.hid (And.intro t0 (And.intro t1 (And.intro t2 t3)))
        clear oF t0 t1 t2 t3
        clear oj5 on5 ol5 hB5 h0 o5
        go_wp2
        obtain ⟨t0, t1, t2, t3⟩ := TT.out
        exact bodyPost_ret (v := .tuple #[.agg #[.int .i64 0, .slice none 0 0, .slice none 0 0, .slice none 0 0], .int .i64 (c : Int)]) (by simp [results, Tryd.results13, go_sem, t0, t1, t2, t3]) rfl (by rw [HD.out]; exact ⟨none, none, none, 0, 0, 0, rfl, Z.out _ _, Z.out _ _, Z.out _ _, B4.out⟩)
      · have hD := HD.out
        rw [if_neg h0] at hD
        have HD := Lib.hid hD
        clear hD
        have h0 : c = 0 := by simpa using h0
        subst h0
        have B4 := Lib.hid (((((hB5).setCell (p := ⟨w.heap.size, 0, none⟩) (Nat.le_refl _) (.int .i64 q.1.rev)).setCell (p := ⟨w.heap.size, 1, none⟩) (Nat.le_refl _) (.slice d1 q.1.jobs.length p1)).setCell (p := ⟨w.heap.size, 2, none⟩) (Nat.le_refl _) (.slice d2 q.1.nodes.length p2)).setCell (p := ⟨w.heap.size, 3, none⟩) (Nat.le_refl _) (.slice d3 q.1.leases.length p3))
        have ZJ := Lib.hid (ownsRow_low (B' := w.heap.size) (backs4 (c := w.heap.size) (u0 := .int .i64 q.1.rev) (u1 := .slice d1 q.1.jobs.length p1) (u2 := .slice d2 q.1.nodes.length p2) (u3 := .slice d3 q.1.leases.length p3) oj5 (by omega)) (by omega))
        have ZN := Lib.hid (ownsRow_low (B' := w.heap.size) (backs4 (c := w.heap.size) (u0 := .int .i64 q.1.rev) (u1 := .slice d1 q.1.jobs.length p1) (u2 := .slice d2 q.1.nodes.length p2) (u3 := .slice d3 q.1.leases.length p3) on5 (by omega)) (by omega))
        have ZL := Lib.hid (ownsRow_low (B' := w.heap.size) (backs4 (c := w.heap.size) (u0 := .int .i64 q.1.rev) (u1 := .slice d1 q.1.jobs.length p1) (u2 := .slice d2 q.1.nodes.length p2) (u3 := .slice d3 q.1.leases.length p3) ol5 (by omega)) (by omega))
        have c0 := objAt_cell o5 0 rfl
        have c1 := objAt_cell o5 1 rfl
        have c2 := objAt_cell o5 2 rfl
        have c3 := objAt_cell o5 3 rfl
        have f0 := objAt_free o5 0
        have f1 := objAt_free o5 1
        have f2 := objAt_free o5 2
        have f3 := objAt_free o5 3
        have zl := objAt_lt o5
        have oF := objAt_set (objAt_set (objAt_set (objAt_set (o5) 0 (.int .i64 q.1.rev)) 1 (.slice d1 q.1.jobs.length p1)) 2 (.slice d2 q.1.nodes.length p2)) 3 (.slice d3 q.1.leases.length p3)
        have t0 := objAt_cell oF 0 rfl
        have t1 := objAt_cell oF 1 rfl
        have t2 := objAt_cell oF 2 rfl
        have t3 := objAt_cell oF 3 rfl
        have TT := Lib.hid (And.intro t0 (And.intro t1 (And.intro t2 t3)))
        clear oF t0 t1 t2 t3
        clear oj5 on5 ol5 hB5 o5
        go_wp2
        obtain ⟨t0, t1, t2, t3⟩ := TT.out
        exact bodyPost_ret (v := .tuple #[.agg #[.int .i64 q.1.rev, .slice d1 q.1.jobs.length p1, .slice d2 q.1.nodes.length p2, .slice d3 q.1.leases.length p3], .int .i64 0]) (by simp [results, Tryd.results13, go_sem, t0, t1, t2, t3]) rfl (by rw [HD.out]; exact ⟨_, _, _, _, _, _, rfl, ZJ.out, ZN.out, ZL.out, B4.out⟩)
  · have hD : wdecR v s.data.toList = (zeroSt, 1) := by unfold wdecR; rw [if_neg hv]
    rw [hD]
    have o0 := objAt_new w #[.int .i64 0, .slice none 0 0, .slice none 0 0, .slice none 0 0] 26
    have z := World.ownsRow_nil (w.alloc (.cells #[.int .i64 0, .slice none 0 0, .slice none 0 0, .slice none 0 0] 26)) w.heap.size
    have Z := Lib.hid z
    have c0 := objAt_cell o0 0 rfl
    have c1 := objAt_cell o0 1 rfl
    have c2 := objAt_cell o0 2 rfl
    have c3 := objAt_cell o0 3 rfl
    clear o0 hD z hT hs
    by_cases h1 : v < 1
    · go_enter Tryd.func13, Tryd.ntmps13
      go_wp2
      exact bodyPost_ret (v := .tuple #[.agg #[.int .i64 0, .slice none 0 0, .slice none 0 0, .slice none 0 0], .int .i64 1]) (by simp [results, Tryd.results13, go_sem]) rfl ⟨none, none, none, 0, 0, 0, rfl, Z.out _ _, Z.out _ _, Z.out _ _, below_one _ _⟩
    · have h3 : (3 : Int) < v := by omega
      have h1' : (1 : Int) ≤ v := by omega
      go_enter Tryd.func13, Tryd.ntmps13
      go_wp2
      exact bodyPost_ret (v := .tuple #[.agg #[.int .i64 0, .slice none 0 0, .slice none 0 0, .slice none 0 0], .int .i64 1]) (by simp [results, Tryd.results13, go_sem]) rfl ⟨none, none, none, 0, 0, 0, rfl, Z.out _ _, Z.out _ _, Z.out _ _, below_one _ _⟩
end Go.Proofs.YtdbopgmckndmeaaDoor
