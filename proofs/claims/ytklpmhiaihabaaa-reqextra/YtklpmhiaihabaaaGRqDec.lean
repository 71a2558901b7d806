/- Package req: Decode at every string. -/
import Derived.Test.YtklpmhiaihabaaaGRqEnc
namespace Go.Proofs.Ytklpmhiaihabaaa
open Go.RowKit Go.Lib

theorem wJob_ok [Inhabited UV] {x : JobD} (h : okJob V8 3 x) : wJob x :=
  (wState_ok (v := 3) (s := ⟨0, [x], [], []⟩) ⟨by rw [if_pos (by decide)]; exact (show (0 : Int) ≤ 0 ∧ (0 : Int) ≤ 4611686018427387904 from ⟨by decide, by decide⟩), ⟨by simp, fun y hy => by simp at hy; subst hy; exact h⟩, ⟨by simp, fun y hy => by cases hy⟩, ⟨by simp, fun y hy => by cases hy⟩⟩).2.1 x (by simp)
theorem wNode_ok [Inhabited UV] {x : NodeD} (h : okNode V8 3 x) : wNode x :=
  (wState_ok (v := 3) (s := ⟨0, [], [x], []⟩) ⟨by rw [if_pos (by decide)]; exact (show (0 : Int) ≤ 0 ∧ (0 : Int) ≤ 4611686018427387904 from ⟨by decide, by decide⟩), ⟨by simp, fun y hy => by cases hy⟩, ⟨by simp, fun y hy => by simp at hy; subst hy; exact h⟩, ⟨by simp, fun y hy => by cases hy⟩⟩).2.2.1 x (by simp)
theorem wLease_ok [Inhabited UV] {x : LeaseD} (h : okLease V8 x) : wLease x :=
  (wState_ok (v := 3) (s := ⟨0, [], [], [x]⟩) ⟨by rw [if_pos (by decide)]; exact (show (0 : Int) ≤ 0 ∧ (0 : Int) ≤ 4611686018427387904 from ⟨by decide, by decide⟩), ⟨by simp, fun y hy => by cases hy⟩, ⟨by simp, fun y hy => by cases hy⟩, ⟨by simp, fun y hy => by simp at hy; subst hy; exact h⟩⟩).2.2.2 x (by simp)
theorem wReq_own [Inhabited UV] {k : Int} {j : JobD} {n : NodeD} {l : LeaseD} {nm : ByteArray} {N : Int} (hk : 0 ≤ k ∧ k ≤ 4611686018427387904) (hj : okJob V8 3 j) (hn : okNode V8 3 n) (hl : okLease V8 l) (hm : isNote V8 nm = true) (hN : 0 ≤ N ∧ N ≤ 4611686018427387904) : wReq ⟨k, j, n, l, nm, N⟩ :=
  ⟨int_in hk, wJob_ok hj, wNode_ok hn, wLease_ok hl, note_max hm, int_in hN⟩
theorem wReq_read [Inhabited UV] {q : ReqD} (h : readQ q) : wReq q := by
  obtain ⟨hk, ho, hp⟩ := h
  rw [← ho]
  have zj := ok_zJob 3
  have zn := ok_zNode 3
  have zl := ok_zLease
  have zs := v_empty
  have z0 : (0 : Int) ≤ 0 ∧ (0 : Int) ≤ 4611686018427387904 := ⟨by decide, by decide⟩
  unfold okPart at hp
  unfold ownQ
  by_cases k1 : q.kind = 1
  · rw [if_pos k1] at hp ⊢; exact wReq_own hk hp zn zl zs z0
  rw [if_neg k1] at hp ⊢
  by_cases k2 : q.kind = 2
  · rw [if_pos k2] at hp ⊢; exact wReq_own hk zj hp zl zs z0
  rw [if_neg k2] at hp ⊢
  by_cases k5 : q.kind = 5
  · rw [if_pos k5] at hp ⊢; exact wReq_own hk zj zn hp zs z0
  rw [if_neg k5] at hp ⊢
  by_cases k7 : q.kind = 7
  · rw [if_pos k7] at hp ⊢; exact wReq_own hk zj zn zl zs hp
  rw [if_neg k7] at hp ⊢
  by_cases k3 : q.kind = 3 ∨ q.kind = 4 ∨ q.kind = 6
  · rw [if_pos k3] at hp ⊢; exact wReq_own hk zj zn zl hp z0
  rw [if_neg k3] at hp ⊢
  exact wReq_own hk zj zn zl zs z0
/-- The kind that a request's bytes begin with, as Decode reads it. -/
def kindR (s : ByteArray) : Int := (numbS 0 ⟨true, [], s, 0⟩).1
theorem q_kindR [Inhabited UV] {s : ByteArray} {q : ReqD} (h : (qS zeroQ ⟨true, [], s, 0⟩).1 = q) (hz : q.kind ≠ 0) : kindR s = q.kind := by
  have e : qS zeroQ ⟨true, [], s, 0⟩ = partS (kindR s) zeroQ (numbS 0 ⟨true, [], s, 0⟩).2 := rfl
  rw [e] at h
  rw [← h] at hz ⊢
  unfold partS at hz ⊢
  split
  · rfl
  split
  · rfl
  split
  · rfl
  split
  · rfl
  split
  · rfl
  split
  · rfl
  · rename_i a b c d e f
    rw [if_neg a, if_neg b, if_neg c, if_neg d, if_neg e, if_neg f] at hz
    exact absurd rfl hz
set_option maxRecDepth 100000 in
set_option maxHeartbeats 8000000 in
theorem qdecode_any [Inhabited UV] (s : ByteArray) (hs : s.size ≤ 1152921504606846976) (w : World) (hT : Txt (kindR s) → Tabs w) :
    Calls Try.prog 16 #[.string s] w fun e w' => e = .returned (.tuple #[.agg #[.int .i64 (qdecR V8 s.data.toList).1.kind, .string (qdecR V8 s.data.toList).1.job.name, .int .i64 (qdecR V8 s.data.toList).1.job.prio, .int .i64 (qdecR V8 s.data.toList).1.job.need, .int .i64 (qdecR V8 s.data.toList).1.job.tries, .string (qdecR V8 s.data.toList).1.job.tag, .string (qdecR V8 s.data.toList).1.node.name, .int .i64 (qdecR V8 s.data.toList).1.node.room, .string (qdecR V8 s.data.toList).1.node.zone, .string (qdecR V8 s.data.toList).1.lease.job, .string (qdecR V8 s.data.toList).1.lease.node, .int .i64 (qdecR V8 s.data.toList).1.lease.til, .string (qdecR V8 s.data.toList).1.name, .int .i64 (qdecR V8 s.data.toList).1.n], .int .i64 ((qdecR V8 s.data.toList).2 : Nat)]) ∧ Below w.heap.size w w' := by
  obtain ⟨W0, hW0⟩ : ∃ W0, w.alloc (.cells #[.int .i64 0, .string ⟨#[]⟩, .int .i64 0, .int .i64 0, .int .i64 0, .string ⟨#[]⟩, .string ⟨#[]⟩, .int .i64 0, .string ⟨#[]⟩, .string ⟨#[]⟩, .string ⟨#[]⟩, .int .i64 0, .string ⟨#[]⟩, .int .i64 0] 29) = W0 := ⟨_, rfl⟩
  have o0 := objAt_new w #[.int .i64 0, .string ⟨#[]⟩, .int .i64 0, .int .i64 0, .int .i64 0, .string ⟨#[]⟩, .string ⟨#[]⟩, .int .i64 0, .string ⟨#[]⟩, .string ⟨#[]⟩, .string ⟨#[]⟩, .int .i64 0, .string ⟨#[]⟩, .int .i64 0] 29
  have bW := below_one w (.cells #[.int .i64 0, .string ⟨#[]⟩, .int .i64 0, .int .i64 0, .int .i64 0, .string ⟨#[]⟩, .string ⟨#[]⟩, .int .i64 0, .string ⟨#[]⟩, .string ⟨#[]⟩, .string ⟨#[]⟩, .int .i64 0, .string ⟨#[]⟩, .int .i64 0] 29)
  have sW : W0.heap.size = w.heap.size + 1 := by rw [← hW0, World.size_alloc]
  rw [hW0] at o0 bW
  have bA := below_one W0 (.cells #[.int .i64 3, .bool true, .pointer none, .slice none 0 0, .string s, .int .i64 0] 95)
  have hc0 := code_new W0 3 true s
  have HWh := qwhole_any zeroQ (.inr ⟨rfl, rfl⟩) hs (Nat.zero_le _) _ hc0 (fun h => ⟨W0, rfl, (hT h).below bW, bA⟩)
  have hcs := read_q s
  have hkd : ∀ q, readQ q → (qS zeroQ ⟨true, [], s, 0⟩).1 = q → Txt q.kind → Tabs w := fun q _ h ht => hT (by rw [q_kindR h (by unfold Txt at ht; omega)]; exact ht)
  obtain ⟨q, hq⟩ : ∃ q, qS zeroQ ⟨true, [], s, 0⟩ = q := ⟨_, rfl⟩
  rw [hq] at HWh hcs hkd
  have H1 := reader_is s 3 W0
  rw [sW] at HWh H1
  have H1 := Lib.hid H1
  generalize qdecR V8 s.data.toList = D at hcs ⊢
  have HWh := Lib.hid HWh
  have HKD := Lib.hid hkd
  have BW := Lib.hid bW
  have OA := Lib.hid (objAt_next o0 bA)
  clear hq o0 bW bA hc0 hT hkd
  go_enter Try.func16, Try.ntmps16
  go_wp2_with fail
  refine H1.out.mono ?_
  rintro e w1' ⟨rfl, rfl⟩
  clear H1
  go_wp2_with fail
  refine HWh.out.mono ?_
  rintro e w2 ⟨rfl, hc2, hk2⟩
  have hsz : (W0.alloc (.cells #[.int .i64 3, .bool true, .pointer none, .slice none 0 0, .string s, .int .i64 0] 95)).heap.size = w.heap.size + 2 := by rw [World.size_alloc, sW]
  have hs2 := hk2.size
  rw [hsz] at hs2
  have bW2 : Below w.heap.size w w2 := keep_below_of BW.out sW.symm _ hk2
  have o2 := keep_obj OA.out hk2 (by omega) (by decide)
  obtain ⟨T, hTT⟩ : ∃ T, w2.heap.size = T := ⟨_, rfl⟩
  have oT := objAt_new w2 #[.int .i64 q.1.kind, .string q.1.job.name, .int .i64 q.1.job.prio, .int .i64 q.1.job.need, .int .i64 q.1.job.tries, .string q.1.job.tag, .string q.1.node.name, .int .i64 q.1.node.room, .string q.1.node.zone, .string q.1.lease.job, .string q.1.lease.node, .int .i64 q.1.lease.til, .string q.1.name, .int .i64 q.1.n] 29
  have b3 := below_one w2 (.cells #[.int .i64 q.1.kind, .string q.1.job.name, .int .i64 q.1.job.prio, .int .i64 q.1.job.need, .int .i64 q.1.job.tries, .string q.1.job.tag, .string q.1.node.name, .int .i64 q.1.node.room, .string q.1.node.zone, .string q.1.lease.job, .string q.1.lease.node, .int .i64 q.1.lease.til, .string q.1.name, .int .i64 q.1.n] 29)
  have o3 := objAt_next o2 b3
  have HEnd := Lib.hid (end_is _ (code_next hc2 b3))
  have O3 := Lib.hid o3
  have OT := Lib.hid oT
  have BW3 := Lib.hid (below_trans bW2 b3 bW2.size)
  rw [hTT] at OT
  have hT2 : w.heap.size + 2 ≤ T := by omega
  clear hc2 hk2 o2 oT o3 bW2
  go_wp2_with fail
  refine HEnd.out.mono ?_
  rintro e w4 ⟨rfl, hk4⟩
  have bs4 := hk4.size
  have s3 : (w2.alloc (.cells #[.int .i64 q.1.kind, .string q.1.job.name, .int .i64 q.1.job.prio, .int .i64 q.1.job.need, .int .i64 q.1.job.tries, .string q.1.job.tag, .string q.1.node.name, .int .i64 q.1.node.room, .string q.1.node.zone, .string q.1.lease.job, .string q.1.lease.node, .int .i64 q.1.lease.til, .string q.1.name, .int .i64 q.1.n] 29)).heap.size = T + 1 := by rw [World.size_alloc, hTT]
  rw [s3] at bs4
  have o4 := keep_obj O3.out hk4 (by omega) (by decide)
  have T4 := keep_obj OT.out hk4 (by omega) (by decide)
  have b4 : Below w.heap.size w w4 := BW3.out.trans ((keep_low hk4 (by omega)).mono (by omega))
  clear hk4 HEnd O3 OT b3 s3 HWh OA
  rcases hcs with ⟨e, hne, hD, he⟩ | ⟨r, hok, hr, he, hD⟩
  · rw [he]
    have HD := Lib.hid hD
    have hne' : ((e : Int) != 0) = true := by simp; omega
    have BF := Lib.hid (below_put14 b4 (Nat.le_refl w.heap.size) (.int .i64 0) (.string ⟨#[]⟩) (.int .i64 0) (.int .i64 0) (.int .i64 0) (.string ⟨#[]⟩) (.string ⟨#[]⟩) (.int .i64 0) (.string ⟨#[]⟩) (.string ⟨#[]⟩) (.string ⟨#[]⟩) (.int .i64 0) (.string ⟨#[]⟩) (.int .i64 0))
    have c0 := objAt_cell o4 0 rfl
    have f0 := objAt_free o4 0
    have c1 := objAt_cell o4 1 rfl
    have f1 := objAt_free o4 1
    have c2 := objAt_cell o4 2 rfl
    have f2 := objAt_free o4 2
    have c3 := objAt_cell o4 3 rfl
    have f3 := objAt_free o4 3
    have c4 := objAt_cell o4 4 rfl
    have f4 := objAt_free o4 4
    have c5 := objAt_cell o4 5 rfl
    have f5 := objAt_free o4 5
    have c6 := objAt_cell o4 6 rfl
    have f6 := objAt_free o4 6
    have c7 := objAt_cell o4 7 rfl
    have f7 := objAt_free o4 7
    have c8 := objAt_cell o4 8 rfl
    have f8 := objAt_free o4 8
    have c9 := objAt_cell o4 9 rfl
    have f9 := objAt_free o4 9
    have c10 := objAt_cell o4 10 rfl
    have f10 := objAt_free o4 10
    have c11 := objAt_cell o4 11 rfl
    have f11 := objAt_free o4 11
    have c12 := objAt_cell o4 12 rfl
    have f12 := objAt_free o4 12
    have c13 := objAt_cell o4 13 rfl
    have f13 := objAt_free o4 13
    have zl := objAt_lt o4
    have oF := obj_put14 o4 (.int .i64 0) (.string ⟨#[]⟩) (.int .i64 0) (.int .i64 0) (.int .i64 0) (.string ⟨#[]⟩) (.string ⟨#[]⟩) (.int .i64 0) (.string ⟨#[]⟩) (.string ⟨#[]⟩) (.string ⟨#[]⟩) (.int .i64 0) (.string ⟨#[]⟩) (.int .i64 0)
    have t0 := objAt_cell oF 0 rfl
    have t1 := objAt_cell oF 1 rfl
    have t2 := objAt_cell oF 2 rfl
    have t3 := objAt_cell oF 3 rfl
    have t4 := objAt_cell oF 4 rfl
    have t5 := objAt_cell oF 5 rfl
    have t6 := objAt_cell oF 6 rfl
    have t7 := objAt_cell oF 7 rfl
    have t8 := objAt_cell oF 8 rfl
    have t9 := objAt_cell oF 9 rfl
    have t10 := objAt_cell oF 10 rfl
    have t11 := objAt_cell oF 11 rfl
    have t12 := objAt_cell oF 12 rfl
    have t13 := objAt_cell oF 13 rfl
    have TT := Lib.hid (And.intro t0 ( And.intro t1 ( And.intro t2 ( And.intro t3 ( And.intro t4 ( And.intro t5 ( And.intro t6 ( And.intro t7 ( And.intro t8 ( And.intro t9 ( And.intro t10 ( And.intro t11 (And.intro t12 t13)))))))))))))
    clear oF t0 t1 t2 t3 t4 t5 t6 t7 t8 t9 t10 t11 t12 t13 hD hne T4 b4 he o4
    go_wp2
    obtain ⟨t0, t1, t2, t3, t4, t5, t6, t7, t8, t9, t10, t11, t12, t13⟩ := TT.out
    exact bodyPost_ret (v := .tuple #[.agg #[.int .i64 0, .string ⟨#[]⟩, .int .i64 0, .int .i64 0, .int .i64 0, .string ⟨#[]⟩, .string ⟨#[]⟩, .int .i64 0, .string ⟨#[]⟩, .string ⟨#[]⟩, .string ⟨#[]⟩, .int .i64 0, .string ⟨#[]⟩, .int .i64 0], .int .i64 (e : Int)]) (by simp [results, Try.results16, go_sem, t0, t1, t2, t3, t4, t5, t6, t7, t8, t9, t10, t11, t12, t13]) rfl (by rw [HD.out]; exact ⟨rfl, BF.out⟩)
  · rw [he]
    subst hr
    have HC := qcheck_any q.1 (wReq_read hok) w4 (fun h => (HKD.out q.1 hok rfl h).below b4)
    obtain ⟨c, hc⟩ : ∃ c, qcheckE V8 q.1 = c := ⟨_, rfl⟩
    rw [hc] at HC hD
    have HC := Lib.hid HC
    have HD := Lib.hid hD
    have x0 := objAt_cell T4 0 rfl
    have x1 := objAt_cell T4 1 rfl
    have x2 := objAt_cell T4 2 rfl
    have x3 := objAt_cell T4 3 rfl
    have x4 := objAt_cell T4 4 rfl
    have x5 := objAt_cell T4 5 rfl
    have x6 := objAt_cell T4 6 rfl
    have x7 := objAt_cell T4 7 rfl
    have x8 := objAt_cell T4 8 rfl
    have x9 := objAt_cell T4 9 rfl
    have x10 := objAt_cell T4 10 rfl
    have x11 := objAt_cell T4 11 rfl
    have x12 := objAt_cell T4 12 rfl
    have x13 := objAt_cell T4 13 rfl
    have xl := objAt_lt T4
    have O4 := Lib.hid o4
    have OT := Lib.hid T4
    have BB := Lib.hid b4
    clear o4 T4 b4 hD hok he hc HKD
    go_wp2_with fail
    refine HC.out.mono ?_
    rintro e w5 ⟨rfl, b5⟩
    have o5 := objAt_next O4.out b5
    have T5 := objAt_next OT.out b5
    have hB5 := below_trans BB.out b5 BB.out.size
    clear x0 x1 x2 x3 x4 x5 x6 x7 x8 x9 x10 x11 x12 x13 xl O4 OT BB HC b5
    by_cases h0 : c ≠ 0
    · have hD := HD.out
      rw [if_pos h0] at hD
      have HD := Lib.hid hD
      have h0' : ((c : Int) != 0) = true := by simp; omega
      have BF := Lib.hid (below_put14 hB5 (Nat.le_refl w.heap.size) (.int .i64 0) (.string ⟨#[]⟩) (.int .i64 0) (.int .i64 0) (.int .i64 0) (.string ⟨#[]⟩) (.string ⟨#[]⟩) (.int .i64 0) (.string ⟨#[]⟩) (.string ⟨#[]⟩) (.string ⟨#[]⟩) (.int .i64 0) (.string ⟨#[]⟩) (.int .i64 0))
      have c0 := objAt_cell o5 0 rfl
      have f0 := objAt_free o5 0
      have c1 := objAt_cell o5 1 rfl
      have f1 := objAt_free o5 1
      have c2 := objAt_cell o5 2 rfl
      have f2 := objAt_free o5 2
      have c3 := objAt_cell o5 3 rfl
      have f3 := objAt_free o5 3
      have c4 := objAt_cell o5 4 rfl
      have f4 := objAt_free o5 4
      have c5 := objAt_cell o5 5 rfl
      have f5 := objAt_free o5 5
      have c6 := objAt_cell o5 6 rfl
      have f6 := objAt_free o5 6
      have c7 := objAt_cell o5 7 rfl
      have f7 := objAt_free o5 7
      have c8 := objAt_cell o5 8 rfl
      have f8 := objAt_free o5 8
      have c9 := objAt_cell o5 9 rfl
      have f9 := objAt_free o5 9
      have c10 := objAt_cell o5 10 rfl
      have f10 := objAt_free o5 10
      have c11 := objAt_cell o5 11 rfl
      have f11 := objAt_free o5 11
      have c12 := objAt_cell o5 12 rfl
      have f12 := objAt_free o5 12
      have c13 := objAt_cell o5 13 rfl
      have f13 := objAt_free o5 13
      have zl := objAt_lt o5
      have oF := obj_put14 o5 (.int .i64 0) (.string ⟨#[]⟩) (.int .i64 0) (.int .i64 0) (.int .i64 0) (.string ⟨#[]⟩) (.string ⟨#[]⟩) (.int .i64 0) (.string ⟨#[]⟩) (.string ⟨#[]⟩) (.string ⟨#[]⟩) (.int .i64 0) (.string ⟨#[]⟩) (.int .i64 0)
      have t0 := objAt_cell oF 0 rfl
      have t1 := objAt_cell oF 1 rfl
      have t2 := objAt_cell oF 2 rfl
      have t3 := objAt_cell oF 3 rfl
      have t4 := objAt_cell oF 4 rfl
      have t5 := objAt_cell oF 5 rfl
      have t6 := objAt_cell oF 6 rfl
      have t7 := objAt_cell oF 7 rfl
      have t8 := objAt_cell oF 8 rfl
      have t9 := objAt_cell oF 9 rfl
      have t10 := objAt_cell oF 10 rfl
      have t11 := objAt_cell oF 11 rfl
      have t12 := objAt_cell oF 12 rfl
      have t13 := objAt_cell oF 13 rfl
      have TT := Lib.hid (And.intro t0 ( And.intro t1 ( And.intro t2 ( And.intro t3 ( And.intro t4 ( And.intro t5 ( And.intro t6 ( And.intro t7 ( And.intro t8 ( And.intro t9 ( And.intro t10 ( And.intro t11 (And.intro t12 t13)))))))))))))
      clear oF t0 t1 t2 t3 t4 t5 t6 t7 t8 t9 t10 t11 t12 t13 hD h0 T5 hB5 o5
      go_wp2
      obtain ⟨t0, t1, t2, t3, t4, t5, t6, t7, t8, t9, t10, t11, t12, t13⟩ := TT.out
      exact bodyPost_ret (v := .tuple #[.agg #[.int .i64 0, .string ⟨#[]⟩, .int .i64 0, .int .i64 0, .int .i64 0, .string ⟨#[]⟩, .string ⟨#[]⟩, .int .i64 0, .string ⟨#[]⟩, .string ⟨#[]⟩, .string ⟨#[]⟩, .int .i64 0, .string ⟨#[]⟩, .int .i64 0], .int .i64 (c : Int)]) (by simp [results, Try.results16, go_sem, t0, t1, t2, t3, t4, t5, t6, t7, t8, t9, t10, t11, t12, t13]) rfl (by rw [HD.out]; exact ⟨rfl, BF.out⟩)
    · have hD := HD.out
      rw [if_neg h0] at hD
      have HD := Lib.hid hD
      have h0 : c = 0 := by omega
      subst h0
      have BF := Lib.hid (below_put14 hB5 (Nat.le_refl w.heap.size) (.int .i64 q.1.kind) (.string q.1.job.name) (.int .i64 q.1.job.prio) (.int .i64 q.1.job.need) (.int .i64 q.1.job.tries) (.string q.1.job.tag) (.string q.1.node.name) (.int .i64 q.1.node.room) (.string q.1.node.zone) (.string q.1.lease.job) (.string q.1.lease.node) (.int .i64 q.1.lease.til) (.string q.1.name) (.int .i64 q.1.n))
      have y0 := objAt_cell T5 0 rfl
      have y1 := objAt_cell T5 1 rfl
      have y2 := objAt_cell T5 2 rfl
      have y3 := objAt_cell T5 3 rfl
      have y4 := objAt_cell T5 4 rfl
      have y5 := objAt_cell T5 5 rfl
      have y6 := objAt_cell T5 6 rfl
      have y7 := objAt_cell T5 7 rfl
      have y8 := objAt_cell T5 8 rfl
      have y9 := objAt_cell T5 9 rfl
      have y10 := objAt_cell T5 10 rfl
      have y11 := objAt_cell T5 11 rfl
      have y12 := objAt_cell T5 12 rfl
      have y13 := objAt_cell T5 13 rfl
      have yl := objAt_lt T5
      have c0 := objAt_cell o5 0 rfl
      have f0 := objAt_free o5 0
      have c1 := objAt_cell o5 1 rfl
      have f1 := objAt_free o5 1
      have c2 := objAt_cell o5 2 rfl
      have f2 := objAt_free o5 2
      have c3 := objAt_cell o5 3 rfl
      have f3 := objAt_free o5 3
      have c4 := objAt_cell o5 4 rfl
      have f4 := objAt_free o5 4
      have c5 := objAt_cell o5 5 rfl
      have f5 := objAt_free o5 5
      have c6 := objAt_cell o5 6 rfl
      have f6 := objAt_free o5 6
      have c7 := objAt_cell o5 7 rfl
      have f7 := objAt_free o5 7
      have c8 := objAt_cell o5 8 rfl
      have f8 := objAt_free o5 8
      have c9 := objAt_cell o5 9 rfl
      have f9 := objAt_free o5 9
      have c10 := objAt_cell o5 10 rfl
      have f10 := objAt_free o5 10
      have c11 := objAt_cell o5 11 rfl
      have f11 := objAt_free o5 11
      have c12 := objAt_cell o5 12 rfl
      have f12 := objAt_free o5 12
      have c13 := objAt_cell o5 13 rfl
      have f13 := objAt_free o5 13
      have zl := objAt_lt o5
      have oF := obj_put14 o5 (.int .i64 q.1.kind) (.string q.1.job.name) (.int .i64 q.1.job.prio) (.int .i64 q.1.job.need) (.int .i64 q.1.job.tries) (.string q.1.job.tag) (.string q.1.node.name) (.int .i64 q.1.node.room) (.string q.1.node.zone) (.string q.1.lease.job) (.string q.1.lease.node) (.int .i64 q.1.lease.til) (.string q.1.name) (.int .i64 q.1.n)
      have t0 := objAt_cell oF 0 rfl
      have t1 := objAt_cell oF 1 rfl
      have t2 := objAt_cell oF 2 rfl
      have t3 := objAt_cell oF 3 rfl
      have t4 := objAt_cell oF 4 rfl
      have t5 := objAt_cell oF 5 rfl
      have t6 := objAt_cell oF 6 rfl
      have t7 := objAt_cell oF 7 rfl
      have t8 := objAt_cell oF 8 rfl
      have t9 := objAt_cell oF 9 rfl
      have t10 := objAt_cell oF 10 rfl
      have t11 := objAt_cell oF 11 rfl
      have t12 := objAt_cell oF 12 rfl
      have t13 := objAt_cell oF 13 rfl
      have TT := Lib.hid (And.intro t0 ( And.intro t1 ( And.intro t2 ( And.intro t3 ( And.intro t4 ( And.intro t5 ( And.intro t6 ( And.intro t7 ( And.intro t8 ( And.intro t9 ( And.intro t10 ( And.intro t11 (And.intro t12 t13)))))))))))))
      clear oF t0 t1 t2 t3 t4 t5 t6 t7 t8 t9 t10 t11 t12 t13 hD T5 hB5 o5
      go_wp2
      obtain ⟨t0, t1, t2, t3, t4, t5, t6, t7, t8, t9, t10, t11, t12, t13⟩ := TT.out
      exact bodyPost_ret (v := .tuple #[.agg #[.int .i64 q.1.kind, .string q.1.job.name, .int .i64 q.1.job.prio, .int .i64 q.1.job.need, .int .i64 q.1.job.tries, .string q.1.job.tag, .string q.1.node.name, .int .i64 q.1.node.room, .string q.1.node.zone, .string q.1.lease.job, .string q.1.lease.node, .int .i64 q.1.lease.til, .string q.1.name, .int .i64 q.1.n], .int .i64 0]) (by simp [results, Try.results16, go_sem, t0, t1, t2, t3, t4, t5, t6, t7, t8, t9, t10, t11, t12, t13]) rfl (by rw [HD.out]; exact ⟨rfl, BF.out⟩)
end Go.Proofs.Ytklpmhiaihabaaa
