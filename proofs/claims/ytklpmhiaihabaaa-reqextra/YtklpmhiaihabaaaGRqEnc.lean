/- Package req: Encode at every request. -/
import Derived.Test.YtklpmhiaihabaaaGRqWholeA
namespace Go.Proofs.Ytklpmhiaihabaaa
open Go.RowKit Go.Lib

theorem qB_ne (q : ReqD) : qB q ≠ [] := by
  have h := num_pos q.kind.toNat
  unfold qB intE
  intro e
  have := congrArg List.length e
  simp only [List.length_append, List.length_nil] at this
  omega
set_option maxRecDepth 100000 in
set_option maxHeartbeats 8000000 in
theorem qencode_any [Inhabited UV] (q : ReqD) (hw : wReq q) (w : World) (hT : Txt q.kind → Tabs w) :
    Calls Try.prog 14 #[.agg #[.int .i64 q.kind, .string q.job.name, .int .i64 q.job.prio, .int .i64 q.job.need, .int .i64 q.job.tries, .string q.job.tag, .string q.node.name, .int .i64 q.node.room, .string q.node.zone, .string q.lease.job, .string q.lease.node, .int .i64 q.lease.til, .string q.name, .int .i64 q.n]] w fun e w' => e = .returned (.tuple #[.string ⟨(qencR V8 q).1.toArray⟩, .int .i64 ((qencR V8 q).2 : Nat)]) ∧ Below w.heap.size w w' := by
  obtain ⟨W, hW⟩ : ∃ W, w.alloc (.cells #[.int .i64 q.kind, .string q.job.name, .int .i64 q.job.prio, .int .i64 q.job.need, .int .i64 q.job.tries, .string q.job.tag, .string q.node.name, .int .i64 q.node.room, .string q.node.zone, .string q.lease.job, .string q.lease.node, .int .i64 q.lease.til, .string q.name, .int .i64 q.n] 29) = W := ⟨_, rfl⟩
  have bW := below_one w (.cells #[.int .i64 q.kind, .string q.job.name, .int .i64 q.job.prio, .int .i64 q.job.need, .int .i64 q.job.tries, .string q.job.tag, .string q.node.name, .int .i64 q.node.room, .string q.node.zone, .string q.lease.job, .string q.lease.node, .int .i64 q.lease.til, .string q.name, .int .i64 q.n] 29)
  have oB := objAt_new w #[.int .i64 q.kind, .string q.job.name, .int .i64 q.job.prio, .int .i64 q.job.need, .int .i64 q.job.tries, .string q.job.tag, .string q.node.name, .int .i64 q.node.room, .string q.node.zone, .string q.lease.job, .string q.lease.node, .int .i64 q.lease.til, .string q.name, .int .i64 q.n] 29
  rw [hW] at bW oB
  have HC := qcheck_any q hw W (fun h => (hT h).below bW)
  obtain ⟨c, hc⟩ : ∃ c, qcheckE V8 q = c := ⟨_, rfl⟩
  rw [hc] at HC
  have HC := Lib.hid HC
  have HT := Lib.hid hT
  have OB := Lib.hid oB
  have BW := Lib.hid bW
  have b0 := objAt_cell oB 0 rfl
  have b1 := objAt_cell oB 1 rfl
  have b2 := objAt_cell oB 2 rfl
  have b3 := objAt_cell oB 3 rfl
  have b4 := objAt_cell oB 4 rfl
  have b5 := objAt_cell oB 5 rfl
  have b6 := objAt_cell oB 6 rfl
  have b7 := objAt_cell oB 7 rfl
  have b8 := objAt_cell oB 8 rfl
  have b9 := objAt_cell oB 9 rfl
  have b10 := objAt_cell oB 10 rfl
  have b11 := objAt_cell oB 11 rfl
  have b12 := objAt_cell oB 12 rfl
  have b13 := objAt_cell oB 13 rfl
  clear oB bW hT hw
  by_cases h0 : c ≠ 0
  · have hr : qencR V8 q = ([], c) := by unfold qencR; rw [if_pos (by rw [hc]; exact h0), hc]
    have h0' : ((c : Int) != 0) = true := by simp; omega
    rw [hr]
    clear hr h0 hc
    go_enter Try.func14, Try.ntmps14
    go_wp2_with fail
    refine HC.out.mono ?_
    rintro e w1 ⟨rfl, x1⟩
    go_wp2
    go_ret2
    exact ⟨rfl, below_trans BW.out x1 BW.out.size⟩
  · have h0 : c = 0 := by omega
    subst h0
    have hr : qencR V8 q = (qB q, 0) := by unfold qencR; rw [if_neg (by omega)]
    rw [hr]
    have HZ := Lib.hid hc
    clear hr hc
    go_enter Try.func14, Try.ntmps14
    go_wp2_with fail
    refine HC.out.mono ?_
    rintro e w1 ⟨rfl, x1⟩
    have hB1 := below_trans BW.out x1 BW.out.size
    have O1 := objAt_next OB.out x1
    obtain ⟨W1, hW1⟩ : ∃ W1, w1.alloc (.cells #[.int .i64 3, .bool false, .pointer none, .slice none 0 0, .string ⟨#[]⟩, .int .i64 0] 95) = W1 := ⟨_, rfl⟩
    have bA := below_one w1 (.cells #[.int .i64 3, .bool false, .pointer none, .slice none 0 0, .string ⟨#[]⟩, .int .i64 0] 95)
    have O2 := objAt_next O1 bA
    have hc0 := code_new w1 3 false ⟨#[]⟩
    have H1 := Lib.hid (writer_is 3 w1)
    rw [hW1] at bA O2 hc0 H1
    have sW1 : W1.heap.size = w1.heap.size + 1 := by rw [← hW1, World.size_alloc]
    have hkk : (numbS q.kind ⟨false, [], ⟨#[]⟩, 0⟩).1 = q.kind := numb_same (ok_q V8 HZ.out).1.1 rfl
    have HW := qwhole_any q (.inl ⟨rfl, HZ.out⟩) (Nat.zero_le _) (Nat.zero_le _) _ hc0 (fun h => ⟨w1, rfl, (HT.out (by rw [← hkk]; exact h)).below hB1, bA⟩)
    rw [wrt_q HZ.out _ rfl] at HW
    have HW := Lib.hid HW
    have HB1 := Lib.hid hB1
    have HBA := Lib.hid bA
    clear b0 b1 b2 b3 b4 b5 b6 b7 b8 b9 b10 b11 b12 b13
    have a0 := objAt_cell O2 0 rfl
    have a1 := objAt_cell O2 1 rfl
    have a2 := objAt_cell O2 2 rfl
    have a3 := objAt_cell O2 3 rfl
    have a4 := objAt_cell O2 4 rfl
    have a5 := objAt_cell O2 5 rfl
    have a6 := objAt_cell O2 6 rfl
    have a7 := objAt_cell O2 7 rfl
    have a8 := objAt_cell O2 8 rfl
    have a9 := objAt_cell O2 9 rfl
    have a10 := objAt_cell O2 10 rfl
    have a11 := objAt_cell O2 11 rfl
    have a12 := objAt_cell O2 12 rfl
    have a13 := objAt_cell O2 13 rfl
    have aL := objAt_lt O2
    clear O1 O2 hc0 hB1 bA hW1 hkk
    go_wp2_with fail
    refine H1.out.mono ?_
    rintro e w1' ⟨rfl, rfl⟩
    go_wp2_with fail
    refine HW.out.mono ?_
    rintro e w2 ⟨rfl, hc2, hk2⟩
    have hne : ([] ++ qB q : List UInt8) ≠ [] := by rw [List.nil_append]; exact qB_ne q
    have HWr := Lib.hid (written_is hne rfl w2 hc2)
    have HK := Lib.hid hk2
    clear hc2 hk2 hne a0 a1 a2 a3 a4 a5 a6 a7 a8 a9 a10 a11 a12 a13 aL HW H1
    go_wp2_with fail
    refine HWr.out.mono ?_
    rintro e w3 ⟨rfl, hk3⟩
    go_wp2
    go_ret2
    refine ⟨rfl, ?_⟩
    have h2 := keep_low (keep_trans HK.out hk3) (by omega)
    exact below_trans HB1.out (HBA.out.trans h2) HB1.out.size
end Go.Proofs.Ytklpmhiaihabaaa
