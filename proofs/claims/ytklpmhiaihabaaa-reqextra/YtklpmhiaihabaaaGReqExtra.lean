/- For every request and every number the law ReqExtra of the package brackenkeep returns true: what a kind does not have may not be there. No condition: whatever the library's tables for UTF-8 hold. -/
import Derived.Test.YtklpmhiaihabaaaGRqLaw
import Derived.Test.YtklpmhiaihabaaaGRqArgQ
import Derived.Deep.RegionHeld3
namespace Go.Proofs.Ytklpmhiaihabaaa.reqExtra
open Go.ChangeShapes Go.WideShapes Go.ChangeAt Go.RowKit
open Go.ChangeMaps (open_string shut_string)
set_option linter.unusedVariables false

theorem extraN_any [Inhabited UV] (q : ReqD) (n : Int) (hw : wReq q) (hwn : (Lit.int .i64 n).wf = true) (hn : n ≠ 0) (hz : qcheckE V8 q = 0) (hk : q.kind ≠ 7) (w : World) (hT : Tabs w) :
    Calls Try.prog 12 #[.agg #[.int .i64 q.kind, .string q.job.name, .int .i64 q.job.prio, .int .i64 q.job.need, .int .i64 q.job.tries, .string q.job.tag, .string q.node.name, .int .i64 q.node.room, .string q.node.zone, .string q.lease.job, .string q.lease.node, .int .i64 q.lease.til, .string q.name, .int .i64 n]] w fun e w' => e = .returned (.int .i64 4) ∧ Below w.heap.size w w' := by
  have h := qcheck_any { q with n := n } ⟨hw.1, hw.2.1, hw.2.2.1, hw.2.2.2.1, hw.2.2.2.2.1, hwn⟩ w (fun _ => hT)
  rw [q_extraN hz hn hk] at h
  exact h
theorem extraS_any [Inhabited UV] (q : ReqD) (hw : wReq q) (hz : qcheckE V8 q = 0) (hk : ¬ (q.kind = 3 ∨ q.kind = 4 ∨ q.kind = 6)) (w : World) (hT : Tabs w) :
    Calls Try.prog 12 #[.agg #[.int .i64 q.kind, .string q.job.name, .int .i64 q.job.prio, .int .i64 q.job.need, .int .i64 q.job.tries, .string q.job.tag, .string q.node.name, .int .i64 q.node.room, .string q.node.zone, .string q.lease.job, .string q.lease.node, .int .i64 q.lease.til, .string ⟨#[122]⟩, .int .i64 q.n]] w fun e w' => e = .returned (.int .i64 4) ∧ Below w.heap.size w w' := by
  have h := qcheck_any { q with name := ⟨#[122]⟩ } ⟨hw.1, hw.2.1, hw.2.2.1, hw.2.2.2.1, (show (⟨#[122]⟩ : ByteArray).size ≤ maxLen by decide), hw.2.2.2.2.2⟩ w (fun _ => hT)
  rw [q_extraS hz (by decide) hk] at h
  exact h
set_option maxRecDepth 100000 in
set_option maxHeartbeats 8000000 in
theorem walk [Inhabited UV] (q : ReqD) (n : Int) (hw : wReq q) (hwn : (Lit.int .i64 n).wf = true) (w : World) (hT : Tabs w) :
    Calls Try.prog 9 #[.agg #[.int .i64 q.kind, .string q.job.name, .int .i64 q.job.prio, .int .i64 q.job.need, .int .i64 q.job.tries, .string q.job.tag, .string q.node.name, .int .i64 q.node.room, .string q.node.zone, .string q.lease.job, .string q.lease.node, .int .i64 q.lease.til, .string q.name, .int .i64 q.n], .int .i64 n] w fun e w' => e = .returned (.bool true) ∧ Below w.heap.size w w' := by
  have bA := below_one w (.cells #[.int .i64 q.kind, .string q.job.name, .int .i64 q.job.prio, .int .i64 q.job.need, .int .i64 q.job.tries, .string q.job.tag, .string q.node.name, .int .i64 q.node.room, .string q.node.zone, .string q.lease.job, .string q.lease.node, .int .i64 q.lease.til, .string q.name, .int .i64 q.n] 29)
  have oA := objAt_new w #[.int .i64 q.kind, .string q.job.name, .int .i64 q.job.prio, .int .i64 q.job.need, .int .i64 q.job.tries, .string q.job.tag, .string q.node.name, .int .i64 q.node.room, .string q.node.zone, .string q.lease.job, .string q.lease.node, .int .i64 q.lease.til, .string q.name, .int .i64 q.n] 29
  obtain ⟨W0, hW0⟩ : ∃ W0, w.alloc (.cells #[.int .i64 q.kind, .string q.job.name, .int .i64 q.job.prio, .int .i64 q.job.need, .int .i64 q.job.tries, .string q.job.tag, .string q.node.name, .int .i64 q.node.room, .string q.node.zone, .string q.lease.job, .string q.lease.node, .int .i64 q.lease.til, .string q.name, .int .i64 q.n] 29) = W0 := ⟨_, rfl⟩
  rw [hW0] at bA oA
  have HA := Lib.hid (asked_is W0)
  have OA := Lib.hid oA
  have BA := Lib.hid bA
  have HT := Lib.hid hT
  have HWQ := Lib.hid hw
  clear oA bA hT hw
  go_enter Try.func9, Try.ntmps9
  go_wp2_with fail
  refine HA.out.mono ?_
  rintro e w1 ⟨rfl, b1⟩
  have O1 := Lib.hid (objAt_next OA.out b1)
  have B1 := Lib.hid (below_trans BA.out b1 BA.out.size)
  clear b1 HA OA
  have HK := Lib.hid (qcheck_any q HWQ.out w1 (fun _ => HT.out.below B1.out))
  have k0 := objAt_cell O1.out 0 rfl
  have k1 := objAt_cell O1.out 1 rfl
  have k2 := objAt_cell O1.out 2 rfl
  have k3 := objAt_cell O1.out 3 rfl
  have k4 := objAt_cell O1.out 4 rfl
  have k5 := objAt_cell O1.out 5 rfl
  have k6 := objAt_cell O1.out 6 rfl
  have k7 := objAt_cell O1.out 7 rfl
  have k8 := objAt_cell O1.out 8 rfl
  have k9 := objAt_cell O1.out 9 rfl
  have k10 := objAt_cell O1.out 10 rfl
  have k11 := objAt_cell O1.out 11 rfl
  have k12 := objAt_cell O1.out 12 rfl
  have k13 := objAt_cell O1.out 13 rfl
  by_cases hc : qcheckE V8 q ≠ 0
  · have h0 : ((qcheckE V8 q : Int) != 0) = true := by simp; omega
    obtain ⟨c, hcc⟩ : ∃ c, qcheckE V8 q = c := ⟨_, rfl⟩
    rw [hcc] at HK h0
    clear hc hcc
    go_wp2_with fail
    refine HK.out.mono ?_
    rintro e w2 ⟨rfl, b2⟩
    have BF := Lib.hid (below_trans B1.out b2 B1.out.size)
    clear k0 k1 k2 k3 k4 k5 k6 k7 k8 k9 k10 k11 k12 k13 b2 HK
    go_wp2
    go_ret
    exact ⟨rfl, BF.out⟩
  · have hz : qcheckE V8 q = 0 := by omega
    have HK := Lib.hid (by have h := HK.out; rw [hz] at h; exact h : Calls Try.prog 12 #[.agg #[.int .i64 q.kind, .string q.job.name, .int .i64 q.job.prio, .int .i64 q.job.need, .int .i64 q.job.tries, .string q.job.tag, .string q.node.name, .int .i64 q.node.room, .string q.node.zone, .string q.lease.job, .string q.lease.node, .int .i64 q.lease.til, .string q.name, .int .i64 q.n]] w1 fun e w' => e = .returned (.int .i64 0) ∧ Below w1.heap.size w1 w')
    clear hc
    by_cases hn : n = 0
    · have hnz : (n == 0) = true := by simp [hn]
      clear hn
      go_wp2_with fail
      refine HK.out.mono ?_
      rintro e w2 ⟨rfl, b2⟩
      have BF := Lib.hid (below_trans B1.out b2 B1.out.size)
      clear k0 k1 k2 k3 k4 k5 k6 k7 k8 k9 k10 k11 k12 k13 b2 HK
      go_wp2
      go_ret
      exact ⟨rfl, BF.out⟩
    · have hnz : (n == 0) = false := by simpa using hn
      go_wp2_with fail
      refine HK.out.mono ?_
      rintro e w2 ⟨rfl, b2⟩
      have O2 := Lib.hid (objAt_next O1.out b2)
      have B2 := Lib.hid (below_trans B1.out b2 B1.out.size)
      clear k0 k1 k2 k3 k4 k5 k6 k7 k8 k9 k10 k11 k12 k13 b2 HK O1
      go_upto_region 5 with fail
      have k0 := objAt_cell O2.out 0 rfl
      have k1 := objAt_cell O2.out 1 rfl
      have k2 := objAt_cell O2.out 2 rfl
      have k3 := objAt_cell O2.out 3 rfl
      have k4 := objAt_cell O2.out 4 rfl
      have k5 := objAt_cell O2.out 5 rfl
      have k6 := objAt_cell O2.out 6 rfl
      have k7 := objAt_cell O2.out 7 rfl
      have k8 := objAt_cell O2.out 8 rfl
      have k9 := objAt_cell O2.out 9 rfl
      have k10 := objAt_cell O2.out 10 rfl
      have k11 := objAt_cell O2.out 11 rfl
      have k12 := objAt_cell O2.out 12 rfl
      have k13 := objAt_cell O2.out 13 rfl
      have hlt : w.heap.size < w2.heap.size := objAt_lt O2.out
      have ON := Lib.hid (objAt_drew (objAt_next (objAt_next O2.out (below_one w2 (.cells #[.int .i64 q.kind, .string q.job.name, .int .i64 q.job.prio, .int .i64 q.job.need, .int .i64 q.job.tries, .string q.job.tag, .string q.node.name, .int .i64 q.node.room, .string q.node.zone, .string q.lease.job, .string q.lease.node, .int .i64 q.lease.til, .string q.name, .int .i64 q.n] 29))) (below_one (w2.alloc (.cells #[.int .i64 q.kind, .string q.job.name, .int .i64 q.job.prio, .int .i64 q.job.need, .int .i64 q.job.tries, .string q.job.tag, .string q.node.name, .int .i64 q.node.room, .string q.node.zone, .string q.lease.job, .string q.lease.node, .int .i64 q.lease.til, .string q.name, .int .i64 q.n] 29)) (.cells #[.int .i64 q.kind, .string q.job.name, .int .i64 q.job.prio, .int .i64 q.job.need, .int .i64 q.job.tries, .string q.job.tag, .string q.node.name, .int .i64 q.node.room, .string q.node.zone, .string q.lease.job, .string q.lease.node, .int .i64 q.lease.til, .string q.name, .int .i64 q.n] 29))))
      have OX := Lib.hid (objAt_drew (objAt_next (objAt_new w2 #[.int .i64 q.kind, .string q.job.name, .int .i64 q.job.prio, .int .i64 q.job.need, .int .i64 q.job.tries, .string q.job.tag, .string q.node.name, .int .i64 q.node.room, .string q.node.zone, .string q.lease.job, .string q.lease.node, .int .i64 q.lease.til, .string q.name, .int .i64 q.n] 29) (below_one (w2.alloc (.cells #[.int .i64 q.kind, .string q.job.name, .int .i64 q.job.prio, .int .i64 q.job.need, .int .i64 q.job.tries, .string q.job.tag, .string q.node.name, .int .i64 q.node.room, .string q.node.zone, .string q.lease.job, .string q.lease.node, .int .i64 q.lease.til, .string q.name, .int .i64 q.n] 29)) (.cells #[.int .i64 q.kind, .string q.job.name, .int .i64 q.job.prio, .int .i64 q.job.need, .int .i64 q.job.tries, .string q.job.tag, .string q.node.name, .int .i64 q.node.room, .string q.node.zone, .string q.lease.job, .string q.lease.node, .int .i64 q.lease.til, .string q.name, .int .i64 q.n] 29))))
      have oY := objAt_new (w2.alloc (.cells #[.int .i64 q.kind, .string q.job.name, .int .i64 q.job.prio, .int .i64 q.job.need, .int .i64 q.job.tries, .string q.job.tag, .string q.node.name, .int .i64 q.node.room, .string q.node.zone, .string q.lease.job, .string q.lease.node, .int .i64 q.lease.til, .string q.name, .int .i64 q.n] 29)) #[.int .i64 q.kind, .string q.job.name, .int .i64 q.job.prio, .int .i64 q.job.need, .int .i64 q.job.tries, .string q.job.tag, .string q.node.name, .int .i64 q.node.room, .string q.node.zone, .string q.lease.job, .string q.lease.node, .int .i64 q.lease.til, .string q.name, .int .i64 q.n] 29
      rw [World.size_alloc] at oY
      have OY := Lib.hid (objAt_drew oY)
      have b3 := below_trans B2.out (below_one w2 (.cells #[.int .i64 q.kind, .string q.job.name, .int .i64 q.job.prio, .int .i64 q.job.need, .int .i64 q.job.tries, .string q.job.tag, .string q.node.name, .int .i64 q.node.room, .string q.node.zone, .string q.lease.job, .string q.lease.node, .int .i64 q.lease.til, .string q.name, .int .i64 q.n] 29)) B2.out.size
      have BN := Lib.hid (below_trans b3 (below_one (w2.alloc (.cells #[.int .i64 q.kind, .string q.job.name, .int .i64 q.job.prio, .int .i64 q.job.need, .int .i64 q.job.tries, .string q.job.tag, .string q.node.name, .int .i64 q.node.room, .string q.node.zone, .string q.lease.job, .string q.lease.node, .int .i64 q.lease.til, .string q.name, .int .i64 q.n] 29)) (.cells #[.int .i64 q.kind, .string q.job.name, .int .i64 q.job.prio, .int .i64 q.job.need, .int .i64 q.job.tries, .string q.job.tag, .string q.node.name, .int .i64 q.node.room, .string q.node.zone, .string q.lease.job, .string q.lease.node, .int .i64 q.lease.til, .string q.name, .int .i64 q.n] 29)) b3.size).drew
      clear oY b3
      go_region
      · clear k0 k1 k2 k3 k4 k5 k6 k7 k8 k9 k10 k11 k12 k13 O2 B2
        generalize ((w2.alloc (.cells #[.int .i64 q.kind, .string q.job.name, .int .i64 q.job.prio, .int .i64 q.job.need, .int .i64 q.job.tries, .string q.job.tag, .string q.node.name, .int .i64 q.node.room, .string q.node.zone, .string q.lease.job, .string q.lease.node, .int .i64 q.lease.til, .string q.name, .int .i64 q.n] 29)).alloc (.cells #[.int .i64 q.kind, .string q.job.name, .int .i64 q.job.prio, .int .i64 q.job.need, .int .i64 q.job.tries, .string q.job.tag, .string q.node.name, .int .i64 q.node.room, .string q.node.zone, .string q.lease.job, .string q.lease.node, .int .i64 q.lease.til, .string q.name, .int .i64 q.n] 29)).drew = V at ON OX OY BN ⊢
        generalize w2.heap.size = X at hlt OX OY ⊢
        have fx := objAt_free OX.out 13
        have fy := objAt_free OY.out 12
        have cx := objAt_cell OX.out 13 rfl
        have cy := objAt_cell OY.out 12 rfl
        go_upto_region 7 with fail
        clear fx fy cx cy
        have X1 : ObjAt X #[.int .i64 q.kind, .string q.job.name, .int .i64 q.job.prio, .int .i64 q.job.need, .int .i64 q.job.tries, .string q.job.tag, .string q.node.name, .int .i64 q.node.room, .string q.node.zone, .string q.lease.job, .string q.lease.node, .int .i64 q.lease.til, .string q.name, .int .i64 n] 29 _ := objAt_set OX.out 13 (.int .i64 n)
        have AX := Lib.hid (objAt_other X1 (c := (X + 1)) (by omega) 12 (.string ⟨#[122]⟩))
        have Y1 := objAt_other OY.out (c := X) (by omega) 13 (.int .i64 n)
        have Y2 : ObjAt (X + 1) #[.int .i64 q.kind, .string q.job.name, .int .i64 q.job.prio, .int .i64 q.job.need, .int .i64 q.job.tries, .string q.job.tag, .string q.node.name, .int .i64 q.node.room, .string q.node.zone, .string q.lease.job, .string q.lease.node, .int .i64 q.lease.til, .string ⟨#[122]⟩, .int .i64 q.n] 29 _ := objAt_set Y1 12 (.string ⟨#[122]⟩)
        have AY := Lib.hid Y2
        have AN := Lib.hid (objAt_other (objAt_other ON.out (c := X) (by omega) 13 (.int .i64 n)) (c := (X + 1)) (by omega) 12 (.string ⟨#[122]⟩))
        have AB := Lib.hid ((BN.out.setCell (p := ⟨X, 13, none⟩) (by simp; omega) (.int .i64 n)).setCell (p := ⟨(X + 1), 12, none⟩) (by simp; omega) (.string ⟨#[122]⟩))
        clear X1 Y1 Y2 OX OY ON BN hlt
        generalize (V.setCell ⟨X, 13, none⟩ (.int .i64 n)).setCell ⟨(X + 1), 12, none⟩ (.string ⟨#[122]⟩) = U at AX AY AN AB ⊢
        have k0 := objAt_cell AN.out 0 rfl
        by_cases h7 : q.kind = 7
        · have e7 : (q.kind == 7) = true := by simp; omega
          have e3 : (q.kind == 3) = false := by simp; omega
          have e4 : (q.kind == 4) = false := by simp; omega
          have e6 : (q.kind == 6) = false := by simp; omega
          have HC := Lib.hid (extraS_any q HWQ.out hz (by omega) U (HT.out.below AB.out))
          clear h7
          have x0 := objAt_cell AY.out 0 rfl
          have x1 := objAt_cell AY.out 1 rfl
          have x2 := objAt_cell AY.out 2 rfl
          have x3 := objAt_cell AY.out 3 rfl
          have x4 := objAt_cell AY.out 4 rfl
          have x5 := objAt_cell AY.out 5 rfl
          have x6 := objAt_cell AY.out 6 rfl
          have x7 := objAt_cell AY.out 7 rfl
          have x8 := objAt_cell AY.out 8 rfl
          have x9 := objAt_cell AY.out 9 rfl
          have x10 := objAt_cell AY.out 10 rfl
          have x11 := objAt_cell AY.out 11 rfl
          have x12 := objAt_cell AY.out 12 rfl
          have x13 := objAt_cell AY.out 13 rfl
          go_wp2_with fail
          refine HC.out.mono ?_
          rintro e w3 ⟨rfl, b3⟩
          have n3 := objAt_next AN.out b3
          have B3 := Lib.hid (below_trans AB.out b3 AB.out.size)
          clear k0 x0 x1 x2 x3 x4 x5 x6 x7 x8 x9 x10 x11 x12 x13 b3 HC
          have k0 := objAt_cell n3 0 rfl
          clear n3
          go_wp2
          go_ret
          exact ⟨rfl, B3.out⟩
        by_cases h3 : q.kind = 3
        · have e7 : (q.kind == 7) = false := by simp; omega
          have e3 : (q.kind == 3) = true := by simp; omega
          have HC := Lib.hid (extraN_any q n HWQ.out hwn hn hz (by omega) U (HT.out.below AB.out))
          clear h7 h3
          have x0 := objAt_cell AX.out 0 rfl
          have x1 := objAt_cell AX.out 1 rfl
          have x2 := objAt_cell AX.out 2 rfl
          have x3 := objAt_cell AX.out 3 rfl
          have x4 := objAt_cell AX.out 4 rfl
          have x5 := objAt_cell AX.out 5 rfl
          have x6 := objAt_cell AX.out 6 rfl
          have x7 := objAt_cell AX.out 7 rfl
          have x8 := objAt_cell AX.out 8 rfl
          have x9 := objAt_cell AX.out 9 rfl
          have x10 := objAt_cell AX.out 10 rfl
          have x11 := objAt_cell AX.out 11 rfl
          have x12 := objAt_cell AX.out 12 rfl
          have x13 := objAt_cell AX.out 13 rfl
          go_wp2_with fail
          refine HC.out.mono ?_
          rintro e w3 ⟨rfl, b3⟩
          have n3 := objAt_next AN.out b3
          have B3 := Lib.hid (below_trans AB.out b3 AB.out.size)
          clear k0 x0 x1 x2 x3 x4 x5 x6 x7 x8 x9 x10 x11 x12 x13 b3 HC
          have k0 := objAt_cell n3 0 rfl
          clear n3
          go_wp2
          go_ret
          exact ⟨rfl, B3.out⟩
        by_cases h4 : q.kind = 4
        · have e7 : (q.kind == 7) = false := by simp; omega
          have e3 : (q.kind == 3) = false := by simp; omega
          have e4 : (q.kind == 4) = true := by simp; omega
          have HC := Lib.hid (extraN_any q n HWQ.out hwn hn hz (by omega) U (HT.out.below AB.out))
          clear h7 h3 h4
          have x0 := objAt_cell AX.out 0 rfl
          have x1 := objAt_cell AX.out 1 rfl
          have x2 := objAt_cell AX.out 2 rfl
          have x3 := objAt_cell AX.out 3 rfl
          have x4 := objAt_cell AX.out 4 rfl
          have x5 := objAt_cell AX.out 5 rfl
          have x6 := objAt_cell AX.out 6 rfl
          have x7 := objAt_cell AX.out 7 rfl
          have x8 := objAt_cell AX.out 8 rfl
          have x9 := objAt_cell AX.out 9 rfl
          have x10 := objAt_cell AX.out 10 rfl
          have x11 := objAt_cell AX.out 11 rfl
          have x12 := objAt_cell AX.out 12 rfl
          have x13 := objAt_cell AX.out 13 rfl
          go_wp2_with fail
          refine HC.out.mono ?_
          rintro e w3 ⟨rfl, b3⟩
          have n3 := objAt_next AN.out b3
          have B3 := Lib.hid (below_trans AB.out b3 AB.out.size)
          clear k0 x0 x1 x2 x3 x4 x5 x6 x7 x8 x9 x10 x11 x12 x13 b3 HC
          have k0 := objAt_cell n3 0 rfl
          clear n3
          go_wp2
          go_ret
          exact ⟨rfl, B3.out⟩
        by_cases h6 : q.kind = 6
        · have e7 : (q.kind == 7) = false := by simp; omega
          have e3 : (q.kind == 3) = false := by simp; omega
          have e4 : (q.kind == 4) = false := by simp; omega
          have e6 : (q.kind == 6) = true := by simp; omega
          have HC := Lib.hid (extraN_any q n HWQ.out hwn hn hz (by omega) U (HT.out.below AB.out))
          clear h7 h3 h4 h6
          have x0 := objAt_cell AX.out 0 rfl
          have x1 := objAt_cell AX.out 1 rfl
          have x2 := objAt_cell AX.out 2 rfl
          have x3 := objAt_cell AX.out 3 rfl
          have x4 := objAt_cell AX.out 4 rfl
          have x5 := objAt_cell AX.out 5 rfl
          have x6 := objAt_cell AX.out 6 rfl
          have x7 := objAt_cell AX.out 7 rfl
          have x8 := objAt_cell AX.out 8 rfl
          have x9 := objAt_cell AX.out 9 rfl
          have x10 := objAt_cell AX.out 10 rfl
          have x11 := objAt_cell AX.out 11 rfl
          have x12 := objAt_cell AX.out 12 rfl
          have x13 := objAt_cell AX.out 13 rfl
          go_wp2_with fail
          refine HC.out.mono ?_
          rintro e w3 ⟨rfl, b3⟩
          have n3 := objAt_next AN.out b3
          have B3 := Lib.hid (below_trans AB.out b3 AB.out.size)
          clear k0 x0 x1 x2 x3 x4 x5 x6 x7 x8 x9 x10 x11 x12 x13 b3 HC
          have k0 := objAt_cell n3 0 rfl
          clear n3
          go_wp2
          go_ret
          exact ⟨rfl, B3.out⟩
        have e7 : (q.kind == 7) = false := by simp; omega
        have e3 : (q.kind == 3) = false := by simp; omega
        have e4 : (q.kind == 4) = false := by simp; omega
        have e6 : (q.kind == 6) = false := by simp; omega
        have HC := Lib.hid (extraN_any q n HWQ.out hwn hn hz (by omega) U (HT.out.below AB.out))
        have HD := Lib.hid (fun V => extraS_any q HWQ.out hz (by omega) V)
        clear h7 h3 h4 h6
        have x0 := objAt_cell AX.out 0 rfl
        have x1 := objAt_cell AX.out 1 rfl
        have x2 := objAt_cell AX.out 2 rfl
        have x3 := objAt_cell AX.out 3 rfl
        have x4 := objAt_cell AX.out 4 rfl
        have x5 := objAt_cell AX.out 5 rfl
        have x6 := objAt_cell AX.out 6 rfl
        have x7 := objAt_cell AX.out 7 rfl
        have x8 := objAt_cell AX.out 8 rfl
        have x9 := objAt_cell AX.out 9 rfl
        have x10 := objAt_cell AX.out 10 rfl
        have x11 := objAt_cell AX.out 11 rfl
        have x12 := objAt_cell AX.out 12 rfl
        have x13 := objAt_cell AX.out 13 rfl
        go_wp2_with fail
        refine HC.out.mono ?_
        rintro e w3 ⟨rfl, b3⟩
        have n3 := objAt_next AN.out b3
        have B3 := Lib.hid (below_trans AB.out b3 AB.out.size)
        have y3 := objAt_next AY.out b3
        have HD := Lib.hid (HD.out w3 (HT.out.below B3.out))
        clear k0 x0 x1 x2 x3 x4 x5 x6 x7 x8 x9 x10 x11 x12 x13 b3 HC
        have k0 := objAt_cell n3 0 rfl
        have x0 := objAt_cell y3 0 rfl
        have x1 := objAt_cell y3 1 rfl
        have x2 := objAt_cell y3 2 rfl
        have x3 := objAt_cell y3 3 rfl
        have x4 := objAt_cell y3 4 rfl
        have x5 := objAt_cell y3 5 rfl
        have x6 := objAt_cell y3 6 rfl
        have x7 := objAt_cell y3 7 rfl
        have x8 := objAt_cell y3 8 rfl
        have x9 := objAt_cell y3 9 rfl
        have x10 := objAt_cell y3 10 rfl
        have x11 := objAt_cell y3 11 rfl
        have x12 := objAt_cell y3 12 rfl
        have x13 := objAt_cell y3 13 rfl
        clear n3 y3
        go_wp2_with fail
        refine HD.out.mono ?_
        rintro e w4 ⟨rfl, b4⟩
        have B4 := Lib.hid (below_trans B3.out b4 B3.out.size)
        clear k0 x0 x1 x2 x3 x4 x5 x6 x7 x8 x9 x10 x11 x12 x13 b4 HD B3
        have B3 := B4
        go_wp2
        go_ret
        exact ⟨rfl, B3.out⟩
      · clear k0 k1 k2 k3 k4 k5 k6 k7 k8 k9 k10 k11 k12 k13 O2 B2
        generalize ((w2.alloc (.cells #[.int .i64 q.kind, .string q.job.name, .int .i64 q.job.prio, .int .i64 q.job.need, .int .i64 q.job.tries, .string q.job.tag, .string q.node.name, .int .i64 q.node.room, .string q.node.zone, .string q.lease.job, .string q.lease.node, .int .i64 q.lease.til, .string q.name, .int .i64 q.n] 29)).alloc (.cells #[.int .i64 q.kind, .string q.job.name, .int .i64 q.job.prio, .int .i64 q.job.need, .int .i64 q.job.tries, .string q.job.tag, .string q.node.name, .int .i64 q.node.room, .string q.node.zone, .string q.lease.job, .string q.lease.node, .int .i64 q.lease.til, .string q.name, .int .i64 q.n] 29)).drew = V at ON OX OY BN ⊢
        generalize w2.heap.size = X at hlt OX OY ⊢
        have fx := objAt_free OY.out 13
        have fy := objAt_free OX.out 12
        have cx := objAt_cell OY.out 13 rfl
        have cy := objAt_cell OX.out 12 rfl
        go_upto_region 7 with fail
        clear fx fy cx cy
        have X1 : ObjAt (X + 1) #[.int .i64 q.kind, .string q.job.name, .int .i64 q.job.prio, .int .i64 q.job.need, .int .i64 q.job.tries, .string q.job.tag, .string q.node.name, .int .i64 q.node.room, .string q.node.zone, .string q.lease.job, .string q.lease.node, .int .i64 q.lease.til, .string q.name, .int .i64 n] 29 _ := objAt_set OY.out 13 (.int .i64 n)
        have AX := Lib.hid (objAt_other X1 (c := X) (by omega) 12 (.string ⟨#[122]⟩))
        have Y1 := objAt_other OX.out (c := (X + 1)) (by omega) 13 (.int .i64 n)
        have Y2 : ObjAt X #[.int .i64 q.kind, .string q.job.name, .int .i64 q.job.prio, .int .i64 q.job.need, .int .i64 q.job.tries, .string q.job.tag, .string q.node.name, .int .i64 q.node.room, .string q.node.zone, .string q.lease.job, .string q.lease.node, .int .i64 q.lease.til, .string ⟨#[122]⟩, .int .i64 q.n] 29 _ := objAt_set Y1 12 (.string ⟨#[122]⟩)
        have AY := Lib.hid Y2
        have AN := Lib.hid (objAt_other (objAt_other ON.out (c := (X + 1)) (by omega) 13 (.int .i64 n)) (c := X) (by omega) 12 (.string ⟨#[122]⟩))
        have AB := Lib.hid ((BN.out.setCell (p := ⟨(X + 1), 13, none⟩) (by simp; omega) (.int .i64 n)).setCell (p := ⟨X, 12, none⟩) (by simp; omega) (.string ⟨#[122]⟩))
        clear X1 Y1 Y2 OX OY ON BN hlt
        generalize (V.setCell ⟨(X + 1), 13, none⟩ (.int .i64 n)).setCell ⟨X, 12, none⟩ (.string ⟨#[122]⟩) = U at AX AY AN AB ⊢
        have k0 := objAt_cell AN.out 0 rfl
        by_cases h7 : q.kind = 7
        · have e7 : (q.kind == 7) = true := by simp; omega
          have e3 : (q.kind == 3) = false := by simp; omega
          have e4 : (q.kind == 4) = false := by simp; omega
          have e6 : (q.kind == 6) = false := by simp; omega
          have HC := Lib.hid (extraS_any q HWQ.out hz (by omega) U (HT.out.below AB.out))
          clear h7
          have x0 := objAt_cell AY.out 0 rfl
          have x1 := objAt_cell AY.out 1 rfl
          have x2 := objAt_cell AY.out 2 rfl
          have x3 := objAt_cell AY.out 3 rfl
          have x4 := objAt_cell AY.out 4 rfl
          have x5 := objAt_cell AY.out 5 rfl
          have x6 := objAt_cell AY.out 6 rfl
          have x7 := objAt_cell AY.out 7 rfl
          have x8 := objAt_cell AY.out 8 rfl
          have x9 := objAt_cell AY.out 9 rfl
          have x10 := objAt_cell AY.out 10 rfl
          have x11 := objAt_cell AY.out 11 rfl
          have x12 := objAt_cell AY.out 12 rfl
          have x13 := objAt_cell AY.out 13 rfl
          go_wp2_with fail
          refine HC.out.mono ?_
          rintro e w3 ⟨rfl, b3⟩
          have n3 := objAt_next AN.out b3
          have B3 := Lib.hid (below_trans AB.out b3 AB.out.size)
          clear k0 x0 x1 x2 x3 x4 x5 x6 x7 x8 x9 x10 x11 x12 x13 b3 HC
          have k0 := objAt_cell n3 0 rfl
          clear n3
          go_wp2
          go_ret
          exact ⟨rfl, B3.out⟩
        by_cases h3 : q.kind = 3
        · have e7 : (q.kind == 7) = false := by simp; omega
          have e3 : (q.kind == 3) = true := by simp; omega
          have HC := Lib.hid (extraN_any q n HWQ.out hwn hn hz (by omega) U (HT.out.below AB.out))
          clear h7 h3
          have x0 := objAt_cell AX.out 0 rfl
          have x1 := objAt_cell AX.out 1 rfl
          have x2 := objAt_cell AX.out 2 rfl
          have x3 := objAt_cell AX.out 3 rfl
          have x4 := objAt_cell AX.out 4 rfl
          have x5 := objAt_cell AX.out 5 rfl
          have x6 := objAt_cell AX.out 6 rfl
          have x7 := objAt_cell AX.out 7 rfl
          have x8 := objAt_cell AX.out 8 rfl
          have x9 := objAt_cell AX.out 9 rfl
          have x10 := objAt_cell AX.out 10 rfl
          have x11 := objAt_cell AX.out 11 rfl
          have x12 := objAt_cell AX.out 12 rfl
          have x13 := objAt_cell AX.out 13 rfl
          go_wp2_with fail
          refine HC.out.mono ?_
          rintro e w3 ⟨rfl, b3⟩
          have n3 := objAt_next AN.out b3
          have B3 := Lib.hid (below_trans AB.out b3 AB.out.size)
          clear k0 x0 x1 x2 x3 x4 x5 x6 x7 x8 x9 x10 x11 x12 x13 b3 HC
          have k0 := objAt_cell n3 0 rfl
          clear n3
          go_wp2
          go_ret
          exact ⟨rfl, B3.out⟩
        by_cases h4 : q.kind = 4
        · have e7 : (q.kind == 7) = false := by simp; omega
          have e3 : (q.kind == 3) = false := by simp; omega
          have e4 : (q.kind == 4) = true := by simp; omega
          have HC := Lib.hid (extraN_any q n HWQ.out hwn hn hz (by omega) U (HT.out.below AB.out))
          clear h7 h3 h4
          have x0 := objAt_cell AX.out 0 rfl
          have x1 := objAt_cell AX.out 1 rfl
          have x2 := objAt_cell AX.out 2 rfl
          have x3 := objAt_cell AX.out 3 rfl
          have x4 := objAt_cell AX.out 4 rfl
          have x5 := objAt_cell AX.out 5 rfl
          have x6 := objAt_cell AX.out 6 rfl
          have x7 := objAt_cell AX.out 7 rfl
          have x8 := objAt_cell AX.out 8 rfl
          have x9 := objAt_cell AX.out 9 rfl
          have x10 := objAt_cell AX.out 10 rfl
          have x11 := objAt_cell AX.out 11 rfl
          have x12 := objAt_cell AX.out 12 rfl
          have x13 := objAt_cell AX.out 13 rfl
          go_wp2_with fail
          refine HC.out.mono ?_
          rintro e w3 ⟨rfl, b3⟩
          have n3 := objAt_next AN.out b3
          have B3 := Lib.hid (below_trans AB.out b3 AB.out.size)
          clear k0 x0 x1 x2 x3 x4 x5 x6 x7 x8 x9 x10 x11 x12 x13 b3 HC
          have k0 := objAt_cell n3 0 rfl
          clear n3
          go_wp2
          go_ret
          exact ⟨rfl, B3.out⟩
        by_cases h6 : q.kind = 6
        · have e7 : (q.kind == 7) = false := by simp; omega
          have e3 : (q.kind == 3) = false := by simp; omega
          have e4 : (q.kind == 4) = false := by simp; omega
          have e6 : (q.kind == 6) = true := by simp; omega
          have HC := Lib.hid (extraN_any q n HWQ.out hwn hn hz (by omega) U (HT.out.below AB.out))
          clear h7 h3 h4 h6
          have x0 := objAt_cell AX.out 0 rfl
          have x1 := objAt_cell AX.out 1 rfl
          have x2 := objAt_cell AX.out 2 rfl
          have x3 := objAt_cell AX.out 3 rfl
          have x4 := objAt_cell AX.out 4 rfl
          have x5 := objAt_cell AX.out 5 rfl
          have x6 := objAt_cell AX.out 6 rfl
          have x7 := objAt_cell AX.out 7 rfl
          have x8 := objAt_cell AX.out 8 rfl
          have x9 := objAt_cell AX.out 9 rfl
          have x10 := objAt_cell AX.out 10 rfl
          have x11 := objAt_cell AX.out 11 rfl
          have x12 := objAt_cell AX.out 12 rfl
          have x13 := objAt_cell AX.out 13 rfl
          go_wp2_with fail
          refine HC.out.mono ?_
          rintro e w3 ⟨rfl, b3⟩
          have n3 := objAt_next AN.out b3
          have B3 := Lib.hid (below_trans AB.out b3 AB.out.size)
          clear k0 x0 x1 x2 x3 x4 x5 x6 x7 x8 x9 x10 x11 x12 x13 b3 HC
          have k0 := objAt_cell n3 0 rfl
          clear n3
          go_wp2
          go_ret
          exact ⟨rfl, B3.out⟩
        have e7 : (q.kind == 7) = false := by simp; omega
        have e3 : (q.kind == 3) = false := by simp; omega
        have e4 : (q.kind == 4) = false := by simp; omega
        have e6 : (q.kind == 6) = false := by simp; omega
        have HC := Lib.hid (extraN_any q n HWQ.out hwn hn hz (by omega) U (HT.out.below AB.out))
        have HD := Lib.hid (fun V => extraS_any q HWQ.out hz (by omega) V)
        clear h7 h3 h4 h6
        have x0 := objAt_cell AX.out 0 rfl
        have x1 := objAt_cell AX.out 1 rfl
        have x2 := objAt_cell AX.out 2 rfl
        have x3 := objAt_cell AX.out 3 rfl
        have x4 := objAt_cell AX.out 4 rfl
        have x5 := objAt_cell AX.out 5 rfl
        have x6 := objAt_cell AX.out 6 rfl
        have x7 := objAt_cell AX.out 7 rfl
        have x8 := objAt_cell AX.out 8 rfl
        have x9 := objAt_cell AX.out 9 rfl
        have x10 := objAt_cell AX.out 10 rfl
        have x11 := objAt_cell AX.out 11 rfl
        have x12 := objAt_cell AX.out 12 rfl
        have x13 := objAt_cell AX.out 13 rfl
        go_wp2_with fail
        refine HC.out.mono ?_
        rintro e w3 ⟨rfl, b3⟩
        have n3 := objAt_next AN.out b3
        have B3 := Lib.hid (below_trans AB.out b3 AB.out.size)
        have y3 := objAt_next AY.out b3
        have HD := Lib.hid (HD.out w3 (HT.out.below B3.out))
        clear k0 x0 x1 x2 x3 x4 x5 x6 x7 x8 x9 x10 x11 x12 x13 b3 HC
        have k0 := objAt_cell n3 0 rfl
        have x0 := objAt_cell y3 0 rfl
        have x1 := objAt_cell y3 1 rfl
        have x2 := objAt_cell y3 2 rfl
        have x3 := objAt_cell y3 3 rfl
        have x4 := objAt_cell y3 4 rfl
        have x5 := objAt_cell y3 5 rfl
        have x6 := objAt_cell y3 6 rfl
        have x7 := objAt_cell y3 7 rfl
        have x8 := objAt_cell y3 8 rfl
        have x9 := objAt_cell y3 9 rfl
        have x10 := objAt_cell y3 10 rfl
        have x11 := objAt_cell y3 11 rfl
        have x12 := objAt_cell y3 12 rfl
        have x13 := objAt_cell y3 13 rfl
        clear n3 y3
        go_wp2_with fail
        refine HD.out.mono ?_
        rintro e w4 ⟨rfl, b4⟩
        have B4 := Lib.hid (below_trans B3.out b4 B3.out.size)
        clear k0 x0 x1 x2 x3 x4 x5 x6 x7 x8 x9 x10 x11 x12 x13 b4 HD B3
        have B3 := B4
        go_wp2
        go_ret
        exact ⟨rfl, B3.out⟩

theorem own : ownKnob Try.prog.godebug = none := by kernel_rfl
theorem laidOut : laidOutB Try.prog = true := by kernel_rfl
set_option maxRecDepth 100000 in
theorem lifted (os : Os) (started : os.Started) (H : Type) (enc : TypeId × Value → H) :
    ReturnsInHanded {} Try.checked os 9 .any (Rows.reqExtraSpec.pre6 enc Try.prog Try.f9 Rows.reqExtraRow.domain false) (Rows.reqExtraSpec.post enc Try.prog Try.f9 false true false false) := by
  refine returnsInHanded_of_change_shaped (C := Try.checked) own started (by kernel_rfl) Try.func9
    (ChangeSpec.witness6 (enc := enc) (C := Try.checked) false ⟨#[], #[.agg #[.int .i64 0, .string ByteArray.empty, .int .i64 0, .int .i64 0, .int .i64 0, .string ByteArray.empty, .string ByteArray.empty, .int .i64 0, .string ByteArray.empty, .string ByteArray.empty, .string ByteArray.empty, .int .i64 0, .string ByteArray.empty, .int .i64 0], .int .i64 0], []⟩ 8 (by kernel_rfl) (by kernel_rfl) (by kernel_rfl) (by kernel_rfl)) ?_
  intro W base args ds gs before hval0 hW hcnd hsz0 hSh _
  have hval : ∀ (j : Nat) t v, Try.f9.params[j]? = some t → args[j]? = some v → Value.okWide Try.prog W .any base t v := hval0
  have hW' := hW
  obtain ⟨p, q, hA0, hV, rfl, hfz, hnd⟩ := hW
  have hA : DataW.TrodAll enc Try.prog W 0 (fun _ => true) true Try.f9.params.toList args.toList ds p := hA0
  rw [Try.params9] at hA hval
  obtain ⟨v0, vs0, d0, ds0, p0, q0, hargs, rfl, rfl, h0, r0⟩ := trodAll_cons hA
  obtain ⟨v1, vs1, d1, ds1, p1, q1, rfl, rfl, rfl, h1, r1⟩ := trodAll_cons r0
  obtain ⟨rfl, rfl, rfl⟩ := trodAll_nil r1
  obtain rfl : args = #[v0, v1] := by cases args; simp_all
  obtain ⟨rfl, rfl⟩ := trodVars_none hV
  obtain ⟨x0, rfl, rfl, w0⟩ := open_request (hval 0 29 v0 rfl rfl) h0
  obtain ⟨a1, rfl, rfl, rfl, w1⟩ := open_int Try.underlying3 (hval 1 3 v1 rfl rfl) h1

  clear hA0 hval0
  obtain ⟨uv, hTabs⟩ := @tabs_any ⟨⟨fun _ => true, rfl⟩⟩ _ hSh
  letI : Inhabited UV := ⟨uv⟩
  refine (walk x0 a1 w0 w1 W hTabs).mono fun e W' ⟨he, bel⟩ => ?_
  subst he
  exact ⟨_, rfl, _, _, _, [], _, [], hW', trodAll_mk1 (shut_bool Try.underlying4 _), (trodAll_cons_mk (Below.trod laidOut (by kernel_rfl) (of_decide_eq_true (by kernel_rfl)) h0 bel (fun x hx => by cases hx)) (trodAll_cons_mk (shut_int Try.underlying3 w1) trodAll_mk0)), rfl, bel.frame _, fun h => by cases h⟩

theorem over : Rows.reqExtraRow.holds Try.pinned (OpenSpec.ofChange Rows.reqExtraSpec) :=
  OpenClaim.holds_of_wide 9 Try.f9 rfl rfl rfl rfl rfl rfl rfl ⟨rfl, rfl, rfl, rfl, rfl⟩ rfl rfl rfl rfl rfl (by kernel_rfl) Try.func9 (by kernel_rfl)
    (of_decide_eq_true (by kernel_rfl)) (by unfold Func.isWrapper; first | (rw [if_pos (by decide +kernel)]; kernel_rfl) | (rw [if_neg (by decide +kernel)]; exact ⟨rfl, rfl⟩))
    (fun os started H enc _ => lifted os started H enc)

theorem proved : Rows.ReqExtraSaid := over
#print axioms proved
end Go.Proofs.Ytklpmhiaihabaaa.reqExtra
