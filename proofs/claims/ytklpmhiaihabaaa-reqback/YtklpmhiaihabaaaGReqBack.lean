/- For every request and every string the law ReqBack of the package brackenkeep returns true: a request is decoded as it was encoded, and what is decoded is encoded so. No condition: whatever the library's tables for UTF-8 hold. -/
import Derived.Test.YtklpmhiaihabaaaGRqLaw
import Derived.Test.YtklpmhiaihabaaaGRqArgQ
import Derived.Deep.RegionHeld3
namespace Go.Proofs.Ytklpmhiaihabaaa.reqBack
open Go.ChangeShapes Go.WideShapes Go.ChangeAt Go.RowKit
open Go.ChangeMaps (open_string shut_string)
set_option linter.unusedVariables false

set_option maxRecDepth 100000 in
set_option maxHeartbeats 8000000 in
theorem walk [Inhabited UV] (q : ReqD) (s : ByteArray) (hw : wReq q) (hws : s.size ≤ maxLen) (hzs : s.data.toList.length ≤ reachBytes) (w : World) (hT : Tabs w) :
    Calls Try.prog 7 #[.agg #[.int .i64 q.kind, .string q.job.name, .int .i64 q.job.prio, .int .i64 q.job.need, .int .i64 q.job.tries, .string q.job.tag, .string q.node.name, .int .i64 q.node.room, .string q.node.zone, .string q.lease.job, .string q.lease.node, .int .i64 q.lease.til, .string q.name, .int .i64 q.n], .string s] w fun e w' => e = .returned (.bool true) ∧ Below w.heap.size w w' := by
  have hs3 : s.size ≤ 1152921504606846976 := by have h := hzs; rw [size_l] at h; unfold reachBytes at h; omega
  have HS3 := Lib.hid hs3
  have bA := below_one w (.cells #[.int .i64 q.kind, .string q.job.name, .int .i64 q.job.prio, .int .i64 q.job.need, .int .i64 q.job.tries, .string q.job.tag, .string q.node.name, .int .i64 q.node.room, .string q.node.zone, .string q.lease.job, .string q.lease.node, .int .i64 q.lease.til, .string q.name, .int .i64 q.n] 29)
  have oA := objAt_new w #[.int .i64 q.kind, .string q.job.name, .int .i64 q.job.prio, .int .i64 q.job.need, .int .i64 q.job.tries, .string q.job.tag, .string q.node.name, .int .i64 q.node.room, .string q.node.zone, .string q.lease.job, .string q.lease.node, .int .i64 q.lease.til, .string q.name, .int .i64 q.n] 29
  obtain ⟨W0, hW0⟩ : ∃ W0, w.alloc (.cells #[.int .i64 q.kind, .string q.job.name, .int .i64 q.job.prio, .int .i64 q.job.need, .int .i64 q.job.tries, .string q.job.tag, .string q.node.name, .int .i64 q.node.room, .string q.node.zone, .string q.lease.job, .string q.lease.node, .int .i64 q.lease.til, .string q.name, .int .i64 q.n] 29) = W0 := ⟨_, rfl⟩
  rw [hW0] at bA oA
  have HA := Lib.hid (asked_is W0)
  have OA := Lib.hid oA
  have BA := Lib.hid bA
  have HT := Lib.hid hT
  have HWQ := Lib.hid hw
  clear oA bA hT hw hws hzs hs3
  go_enter Try.func7, Try.ntmps7
  go_wp2_with fail
  refine HA.out.mono ?_
  rintro e w1 ⟨rfl, b1⟩
  have O1 := Lib.hid (objAt_next OA.out b1)
  have B1 := Lib.hid (below_trans BA.out b1 BA.out.size)
  clear b1 HA OA
  have HE := qencode_any q HWQ.out w1 (fun _ => HT.out.below B1.out)
  have HK : Hid (∀ V : World, Below w.heap.size w V → Calls Try.prog 12 #[.agg #[.int .i64 q.kind, .string q.job.name, .int .i64 q.job.prio, .int .i64 q.job.need, .int .i64 q.job.tries, .string q.job.tag, .string q.node.name, .int .i64 q.node.room, .string q.node.zone, .string q.lease.job, .string q.lease.node, .int .i64 q.lease.til, .string q.name, .int .i64 q.n]] V fun e w' => e = .returned (.int .i64 (qcheckE V8 q : Nat)) ∧ Below V.heap.size V w') := fun V hb => qcheck_any q HWQ.out V (fun _ => HT.out.below hb)
  have k0 := objAt_cell O1.out 0 rfl
  have k1 := objAt_cell O1.out 1 rfl
  have k2 := objAt_cell O1.out 2 rfl
  have k3 := objAt_cell O1.out 3 rfl
  have k4 := objAt_cell O1.out 4 rfl
  have k5 := objAt_cell O1.out 5 rfl
  have k6 := objAt_cell O1.out 6 rfl
  have k7 := objAt_cell O1.out 7 rfl
  have k8 := objAt_cell O1.out 8 rfl
  have k9 := objAt_cell O1.out 9 rfl
  have k10 := objAt_cell O1.out 10 rfl
  have k11 := objAt_cell O1.out 11 rfl
  have k12 := objAt_cell O1.out 12 rfl
  have k13 := objAt_cell O1.out 13 rfl
  rcases qenc_cases q with ⟨c, hc, he, hcc⟩ | ⟨he, hz⟩
  · rw [he] at HE
    rw [hcc] at HK
    have HE := Lib.hid (HE : Calls Try.prog 14 #[.agg #[.int .i64 q.kind, .string q.job.name, .int .i64 q.job.prio, .int .i64 q.job.need, .int .i64 q.job.tries, .string q.job.tag, .string q.node.name, .int .i64 q.node.room, .string q.node.zone, .string q.lease.job, .string q.lease.node, .int .i64 q.lease.til, .string q.name, .int .i64 q.n]] w1 fun e w' => e = .returned (.tuple #[.string ⟨#[]⟩, .int .i64 (c : Nat)]) ∧ Below w1.heap.size w1 w')
    have h0 : ((c : Int) == 0) = false := by simp; omega
    clear he hcc hc
    go_wp2_with fail
    refine HE.out.mono ?_
    rintro e w2 ⟨rfl, b2⟩
    have O2 := Lib.hid (objAt_next O1.out b2)
    have B2 := Lib.hid (below_trans B1.out b2 B1.out.size)
    have HK2 := Lib.hid (HK.out w2 B2.out)
    clear k0 k1 k2 k3 k4 k5 k6 k7 k8 k9 k10 k11 k12 k13 b2 HE O1
    have k0 := objAt_cell O2.out 0 rfl
    have k1 := objAt_cell O2.out 1 rfl
    have k2 := objAt_cell O2.out 2 rfl
    have k3 := objAt_cell O2.out 3 rfl
    have k4 := objAt_cell O2.out 4 rfl
    have k5 := objAt_cell O2.out 5 rfl
    have k6 := objAt_cell O2.out 6 rfl
    have k7 := objAt_cell O2.out 7 rfl
    have k8 := objAt_cell O2.out 8 rfl
    have k9 := objAt_cell O2.out 9 rfl
    have k10 := objAt_cell O2.out 10 rfl
    have k11 := objAt_cell O2.out 11 rfl
    have k12 := objAt_cell O2.out 12 rfl
    have k13 := objAt_cell O2.out 13 rfl
    go_wp2_with fail
    refine HK2.out.mono ?_
    rintro e w3 ⟨rfl, b3⟩
    have B3 := Lib.hid (below_trans B2.out b3 B2.out.size)
    clear k0 k1 k2 k3 k4 k5 k6 k7 k8 k9 k10 k11 k12 k13 b3 HK2 O2
    have HD3 := qdecode_any s HS3.out w3 (fun _ => HT.out.below B3.out)
    rcases qdec_cases s.data.toList with ⟨c3, h3, hd⟩ | ⟨p, hd, hz, hB⟩
    · rw [hd] at HD3
      have HD3 := Lib.hid (HD3 : Calls Try.prog 16 #[.string s] w3 fun e w' => e = .returned (.tuple #[.agg #[.int .i64 0, .string ⟨#[]⟩, .int .i64 0, .int .i64 0, .int .i64 0, .string ⟨#[]⟩, .string ⟨#[]⟩, .int .i64 0, .string ⟨#[]⟩, .string ⟨#[]⟩, .string ⟨#[]⟩, .int .i64 0, .string ⟨#[]⟩, .int .i64 0], .int .i64 (c3 : Nat)]) ∧ Below w3.heap.size w3 w')
      have h3a : ((c3 : Int) != 0) = true := by simp; omega
      have h3b : ((c3 : Int) == 0) = false := by simp; omega
      have HQ0 : ∀ w : World, (binOp BinOp.eql 29 (.agg #[.int .i64 0, .string ⟨#[]⟩, .int .i64 0, .int .i64 0, .int .i64 0, .string ⟨#[]⟩, .string ⟨#[]⟩, .int .i64 0, .string ⟨#[]⟩, .string ⟨#[]⟩, .string ⟨#[]⟩, .int .i64 0, .string ⟨#[]⟩, .int .i64 0]) (.agg #[.int .i64 0, .string ⟨#[]⟩, .int .i64 0, .int .i64 0, .int .i64 0, .string ⟨#[]⟩, .string ⟨#[]⟩, .int .i64 0, .string ⟨#[]⟩, .string ⟨#[]⟩, .string ⟨#[]⟩, .int .i64 0, .string ⟨#[]⟩, .int .i64 0])).run Try.prog w = .ok (.bool true) w := fun w => (by have h := rq_eql zeroQ zeroQ w; rw [sameQ_self] at h; exact h)
      obtain ⟨⟨l2, c2⟩, he2⟩ : ∃ x, qencR V8 zeroQ = x := ⟨_, rfl⟩
      have HY : Hid (∀ V : World, Below w.heap.size w V → Calls Try.prog 14 #[.agg #[.int .i64 0, .string ⟨#[]⟩, .int .i64 0, .int .i64 0, .int .i64 0, .string ⟨#[]⟩, .string ⟨#[]⟩, .int .i64 0, .string ⟨#[]⟩, .string ⟨#[]⟩, .string ⟨#[]⟩, .int .i64 0, .string ⟨#[]⟩, .int .i64 0]] V fun e w' => e = .returned (.tuple #[.string ⟨l2.toArray⟩, .int .i64 (c2 : Nat)]) ∧ Below V.heap.size V w') := fun V hb => by
        have h := qencode_any zeroQ wReq_zero V (fun _ => HT.out.below hb)
        rw [he2] at h
        exact h
      clear h3 hd he2
      go_wp2_with fail
      refine HD3.out.mono ?_
      rintro e v1 ⟨rfl, b1⟩
      have oX := objAt_new v1 #[.int .i64 0, .string ⟨#[]⟩, .int .i64 0, .int .i64 0, .int .i64 0, .string ⟨#[]⟩, .string ⟨#[]⟩, .int .i64 0, .string ⟨#[]⟩, .string ⟨#[]⟩, .string ⟨#[]⟩, .int .i64 0, .string ⟨#[]⟩, .int .i64 0] 29
      have bX := below_one v1 (.cells #[.int .i64 0, .string ⟨#[]⟩, .int .i64 0, .int .i64 0, .int .i64 0, .string ⟨#[]⟩, .string ⟨#[]⟩, .int .i64 0, .string ⟨#[]⟩, .string ⟨#[]⟩, .string ⟨#[]⟩, .int .i64 0, .string ⟨#[]⟩, .int .i64 0] 29)
      have B1 := below_trans B3.out b1 B3.out.size
      have B2 := Lib.hid (below_trans B1 bX B1.size)
      have OX := Lib.hid oX
      have HY1 := Lib.hid (HY.out _ B2.out)
      clear b1 bX B1 oX HD3
      go_wp2_with fail
      refine HY1.out.mono ?_
      rintro e v2 ⟨rfl, b2⟩
      have o2 := objAt_next OX.out b2
      have BF := Lib.hid (below_trans B2.out b2 B2.out.size)
      clear b2 HY1
      have x0 := objAt_cell o2 0 rfl
      have x1 := objAt_cell o2 1 rfl
      have x2 := objAt_cell o2 2 rfl
      have x3 := objAt_cell o2 3 rfl
      have x4 := objAt_cell o2 4 rfl
      have x5 := objAt_cell o2 5 rfl
      have x6 := objAt_cell o2 6 rfl
      have x7 := objAt_cell o2 7 rfl
      have x8 := objAt_cell o2 8 rfl
      have x9 := objAt_cell o2 9 rfl
      have x10 := objAt_cell o2 10 rfl
      have x11 := objAt_cell o2 11 rfl
      have x12 := objAt_cell o2 12 rfl
      have x13 := objAt_cell o2 13 rfl
      clear o2
      go_wp2
      go_ret
      exact ⟨rfl, BF.out⟩
    · rw [hd] at HD3
      have HD3 := Lib.hid (HD3 : Calls Try.prog 16 #[.string s] w3 fun e w' => e = .returned (.tuple #[.agg #[.int .i64 p.kind, .string p.job.name, .int .i64 p.job.prio, .int .i64 p.job.need, .int .i64 p.job.tries, .string p.job.tag, .string p.node.name, .int .i64 p.node.room, .string p.node.zone, .string p.lease.job, .string p.lease.node, .int .i64 p.lease.til, .string p.name, .int .i64 p.n], .int .i64 0]) ∧ Below w3.heap.size w3 w')
      have HY : Hid (∀ V : World, Below w.heap.size w V → Calls Try.prog 14 #[.agg #[.int .i64 p.kind, .string p.job.name, .int .i64 p.job.prio, .int .i64 p.job.need, .int .i64 p.job.tries, .string p.job.tag, .string p.node.name, .int .i64 p.node.room, .string p.node.zone, .string p.lease.job, .string p.lease.node, .int .i64 p.lease.til, .string p.name, .int .i64 p.n]] V fun e w' => e = .returned (.tuple #[.string s, .int .i64 0]) ∧ Below V.heap.size V w') := fun V hb => by
        have h := qencode_any p (wReq_ok hz) V (fun _ => HT.out.below hb)
        rw [show qencR V8 p = (qB p, 0) from by unfold qencR; rw [if_neg (by omega)], hB] at h
        exact h
      have hss : (s.toList == s.toList) = true := by simp
      clear hd hz hB
      go_wp2_with fail
      refine HD3.out.mono ?_
      rintro e v1 ⟨rfl, b1⟩
      have oX := objAt_new v1 #[.int .i64 p.kind, .string p.job.name, .int .i64 p.job.prio, .int .i64 p.job.need, .int .i64 p.job.tries, .string p.job.tag, .string p.node.name, .int .i64 p.node.room, .string p.node.zone, .string p.lease.job, .string p.lease.node, .int .i64 p.lease.til, .string p.name, .int .i64 p.n] 29
      have bX := below_one v1 (.cells #[.int .i64 p.kind, .string p.job.name, .int .i64 p.job.prio, .int .i64 p.job.need, .int .i64 p.job.tries, .string p.job.tag, .string p.node.name, .int .i64 p.node.room, .string p.node.zone, .string p.lease.job, .string p.lease.node, .int .i64 p.lease.til, .string p.name, .int .i64 p.n] 29)
      have B1 := below_trans B3.out b1 B3.out.size
      have B2 := Lib.hid (below_trans B1 bX B1.size)
      obtain ⟨X, hX⟩ : ∃ X, v1.heap.size = X := ⟨_, rfl⟩
      obtain ⟨V1, hV1⟩ : ∃ V, v1.alloc (.cells #[.int .i64 p.kind, .string p.job.name, .int .i64 p.job.prio, .int .i64 p.job.need, .int .i64 p.job.tries, .string p.job.tag, .string p.node.name, .int .i64 p.node.room, .string p.node.zone, .string p.lease.job, .string p.lease.node, .int .i64 p.lease.til, .string p.name, .int .i64 p.n] 29) = V := ⟨_, rfl⟩
      rw [hV1] at oX B2
      rw [hX] at oX
      have OX := Lib.hid oX
      have HY1 := Lib.hid (HY.out _ B2.out)
      have x0 := objAt_cell OX.out 0 rfl
      have x1 := objAt_cell OX.out 1 rfl
      have x2 := objAt_cell OX.out 2 rfl
      have x3 := objAt_cell OX.out 3 rfl
      have x4 := objAt_cell OX.out 4 rfl
      have x5 := objAt_cell OX.out 5 rfl
      have x6 := objAt_cell OX.out 6 rfl
      have x7 := objAt_cell OX.out 7 rfl
      have x8 := objAt_cell OX.out 8 rfl
      have x9 := objAt_cell OX.out 9 rfl
      have x10 := objAt_cell OX.out 10 rfl
      have x11 := objAt_cell OX.out 11 rfl
      have x12 := objAt_cell OX.out 12 rfl
      have x13 := objAt_cell OX.out 13 rfl
      clear b1 bX B1 oX HD3
      go_wp2_with fail
      refine HY1.out.mono ?_
      rintro e v2 ⟨rfl, b2⟩
      have o2 := objAt_next OX.out b2
      have BF := Lib.hid (below_trans B2.out b2 B2.out.size)
      clear x0 x1 x2 x3 x4 x5 x6 x7 x8 x9 x10 x11 x12 x13 b2 HY1
      have x0 := objAt_cell o2 0 rfl
      have x1 := objAt_cell o2 1 rfl
      have x2 := objAt_cell o2 2 rfl
      have x3 := objAt_cell o2 3 rfl
      have x4 := objAt_cell o2 4 rfl
      have x5 := objAt_cell o2 5 rfl
      have x6 := objAt_cell o2 6 rfl
      have x7 := objAt_cell o2 7 rfl
      have x8 := objAt_cell o2 8 rfl
      have x9 := objAt_cell o2 9 rfl
      have x10 := objAt_cell o2 10 rfl
      have x11 := objAt_cell o2 11 rfl
      have x12 := objAt_cell o2 12 rfl
      have x13 := objAt_cell o2 13 rfl
      clear o2
      go_wp2
      go_ret
      exact ⟨rfl, BF.out⟩
  · rw [he] at HE
    rw [hz] at HK
    obtain ⟨S, hS⟩ : ∃ S : ByteArray, (⟨(qB q).toArray⟩ : ByteArray) = S := ⟨_, rfl⟩
    have HE := Lib.hid (by rw [show (⟨((qB q), 0).1.toArray⟩ : ByteArray) = S from hS] at HE; exact HE : Calls Try.prog 14 #[.agg #[.int .i64 q.kind, .string q.job.name, .int .i64 q.job.prio, .int .i64 q.job.need, .int .i64 q.job.tries, .string q.job.tag, .string q.node.name, .int .i64 q.node.room, .string q.node.zone, .string q.lease.job, .string q.lease.node, .int .i64 q.lease.til, .string q.name, .int .i64 q.n]] w1 fun e w' => e = .returned (.tuple #[.string S, .int .i64 0]) ∧ Below w1.heap.size w1 w')
    have hsz : S.size ≤ 1152921504606846976 := by rw [← hS, qS_size]; have := q_len hz; omega
    have hb : qdecR V8 S.data.toList = (q, 0) := by rw [← hS]; exact q_back hz
    have HR : Hid (∀ V : World, Below w.heap.size w V → Calls Try.prog 16 #[.string S] V fun e w' => e = .returned (.tuple #[.agg #[.int .i64 q.kind, .string q.job.name, .int .i64 q.job.prio, .int .i64 q.job.need, .int .i64 q.job.tries, .string q.job.tag, .string q.node.name, .int .i64 q.node.room, .string q.node.zone, .string q.lease.job, .string q.lease.node, .int .i64 q.lease.til, .string q.name, .int .i64 q.n], .int .i64 0]) ∧ Below V.heap.size V w') := fun V hv => by
      have h := qdecode_any S hsz V (fun _ => HT.out.below hv)
      rw [hb] at h
      exact h
    have HQ : ∀ w : World, (binOp BinOp.neq 29 (.agg #[.int .i64 q.kind, .string q.job.name, .int .i64 q.job.prio, .int .i64 q.job.need, .int .i64 q.job.tries, .string q.job.tag, .string q.node.name, .int .i64 q.node.room, .string q.node.zone, .string q.lease.job, .string q.lease.node, .int .i64 q.lease.til, .string q.name, .int .i64 q.n]) (.agg #[.int .i64 q.kind, .string q.job.name, .int .i64 q.job.prio, .int .i64 q.job.need, .int .i64 q.job.tries, .string q.job.tag, .string q.node.name, .int .i64 q.node.room, .string q.node.zone, .string q.lease.job, .string q.lease.node, .int .i64 q.lease.til, .string q.name, .int .i64 q.n])).run Try.prog w = .ok (.bool false) w := fun w => (by have h := rq_neq q q w; rw [sameQ_self] at h; exact h)
    clear he hz hS hsz hb
    go_wp2_with fail
    refine HE.out.mono ?_
    rintro e w2 ⟨rfl, b2⟩
    have O2 := Lib.hid (objAt_next O1.out b2)
    have B2 := Lib.hid (below_trans B1.out b2 B1.out.size)
    have HK2 := Lib.hid (HK.out w2 B2.out)
    clear k0 k1 k2 k3 k4 k5 k6 k7 k8 k9 k10 k11 k12 k13 b2 HE O1
    have k0 := objAt_cell O2.out 0 rfl
    have k1 := objAt_cell O2.out 1 rfl
    have k2 := objAt_cell O2.out 2 rfl
    have k3 := objAt_cell O2.out 3 rfl
    have k4 := objAt_cell O2.out 4 rfl
    have k5 := objAt_cell O2.out 5 rfl
    have k6 := objAt_cell O2.out 6 rfl
    have k7 := objAt_cell O2.out 7 rfl
    have k8 := objAt_cell O2.out 8 rfl
    have k9 := objAt_cell O2.out 9 rfl
    have k10 := objAt_cell O2.out 10 rfl
    have k11 := objAt_cell O2.out 11 rfl
    have k12 := objAt_cell O2.out 12 rfl
    have k13 := objAt_cell O2.out 13 rfl
    go_wp2_with fail
    refine HK2.out.mono ?_
    rintro e w3 ⟨rfl, b3⟩
    have O3 := Lib.hid (objAt_next O2.out b3)
    have B3 := Lib.hid (below_trans B2.out b3 B2.out.size)
    have HR3 := Lib.hid (HR.out w3 B3.out)
    clear k0 k1 k2 k3 k4 k5 k6 k7 k8 k9 k10 k11 k12 k13 b3 HK2 O2
    go_wp2_with fail
    refine HR3.out.mono ?_
    rintro e w4 ⟨rfl, b4⟩
    have oX := objAt_new w4 #[.int .i64 q.kind, .string q.job.name, .int .i64 q.job.prio, .int .i64 q.job.need, .int .i64 q.job.tries, .string q.job.tag, .string q.node.name, .int .i64 q.node.room, .string q.node.zone, .string q.lease.job, .string q.lease.node, .int .i64 q.lease.til, .string q.name, .int .i64 q.n] 29
    have bX := below_one w4 (.cells #[.int .i64 q.kind, .string q.job.name, .int .i64 q.job.prio, .int .i64 q.job.need, .int .i64 q.job.tries, .string q.job.tag, .string q.node.name, .int .i64 q.node.room, .string q.node.zone, .string q.lease.job, .string q.lease.node, .int .i64 q.lease.til, .string q.name, .int .i64 q.n] 29)
    have o4 := objAt_next (objAt_next O3.out b4) bX
    have B4 := below_trans B3.out b4 B3.out.size
    have B5 := Lib.hid (below_trans B4 bX B4.size)
    obtain ⟨X, hX⟩ : ∃ X, w4.heap.size = X := ⟨_, rfl⟩
    obtain ⟨W4, hW4⟩ : ∃ V, w4.alloc (.cells #[.int .i64 q.kind, .string q.job.name, .int .i64 q.job.prio, .int .i64 q.job.need, .int .i64 q.job.tries, .string q.job.tag, .string q.node.name, .int .i64 q.node.room, .string q.node.zone, .string q.lease.job, .string q.lease.node, .int .i64 q.lease.til, .string q.name, .int .i64 q.n] 29) = V := ⟨_, rfl⟩
    rw [hW4] at oX B5 o4
    rw [hX] at oX
    have k0 := objAt_cell o4 0 rfl
    have k1 := objAt_cell o4 1 rfl
    have k2 := objAt_cell o4 2 rfl
    have k3 := objAt_cell o4 3 rfl
    have k4 := objAt_cell o4 4 rfl
    have k5 := objAt_cell o4 5 rfl
    have k6 := objAt_cell o4 6 rfl
    have k7 := objAt_cell o4 7 rfl
    have k8 := objAt_cell o4 8 rfl
    have k9 := objAt_cell o4 9 rfl
    have k10 := objAt_cell o4 10 rfl
    have k11 := objAt_cell o4 11 rfl
    have k12 := objAt_cell o4 12 rfl
    have k13 := objAt_cell o4 13 rfl
    have z0 := objAt_cell oX 0 rfl
    have z1 := objAt_cell oX 1 rfl
    have z2 := objAt_cell oX 2 rfl
    have z3 := objAt_cell oX 3 rfl
    have z4 := objAt_cell oX 4 rfl
    have z5 := objAt_cell oX 5 rfl
    have z6 := objAt_cell oX 6 rfl
    have z7 := objAt_cell oX 7 rfl
    have z8 := objAt_cell oX 8 rfl
    have z9 := objAt_cell oX 9 rfl
    have z10 := objAt_cell oX 10 rfl
    have z11 := objAt_cell oX 11 rfl
    have z12 := objAt_cell oX 12 rfl
    have z13 := objAt_cell oX 13 rfl
    clear b4 oX bX o4 B4 HR3 O3
    have HD3 := qdecode_any s HS3.out W4 (fun _ => HT.out.below B5.out)
    rcases qdec_cases s.data.toList with ⟨c3, h3, hd⟩ | ⟨p, hd, hz, hB⟩
    · rw [hd] at HD3
      have HD3 := Lib.hid (HD3 : Calls Try.prog 16 #[.string s] W4 fun e w' => e = .returned (.tuple #[.agg #[.int .i64 0, .string ⟨#[]⟩, .int .i64 0, .int .i64 0, .int .i64 0, .string ⟨#[]⟩, .string ⟨#[]⟩, .int .i64 0, .string ⟨#[]⟩, .string ⟨#[]⟩, .string ⟨#[]⟩, .int .i64 0, .string ⟨#[]⟩, .int .i64 0], .int .i64 (c3 : Nat)]) ∧ Below W4.heap.size W4 w')
      have h3a : ((c3 : Int) != 0) = true := by simp; omega
      have h3b : ((c3 : Int) == 0) = false := by simp; omega
      have HQ0 : ∀ w : World, (binOp BinOp.eql 29 (.agg #[.int .i64 0, .string ⟨#[]⟩, .int .i64 0, .int .i64 0, .int .i64 0, .string ⟨#[]⟩, .string ⟨#[]⟩, .int .i64 0, .string ⟨#[]⟩, .string ⟨#[]⟩, .string ⟨#[]⟩, .int .i64 0, .string ⟨#[]⟩, .int .i64 0]) (.agg #[.int .i64 0, .string ⟨#[]⟩, .int .i64 0, .int .i64 0, .int .i64 0, .string ⟨#[]⟩, .string ⟨#[]⟩, .int .i64 0, .string ⟨#[]⟩, .string ⟨#[]⟩, .string ⟨#[]⟩, .int .i64 0, .string ⟨#[]⟩, .int .i64 0])).run Try.prog w = .ok (.bool true) w := fun w => (by have h := rq_eql zeroQ zeroQ w; rw [sameQ_self] at h; exact h)
      obtain ⟨⟨l2, c2⟩, he2⟩ : ∃ x, qencR V8 zeroQ = x := ⟨_, rfl⟩
      have HY : Hid (∀ V : World, Below w.heap.size w V → Calls Try.prog 14 #[.agg #[.int .i64 0, .string ⟨#[]⟩, .int .i64 0, .int .i64 0, .int .i64 0, .string ⟨#[]⟩, .string ⟨#[]⟩, .int .i64 0, .string ⟨#[]⟩, .string ⟨#[]⟩, .string ⟨#[]⟩, .int .i64 0, .string ⟨#[]⟩, .int .i64 0]] V fun e w' => e = .returned (.tuple #[.string ⟨l2.toArray⟩, .int .i64 (c2 : Nat)]) ∧ Below V.heap.size V w') := fun V hb => by
        have h := qencode_any zeroQ wReq_zero V (fun _ => HT.out.below hb)
        rw [he2] at h
        exact h
      clear h3 hd he2
      go_wp2_with fail
      refine HD3.out.mono ?_
      rintro e v1 ⟨rfl, b1⟩
      have oX := objAt_new v1 #[.int .i64 0, .string ⟨#[]⟩, .int .i64 0, .int .i64 0, .int .i64 0, .string ⟨#[]⟩, .string ⟨#[]⟩, .int .i64 0, .string ⟨#[]⟩, .string ⟨#[]⟩, .string ⟨#[]⟩, .int .i64 0, .string ⟨#[]⟩, .int .i64 0] 29
      have bX := below_one v1 (.cells #[.int .i64 0, .string ⟨#[]⟩, .int .i64 0, .int .i64 0, .int .i64 0, .string ⟨#[]⟩, .string ⟨#[]⟩, .int .i64 0, .string ⟨#[]⟩, .string ⟨#[]⟩, .string ⟨#[]⟩, .int .i64 0, .string ⟨#[]⟩, .int .i64 0] 29)
      have B1 := below_trans B5.out b1 B5.out.size
      have B2 := Lib.hid (below_trans B1 bX B1.size)
      have OX := Lib.hid oX
      have HY1 := Lib.hid (HY.out _ B2.out)
      clear b1 bX B1 oX HD3
      go_wp2_with fail
      refine HY1.out.mono ?_
      rintro e v2 ⟨rfl, b2⟩
      have o2 := objAt_next OX.out b2
      have BF := Lib.hid (below_trans B2.out b2 B2.out.size)
      clear b2 HY1
      have x0 := objAt_cell o2 0 rfl
      have x1 := objAt_cell o2 1 rfl
      have x2 := objAt_cell o2 2 rfl
      have x3 := objAt_cell o2 3 rfl
      have x4 := objAt_cell o2 4 rfl
      have x5 := objAt_cell o2 5 rfl
      have x6 := objAt_cell o2 6 rfl
      have x7 := objAt_cell o2 7 rfl
      have x8 := objAt_cell o2 8 rfl
      have x9 := objAt_cell o2 9 rfl
      have x10 := objAt_cell o2 10 rfl
      have x11 := objAt_cell o2 11 rfl
      have x12 := objAt_cell o2 12 rfl
      have x13 := objAt_cell o2 13 rfl
      clear o2
      go_wp2
      go_ret
      exact ⟨rfl, BF.out⟩
    · rw [hd] at HD3
      have HD3 := Lib.hid (HD3 : Calls Try.prog 16 #[.string s] W4 fun e w' => e = .returned (.tuple #[.agg #[.int .i64 p.kind, .string p.job.name, .int .i64 p.job.prio, .int .i64 p.job.need, .int .i64 p.job.tries, .string p.job.tag, .string p.node.name, .int .i64 p.node.room, .string p.node.zone, .string p.lease.job, .string p.lease.node, .int .i64 p.lease.til, .string p.name, .int .i64 p.n], .int .i64 0]) ∧ Below W4.heap.size W4 w')
      have HY : Hid (∀ V : World, Below w.heap.size w V → Calls Try.prog 14 #[.agg #[.int .i64 p.kind, .string p.job.name, .int .i64 p.job.prio, .int .i64 p.job.need, .int .i64 p.job.tries, .string p.job.tag, .string p.node.name, .int .i64 p.node.room, .string p.node.zone, .string p.lease.job, .string p.lease.node, .int .i64 p.lease.til, .string p.name, .int .i64 p.n]] V fun e w' => e = .returned (.tuple #[.string s, .int .i64 0]) ∧ Below V.heap.size V w') := fun V hb => by
        have h := qencode_any p (wReq_ok hz) V (fun _ => HT.out.below hb)
        rw [show qencR V8 p = (qB p, 0) from by unfold qencR; rw [if_neg (by omega)], hB] at h
        exact h
      have hss : (s.toList == s.toList) = true := by simp
      clear hd hz hB
      go_wp2_with fail
      refine HD3.out.mono ?_
      rintro e v1 ⟨rfl, b1⟩
      have oX := objAt_new v1 #[.int .i64 p.kind, .string p.job.name, .int .i64 p.job.prio, .int .i64 p.job.need, .int .i64 p.job.tries, .string p.job.tag, .string p.node.name, .int .i64 p.node.room, .string p.node.zone, .string p.lease.job, .string p.lease.node, .int .i64 p.lease.til, .string p.name, .int .i64 p.n] 29
      have bX := below_one v1 (.cells #[.int .i64 p.kind, .string p.job.name, .int .i64 p.job.prio, .int .i64 p.job.need, .int .i64 p.job.tries, .string p.job.tag, .string p.node.name, .int .i64 p.node.room, .string p.node.zone, .string p.lease.job, .string p.lease.node, .int .i64 p.lease.til, .string p.name, .int .i64 p.n] 29)
      have B1 := below_trans B5.out b1 B5.out.size
      have B2 := Lib.hid (below_trans B1 bX B1.size)
      obtain ⟨X, hX⟩ : ∃ X, v1.heap.size = X := ⟨_, rfl⟩
      obtain ⟨V1, hV1⟩ : ∃ V, v1.alloc (.cells #[.int .i64 p.kind, .string p.job.name, .int .i64 p.job.prio, .int .i64 p.job.need, .int .i64 p.job.tries, .string p.job.tag, .string p.node.name, .int .i64 p.node.room, .string p.node.zone, .string p.lease.job, .string p.lease.node, .int .i64 p.lease.til, .string p.name, .int .i64 p.n] 29) = V := ⟨_, rfl⟩
      rw [hV1] at oX B2
      rw [hX] at oX
      have OX := Lib.hid oX
      have HY1 := Lib.hid (HY.out _ B2.out)
      have x0 := objAt_cell OX.out 0 rfl
      have x1 := objAt_cell OX.out 1 rfl
      have x2 := objAt_cell OX.out 2 rfl
      have x3 := objAt_cell OX.out 3 rfl
      have x4 := objAt_cell OX.out 4 rfl
      have x5 := objAt_cell OX.out 5 rfl
      have x6 := objAt_cell OX.out 6 rfl
      have x7 := objAt_cell OX.out 7 rfl
      have x8 := objAt_cell OX.out 8 rfl
      have x9 := objAt_cell OX.out 9 rfl
      have x10 := objAt_cell OX.out 10 rfl
      have x11 := objAt_cell OX.out 11 rfl
      have x12 := objAt_cell OX.out 12 rfl
      have x13 := objAt_cell OX.out 13 rfl
      clear b1 bX B1 oX HD3
      go_wp2_with fail
      refine HY1.out.mono ?_
      rintro e v2 ⟨rfl, b2⟩
      have o2 := objAt_next OX.out b2
      have BF := Lib.hid (below_trans B2.out b2 B2.out.size)
      clear x0 x1 x2 x3 x4 x5 x6 x7 x8 x9 x10 x11 x12 x13 b2 HY1
      have x0 := objAt_cell o2 0 rfl
      have x1 := objAt_cell o2 1 rfl
      have x2 := objAt_cell o2 2 rfl
      have x3 := objAt_cell o2 3 rfl
      have x4 := objAt_cell o2 4 rfl
      have x5 := objAt_cell o2 5 rfl
      have x6 := objAt_cell o2 6 rfl
      have x7 := objAt_cell o2 7 rfl
      have x8 := objAt_cell o2 8 rfl
      have x9 := objAt_cell o2 9 rfl
      have x10 := objAt_cell o2 10 rfl
      have x11 := objAt_cell o2 11 rfl
      have x12 := objAt_cell o2 12 rfl
      have x13 := objAt_cell o2 13 rfl
      clear o2
      go_wp2
      go_ret
      exact ⟨rfl, BF.out⟩

theorem own : ownKnob Try.prog.godebug = none := by kernel_rfl
theorem laidOut : laidOutB Try.prog = true := by kernel_rfl
set_option maxRecDepth 100000 in
theorem lifted (os : Os) (started : os.Started) (H : Type) (enc : TypeId × Value → H) :
    ReturnsInHanded {} Try.checked os 7 .any (Rows.reqBackSpec.pre6 enc Try.prog Try.f7 Rows.reqBackRow.domain false) (Rows.reqBackSpec.post enc Try.prog Try.f7 false true false false) := by
  refine returnsInHanded_of_change_shaped (C := Try.checked) own started (by kernel_rfl) Try.func7
    (ChangeSpec.witness6 (enc := enc) (C := Try.checked) false ⟨#[], #[.agg #[.int .i64 0, .string ByteArray.empty, .int .i64 0, .int .i64 0, .int .i64 0, .string ByteArray.empty, .string ByteArray.empty, .int .i64 0, .string ByteArray.empty, .string ByteArray.empty, .string ByteArray.empty, .int .i64 0, .string ByteArray.empty, .int .i64 0], .string ByteArray.empty], []⟩ 8 (by kernel_rfl) (by kernel_rfl) (by kernel_rfl) (by kernel_rfl)) ?_
  intro W base args ds gs before hval0 hW hcnd hsz0 hSh _
  have hval : ∀ (j : Nat) t v, Try.f7.params[j]? = some t → args[j]? = some v → Value.okWide Try.prog W .any base t v := hval0
  have hW' := hW
  obtain ⟨p, q, hA0, hV, rfl, hfz, hnd⟩ := hW
  have hA : DataW.TrodAll enc Try.prog W 0 (fun _ => true) true Try.f7.params.toList args.toList ds p := hA0
  have hsz : (DataW.weightsEach Try.prog (Try.f7.params.toList ++ Rows.reqBackSpec.plain.varTypes Try.prog) (ds ++ gs)).all (· ≤ reachBytes) = true := hsz0
  rw [Try.params7] at hA hval hsz
  obtain ⟨v0, vs0, d0, ds0, p0, q0, hargs, rfl, rfl, h0, r0⟩ := trodAll_cons hA
  obtain ⟨v1, vs1, d1, ds1, p1, q1, rfl, rfl, rfl, h1, r1⟩ := trodAll_cons r0
  obtain ⟨rfl, rfl, rfl⟩ := trodAll_nil r1
  obtain rfl : args = #[v0, v1] := by cases args; simp_all
  obtain ⟨rfl, rfl⟩ := trodVars_none hV
  obtain ⟨x0, rfl, rfl, w0⟩ := open_request (hval 0 29 v0 rfl rfl) h0
  obtain ⟨a1, rfl, rfl, rfl, w1⟩ := open_string Try.underlying9 (hval 1 9 v1 rfl rfl) h1
  have s1 : a1.data.toList.length ≤ reachBytes := sized_string hsz (j := 1) (t := 9) rfl rfl
  clear hA0 hval0
  obtain ⟨uv, hTabs⟩ := @tabs_any ⟨⟨fun _ => true, rfl⟩⟩ _ hSh
  letI : Inhabited UV := ⟨uv⟩
  refine (walk x0 a1 w0 w1 s1 W hTabs).mono fun e W' ⟨he, bel⟩ => ?_
  subst he
  exact ⟨_, rfl, _, _, _, [], _, [], hW', trodAll_mk1 (shut_bool Try.underlying4 _), (trodAll_cons_mk (Below.trod laidOut (by kernel_rfl) (of_decide_eq_true (by kernel_rfl)) h0 bel (fun x hx => by cases hx)) (trodAll_cons_mk (shut_string Try.underlying9 w1) trodAll_mk0)), rfl, bel.frame _, fun h => by cases h⟩

theorem over : Rows.reqBackRow.holds Try.pinned (OpenSpec.ofChange Rows.reqBackSpec) :=
  OpenClaim.holds_of_wide 7 Try.f7 rfl rfl rfl rfl rfl rfl rfl ⟨rfl, rfl, rfl, rfl, rfl⟩ rfl rfl rfl rfl rfl (by kernel_rfl) Try.func7 (by kernel_rfl)
    (of_decide_eq_true (by kernel_rfl)) (by unfold Func.isWrapper; first | (rw [if_pos (by decide +kernel)]; kernel_rfl) | (rw [if_neg (by decide +kernel)]; exact ⟨rfl, rfl⟩))
    (fun os started H enc _ => lifted os started H enc)

theorem proved : Rows.ReqBackSaid := over
#print axioms proved
end Go.Proofs.Ytklpmhiaihabaaa.reqBack
