/- For every two requests the law ReqOne of the package brackenkeep returns true: two requests have the same bytes just if they are the same, and none begins another one. No condition: whatever the library's tables for UTF-8 hold. -/
import Derived.Test.YtklpmhiaihabaaaGRqLaw
import Derived.Test.YtklpmhiaihabaaaGRqArgQ
import Derived.Deep.RegionHeld3
namespace Go.Proofs.Ytklpmhiaihabaaa.reqOne
open Go.ChangeShapes Go.WideShapes Go.ChangeAt Go.RowKit
open Go.ChangeMaps (open_string shut_string)
set_option linter.unusedVariables false

set_option maxRecDepth 100000 in
set_option maxHeartbeats 8000000 in
theorem walk [Inhabited UV] (a b : ReqD) (hwa : wReq a) (hwb : wReq b) (w : World) (hT : Tabs w) :
    Calls Try.prog 8 #[.agg #[.int .i64 a.kind, .string a.job.name, .int .i64 a.job.prio, .int .i64 a.job.need, .int .i64 a.job.tries, .string a.job.tag, .string a.node.name, .int .i64 a.node.room, .string a.node.zone, .string a.lease.job, .string a.lease.node, .int .i64 a.lease.til, .string a.name, .int .i64 a.n], .agg #[.int .i64 b.kind, .string b.job.name, .int .i64 b.job.prio, .int .i64 b.job.need, .int .i64 b.job.tries, .string b.job.tag, .string b.node.name, .int .i64 b.node.room, .string b.node.zone, .string b.lease.job, .string b.lease.node, .int .i64 b.lease.til, .string b.name, .int .i64 b.n]] w fun e w' => e = .returned (.bool true) ∧ Below w.heap.size w w' := by
  have bA := below_trans (below_one w (.cells #[.int .i64 a.kind, .string a.job.name, .int .i64 a.job.prio, .int .i64 a.job.need, .int .i64 a.job.tries, .string a.job.tag, .string a.node.name, .int .i64 a.node.room, .string a.node.zone, .string a.lease.job, .string a.lease.node, .int .i64 a.lease.til, .string a.name, .int .i64 a.n] 29)) (below_one (w.alloc (.cells #[.int .i64 a.kind, .string a.job.name, .int .i64 a.job.prio, .int .i64 a.job.need, .int .i64 a.job.tries, .string a.job.tag, .string a.node.name, .int .i64 a.node.room, .string a.node.zone, .string a.lease.job, .string a.lease.node, .int .i64 a.lease.til, .string a.name, .int .i64 a.n] 29)) (.cells #[.int .i64 b.kind, .string b.job.name, .int .i64 b.job.prio, .int .i64 b.job.need, .int .i64 b.job.tries, .string b.job.tag, .string b.node.name, .int .i64 b.node.room, .string b.node.zone, .string b.lease.job, .string b.lease.node, .int .i64 b.lease.til, .string b.name, .int .i64 b.n] 29)) (by simp)
  have oA := objAt_next (objAt_new w #[.int .i64 a.kind, .string a.job.name, .int .i64 a.job.prio, .int .i64 a.job.need, .int .i64 a.job.tries, .string a.job.tag, .string a.node.name, .int .i64 a.node.room, .string a.node.zone, .string a.lease.job, .string a.lease.node, .int .i64 a.lease.til, .string a.name, .int .i64 a.n] 29) (below_one (w.alloc (.cells #[.int .i64 a.kind, .string a.job.name, .int .i64 a.job.prio, .int .i64 a.job.need, .int .i64 a.job.tries, .string a.job.tag, .string a.node.name, .int .i64 a.node.room, .string a.node.zone, .string a.lease.job, .string a.lease.node, .int .i64 a.lease.til, .string a.name, .int .i64 a.n] 29)) (.cells #[.int .i64 b.kind, .string b.job.name, .int .i64 b.job.prio, .int .i64 b.job.need, .int .i64 b.job.tries, .string b.job.tag, .string b.node.name, .int .i64 b.node.room, .string b.node.zone, .string b.lease.job, .string b.lease.node, .int .i64 b.lease.til, .string b.name, .int .i64 b.n] 29))
  have oB := objAt_new (w.alloc (.cells #[.int .i64 a.kind, .string a.job.name, .int .i64 a.job.prio, .int .i64 a.job.need, .int .i64 a.job.tries, .string a.job.tag, .string a.node.name, .int .i64 a.node.room, .string a.node.zone, .string a.lease.job, .string a.lease.node, .int .i64 a.lease.til, .string a.name, .int .i64 a.n] 29)) #[.int .i64 b.kind, .string b.job.name, .int .i64 b.job.prio, .int .i64 b.job.need, .int .i64 b.job.tries, .string b.job.tag, .string b.node.name, .int .i64 b.node.room, .string b.node.zone, .string b.lease.job, .string b.lease.node, .int .i64 b.lease.til, .string b.name, .int .i64 b.n] 29
  rw [World.size_alloc] at oB
  obtain ⟨W0, hW0⟩ : ∃ W0, (w.alloc (.cells #[.int .i64 a.kind, .string a.job.name, .int .i64 a.job.prio, .int .i64 a.job.need, .int .i64 a.job.tries, .string a.job.tag, .string a.node.name, .int .i64 a.node.room, .string a.node.zone, .string a.lease.job, .string a.lease.node, .int .i64 a.lease.til, .string a.name, .int .i64 a.n] 29)).alloc (.cells #[.int .i64 b.kind, .string b.job.name, .int .i64 b.job.prio, .int .i64 b.job.need, .int .i64 b.job.tries, .string b.job.tag, .string b.node.name, .int .i64 b.node.room, .string b.node.zone, .string b.lease.job, .string b.lease.node, .int .i64 b.lease.til, .string b.name, .int .i64 b.n] 29) = W0 := ⟨_, rfl⟩
  rw [hW0] at bA oA oB
  have HA := Lib.hid (asked_is W0)
  have OA := Lib.hid oA
  have OB := Lib.hid oB
  have BA := Lib.hid bA
  have HT := Lib.hid hT
  have HWA := Lib.hid hwa
  have HWB := Lib.hid hwb
  clear oA oB bA hT hwa hwb
  go_enter Try.func8, Try.ntmps8
  go_wp2_with fail
  refine HA.out.mono ?_
  rintro e w1 ⟨rfl, b1⟩
  have O1 := Lib.hid (objAt_next OA.out b1)
  have P1 := Lib.hid (objAt_next OB.out b1)
  have B1 := Lib.hid (below_trans BA.out b1 BA.out.size)
  clear b1 HA OA OB
  have HE := qencode_any a HWA.out w1 (fun _ => HT.out.below B1.out)
  have k0 := objAt_cell O1.out 0 rfl
  have k1 := objAt_cell O1.out 1 rfl
  have k2 := objAt_cell O1.out 2 rfl
  have k3 := objAt_cell O1.out 3 rfl
  have k4 := objAt_cell O1.out 4 rfl
  have k5 := objAt_cell O1.out 5 rfl
  have k6 := objAt_cell O1.out 6 rfl
  have k7 := objAt_cell O1.out 7 rfl
  have k8 := objAt_cell O1.out 8 rfl
  have k9 := objAt_cell O1.out 9 rfl
  have k10 := objAt_cell O1.out 10 rfl
  have k11 := objAt_cell O1.out 11 rfl
  have k12 := objAt_cell O1.out 12 rfl
  have k13 := objAt_cell O1.out 13 rfl
  rcases qenc_cases a with ⟨c, hc, he, _⟩ | ⟨he, hza⟩
  · rw [he] at HE
    have HE := Lib.hid (HE : Calls Try.prog 14 #[.agg #[.int .i64 a.kind, .string a.job.name, .int .i64 a.job.prio, .int .i64 a.job.need, .int .i64 a.job.tries, .string a.job.tag, .string a.node.name, .int .i64 a.node.room, .string a.node.zone, .string a.lease.job, .string a.lease.node, .int .i64 a.lease.til, .string a.name, .int .i64 a.n]] w1 fun e w' => e = .returned (.tuple #[.string ⟨#[]⟩, .int .i64 (c : Nat)]) ∧ Below w1.heap.size w1 w')
    have h0 : ((c : Int) != 0) = true := by simp; omega
    clear he hc
    go_wp2_with fail
    refine HE.out.mono ?_
    rintro e w2 ⟨rfl, b2⟩
    have O2 := Lib.hid (objAt_next O1.out b2)
    have P2 := Lib.hid (objAt_next P1.out b2)
    have B2 := Lib.hid (below_trans B1.out b2 B1.out.size)
    clear k0 k1 k2 k3 k4 k5 k6 k7 k8 k9 k10 k11 k12 k13 b2 HE O1 P1
    have HF := qencode_any b HWB.out w2 (fun _ => HT.out.below B2.out)
    have k0 := objAt_cell P2.out 0 rfl
    have k1 := objAt_cell P2.out 1 rfl
    have k2 := objAt_cell P2.out 2 rfl
    have k3 := objAt_cell P2.out 3 rfl
    have k4 := objAt_cell P2.out 4 rfl
    have k5 := objAt_cell P2.out 5 rfl
    have k6 := objAt_cell P2.out 6 rfl
    have k7 := objAt_cell P2.out 7 rfl
    have k8 := objAt_cell P2.out 8 rfl
    have k9 := objAt_cell P2.out 9 rfl
    have k10 := objAt_cell P2.out 10 rfl
    have k11 := objAt_cell P2.out 11 rfl
    have k12 := objAt_cell P2.out 12 rfl
    have k13 := objAt_cell P2.out 13 rfl
    obtain ⟨⟨l, d⟩, hf⟩ : ∃ x, qencR V8 b = x := ⟨_, rfl⟩
    rw [hf] at HF
    have HF := Lib.hid HF
    clear hf
    go_wp2_with fail
    refine HF.out.mono ?_
    rintro e w3 ⟨rfl, b3⟩
    have BF := Lib.hid (below_trans B2.out b3 B2.out.size)
    clear k0 k1 k2 k3 k4 k5 k6 k7 k8 k9 k10 k11 k12 k13 b3 HF
    go_wp2
    go_ret
    exact ⟨rfl, BF.out⟩
  · rw [he] at HE
    obtain ⟨S, hS⟩ : ∃ S : ByteArray, (⟨(qB a).toArray⟩ : ByteArray) = S := ⟨_, rfl⟩
    have HE := Lib.hid (by rw [show (⟨((qB a), 0).1.toArray⟩ : ByteArray) = S from hS] at HE; exact HE : Calls Try.prog 14 #[.agg #[.int .i64 a.kind, .string a.job.name, .int .i64 a.job.prio, .int .i64 a.job.need, .int .i64 a.job.tries, .string a.job.tag, .string a.node.name, .int .i64 a.node.room, .string a.node.zone, .string a.lease.job, .string a.lease.node, .int .i64 a.lease.til, .string a.name, .int .i64 a.n]] w1 fun e w' => e = .returned (.tuple #[.string S, .int .i64 0]) ∧ Below w1.heap.size w1 w')
    clear he
    go_wp2_with fail
    refine HE.out.mono ?_
    rintro e w2 ⟨rfl, b2⟩
    have O2 := Lib.hid (objAt_next O1.out b2)
    have P2 := Lib.hid (objAt_next P1.out b2)
    have B2 := Lib.hid (below_trans B1.out b2 B1.out.size)
    clear k0 k1 k2 k3 k4 k5 k6 k7 k8 k9 k10 k11 k12 k13 b2 HE O1 P1
    have HF := qencode_any b HWB.out w2 (fun _ => HT.out.below B2.out)
    have k0 := objAt_cell P2.out 0 rfl
    have k1 := objAt_cell P2.out 1 rfl
    have k2 := objAt_cell P2.out 2 rfl
    have k3 := objAt_cell P2.out 3 rfl
    have k4 := objAt_cell P2.out 4 rfl
    have k5 := objAt_cell P2.out 5 rfl
    have k6 := objAt_cell P2.out 6 rfl
    have k7 := objAt_cell P2.out 7 rfl
    have k8 := objAt_cell P2.out 8 rfl
    have k9 := objAt_cell P2.out 9 rfl
    have k10 := objAt_cell P2.out 10 rfl
    have k11 := objAt_cell P2.out 11 rfl
    have k12 := objAt_cell P2.out 12 rfl
    have k13 := objAt_cell P2.out 13 rfl
    rcases qenc_cases b with ⟨c, hc, hf, _⟩ | ⟨hf, hzb⟩
    · rw [hf] at HF
      have HF := Lib.hid (HF : Calls Try.prog 14 #[.agg #[.int .i64 b.kind, .string b.job.name, .int .i64 b.job.prio, .int .i64 b.job.need, .int .i64 b.job.tries, .string b.job.tag, .string b.node.name, .int .i64 b.node.room, .string b.node.zone, .string b.lease.job, .string b.lease.node, .int .i64 b.lease.til, .string b.name, .int .i64 b.n]] w2 fun e w' => e = .returned (.tuple #[.string ⟨#[]⟩, .int .i64 (c : Nat)]) ∧ Below w2.heap.size w2 w')
      have h0 : ((c : Int) != 0) = true := by simp; omega
      clear hf hc
      go_wp2_with fail
      refine HF.out.mono ?_
      rintro e w3 ⟨rfl, b3⟩
      have BF := Lib.hid (below_trans B2.out b3 B2.out.size)
      clear k0 k1 k2 k3 k4 k5 k6 k7 k8 k9 k10 k11 k12 k13 b3 HF
      go_wp2
      go_ret
      exact ⟨rfl, BF.out⟩
    · rw [hf] at HF
      obtain ⟨R, hR⟩ : ∃ R : ByteArray, (⟨(qB b).toArray⟩ : ByteArray) = R := ⟨_, rfl⟩
      have HF := Lib.hid (by rw [show (⟨((qB b), 0).1.toArray⟩ : ByteArray) = R from hR] at HF; exact HF : Calls Try.prog 14 #[.agg #[.int .i64 b.kind, .string b.job.name, .int .i64 b.job.prio, .int .i64 b.job.need, .int .i64 b.job.tries, .string b.job.tag, .string b.node.name, .int .i64 b.node.room, .string b.node.zone, .string b.lease.job, .string b.lease.node, .int .i64 b.lease.til, .string b.name, .int .i64 b.n]] w2 fun e w' => e = .returned (.tuple #[.string R, .int .i64 0]) ∧ Below w2.heap.size w2 w')
      have hone : ∀ m, R.data.toList = S.data.toList ++ m → a = b := fun m h => (q_one hza hzb (m := m) (by rw [← hS, ← hR] at h; exact h)).1
      have hsame : a = b → S = R := fun h => by rw [← hS, ← hR, h]
      clear hf hS hR hza hzb
      have HO := Lib.hid hone
      have HS := Lib.hid hsame
      clear hone hsame
      go_wp2_with fail
      refine HF.out.mono ?_
      rintro e w3 ⟨rfl, b3⟩
      have o3 := objAt_next O2.out b3
      have p3 := objAt_next P2.out b3
      have BF := Lib.hid (below_trans B2.out b3 B2.out.size)
      have HQ : ∀ w : World, (binOp BinOp.eql 29 (.agg #[.int .i64 a.kind, .string a.job.name, .int .i64 a.job.prio, .int .i64 a.job.need, .int .i64 a.job.tries, .string a.job.tag, .string a.node.name, .int .i64 a.node.room, .string a.node.zone, .string a.lease.job, .string a.lease.node, .int .i64 a.lease.til, .string a.name, .int .i64 a.n]) (.agg #[.int .i64 b.kind, .string b.job.name, .int .i64 b.job.prio, .int .i64 b.job.need, .int .i64 b.job.tries, .string b.job.tag, .string b.node.name, .int .i64 b.node.room, .string b.node.zone, .string b.lease.job, .string b.lease.node, .int .i64 b.lease.til, .string b.name, .int .i64 b.n])).run Try.prog w = .ok (.bool (sameQ a b)) w := fun w => rq_eql a b w
      clear k0 k1 k2 k3 k4 k5 k6 k7 k8 k9 k10 k11 k12 k13 b3 HF
      have x0 := objAt_cell o3 0 rfl
      have x1 := objAt_cell o3 1 rfl
      have x2 := objAt_cell o3 2 rfl
      have x3 := objAt_cell o3 3 rfl
      have x4 := objAt_cell o3 4 rfl
      have x5 := objAt_cell o3 5 rfl
      have x6 := objAt_cell o3 6 rfl
      have x7 := objAt_cell o3 7 rfl
      have x8 := objAt_cell o3 8 rfl
      have x9 := objAt_cell o3 9 rfl
      have x10 := objAt_cell o3 10 rfl
      have x11 := objAt_cell o3 11 rfl
      have x12 := objAt_cell o3 12 rfl
      have x13 := objAt_cell o3 13 rfl
      have y0 := objAt_cell p3 0 rfl
      have y1 := objAt_cell p3 1 rfl
      have y2 := objAt_cell p3 2 rfl
      have y3 := objAt_cell p3 3 rfl
      have y4 := objAt_cell p3 4 rfl
      have y5 := objAt_cell p3 5 rfl
      have y6 := objAt_cell p3 6 rfl
      have y7 := objAt_cell p3 7 rfl
      have y8 := objAt_cell p3 8 rfl
      have y9 := objAt_cell p3 9 rfl
      have y10 := objAt_cell p3 10 rfl
      have y11 := objAt_cell p3 11 rfl
      have y12 := objAt_cell p3 12 rfl
      have y13 := objAt_cell p3 13 rfl
      clear o3 p3
      by_cases hab : a = b
      · have hSR := HS.out hab
        have hq : sameQ a b = true := (sameQ_iff a b).2 hab
        have hss : (R.toList == R.toList) = true := by simp
        rw [hq] at HQ
        subst hSR
        clear hab hq
        go_wp2
        go_ret
        exact ⟨rfl, BF.out⟩
      · have hq : sameQ a b = false := sameQ_no hab
        have hSR : ¬ S = R := fun h => hab (HO.out [] (by rw [h, List.append_nil]))
        have hss : (S.toList == R.toList) = false := lists_ne hSR
        rw [hq] at HQ
        by_cases hl : R.size < S.size
        · have HX := Lib.hid (show (decide (R.size < S.size) || !((R.extract 0 S.size).toList == S.toList)) = true by simp [hl])
          have hlz : (R.size : Int) < (S.size : Int) := by omega
          have hln : ¬ S.size ≤ R.size := by omega
          clear hab hq hSR
          go_wp2
          go_ret
          first | exact ⟨rfl, BF.out⟩ | exact ⟨by show Ending.returned (Value.bool (decide (R.size < S.size) || !((R.extract 0 S.size).toList == S.toList))) = _; rw [HX.out], BF.out⟩
        · have hlz : decide ((R.size : Int) < (S.size : Int)) = false := by simp; omega
          have hle : (S.size : Int) ≤ (R.size : Int) := by omega
          have hx : ¬ R.extract 0 S.size = S := fun h => hab (HO.out (R.data.toList.drop S.size) (by
            have h2 := congrArg (fun s : ByteArray => s.data.toList) h
            simp only [ByteArray.data_extract, Array.toList_extract, List.extract_eq_take_drop, List.drop_zero, Nat.sub_zero] at h2
            rw [← h2, List.take_append_drop]))
          have HX := Lib.hid (show (decide (R.size < S.size) || !((R.extract 0 S.size).toList == S.toList)) = true by rw [lists_ne hx]; simp)
          clear hl hab hq hSR hx hlz
          go_wp2
          go_ret
          exact ⟨by show Ending.returned (Value.bool (decide (R.size < S.size) || !((R.extract 0 S.size).toList == S.toList))) = _; rw [HX.out], BF.out⟩

theorem own : ownKnob Try.prog.godebug = none := by kernel_rfl
theorem laidOut : laidOutB Try.prog = true := by kernel_rfl
set_option maxRecDepth 100000 in
theorem lifted (os : Os) (started : os.Started) (H : Type) (enc : TypeId × Value → H) :
    ReturnsInHanded {} Try.checked os 8 .any (Rows.reqOneSpec.pre6 enc Try.prog Try.f8 Rows.reqOneRow.domain false) (Rows.reqOneSpec.post enc Try.prog Try.f8 false true false false) := by
  refine returnsInHanded_of_change_shaped (C := Try.checked) own started (by kernel_rfl) Try.func8
    (ChangeSpec.witness6 (enc := enc) (C := Try.checked) false ⟨#[], #[.agg #[.int .i64 0, .string ByteArray.empty, .int .i64 0, .int .i64 0, .int .i64 0, .string ByteArray.empty, .string ByteArray.empty, .int .i64 0, .string ByteArray.empty, .string ByteArray.empty, .string ByteArray.empty, .int .i64 0, .string ByteArray.empty, .int .i64 0], .agg #[.int .i64 0, .string ByteArray.empty, .int .i64 0, .int .i64 0, .int .i64 0, .string ByteArray.empty, .string ByteArray.empty, .int .i64 0, .string ByteArray.empty, .string ByteArray.empty, .string ByteArray.empty, .int .i64 0, .string ByteArray.empty, .int .i64 0]], []⟩ 8 (by kernel_rfl) (by kernel_rfl) (by kernel_rfl) (by kernel_rfl)) ?_
  intro W base args ds gs before hval0 hW hcnd hsz0 hSh _
  have hval : ∀ (j : Nat) t v, Try.f8.params[j]? = some t → args[j]? = some v → Value.okWide Try.prog W .any base t v := hval0
  have hW' := hW
  obtain ⟨p, q, hA0, hV, rfl, hfz, hnd⟩ := hW
  have hA : DataW.TrodAll enc Try.prog W 0 (fun _ => true) true Try.f8.params.toList args.toList ds p := hA0
  rw [Try.params8] at hA hval
  obtain ⟨v0, vs0, d0, ds0, p0, q0, hargs, rfl, rfl, h0, r0⟩ := trodAll_cons hA
  obtain ⟨v1, vs1, d1, ds1, p1, q1, rfl, rfl, rfl, h1, r1⟩ := trodAll_cons r0
  obtain ⟨rfl, rfl, rfl⟩ := trodAll_nil r1
  obtain rfl : args = #[v0, v1] := by cases args; simp_all
  obtain ⟨rfl, rfl⟩ := trodVars_none hV
  obtain ⟨x0, rfl, rfl, w0⟩ := open_request (hval 0 29 v0 rfl rfl) h0
  obtain ⟨x1, rfl, rfl, w1⟩ := open_request (hval 1 29 v1 rfl rfl) h1

  clear hA0 hval0
  obtain ⟨uv, hTabs⟩ := @tabs_any ⟨⟨fun _ => true, rfl⟩⟩ _ hSh
  letI : Inhabited UV := ⟨uv⟩
  refine (walk x0 x1 w0 w1 W hTabs).mono fun e W' ⟨he, bel⟩ => ?_
  subst he
  exact ⟨_, rfl, _, _, _, [], _, [], hW', trodAll_mk1 (shut_bool Try.underlying4 _), (trodAll_cons_mk (Below.trod laidOut (by kernel_rfl) (of_decide_eq_true (by kernel_rfl)) h0 bel (fun x hx => by cases hx)) (trodAll_cons_mk (Below.trod laidOut (by kernel_rfl) (of_decide_eq_true (by kernel_rfl)) h1 bel (fun x hx => by cases hx)) trodAll_mk0)), rfl, bel.frame _, fun h => by cases h⟩

theorem over : Rows.reqOneRow.holds Try.pinned (OpenSpec.ofChange Rows.reqOneSpec) :=
  OpenClaim.holds_of_wide 8 Try.f8 rfl rfl rfl rfl rfl rfl rfl ⟨rfl, rfl, rfl, rfl, rfl⟩ rfl rfl rfl rfl rfl (by kernel_rfl) Try.func8 (by kernel_rfl)
    (of_decide_eq_true (by kernel_rfl)) (by unfold Func.isWrapper; first | (rw [if_pos (by decide +kernel)]; kernel_rfl) | (rw [if_neg (by decide +kernel)]; exact ⟨rfl, rfl⟩))
    (fun os started H enc _ => lifted os started H enc)

theorem proved : Rows.ReqOneSaid := over
#print axioms proved
end Go.Proofs.Ytklpmhiaihabaaa.reqOne
