/- For every request the law ReqKinds of the package brackenkeep returns true: the first byte of an encoded request is its kind. No condition: whatever the library's tables for UTF-8 hold. -/
import Derived.Test.YtklpmhiaihabaaaGRqLaw
import Derived.Test.YtklpmhiaihabaaaGRqArgQ
import Derived.Deep.RegionHeld3
namespace Go.Proofs.Ytklpmhiaihabaaa.reqKinds
open Go.ChangeShapes Go.WideShapes Go.ChangeAt Go.RowKit
open Go.ChangeMaps (open_string shut_string)
set_option linter.unusedVariables false

set_option maxRecDepth 100000 in
set_option maxHeartbeats 8000000 in
theorem walk [Inhabited UV] (q : ReqD) (hw : wReq q) (w : World) (hT : Tabs w) :
    Calls Try.prog 11 #[.agg #[.int .i64 q.kind, .string q.job.name, .int .i64 q.job.prio, .int .i64 q.job.need, .int .i64 q.job.tries, .string q.job.tag, .string q.node.name, .int .i64 q.node.room, .string q.node.zone, .string q.lease.job, .string q.lease.node, .int .i64 q.lease.til, .string q.name, .int .i64 q.n]] w fun e w' => e = .returned (.bool true) ∧ Below w.heap.size w w' := by
  have bA := below_one w (.cells #[.int .i64 q.kind, .string q.job.name, .int .i64 q.job.prio, .int .i64 q.job.need, .int .i64 q.job.tries, .string q.job.tag, .string q.node.name, .int .i64 q.node.room, .string q.node.zone, .string q.lease.job, .string q.lease.node, .int .i64 q.lease.til, .string q.name, .int .i64 q.n] 29)
  have oA := objAt_new w #[.int .i64 q.kind, .string q.job.name, .int .i64 q.job.prio, .int .i64 q.job.need, .int .i64 q.job.tries, .string q.job.tag, .string q.node.name, .int .i64 q.node.room, .string q.node.zone, .string q.lease.job, .string q.lease.node, .int .i64 q.lease.til, .string q.name, .int .i64 q.n] 29
  obtain ⟨W0, hW0⟩ : ∃ W0, w.alloc (.cells #[.int .i64 q.kind, .string q.job.name, .int .i64 q.job.prio, .int .i64 q.job.need, .int .i64 q.job.tries, .string q.job.tag, .string q.node.name, .int .i64 q.node.room, .string q.node.zone, .string q.lease.job, .string q.lease.node, .int .i64 q.lease.til, .string q.name, .int .i64 q.n] 29) = W0 := ⟨_, rfl⟩
  rw [hW0] at bA oA
  have HE := qencode_any q hw W0 (fun _ => hT.below bA)
  have HA := Lib.hid asked_is
  have k0 := objAt_cell oA 0 rfl
  have k1 := objAt_cell oA 1 rfl
  have k2 := objAt_cell oA 2 rfl
  have k3 := objAt_cell oA 3 rfl
  have k4 := objAt_cell oA 4 rfl
  have k5 := objAt_cell oA 5 rfl
  have k6 := objAt_cell oA 6 rfl
  have k7 := objAt_cell oA 7 rfl
  have k8 := objAt_cell oA 8 rfl
  have k9 := objAt_cell oA 9 rfl
  have k10 := objAt_cell oA 10 rfl
  have k11 := objAt_cell oA 11 rfl
  have k12 := objAt_cell oA 12 rfl
  have k13 := objAt_cell oA 13 rfl
  have OA := Lib.hid oA
  have BA := Lib.hid bA
  clear oA bA hT hw
  rcases qenc_cases q with ⟨c, hc, he, _⟩ | ⟨he, hz⟩
  · rw [he] at HE
    have HE := Lib.hid (HE : Calls Try.prog 14 #[.agg #[.int .i64 q.kind, .string q.job.name, .int .i64 q.job.prio, .int .i64 q.job.need, .int .i64 q.job.tries, .string q.job.tag, .string q.node.name, .int .i64 q.node.room, .string q.node.zone, .string q.lease.job, .string q.lease.node, .int .i64 q.lease.til, .string q.name, .int .i64 q.n]] W0 fun e w' => e = .returned (.tuple #[.string ⟨#[]⟩, .int .i64 (c : Nat)]) ∧ Below W0.heap.size W0 w')
    have h0 : ((c : Int) != 0) = true := by simp; omega
    clear he hc
    go_enter Try.func11, Try.ntmps11
    go_wp2_with fail
    refine HE.out.mono ?_
    rintro e w1 ⟨rfl, b1⟩
    have B1 := Lib.hid (below_trans BA.out b1 BA.out.size)
    clear k0 k1 k2 k3 k4 k5 k6 k7 k8 k9 k10 k11 k12 k13 b1 HE
    go_wp2_with fail
    refine (HA.out _).mono ?_
    rintro e w2 ⟨rfl, b2⟩
    have BF := Lib.hid (below_trans B1.out b2 B1.out.size)
    clear b2
    go_wp2
    go_ret
    exact ⟨rfl, BF.out⟩
  · rw [he] at HE
    obtain ⟨S, hS⟩ : ∃ S : ByteArray, (⟨(qB q).toArray⟩ : ByteArray) = S := ⟨_, rfl⟩
    have HE := Lib.hid (by rw [show (⟨((qB q), 0).1.toArray⟩ : ByteArray) = S from hS] at HE; exact HE : Calls Try.prog 14 #[.agg #[.int .i64 q.kind, .string q.job.name, .int .i64 q.job.prio, .int .i64 q.job.need, .int .i64 q.job.tries, .string q.job.tag, .string q.node.name, .int .i64 q.node.room, .string q.node.zone, .string q.lease.job, .string q.lease.node, .int .i64 q.lease.til, .string q.name, .int .i64 q.n]] W0 fun e w' => e = .returned (.tuple #[.string S, .int .i64 0]) ∧ Below W0.heap.size W0 w')
    have hk := ((qcheck_zero V8 q).1 hz).1
    have hq := q_kind hz
    have hsz : 0 < S.size := by rw [← hS, qS_size, hq]; simp
    have hx : ((S[0]'hsz).toNat : Int) = q.kind := by
      subst hS
      have h : (⟨(qB q).toArray⟩ : ByteArray)[0]'hsz = (qB q)[0]'(by rw [hq]; simp) := rfl
      rw [h]
      simp only [hq, List.getElem_cons_zero]
      rw [UInt8.toNat_ofNat']
      omega
    have hz1 : decide ((0 : Int) < (S.size : Int)) = true := by simp; omega
    have hwr : IntKind.i64.wrap q.kind = q.kind := IntWalk.i64_in _ (by omega)
    clear he hz hk hq hS
    go_enter Try.func11, Try.ntmps11
    go_wp2_with fail
    refine HE.out.mono ?_
    rintro e w1 ⟨rfl, b1⟩
    have B1 := Lib.hid (below_trans BA.out b1 BA.out.size)
    have o1 := objAt_next OA.out b1
    have s0 : w1.cell? ⟨w.heap.size, 0, none⟩ = some (.int .i64 q.kind) ∧ w.heap.size < w1.heap.size ∧ Below w1.heap.size w1 w1 := ⟨objAt_cell o1 0 rfl, objAt_lt o1, Below.refl _ _⟩
    clear k0 k1 k2 k3 k4 k5 k6 k7 k8 k9 k10 k11 k12 k13 b1 HE o1 OA
    go_upto_region 4 with fail
    go_region_held3 (fun w' => w'.cell? ⟨w.heap.size, 0, none⟩ = some (.int .i64 q.kind) ∧ w.heap.size < w'.heap.size ∧ Below w1.heap.size w1 w')
      (first | assumption | exact ⟨s0.1, s0.2.1, s0.2.2.drew⟩)
      (first
        | (go_at_call 22; (with_reducible refine (HA.out _).mono ?_); rintro e x2 ⟨rfl, c2⟩; have s2 : x2.cell? ⟨w.heap.size, 0, none⟩ = some (.int .i64 q.kind) ∧ w.heap.size < x2.heap.size ∧ Below w1.heap.size w1 x2 := ⟨by rw [c2.cell (p := ⟨w.heap.size, 0, none⟩) s0.2.1]; exact s0.1, Nat.lt_of_lt_of_le s0.2.1 c2.size, below_trans (s0.2.2.drew) c2 (Nat.le_refl _)⟩))
    all_goals
      rename_i s9
      have BF := Lib.hid (below_trans B1.out s9.2.2 B1.out.size)
      clear s9
      go_wp2
      go_ret
      exact ⟨rfl, BF.out⟩

theorem own : ownKnob Try.prog.godebug = none := by kernel_rfl
theorem laidOut : laidOutB Try.prog = true := by kernel_rfl
set_option maxRecDepth 100000 in
theorem lifted (os : Os) (started : os.Started) (H : Type) (enc : TypeId × Value → H) :
    ReturnsInHanded {} Try.checked os 11 .any (Rows.reqKindsSpec.pre6 enc Try.prog Try.f11 Rows.reqKindsRow.domain false) (Rows.reqKindsSpec.post enc Try.prog Try.f11 false true false false) := by
  refine returnsInHanded_of_change_shaped (C := Try.checked) own started (by kernel_rfl) Try.func11
    (ChangeSpec.witness6 (enc := enc) (C := Try.checked) false ⟨#[], #[.agg #[.int .i64 0, .string ByteArray.empty, .int .i64 0, .int .i64 0, .int .i64 0, .string ByteArray.empty, .string ByteArray.empty, .int .i64 0, .string ByteArray.empty, .string ByteArray.empty, .string ByteArray.empty, .int .i64 0, .string ByteArray.empty, .int .i64 0]], []⟩ 8 (by kernel_rfl) (by kernel_rfl) (by kernel_rfl) (by kernel_rfl)) ?_
  intro W base args ds gs before hval0 hW hcnd hsz0 hSh _
  have hval : ∀ (j : Nat) t v, Try.f11.params[j]? = some t → args[j]? = some v → Value.okWide Try.prog W .any base t v := hval0
  have hW' := hW
  obtain ⟨p, q, hA0, hV, rfl, hfz, hnd⟩ := hW
  have hA : DataW.TrodAll enc Try.prog W 0 (fun _ => true) true Try.f11.params.toList args.toList ds p := hA0
  rw [Try.params11] at hA hval
  obtain ⟨v0, vs0, d0, ds0, p0, q0, hargs, rfl, rfl, h0, r0⟩ := trodAll_cons hA
  obtain ⟨rfl, rfl, rfl⟩ := trodAll_nil r0
  obtain rfl : args = #[v0] := by cases args; simp_all
  obtain ⟨rfl, rfl⟩ := trodVars_none hV
  obtain ⟨x0, rfl, rfl, w0⟩ := open_request (hval 0 29 v0 rfl rfl) h0

  clear hA0 hval0
  obtain ⟨uv, hTabs⟩ := @tabs_any ⟨⟨fun _ => true, rfl⟩⟩ _ hSh
  letI : Inhabited UV := ⟨uv⟩
  refine (walk x0 w0 W hTabs).mono fun e W' ⟨he, bel⟩ => ?_
  subst he
  exact ⟨_, rfl, _, _, _, [], _, [], hW', trodAll_mk1 (shut_bool Try.underlying4 _), (trodAll_cons_mk (Below.trod laidOut (by kernel_rfl) (of_decide_eq_true (by kernel_rfl)) h0 bel (fun x hx => by cases hx)) trodAll_mk0), rfl, bel.frame _, fun h => by cases h⟩

theorem over : Rows.reqKindsRow.holds Try.pinned (OpenSpec.ofChange Rows.reqKindsSpec) :=
  OpenClaim.holds_of_wide 11 Try.f11 rfl rfl rfl rfl rfl rfl rfl ⟨rfl, rfl, rfl, rfl, rfl⟩ rfl rfl rfl rfl rfl (by kernel_rfl) Try.func11 (by kernel_rfl)
    (of_decide_eq_true (by kernel_rfl)) (by unfold Func.isWrapper; first | (rw [if_pos (by decide +kernel)]; kernel_rfl) | (rw [if_neg (by decide +kernel)]; exact ⟨rfl, rfl⟩))
    (fun os started H enc _ => lifted os started H enc)

theorem proved : Rows.ReqKindsSaid := over
#print axioms proved
end Go.Proofs.Ytklpmhiaihabaaa.reqKinds
