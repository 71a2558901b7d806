/- For every reply and every string the law ReqReplies of the package brackenlaw returns true: Reply and ReadReply return what the reference returns, and Check refuses a request of no kind. No condition. -/
import Derived.Test.YtklpmhiaihabaaaRqNone
import Derived.Test.YtklpmhiaihabaaaRqRRep
import Derived.Test.YtklpmhiaihabaaaRqArg
namespace Go.Proofs.Ytklpmhiaihabaaa.reqReplies
open Go.ChangeShapes Go.WideShapes Go.ChangeAt Go.RowKit
open Go.ChangeMaps (open_string shut_string)
set_option linter.unusedVariables false

set_option maxRecDepth 100000 in
set_option maxHeartbeats 8000000 in
theorem walk (r : RepD) (s : ByteArray) (hwr : wRep r) (hws : s.size ≤ maxLen) (hzs : s.data.toList.length ≤ reachBytes) (w : World) :
    Calls Try.prog 6 #[.agg #[.int .i64 r.code, .int .i64 r.rev], .string s] w fun e w' => e = .returned (.bool true) ∧ Below w.heap.size w w' := by
  have hs2 : s.size ≤ 140737488355328 := by have h := hzs; rw [size_l] at h; unfold reachBytes at h; omega
  have hs3 : s.size ≤ 1152921504606846976 := by omega
  have HS2 := Lib.hid hs2
  have HS3 := Lib.hid hs3
  have bA := below_one w (.cells #[.int .i64 r.code, .int .i64 r.rev] 39)
  have oA := objAt_new w #[.int .i64 r.code, .int .i64 r.rev] 39
  obtain ⟨W0, hW0⟩ : ∃ W0, w.alloc (.cells #[.int .i64 r.code, .int .i64 r.rev] 39) = W0 := ⟨_, rfl⟩
  rw [hW0] at bA oA
  obtain ⟨S, hS⟩ : ∃ S : ByteArray, (⟨(pencR r).1.toArray⟩ : ByteArray) = S := ⟨_, rfl⟩
  obtain ⟨c, hc⟩ : ∃ c, (pencR r).2 = c := ⟨_, rfl⟩
  obtain ⟨D, hD⟩ : ∃ D, pdecR s.data.toList = D := ⟨_, rfl⟩
  have HS := Lib.hid hS
  have HC := Lib.hid hc
  have HD := Lib.hid hD
  have H1 := Lib.hid (by have h := reply_any r W0; rw [hS, hc] at h; exact h : Calls Try.prog 18 #[.agg #[.int .i64 r.code, .int .i64 r.rev]] W0 fun e w' => e = .returned (.tuple #[.string S, .int .i64 (c : Nat)]) ∧ Below W0.heap.size W0 w')
  have k0 := objAt_cell oA 0 rfl
  have k1 := objAt_cell oA 1 rfl
  have OA := Lib.hid oA
  have BA := Lib.hid bA
  have hcc : ((c : Int) == (c : Int)) = true := by simp
  have hdd : ((D.2 : Int) == (D.2 : Int)) = true := by simp
  have hss : (S.toList == S.toList) = true := by simp
  clear hzs hws hwr hs2 hs3 bA oA hS hc hD
  go_enter Try.func6, Try.ntmps6
  go_wp2_with fail
  refine H1.out.mono ?_
  rintro e w1 ⟨rfl, b1⟩
  have o1 := objAt_next OA.out b1
  have B1 := Lib.hid (below_trans BA.out b1 BA.out.size)
  have H2 := Lib.hid (by have h := rreply_any r w1; rw [show ba (pencR r).1 = S from HS.out, HC.out] at h; exact h : Calls Try.prog 19 #[.agg #[.int .i64 r.code, .int .i64 r.rev]] w1 fun e w' => e = .returned (.tuple #[.string S, .int .i64 (c : Nat)]) ∧ Below w1.heap.size w1 w')
  clear k0 k1 b1 H1
  have k0 := objAt_cell o1 0 rfl
  have k1 := objAt_cell o1 1 rfl
  clear o1
  go_wp2_with fail
  refine H2.out.mono ?_
  rintro e w2 ⟨rfl, b2⟩
  have B2 := Lib.hid (below_trans B1.out b2 B1.out.size)
  have H3 := Lib.hid (by have h := readReply_any s HS3.out w2; rw [HD.out] at h; exact h : Calls Try.prog 20 #[.string s] w2 fun e w' => e = .returned (.tuple #[.agg #[.int .i64 D.1.code, .int .i64 D.1.rev], .int .i64 (D.2 : Nat)]) ∧ Below w2.heap.size w2 w')
  clear k0 k1 b2 H2
  go_wp2_with fail
  refine H3.out.mono ?_
  rintro e w3 ⟨rfl, b3⟩
  have B3 := below_trans B2.out b3 B2.out.size
  have bX := below_one w3 (.cells #[.int .i64 D.1.code, .int .i64 D.1.rev] 39)
  have oX := objAt_new w3 #[.int .i64 D.1.code, .int .i64 D.1.rev] 39
  obtain ⟨W3, hW3⟩ : ∃ W3, w3.alloc (.cells #[.int .i64 D.1.code, .int .i64 D.1.rev] 39) = W3 := ⟨_, rfl⟩
  rw [hW3] at bX oX
  obtain ⟨X, hX⟩ : ∃ X, w3.heap.size = X := ⟨_, rfl⟩
  rw [hX] at oX
  have B4 := Lib.hid (below_trans B3 bX B3.size)
  have H4 := Lib.hid (by have h := rreadReply_any s HS2.out W3; rw [HD.out] at h; exact h : Calls Try.prog 21 #[.string s] W3 fun e w' => e = .returned (.tuple #[.agg #[.int .i64 D.1.code, .int .i64 D.1.rev], .int .i64 (D.2 : Nat)]) ∧ Below W3.heap.size W3 w')
  have OX := Lib.hid oX
  clear b3 B3 bX oX H3
  go_wp2_with fail
  refine H4.out.mono ?_
  rintro e w4 ⟨rfl, b4⟩
  have B5 := below_trans B4.out b4 B4.out.size
  have bY := below_one w4 (.cells #[.int .i64 D.1.code, .int .i64 D.1.rev] 39)
  have oY := objAt_new w4 #[.int .i64 D.1.code, .int .i64 D.1.rev] 39
  obtain ⟨W4, hW4⟩ : ∃ W4, w4.alloc (.cells #[.int .i64 D.1.code, .int .i64 D.1.rev] 39) = W4 := ⟨_, rfl⟩
  obtain ⟨Y, hY⟩ : ∃ Y, w4.heap.size = Y := ⟨_, rfl⟩
  have oX4 := objAt_next (objAt_next OX.out b4) bY
  rw [hW4] at bY oY oX4
  rw [hY] at oY
  have B6 := Lib.hid (below_trans B5 bY B5.size)
  have H5 := Lib.hid (qnone_is W4)
  have x0 := objAt_cell oX4 0 rfl
  have x1 := objAt_cell oX4 1 rfl
  have y0 := objAt_cell oY 0 rfl
  have y1 := objAt_cell oY 1 rfl
  clear b4 B5 bY oY oX4 H4
  go_wp2_with fail
  refine H5.out.mono ?_
  rintro e w5 ⟨rfl, b5⟩
  have BF := Lib.hid (below_trans B6.out b5 B6.out.size)
  clear b5 x0 x1 y0 y1
  go_wp2
  go_ret
  exact ⟨rfl, BF.out⟩

theorem own : ownKnob Try.prog.godebug = none := by kernel_rfl
set_option maxRecDepth 100000 in
theorem lifted (os : Os) (started : os.Started) (H : Type) (enc : TypeId × Value → H) :
    ReturnsInHanded {} Try.checked os 6 .any (Rows.reqRepliesSpec.pre6 enc Try.prog Try.f6 Rows.reqRepliesRow.domain false) (Rows.reqRepliesSpec.post enc Try.prog Try.f6 false true false false) := by
  refine returnsInHanded_of_change_sized (C := Try.checked) own started (by kernel_rfl) Try.func6
    (ChangeSpec.witness6 (enc := enc) (C := Try.checked) false ⟨#[], #[.agg #[.int .i64 0, .int .i64 0], .string ByteArray.empty], []⟩ 8 (by kernel_rfl) (by kernel_rfl) (by kernel_rfl) (by kernel_rfl)) ?_
  intro W base args ds gs before hval0 hW hcnd hsz0 _
  have hval : ∀ (j : Nat) t v, Try.f6.params[j]? = some t → args[j]? = some v → Value.okWide Try.prog W .any base t v := hval0
  have hW' := hW
  obtain ⟨p, q, hA0, hV, rfl, hfz, hnd⟩ := hW
  have hA : DataW.TrodAll enc Try.prog W 0 (fun _ => true) true Try.f6.params.toList args.toList ds p := hA0
  have hsz : (DataW.weightsEach Try.prog (Try.f6.params.toList ++ Rows.reqRepliesSpec.plain.varTypes Try.prog) (ds ++ gs)).all (· ≤ reachBytes) = true := hsz0
  rw [Try.params6] at hA hval hsz
  obtain ⟨v0, vs0, d0, ds0, p0, q0, hargs, rfl, rfl, h0, r0⟩ := trodAll_cons hA
  obtain ⟨v1, vs1, d1, ds1, p1, q1, rfl, rfl, rfl, h1, r1⟩ := trodAll_cons r0
  obtain ⟨rfl, rfl, rfl⟩ := trodAll_nil r1
  obtain rfl : args = #[v0, v1] := by cases args; simp_all
  obtain ⟨rfl, rfl⟩ := trodVars_none hV
  obtain ⟨x0, rfl, rfl, rfl, w0⟩ := open_reply (hval 0 39 v0 rfl rfl) h0
  obtain ⟨a1, rfl, rfl, rfl, w1⟩ := open_string Try.underlying9 (hval 1 9 v1 rfl rfl) h1
  have s1 : a1.data.toList.length ≤ reachBytes := sized_string hsz (j := 1) (t := 9) rfl rfl
  clear hA0 hval0
  refine (walk x0 a1 w0 w1 s1 W).mono fun e W' ⟨he, bel⟩ => ?_
  subst he
  exact ⟨_, rfl, _, _, _, [], _, [], hW', trodAll_mk1 (shut_bool Try.underlying4 _), (trodAll_cons_mk (shut_reply w0) (trodAll_cons_mk (shut_string Try.underlying9 w1) trodAll_mk0)), rfl, bel.frame _, fun h => by cases h⟩

theorem over : Rows.reqRepliesRow.holds Try.pinned (OpenSpec.ofChange Rows.reqRepliesSpec) :=
  OpenClaim.holds_of_wide 6 Try.f6 rfl rfl rfl rfl rfl rfl rfl ⟨rfl, rfl, rfl, rfl, rfl⟩ rfl rfl rfl rfl rfl (by kernel_rfl) Try.func6 (by kernel_rfl)
    (of_decide_eq_true (by kernel_rfl)) (by unfold Func.isWrapper; first | (rw [if_pos (by decide +kernel)]; kernel_rfl) | (rw [if_neg (by decide +kernel)]; exact ⟨rfl, rfl⟩))
    (fun os started H enc _ => lifted os started H enc)

theorem proved : Rows.ReqRepliesSaid := over
#print axioms proved
end Go.Proofs.Ytklpmhiaihabaaa.reqReplies
