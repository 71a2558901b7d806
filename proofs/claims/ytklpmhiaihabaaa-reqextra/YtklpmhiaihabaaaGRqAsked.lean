/- The laws' closed fact on requests: asked. -/
import Derived.Test.YtklpmhiaihabaaaGRqDec
namespace Go.Proofs.Ytklpmhiaihabaaa
open Go.RowKit Go.Lib

theorem kindR_back [Inhabited UV] {q : ReqD} (h : qcheckE V8 q = 0) : kindR ⟨(qB q).toArray⟩ = q.kind := by
  have hb := intC.back q.kind (partB q) (ok_q V8 h).1
  have h0 := ((rdg_numb 0 ⟨true, [], ⟨(qB q).toArray⟩, 0⟩ rfl).1 rfl).2 q.kind (partB q) hb
  unfold kindR
  rw [h0]
def askQ : ReqD := ⟨7, zJob, zNode, zLease, ⟨#[]⟩, 300⟩
theorem askQ_ok [Inhabited UV] : qcheckE V8 askQ = 0 := by
  rw [qcheck_zero]
  refine ⟨⟨by decide, by decide⟩, by simp [ownQ, askQ], ?_⟩
  simp [partE, askQ, inR]
theorem askQ_B : qB askQ = [7, 172, 2] := by
  have h1 : intE 7 = [7] := by unfold intE; rw [num_lt (by decide)]; rfl
  have h2 : intE 300 = [172, 2] := by unfold intE; rw [num_ge (by decide), num_lt (by decide)]; rfl
  have h3 : partB askQ = intE 300 := by simp [partB, askQ]
  have h4 : qB askQ = intE 7 ++ partB askQ := rfl
  rw [h4, h3, h1, h2]
  rfl
theorem askQ_w [Inhabited UV] : wReq askQ := wReq_read ⟨(ok_q V8 askQ_ok).1, (ok_q V8 askQ_ok).2⟩
set_option maxRecDepth 100000 in
set_option maxHeartbeats 8000000 in
theorem asked_is [Inhabited UV] (w : World) : Calls Try.prog 22 #[] w fun e w' => e = .returned (.bool true) ∧ Below w.heap.size w w' := by
  have HE := qencode_any askQ askQ_w w (fun h => absurd h (by show ¬ (1 ≤ (7 : Int) ∧ (7 : Int) ≤ 6); omega))
  have he : qencR V8 askQ = ([7, 172, 2], 0) := by unfold qencR; rw [if_neg (by rw [askQ_ok]; simp), askQ_B]
  rw [he] at HE
  have HE := Lib.hid (HE : Calls Try.prog 14 #[.agg #[.int .i64 7, .string ⟨#[]⟩, .int .i64 0, .int .i64 0, .int .i64 0, .string ⟨#[]⟩, .string ⟨#[]⟩, .int .i64 0, .string ⟨#[]⟩, .string ⟨#[]⟩, .string ⟨#[]⟩, .int .i64 0, .string ⟨#[]⟩, .int .i64 300]] w fun e w' => e = .returned (.tuple #[.string ⟨#[7, 172, 2]⟩, .int .i64 0]) ∧ Below w.heap.size w w')
  have hd : qdecR V8 (⟨#[7, 172, 2]⟩ : ByteArray).data.toList = (askQ, 0) := by have h := q_back askQ_ok; rw [askQ_B] at h; exact h
  have hk : kindR ⟨#[7, 172, 2]⟩ = 7 := by have h := kindR_back askQ_ok; rw [askQ_B] at h; exact h
  have HD : Hid (∀ V : World, Calls Try.prog 16 #[.string ⟨#[7, 172, 2]⟩] V fun e w' => e = .returned (.tuple #[.agg #[.int .i64 7, .string ⟨#[]⟩, .int .i64 0, .int .i64 0, .int .i64 0, .string ⟨#[]⟩, .string ⟨#[]⟩, .int .i64 0, .string ⟨#[]⟩, .string ⟨#[]⟩, .string ⟨#[]⟩, .int .i64 0, .string ⟨#[]⟩, .int .i64 300], .int .i64 0]) ∧ Below V.heap.size V w') := by
    intro V
    have h := qdecode_any ⟨#[7, 172, 2]⟩ (by decide) V (fun h => absurd h (by rw [hk]; unfold Txt; omega))
    rw [hd] at h
    exact h
  clear he hd hk
  go_enter Try.func22, Try.ntmps22
  go_wp2_with fail
  refine HE.out.mono ?_
  rintro e w1 ⟨rfl, b1⟩
  go_wp2_with fail
  refine (HD.out _).mono ?_
  rintro e w2 ⟨rfl, b2⟩
  have b12 := below_trans b1 b2 b1.size
  have BF := Lib.hid (below_trans b12 (below_one w2 (.cells #[.int .i64 7, .string ⟨#[]⟩, .int .i64 0, .int .i64 0, .int .i64 0, .string ⟨#[]⟩, .string ⟨#[]⟩, .int .i64 0, .string ⟨#[]⟩, .string ⟨#[]⟩, .string ⟨#[]⟩, .int .i64 0, .string ⟨#[]⟩, .int .i64 300] 29)) b12.size)
  clear b1 b2 b12
  go_wp2
  go_ret
  exact ⟨rfl, BF.out⟩
end Go.Proofs.Ytklpmhiaihabaaa
