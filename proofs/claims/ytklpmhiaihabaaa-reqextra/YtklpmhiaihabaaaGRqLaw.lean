/- What Encode and Decode of package req answer, by cases. -/
import Derived.Test.YtklpmhiaihabaaaGRqAsked
namespace Go.Proofs.Ytklpmhiaihabaaa
open Go.RowKit Go.Lib

theorem qenc_cases [Inhabited UV] (q : ReqD) : (∃ c, c ≠ 0 ∧ qencR V8 q = ([], c) ∧ qcheckE V8 q = c) ∨ (qencR V8 q = (qB q, 0) ∧ qcheckE V8 q = 0) := by
  by_cases h : qcheckE V8 q ≠ 0
  · exact .inl ⟨_, h, by unfold qencR; rw [if_pos h], rfl⟩
  · exact .inr ⟨by unfold qencR; rw [if_neg h], by omega⟩
theorem wReq_ok [Inhabited UV] {q : ReqD} (h : qcheckE V8 q = 0) : wReq q := wReq_read ⟨(ok_q V8 h).1, (ok_q V8 h).2⟩
theorem wReq_zero [Inhabited UV] : wReq zeroQ := wReq_own (k := 0) (N := 0) ⟨by decide, by decide⟩ (ok_zJob 3) (ok_zNode 3) ok_zLease v_empty ⟨by decide, by decide⟩
theorem qdec_cases [Inhabited UV] (l : List UInt8) : (∃ c, c ≠ 0 ∧ qdecR V8 l = (zeroQ, c)) ∨ (∃ q, qdecR V8 l = (q, 0) ∧ qcheckE V8 q = 0 ∧ qB q = l) := by
  obtain ⟨⟨q, c⟩, h⟩ : ∃ x, qdecR V8 l = x := ⟨_, rfl⟩
  by_cases hc : c = 0
  · subst hc
    exact .inr ⟨q, h, q_read h⟩
  · exact .inl ⟨c, hc, by rw [h, q_err h hc]⟩
theorem qS_size (q : ReqD) : (⟨(qB q).toArray⟩ : ByteArray).size = (qB q).length := by simp [ByteArray.size]
theorem qS_list (q : ReqD) : (⟨(qB q).toArray⟩ : ByteArray).data.toList = qB q := rfl
end Go.Proofs.Ytklpmhiaihabaaa
