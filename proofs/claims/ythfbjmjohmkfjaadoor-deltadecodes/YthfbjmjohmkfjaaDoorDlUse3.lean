/- Encode and Decode of deltas at boxes, with what they answer named. -/
import Derived.Test.YthfbjmjohmkfjaaDoorDlBox
import Derived.Test.YthfbjmjohmkfjaaDoorDlDec
namespace Go.Proofs.YthfbjmjohmkfjaaDoor
open Go.RowKit

theorem wDelta_valid {d : DelD} (h : dcheckE V8 d = 0) : wDelta d := by
  have hv := (dcheck_zero V8 d).1 h
  have ho := ok_del V8 hv
  have h0 := hv.1
  exact wDelta_read ⟨⟨ho.1, by simp [Lit.wf, IntKind.min, IntKind.max, IntKind.signed, IntKind.bits]; omega⟩, ho.2.2⟩
theorem denc_cases (d : DelD) : (∃ c, c ≠ 0 ∧ dencR V8 d = ([], c)) ∨ (dencR V8 d = (delB d, 0) ∧ dcheckE V8 d = 0 ∧ (delB d).length ≤ 6000) := by
  unfold dencR
  by_cases h : dcheckE V8 d ≠ 0
  · rw [if_pos h]; exact .inl ⟨_, h, rfl⟩
  · rw [if_neg h]
    by_cases h6 : 6000 < (delB d).length
    · rw [if_pos h6]; exact .inl ⟨2, by omega, rfl⟩
    · rw [if_neg h6]; exact .inr ⟨rfl, by simpa using h, by omega⟩
theorem ddec_cases (l : List UInt8) : (∃ c, c ≠ 0 ∧ ddecR V8 l = (zeroDel, c)) ∨ (∃ D, ddecR V8 l = (D, 0) ∧ dencR V8 D = (l, 0) ∧ dcheckE V8 D = 0) := by
  obtain ⟨D, c, h⟩ : ∃ D c, ddecR V8 l = (D, c) := ⟨_, _, rfl⟩
  by_cases hc : c = 0
  · subst hc
    obtain ⟨h1, h2, h3⟩ := del_read h
    refine .inr ⟨D, h, ?_, h1⟩
    unfold dencR
    rw [if_neg (by simp [h1]), if_neg (by rw [h2]; omega), h2]
  · have := del_err h hc
    subst this
    exact .inl ⟨c, hc, h⟩
theorem denc_zero : dencR V8 zeroDel = ([], 1) := by
  unfold dencR
  rw [show dcheckE V8 zeroDel = 1 from rfl]
  rfl
theorem dencode_at {d : DelD} {l : List UInt8} {c : Nat} {S : ByteArray} {M : DlM} (hwd : wDelta d) (e : dencR V8 d = (l, c)) (hS : (⟨l.toArray⟩ : ByteArray) = S) {w : World} (hT : Tabs w) (hm : DeltaAt w M d) :
    Calls Tryd.prog 5 #[.agg #[.int .i64 d.frm, .int .i64 d.til, .slice M.aj d.jobs.length M.cj, .slice M.an d.nodes.length M.cn, .slice M.al d.leases.length M.cl, .slice M.gj d.gj.length M.hj, .slice M.gn d.gn.length M.hn, .slice M.gl d.gl.length M.hl]] w fun e w' => e = .returned (.tuple #[.string S, .int .i64 (c : Nat)]) ∧ Below w.heap.size w w' := by
  have h := dencode_any d M hwd w hT hm
  rw [e] at h
  rw [← hS]
  exact h
theorem ddecode_at {S : ByteArray} {D : DelD} {c : Nat} (hs : S.size ≤ 1152921504606846976) (e : ddecR V8 S.data.toList = (D, c)) {w : World} (hT : Tabs w) :
    Calls Tryd.prog 8 #[.string S] w fun e w' => ∃ M : DlM, e = .returned (.tuple #[.agg #[.int .i64 D.frm, .int .i64 D.til, .slice M.aj D.jobs.length M.cj, .slice M.an D.nodes.length M.cn, .slice M.al D.leases.length M.cl, .slice M.gj D.gj.length M.hj, .slice M.gn D.gn.length M.hn, .slice M.gl D.gl.length M.hl], .int .i64 (c : Nat)]) ∧ OwnD w.heap.size M D w' ∧ Below w.heap.size w w' := by
  have h := ddecode_any S hs w hT
  rw [e] at h
  exact h
theorem str_reach {s : ByteArray} (h : s.data.toList.length ≤ reachBytes) : s.size ≤ 140737488351232 := by
  have h2 : s.data.toList.length ≤ 140737488351232 := h
  have e : s.data.toList.length = s.size := size_l s
  omega
theorem str_self (s : ByteArray) : (⟨s.data.toList.toArray⟩ : ByteArray) = s := rfl
end Go.Proofs.YthfbjmjohmkfjaaDoor
