/- What package up answers, in plain words, as the laws use it. -/
import Derived.Test.YtclopkpfeofjmaaGreatDoorUpUse
namespace Go.Proofs.YtclopkpfeofjmaaGreatDoor
open Go.RowKit

theorem upR_cases (s : StD) {a b : Int} (h : 1 ≤ a ∧ a ≤ b ∧ b ≤ 3) : (∃ c, c ≠ 0 ∧ upR s a b = (zeroSt, c)) ∨ (upR s a b = (upS a b s, 0) ∧ checkE V8 s = 0 ∧ fitsD s a = true) := by
  have hu := (okUp_iff a b).2 h
  by_cases he : (fitsR s a).2 ≠ 0
  · exact .inl ⟨_, he, upR_err hu he⟩
  · have he0 : (fitsR s a).2 = 0 := by simpa using he
    obtain ⟨h1, _, h2⟩ := fitsR_ok he0
    cases hf : (fitsR s a).1 with
    | false => exact .inl ⟨4, by omega, upR_not hu he0 hf⟩
    | true => exact .inr ⟨upR_ok hu he0 hf, h1, by rw [← h2]; exact hf⟩
theorem upR_same {s : StD} {a b b' : Int} (h : 1 ≤ a ∧ a ≤ b ∧ b ≤ 3) (h' : 1 ≤ a ∧ a ≤ b' ∧ b' ≤ 3) {e : Nat} (he : e ≠ 0) (hx : upR s a b = (zeroSt, e)) : upR s a b' = (zeroSt, e) := by
  have hu := (okUp_iff a b).2 h
  have hu' := (okUp_iff a b').2 h'
  unfold upR at hx ⊢
  rw [if_pos hu] at hx
  rw [if_pos hu']
  by_cases h1 : (fitsR s a).2 ≠ 0
  · rw [if_pos h1] at hx ⊢; exact hx
  · rw [if_neg h1] at hx ⊢
    by_cases h2 : (fitsR s a).1 = true
    · rw [if_pos h2] at hx
      simp only [Prod.mk.injEq] at hx
      exact absurd hx.2.symm he
    · rw [if_neg h2] at hx ⊢; exact hx
theorem up13_cases (s : StD) : (∃ c, c ≠ 0 ∧ upR s 1 3 = (zeroSt, c) ∧ upR s 1 2 = (zeroSt, c)) ∨ (upR s 1 3 = (upS 1 3 s, 0) ∧ upR s 1 2 = (upS 1 2 s, 0) ∧ upR (upS 1 2 s) 2 3 = (upS 1 3 s, 0)) := by
  rcases upR_cases s (a := 1) (b := 3) (by omega) with ⟨c, hc, h⟩ | ⟨h, hc, hf⟩
  · exact .inl ⟨c, hc, h, upR_same (by omega) (by omega) hc h⟩
  · refine .inr ⟨h, upR_fit hc (by omega) hf, ?_⟩
    rw [upR_fit (valid8_up hc 1 2) (by omega) (fits_up hf (by omega) (by omega)), up_steps]
theorem dnR_cases (s : StD) {b : Int} (h : 1 ≤ b ∧ b ≤ 3) : (∃ c, c ≠ 0 ∧ dnR s b = (zeroSt, c)) ∨ (dnR s b = (dnS b s, 0) ∧ checkE V8 s = 0) := by
  by_cases hc : checkE V8 s ≠ 0
  · exact .inl ⟨_, hc, by unfold dnR; rw [if_pos hc]⟩
  · exact .inr ⟨by unfold dnR; rw [if_neg hc, if_pos ((okV_iff b).2 h)], by simpa using hc⟩
theorem dnR_ok {s : StD} {b : Int} (hc : checkE V8 s = 0) (h : 1 ≤ b ∧ b ≤ 3) : dnR s b = (dnS b s, 0) := by unfold dnR; rw [if_neg (by simp [hc]), if_pos ((okV_iff b).2 h)]
theorem wenc_ok {s : StD} {v : Int} (hc : checkE V8 s = 0) (hf : fitsD s v = true) (hv : 1 ≤ v ∧ v ≤ 3) : wencR s v = (⟨(stB v s).toArray⟩, 0) := by
  unfold wencR
  rw [fitsR_true hc hv hf]
  simp
theorem wdec_ok {s : StD} {v : Int} (hc : checkE V8 s = 0) (hf : fitsD s v = true) (hv : 1 ≤ v ∧ v ≤ 3) : wdecR v (stB v s) = (s, 0) := by
  unfold wdecR
  rw [if_pos hv]
  exact wire_back hc hf
theorem ub_ok {s : StD} {a b : Int} (hc : checkE V8 s = 0) (hf : fitsD s a = true) (h : 1 ≤ a ∧ a ≤ b ∧ b ≤ 3) : ubR (stB a s) a b = (⟨(stB b (upS a b s)).toArray⟩, 0) := by
  unfold ubR
  rw [if_pos ((okUp_iff a b).2 h), wdec_ok hc hf ⟨h.1, by omega⟩]
  simp only
  rw [upR_fit hc h hf]
  simp only [ne_eq, not_true_eq_false, if_false]
  exact wenc_ok (valid8_up hc a b) (fits_up hf h.2.1 h.2.2) (by omega)
theorem ub_bad (l : List UInt8) : ubR l 2 1 = (⟨#[]⟩, 1) := by unfold ubR; rw [if_neg (by decide)]
theorem upR_21 (s : StD) : upR s 2 1 = (zeroSt, 1) := upR_bad (by decide)
theorem zero_length : zeroSt.jobs.length = 0 ∧ zeroSt.nodes.length = 0 ∧ zeroSt.leases.length = 0 := ⟨rfl, rfl, rfl⟩
theorem size3_valid {s : StD} (h : checkE V8 s = 0) : s.jobs.length ≤ 140737488355328 ∧ s.nodes.length ≤ 140737488355328 ∧ s.leases.length ≤ 140737488355328 := by
  have := (small_valid h).1; omega
theorem up_job (a b : Int) (s : StD) (i : Nat) (hi : i < s.jobs.length) (hi' : i < (upS a b s).jobs.length) : (upS a b s).jobs[i].name = s.jobs[i].name ∧ (upS a b s).jobs[i].need = s.jobs[i].need ∧ (upS a b s).jobs[i].prio = s.jobs[i].prio := by
  have e : (upS a b s).jobs[i] = upJ s.leases a b s.jobs[i] := by simp [upS]
  rw [e]
  unfold upJ
  split <;> exact ⟨rfl, rfl, rfl⟩
theorem upR_size (s : StD) (a b : Int) (h : s.jobs.length ≤ 140737488355328 ∧ s.nodes.length ≤ 140737488355328 ∧ s.leases.length ≤ 140737488355328) : (upR s a b).1.jobs.length ≤ 140737488355328 ∧ (upR s a b).1.nodes.length ≤ 140737488355328 ∧ (upR s a b).1.leases.length ≤ 140737488355328 := by
  have hz : zeroSt.jobs.length ≤ 140737488355328 ∧ zeroSt.nodes.length ≤ 140737488355328 ∧ zeroSt.leases.length ≤ 140737488355328 := by decide
  cases hu : okUp a b with
  | false => rw [upR_bad hu]; exact hz
  | true =>
    rcases upR_cases s ((okUp_iff a b).1 hu) with ⟨c, _, e⟩ | ⟨e, _, _⟩
    · rw [e]; exact hz
    · rw [e]
      have l := up_lens a b s
      simp only
      rw [l.1, l.2.1, l.2.2]; exact h
end Go.Proofs.YtclopkpfeofjmaaGreatDoor
