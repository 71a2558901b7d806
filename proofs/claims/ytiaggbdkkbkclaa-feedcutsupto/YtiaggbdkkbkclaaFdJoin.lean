/- Plain facts on streams of frames (no program): a stream that comes in pieces. -/
import Derived.Test.YtiaggbdkkbkclaaFdPlain
namespace Go.Proofs.Ytiaggbdkkbkclaa

theorem pushed_one {r : List UInt8} {a c : Nat} {s : List UInt8} {fs fs' : List Fr} {r1 r2 : List UInt8} {a1 a2 c1 c2 : Nat} (h : Pushed r a c s fs r1 a1 c1) (k : Pushed r a c s fs' r2 a2 c2) : fs = fs' ∧ r1 = r2 ∧ a1 = a2 ∧ c1 = c2 := by
  rcases h with ⟨h0, rfl, rfl, rfl, rfl⟩ | ⟨rfl, q, e, hS, rfl, hE⟩
  · rcases k with ⟨_, rfl, rfl, rfl, rfl⟩ | ⟨rfl, _⟩
    · exact ⟨rfl, rfl, rfl, rfl⟩
    · exact absurd rfl h0
  · rcases k with ⟨k0, _⟩ | ⟨_, q', e', kS, rfl, kE⟩
    · exact absurd rfl k0
    · obtain ⟨rfl, rfl, rfl⟩ := split_one hS kS
      rcases hE with ⟨he, rfl, rfl⟩ | ⟨rfl, rfl, rfl⟩
      · rcases kE with ⟨_, rfl, rfl⟩ | ⟨rfl, _, _⟩
        · exact ⟨rfl, rfl, rfl, rfl⟩
        · exact absurd rfl he
      · rcases kE with ⟨ke, _, _⟩ | ⟨_, rfl, rfl⟩
        · exact absurd rfl ke
        · exact ⟨rfl, rfl, rfl, rfl⟩
theorem pushed_none : Pushed [] 0 0 [] [] [] 0 0 := .inr ⟨rfl, [], 3, ⟨rfl, goods_nil, decL_nil, by omega⟩, rfl, .inr ⟨rfl, rfl, rfl⟩⟩
/-- One piece, then another: as if both had come at once. -/
theorem pushed_on {D p : List UInt8} {fs ls : List Fr} {r r' : List UInt8} {a a' c c' : Nat} (h : Pushed [] 0 0 D fs r a c) (k : Pushed r a c p ls r' a' c') : Pushed [] 0 0 (D ++ p) (fs ++ ls) r' a' c' := by
  rcases h with ⟨h0, _⟩ | ⟨_, q, e, hS, rfl, hE⟩
  · exact absurd rfl h0
  rw [List.nil_append] at hS
  rcases hE with ⟨he, rfl, rfl⟩ | ⟨rfl, rfl, rfl⟩
  · rcases k with ⟨_, rfl, rfl, rfl, rfl⟩ | ⟨rfl, _⟩
    · refine .inr ⟨rfl, q ++ p, c', ?_, by rw [List.append_nil], .inl ⟨he, rfl, rfl⟩⟩
      rw [List.nil_append, List.append_nil]
      exact split_bad hS he p
    · exact absurd rfl hS.2.2.2
  · rcases k with ⟨k0, _⟩ | ⟨_, q', e', kS, rfl, kE⟩
    · exact absurd rfl k0
    · refine .inr ⟨rfl, q', e', ?_, by rw [encs_append, List.length_append]; omega, kE⟩
      rw [List.nil_append]
      exact split_on hS kS
/-- The bytes of pieces. -/
def joined (ps : List ByteArray) : List UInt8 := ps.flatMap fun p => p.data.toList
theorem joined_append (a b : List ByteArray) : joined (a ++ b) = joined a ++ joined b := by simp [joined]
theorem joined_one (p : ByteArray) : joined [p] = p.data.toList := by simp [joined]
theorem joined_take (ps : List ByteArray) (i : Nat) (h : i < ps.length) : joined (ps.take (i + 1)) = joined (ps.take i) ++ ps[i].data.toList := by
  rw [List.take_succ_eq_append_getElem h, joined_append, joined_one]
theorem joined_le (ps : List ByteArray) (i : Nat) : (joined (ps.take i)).length ≤ (joined ps).length := by
  have : joined ps = joined (ps.take i) ++ joined (ps.drop i) := by rw [← joined_append, List.take_append_drop]
  rw [this, List.length_append]; omega
theorem joined_at (ps : List ByteArray) (i : Nat) (h : i < ps.length) : (joined (ps.take i)).length + ps[i].size ≤ (joined ps).length := by
  have h1 := joined_le ps (i + 1)
  have e : ps[i].data.toList.length = ps[i].size := by rw [Array.length_toList]; rfl
  rw [joined_take ps i h, List.length_append] at h1
  omega
theorem pushed_x : Pushed [] 0 0 [120] [] [] 0 4 := by
  refine .inr ⟨rfl, [120], 4, ⟨rfl, goods_nil, ?_, by omega⟩, rfl, .inl ⟨by omega, rfl, rfl⟩⟩
  simp [decL, headE]
end Go.Proofs.Ytiaggbdkkbkclaa
