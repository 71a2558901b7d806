/- Requests and replies as the coder of package wire passes them (no program). -/
import Derived.Test.YthpgkfonbmffdaaGreatDoorRqPlain
import Derived.Test.YthpgkfonbmffdaaGreatDoorPkWi2
import Derived.Test.YthpgkfonbmffdaaGreatDoorPkWi4
namespace Go.Proofs.YthpgkfonbmffdaaGreatDoor
open Go.RowKit Go.Lib

/-- The fields of a kind. -/
def partS (k : Int) (q : ReqD) : St ReqD :=
  if k = 1 then bindS (jobS 3 q.job) fun x => pureS ⟨k, x, zNode, zLease, ⟨#[]⟩, 0⟩
  else if k = 2 then bindS (nodeS 3 q.node) fun x => pureS ⟨k, zJob, x, zLease, ⟨#[]⟩, 0⟩
  else if k = 5 then bindS (leaseS q.lease) fun x => pureS ⟨k, zJob, zNode, x, ⟨#[]⟩, 0⟩
  else if k = 7 then bindS (numbS q.n) fun x => pureS ⟨k, zJob, zNode, zLease, ⟨#[]⟩, x⟩
  else if k = 3 ∨ k = 4 ∨ k = 6 then bindS (txtS q.name) fun x => pureS ⟨k, zJob, zNode, zLease, x, 0⟩
  else if k = 8 ∨ k = 9 then pureS (kindQ k)
  else fun m => (zeroQ, m.fail 1)
def qS (q : ReqD) : St ReqD := bindS (numbS q.kind) fun k => partS k q
theorem wrt_to {α : Type} {f : St α} {a b : α} {l k : List UInt8} (h : Wrt f a l) (ha : a = b) (hl : l = k) : Wrt f b k := by subst ha hl; exact h
theorem wrt_iso {α β : Type} {f : St α} {a : α} {l : List UInt8} (h : Wrt f a l) (g : α → β) : Wrt (bindS f fun x => pureS (g x)) (g a) l := by
  have := wrt_bind h (g := fun x => pureS (g x)) (wrt_pure _)
  rw [List.append_nil] at this
  exact this
theorem wrt_part {q : ReqD} (h : okQ V8 q) : Wrt (partS q.kind q) q (partB q) := by
  obtain ⟨ho, hp⟩ := h
  unfold ownQ at ho
  unfold okPart at hp
  unfold partS partB
  by_cases k1 : q.kind = 1
  · rw [if_pos k1] at ho hp ⊢; rw [if_pos k1]
    exact wrt_to (wrt_iso (wrt_job hp) _) ho rfl
  rw [if_neg k1] at ho hp ⊢; rw [if_neg k1]
  by_cases k2 : q.kind = 2
  · rw [if_pos k2] at ho hp ⊢; rw [if_pos k2]
    exact wrt_to (wrt_iso (wrt_node hp) _) ho rfl
  rw [if_neg k2] at ho hp ⊢; rw [if_neg k2]
  by_cases k5 : q.kind = 5
  · rw [if_pos k5] at ho hp ⊢; rw [if_pos k5]
    exact wrt_to (wrt_iso (wrt_lease hp) _) ho rfl
  rw [if_neg k5] at ho hp ⊢; rw [if_neg k5]
  by_cases k7 : q.kind = 7
  · rw [if_pos k7] at ho hp ⊢; rw [if_pos k7]
    exact wrt_to (wrt_iso (wrt_numb hp.1) _) ho rfl
  rw [if_neg k7] at ho hp ⊢; rw [if_neg k7]
  by_cases k3 : q.kind = 3 ∨ q.kind = 4 ∨ q.kind = 6
  · rw [if_pos k3] at ho hp ⊢; rw [if_pos k3]
    exact wrt_to (wrt_iso (wrt_txt q.name) _) ho rfl
  rw [if_neg k3] at ho hp ⊢; rw [if_neg k3]
  rw [if_pos hp]
  exact wrt_to (wrt_pure _) ho rfl
theorem wrt_q {q : ReqD} (h : qcheckE V8 q = 0) : Wrt (qS q) q (qB q) := by
  obtain ⟨h1, h2⟩ := ok_q V8 h
  exact wrt_bind (wrt_numb h1.1) (g := fun k => partS k q) (wrt_part h2)
theorem rdg_iso {α β : Type} {d : Dec α} {f : St α} (h : Rdg d f) (g : α → β) : Rdg (bindD d fun x => pureD (g x)) (bindS f fun x => pureS (g x)) := rdg_bind h fun _ => rdg_pure _
theorem rdg_part {k : Int} (h : 1 ≤ k ∧ k ≤ 9) : Rdg (partR V8 k) (partS k zeroQ) := by
  unfold partR partS
  by_cases k1 : k = 1
  · rw [if_pos k1, if_pos k1]; exact rdg_iso (rdg_job 3) _
  rw [if_neg k1, if_neg k1]
  by_cases k2 : k = 2
  · rw [if_pos k2, if_pos k2]; exact rdg_iso (rdg_node 3) _
  rw [if_neg k2, if_neg k2]
  by_cases k5 : k = 5
  · rw [if_pos k5, if_pos k5]; exact rdg_iso rdg_lease _
  rw [if_neg k5, if_neg k5]
  by_cases k7 : k = 7
  · rw [if_pos k7, if_pos k7]; exact rdg_iso (rdg_numb _) _
  rw [if_neg k7, if_neg k7]
  by_cases k3 : k = 3 ∨ k = 4 ∨ k = 6
  · rw [if_pos k3, if_pos k3]; exact rdg_iso (rdg_txt _) _
  rw [if_neg k3, if_neg k3, if_pos (by omega), if_pos (by omega)]
  exact rdg_pure _
theorem part_no {k : Int} (h : ¬ (1 ≤ k ∧ k ≤ 9)) (q : ReqD) (m : M) : partS k q m = (zeroQ, m.fail 1) := by
  unfold partS
  rw [if_neg (by omega), if_neg (by omega), if_neg (by omega), if_neg (by omega), if_neg (by omega), if_neg (by omega)]
theorem partR_no {k : Int} (h : ¬ (1 ≤ k ∧ k ≤ 9)) : partR V8 k = failD 1 := by
  unfold partR
  rw [if_neg (by omega), if_neg (by omega), if_neg (by omega), if_neg (by omega), if_neg (by omega), if_neg (by omega)]
/-- A request that was read. -/
def readQ (q : ReqD) : Prop := (0 ≤ q.kind ∧ q.kind ≤ 4611686018427387904) ∧ okQ V8 q
theorem end_bad {m : M} (h : m.e ≠ 0) : endE m = m.e := by
  unfold endE
  rw [if_neg h]
  split <;> rfl
theorem end_ok {m : M} (h : m.e = 0) {l : List UInt8} (hl : m.rest = ⟨l.toArray⟩) : endE m = if l = [] then 0 else 4 := by
  unfold endE
  have hs : m.rest.size = l.length := by rw [hl]; simp [ByteArray.size]
  rw [hs, h]
  by_cases h0 : l = []
  · subst h0; simp
  · have : l.length ≠ 0 := by simpa using h0
    simp [h0]
/-- What reading a request leads to. -/
theorem read_q (s : ByteArray) :
    (∃ e, e ≠ 0 ∧ qdecR V8 s.data.toList = (zeroQ, e) ∧ endE (qS zeroQ ⟨true, [], s, 0⟩).2 = e) ∨
    (∃ q, readQ q ∧ (qS zeroQ ⟨true, [], s, 0⟩).1 = q ∧ endE (qS zeroQ ⟨true, [], s, 0⟩).2 = 0 ∧ qdecR V8 s.data.toList = if qcheckE V8 q ≠ 0 then (zeroQ, qcheckE V8 q) else (q, 0)) := by
  have h0 := (rdg_numb 0 ⟨true, [], s, 0⟩ rfl).1 rfl
  simp only at h0
  have hz : qS zeroQ ⟨true, [], s, 0⟩ = partS (numbS 0 ⟨true, [], s, 0⟩).1 zeroQ (numbS 0 ⟨true, [], s, 0⟩).2 := rfl
  cases hd : intD s.data.toList with
  | inl e =>
    left
    obtain ⟨h1, h2, h3, h4⟩ := h0.1 e hd
    refine ⟨e, h1, by unfold qdecR qR; rw [bindD_err hd], ?_⟩
    rw [hz]
    by_cases hk : 1 ≤ (numbS 0 ⟨true, [], s, 0⟩).1 ∧ (numbS 0 ⟨true, [], s, 0⟩).1 ≤ 9
    · rw [(rdg_part hk _ h4).2 (by rw [h2]; exact h1) h3, end_bad (by rw [h2]; exact h1), h2]
    · rw [part_no hk]
      have : ((numbS 0 ⟨true, [], s, 0⟩).2.fail 1).e = e := by unfold M.fail; simp only; rw [if_neg (by rw [h2]; exact h1), h2]
      simp only
      rw [end_bad (by rw [this]; exact h1), this]
  | inr x =>
    obtain ⟨k, l1⟩ := x
    have h1 := h0.2 k l1 hd
    rw [hz, h1]
    simp only
    by_cases hk : 1 ≤ k ∧ k ≤ 9
    · have h2 := (rdg_part hk ⟨true, [], ⟨l1.toArray⟩, 0⟩ rfl).1 rfl
      simp only at h2
      cases hp : partR V8 k l1 with
      | inl e =>
        left
        obtain ⟨a1, a2, a3, a4⟩ := h2.1 e hp
        exact ⟨e, a1, by unfold qdecR qR; rw [bindD_ok hd, hp], by rw [end_bad (by rw [a2]; exact a1), a2]⟩
      | inr x =>
        obtain ⟨q, l2⟩ := x
        have a := h2.2 q l2 hp
        rw [a]
        have hq : qR V8 s.data.toList = .inr (q, l2) := by unfold qR; rw [bindD_ok hd, hp]
        have hs := (qC V8).sound _ _ _ hq
        have he := end_ok (m := ⟨true, [], ⟨l2.toArray⟩, 0⟩) rfl rfl
        by_cases hl : l2 = []
        · right
          rw [if_pos hl] at he
          refine ⟨q, hs.1, rfl, he, ?_⟩
          unfold qdecR
          rw [hq]
          simp [hl]
        · left
          rw [if_neg hl] at he
          exact ⟨4, by omega, by unfold qdecR; rw [hq]; simp [hl], he⟩
    · left
      rw [part_no hk]
      refine ⟨1, by omega, by unfold qdecR qR; rw [bindD_ok hd, partR_no hk]; rfl, ?_⟩
      have : ((⟨true, [], ⟨l1.toArray⟩, 0⟩ : M).fail 1).e = 1 := rfl
      simp only
      rw [end_bad (by rw [this]; omega), this]
/-! ### replies -/
def pS (r : RepD) : St RepD := bindS (numbS r.code) fun a => bindS (numbS r.rev) fun b => pureS ⟨a, b⟩
theorem wrt_p {r : RepD} (h : goodP r = true) : Wrt (pS r) r (pB r) := by
  have h2 := (goodP_iff r).1 h
  have := wrt_bind (wrt_numb h2.1.1) (g := fun a => bindS (numbS r.rev) fun b => pureS (⟨a, b⟩ : RepD)) (wrt_bind (wrt_numb h2.2.1) (wrt_pure _))
  rw [List.append_nil] at this
  exact this
theorem rdg_p : Rdg pR (pS zeroP) := rdg_bind (rdg_numb _) fun _ => rdg_bind (rdg_numb _) fun _ => rdg_pure _
def readP (r : RepD) : Prop := (0 ≤ r.code ∧ r.code ≤ 4611686018427387904) ∧ (0 ≤ r.rev ∧ r.rev ≤ 4611686018427387904)
theorem read_p (s : ByteArray) :
    (∃ e, e ≠ 0 ∧ pdecR s.data.toList = (zeroP, e) ∧ endE (pS zeroP ⟨true, [], s, 0⟩).2 = e) ∨
    (∃ r, readP r ∧ (pS zeroP ⟨true, [], s, 0⟩).1 = r ∧ endE (pS zeroP ⟨true, [], s, 0⟩).2 = 0 ∧ pdecR s.data.toList = if goodP r then (r, 0) else (zeroP, 1)) := by
  have h0 := (rdg_p ⟨true, [], s, 0⟩ rfl).1 rfl
  simp only at h0
  cases hd : pR s.data.toList with
  | inl e =>
    left
    obtain ⟨h1, h2, h3, h4⟩ := h0.1 e hd
    exact ⟨e, h1, by unfold pdecR; rw [hd], by rw [end_bad (by rw [h2]; exact h1), h2]⟩
  | inr x =>
    obtain ⟨r, l⟩ := x
    have h1 := h0.2 r l hd
    rw [h1]
    have hs := pC.sound _ _ _ hd
    have he := end_ok (m := ⟨true, [], ⟨l.toArray⟩, 0⟩) rfl rfl
    by_cases hl : l = []
    · right
      rw [if_pos hl] at he
      refine ⟨r, hs.1, rfl, he, ?_⟩
      unfold pdecR
      rw [hd]
      simp [hl]
    · left
      rw [if_neg hl] at he
      exact ⟨4, by omega, by unfold pdecR; rw [hd]; simp [hl], he⟩
end Go.Proofs.YthpgkfonbmffdaaGreatDoor
