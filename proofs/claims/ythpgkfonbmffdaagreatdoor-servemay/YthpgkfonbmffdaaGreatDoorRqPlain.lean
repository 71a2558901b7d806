/- Plain facts on requests and replies (no program): what Check, Encode, Decode, Reply and ReadReply answer. U stands for 'is valid UTF-8'. -/
import Derived.Test.YthpgkfonbmffdaaGreatDoorPkDl3
namespace Go.Proofs.YthpgkfonbmffdaaGreatDoor

structure ReqD where
  kind : Int
  job : JobD
  node : NodeD
  lease : LeaseD
  name : ByteArray
  n : Int
def zeroQ : ReqD := ⟨0, zJob, zNode, zLease, ⟨#[]⟩, 0⟩
def kindQ (k : Int) : ReqD := ⟨k, zJob, zNode, zLease, ⟨#[]⟩, 0⟩
/-- Just the fields that the kind has. -/
def ownQ (q : ReqD) : ReqD :=
  if q.kind = 1 then ⟨q.kind, q.job, zNode, zLease, ⟨#[]⟩, 0⟩
  else if q.kind = 2 then ⟨q.kind, zJob, q.node, zLease, ⟨#[]⟩, 0⟩
  else if q.kind = 5 then ⟨q.kind, zJob, zNode, q.lease, ⟨#[]⟩, 0⟩
  else if q.kind = 7 then ⟨q.kind, zJob, zNode, zLease, ⟨#[]⟩, q.n⟩
  else if q.kind = 3 ∨ q.kind = 4 ∨ q.kind = 6 then ⟨q.kind, zJob, zNode, zLease, q.name, 0⟩
  else kindQ q.kind
section
variable (U : ByteArray → Bool)
/-- What is wrong with the field that the kind has. -/
def partE (q : ReqD) : Nat :=
  if q.kind = 1 then jobE U q.job
  else if q.kind = 2 then nodeE U q.node
  else if q.kind = 5 then leaseCE U q.lease
  else if q.kind = 7 then (if inR q.n 0 1099511627776 then 0 else 1)
  else if q.kind = 3 ∨ q.kind = 4 ∨ q.kind = 6 then (if isName U q.name then 0 else 4)
  else 0
open Classical in
noncomputable def qcheckE (q : ReqD) : Nat := if inR q.kind 1 9 then (if ownQ q = q then partE U q else 4) else 1
theorem qcheck_zero (q : ReqD) : qcheckE U q = 0 ↔ (1 ≤ q.kind ∧ q.kind ≤ 9) ∧ ownQ q = q ∧ partE U q = 0 := by
  unfold qcheckE
  by_cases h : inR q.kind 1 9 = true
  · rw [if_pos h]
    rw [inR_iff] at h
    by_cases h2 : ownQ q = q
    · rw [if_pos h2]; exact ⟨fun h3 => ⟨h, h2, h3⟩, fun h3 => h3.2.2⟩
    · rw [if_neg h2]; exact ⟨fun h3 => absurd h3 (by omega), fun h3 => absurd h3.2.1 h2⟩
  · rw [if_neg h]
    rw [inR_iff] at h
    exact ⟨fun h3 => absurd h3 (by omega), fun h3 => absurd h3.1 h⟩
theorem qcheck_arg {q : ReqD} (h : ¬ (1 ≤ q.kind ∧ q.kind ≤ 9)) : qcheckE U q = 1 := by
  unfold qcheckE; rw [if_neg (by rw [inR_iff]; exact h)]
theorem qcheck_extra {q : ReqD} (h : 1 ≤ q.kind ∧ q.kind ≤ 9) (h2 : ownQ q ≠ q) : qcheckE U q = 4 := by
  unfold qcheckE; rw [if_pos ((inR_iff _ _ _).2 h), if_neg h2]
theorem qcheck_part {q : ReqD} (h : 1 ≤ q.kind ∧ q.kind ≤ 9) (h2 : ownQ q = q) : qcheckE U q = partE U q := by
  unfold qcheckE; rw [if_pos ((inR_iff _ _ _).2 h), if_pos h2]
/-! ### as bytes -/
def partB (q : ReqD) : List UInt8 :=
  if q.kind = 1 then jobB 3 q.job
  else if q.kind = 2 then nodeB 3 q.node
  else if q.kind = 5 then leaseB q.lease
  else if q.kind = 7 then intE q.n
  else if q.kind = 3 ∨ q.kind = 4 ∨ q.kind = 6 then textE q.name
  else []
def qB (q : ReqD) : List UInt8 := intE q.kind ++ partB q
/-- The fields of a kind, read. -/
def partR (k : Int) : Dec ReqD :=
  if k = 1 then bindD (jobR U 3) fun x => pureD ⟨k, x, zNode, zLease, ⟨#[]⟩, 0⟩
  else if k = 2 then bindD (nodeR U 3) fun x => pureD ⟨k, zJob, x, zLease, ⟨#[]⟩, 0⟩
  else if k = 5 then bindD (leaseR U) fun x => pureD ⟨k, zJob, zNode, x, ⟨#[]⟩, 0⟩
  else if k = 7 then bindD intD fun x => pureD ⟨k, zJob, zNode, zLease, ⟨#[]⟩, x⟩
  else if k = 3 ∨ k = 4 ∨ k = 6 then bindD (textD U) fun x => pureD ⟨k, zJob, zNode, zLease, x, 0⟩
  else if k = 8 ∨ k = 9 then pureD (kindQ k)
  else failD 1
def qR : Dec ReqD := bindD intD (partR U)
/-- A request that can be told. -/
def okPart (q : ReqD) : Prop :=
  if q.kind = 1 then okJob U 3 q.job
  else if q.kind = 2 then okNode U 3 q.node
  else if q.kind = 5 then okLease U q.lease
  else if q.kind = 7 then (0 ≤ q.n ∧ q.n ≤ 4611686018427387904)
  else if q.kind = 3 ∨ q.kind = 4 ∨ q.kind = 6 then isNote U q.name = true
  else q.kind = 8 ∨ q.kind = 9
def okQ (q : ReqD) : Prop := ownQ q = q ∧ okPart U q
theorem partC (k : Int) : Codec (fun q => q.kind = k ∧ okQ U q) partB (partR U k) := by
  by_cases k1 : k = 1
  · subst k1
    have c := Codec.iso (jobC U 3) (fun x => ⟨1, x, zNode, zLease, ⟨#[]⟩, 0⟩) (·.job) (fun q => q.kind = 1 ∧ okQ U q) (fun q hq => by
      obtain ⟨h1, h2, h3⟩ := hq
      unfold okPart at h3; rw [if_pos h1] at h3
      unfold ownQ at h2; rw [if_pos h1, h1] at h2
      exact ⟨h3, h2⟩) (fun x hx => ⟨⟨rfl, by simp [ownQ], by simpa [okPart] using hx⟩, rfl⟩)
    have e : partR U 1 = bindD (jobR U 3) fun x => pureD ⟨1, x, zNode, zLease, ⟨#[]⟩, 0⟩ := by unfold partR; rw [if_pos rfl]
    rw [e]
    refine ⟨fun a m h => ?_, fun l a m h => ?_, fun a j h hj => ?_⟩
    · have := c.back a m h; unfold partB; rw [if_pos h.1]; exact this
    · have := c.sound l a m h; refine ⟨this.1, ?_⟩; unfold partB; rw [if_pos this.1.1]; exact this.2
    · unfold partB at hj ⊢; rw [if_pos h.1] at hj ⊢; exact c.cut a j h hj
  by_cases k2 : k = 2
  · subst k2
    have c := Codec.iso (nodeC U 3) (fun x => ⟨2, zJob, x, zLease, ⟨#[]⟩, 0⟩) (·.node) (fun q => q.kind = 2 ∧ okQ U q) (fun q hq => by
      obtain ⟨h1, h2, h3⟩ := hq
      unfold okPart at h3; rw [if_neg (by omega), if_pos h1] at h3
      unfold ownQ at h2; rw [if_neg (by omega), if_pos h1, h1] at h2
      exact ⟨h3, h2⟩) (fun x hx => ⟨⟨rfl, by simp [ownQ], by simpa [okPart] using hx⟩, rfl⟩)
    have e : partR U 2 = bindD (nodeR U 3) fun x => pureD ⟨2, zJob, x, zLease, ⟨#[]⟩, 0⟩ := by unfold partR; rw [if_neg (by decide), if_pos rfl]
    rw [e]
    refine ⟨fun a m h => ?_, fun l a m h => ?_, fun a j h hj => ?_⟩
    · have := c.back a m h; unfold partB; rw [if_neg (by omega), if_pos h.1]; exact this
    · have := c.sound l a m h; refine ⟨this.1, ?_⟩; unfold partB; rw [if_neg (by omega), if_pos this.1.1]; exact this.2
    · unfold partB at hj ⊢; rw [if_neg (by omega), if_pos h.1] at hj ⊢; exact c.cut a j h hj
  by_cases k5 : k = 5
  · subst k5
    have c := Codec.iso (leaseC U) (fun x => ⟨5, zJob, zNode, x, ⟨#[]⟩, 0⟩) (·.lease) (fun q => q.kind = 5 ∧ okQ U q) (fun q hq => by
      obtain ⟨h1, h2, h3⟩ := hq
      unfold okPart at h3; rw [if_neg (by omega), if_neg (by omega), if_pos h1] at h3
      unfold ownQ at h2; rw [if_neg (by omega), if_neg (by omega), if_pos h1, h1] at h2
      exact ⟨h3, h2⟩) (fun x hx => ⟨⟨rfl, by simp [ownQ], by simpa [okPart] using hx⟩, rfl⟩)
    have e : partR U 5 = bindD (leaseR U) fun x => pureD ⟨5, zJob, zNode, x, ⟨#[]⟩, 0⟩ := by unfold partR; rw [if_neg (by decide), if_neg (by decide), if_pos rfl]
    rw [e]
    refine ⟨fun a m h => ?_, fun l a m h => ?_, fun a j h hj => ?_⟩
    · have := c.back a m h; unfold partB; rw [if_neg (by omega), if_neg (by omega), if_pos h.1]; exact this
    · have := c.sound l a m h; refine ⟨this.1, ?_⟩; unfold partB; rw [if_neg (by omega), if_neg (by omega), if_pos this.1.1]; exact this.2
    · unfold partB at hj ⊢; rw [if_neg (by omega), if_neg (by omega), if_pos h.1] at hj ⊢; exact c.cut a j h hj
  by_cases k7 : k = 7
  · subst k7
    have c := Codec.iso intC (fun x => ⟨7, zJob, zNode, zLease, ⟨#[]⟩, x⟩) (·.n) (fun q => q.kind = 7 ∧ okQ U q) (fun q hq => by
      obtain ⟨h1, h2, h3⟩ := hq
      unfold okPart at h3; rw [if_neg (by omega), if_neg (by omega), if_neg (by omega), if_pos h1] at h3
      unfold ownQ at h2; rw [if_neg (by omega), if_neg (by omega), if_neg (by omega), if_pos h1, h1] at h2
      exact ⟨h3, h2⟩) (fun x hx => ⟨⟨rfl, by simp [ownQ], by simpa [okPart] using hx⟩, rfl⟩)
    have e : partR U 7 = bindD intD fun x => pureD ⟨7, zJob, zNode, zLease, ⟨#[]⟩, x⟩ := by unfold partR; rw [if_neg (by decide), if_neg (by decide), if_neg (by decide), if_pos rfl]
    rw [e]
    refine ⟨fun a m h => ?_, fun l a m h => ?_, fun a j h hj => ?_⟩
    · have := c.back a m h; unfold partB; rw [if_neg (by omega), if_neg (by omega), if_neg (by omega), if_pos h.1]; exact this
    · have := c.sound l a m h; refine ⟨this.1, ?_⟩; unfold partB; rw [if_neg (by omega), if_neg (by omega), if_neg (by omega), if_pos this.1.1]; exact this.2
    · unfold partB at hj ⊢; rw [if_neg (by omega), if_neg (by omega), if_neg (by omega), if_pos h.1] at hj ⊢; exact c.cut a j h hj
  by_cases k3 : k = 3 ∨ k = 4 ∨ k = 6
  · have c := Codec.iso (textC U) (fun x => ⟨k, zJob, zNode, zLease, x, 0⟩) (·.name) (fun q => q.kind = k ∧ okQ U q) (fun q hq => by
      obtain ⟨h1, h2, h3⟩ := hq
      unfold okPart at h3; rw [if_neg (by omega), if_neg (by omega), if_neg (by omega), if_neg (by omega), if_pos (by omega)] at h3
      unfold ownQ at h2; rw [if_neg (by omega), if_neg (by omega), if_neg (by omega), if_neg (by omega), if_pos (by omega), h1] at h2
      exact ⟨h3, h2⟩) (fun x hx => ⟨⟨rfl, by simp only [ownQ]; rw [if_neg k1, if_neg k2, if_neg k5, if_neg k7, if_pos k3], by simp only [okPart]; rw [if_neg k1, if_neg k2, if_neg k5, if_neg k7, if_pos k3]; exact hx⟩, rfl⟩)
    have e : partR U k = bindD (textD U) fun x => pureD ⟨k, zJob, zNode, zLease, x, 0⟩ := by unfold partR; rw [if_neg k1, if_neg k2, if_neg k5, if_neg k7, if_pos k3]
    rw [e]
    refine ⟨fun a m h => ?_, fun l a m h => ?_, fun a j h hj => ?_⟩
    · have := c.back a m h; unfold partB; rw [h.1, if_neg k1, if_neg k2, if_neg k5, if_neg k7, if_pos k3]; exact this
    · have := c.sound l a m h; refine ⟨this.1, ?_⟩; unfold partB; rw [this.1.1, if_neg k1, if_neg k2, if_neg k5, if_neg k7, if_pos k3]; exact this.2
    · unfold partB at hj ⊢; rw [h.1, if_neg k1, if_neg k2, if_neg k5, if_neg k7, if_pos k3] at hj ⊢; exact c.cut a j h hj
  by_cases k8 : k = 8 ∨ k = 9
  · have e : partR U k = pureD (kindQ k) := by unfold partR; rw [if_neg k1, if_neg k2, if_neg k5, if_neg k7, if_neg k3, if_pos k8]
    rw [e]
    have own : ∀ a : ReqD, a.kind = k → ownQ a = kindQ k := fun a h => by unfold ownQ; rw [h, if_neg k1, if_neg k2, if_neg k5, if_neg k7, if_neg k3]
    have ok8 : ∀ a : ReqD, a.kind = k → okPart U a := fun a h => by unfold okPart; rw [h, if_neg k1, if_neg k2, if_neg k5, if_neg k7, if_neg k3]; exact k8
    have nob : ∀ a : ReqD, a.kind = k → partB a = [] := fun a h => by unfold partB; rw [h, if_neg k1, if_neg k2, if_neg k5, if_neg k7, if_neg k3]
    refine ⟨fun a m h => ?_, fun l a m h => ?_, fun a j h hj => ?_⟩
    · rw [nob a h.1, show a = kindQ k by rw [← own a h.1]; exact h.2.1.symm]; rfl
    · simp only [pureD, Sum.inr.injEq, Prod.mk.injEq] at h
      obtain ⟨rfl, rfl⟩ := h
      exact ⟨⟨rfl, own _ rfl, ok8 _ rfl⟩, by rw [nob _ rfl]; rfl⟩
    · rw [nob a h.1] at hj; simp at hj
  · have e : partR U k = failD 1 := by unfold partR; rw [if_neg k1, if_neg k2, if_neg k5, if_neg k7, if_neg k3, if_neg k8]
    rw [e]
    have no : ∀ a : ReqD, a.kind = k → ¬ okPart U a := fun a h h2 => by
      unfold okPart at h2
      rw [h, if_neg k1, if_neg k2, if_neg k5, if_neg k7, if_neg k3] at h2
      exact k8 h2
    exact ⟨fun a m h => absurd h.2.2 (no a h.1), fun l a m h => (by cases h), fun a j h _ => absurd h.2.2 (no a h.1)⟩
theorem qC : Codec (fun q : ReqD => (0 ≤ q.kind ∧ q.kind ≤ 4611686018427387904) ∧ okQ U q) qB (qR U) := by
  have c := Codec.seq intC (fun k _ => partC U k)
  have c2 := Codec.iso c (fun x => x.2) (fun q => (q.kind, q)) (fun q : ReqD => (0 ≤ q.kind ∧ q.kind ≤ 4611686018427387904) ∧ okQ U q) (fun q hq => ⟨⟨hq.1, rfl, hq.2⟩, rfl⟩) (fun x hx => by
    obtain ⟨k, q⟩ := x
    obtain ⟨h1, h2, h3⟩ := hx
    simp only at h1 h2 h3
    subst h2
    exact ⟨⟨h1, h3⟩, rfl⟩)
  simp only [bindD_assoc, bindD_pure] at c2
  have e : qR U = bindD intD fun a => bindD (partR U a) fun b => pureD b := by
    unfold qR
    congr 1
    funext k l
    unfold bindD
    cases partR U k l <;> rfl
  rw [e]
  exact c2
theorem nz_fail {α : Type} {e : Nat} (h : e ≠ 0) : NZ (failD e : Dec α) := fun l e' h' => by
  simp only [failD, Sum.inl.injEq] at h'; omega
theorem nz_q : NZ (qR U) := by
  have hj : NZ (jobR U 3) := nz_bind (nz_text U) fun _ => nz_bind nz_zig fun _ => nz_bind nz_int fun _ => nz_bind (nz_if _ nz_int (nz_pure _)) fun _ => nz_bind (nz_if _ (nz_text U) (nz_pure _)) fun _ => nz_pure _
  have hn : NZ (nodeR U 3) := nz_bind (nz_text U) fun _ => nz_bind nz_int fun _ => nz_bind (nz_if _ (nz_text U) (nz_pure _)) fun _ => nz_pure _
  have hl : NZ (leaseR U) := nz_bind (nz_text U) fun _ => nz_bind (nz_text U) fun _ => nz_bind nz_int fun _ => nz_pure _
  refine nz_bind nz_int fun k => ?_
  unfold partR
  split
  · exact nz_bind hj fun _ => nz_pure _
  split
  · exact nz_bind hn fun _ => nz_pure _
  split
  · exact nz_bind hl fun _ => nz_pure _
  split
  · exact nz_bind nz_int fun _ => nz_pure _
  split
  · exact nz_bind (nz_text U) fun _ => nz_pure _
  split
  · exact nz_pure _
  · exact nz_fail (by omega)
theorem ok_q {q : ReqD} (h : qcheckE U q = 0) : (0 ≤ q.kind ∧ q.kind ≤ 4611686018427387904) ∧ okQ U q := by
  obtain ⟨h1, h2, h3⟩ := (qcheck_zero U q).1 h
  refine ⟨⟨by omega, by omega⟩, h2, ?_⟩
  unfold okPart
  unfold partE at h3
  by_cases k1 : q.kind = 1
  · rw [if_pos k1] at h3 ⊢
    have z := (jobE_zero U _).1 h3
    refine ⟨name_note U z.1.1, ?_, ⟨by omega, by omega⟩, ?_, ?_⟩
    · unfold zig; split <;> omega
    · rw [if_pos (by decide)]; omega
    · rw [if_pos (by decide)]; exact z.1.2
  rw [if_neg k1] at h3 ⊢
  by_cases k2 : q.kind = 2
  · rw [if_pos k2] at h3 ⊢
    have z := (nodeE_zero U _).1 h3
    refine ⟨name_note U z.1.1, ⟨by omega, by omega⟩, ?_⟩
    rw [if_pos (by decide)]; exact z.1.2
  rw [if_neg k2] at h3 ⊢
  by_cases k5 : q.kind = 5
  · rw [if_pos k5] at h3 ⊢
    have z := (leaseCE_zero U _).1 h3
    exact ⟨name_note U z.1.1, name_note U z.1.2, by omega, by omega⟩
  rw [if_neg k5] at h3 ⊢
  by_cases k7 : q.kind = 7
  · rw [if_pos k7] at h3 ⊢
    by_cases h4 : inR q.n 0 1099511627776 = true
    · rw [inR_iff] at h4; exact ⟨h4.1, by omega⟩
    · rw [if_neg h4] at h3; omega
  rw [if_neg k7] at h3 ⊢
  by_cases k3 : q.kind = 3 ∨ q.kind = 4 ∨ q.kind = 6
  · rw [if_pos k3] at h3 ⊢
    by_cases h4 : isName U q.name = true
    · exact name_note U h4
    · rw [if_neg h4] at h3; omega
  rw [if_neg k3]
  omega
/-- What Encode and Decode answer. -/
noncomputable def qencR (q : ReqD) : List UInt8 × Nat := if qcheckE U q ≠ 0 then ([], qcheckE U q) else (qB q, 0)
noncomputable def qdecR (l : List UInt8) : ReqD × Nat := match qR U l with
  | .inl e => (zeroQ, e)
  | .inr (q, m) => if m ≠ [] then (zeroQ, 4) else if qcheckE U q ≠ 0 then (zeroQ, qcheckE U q) else (q, 0)
end
section
variable {U : ByteArray → Bool}
theorem q_back {q : ReqD} (h : qcheckE U q = 0) : qdecR U (qB q) = (q, 0) := by
  have hb := (qC U).back q [] (ok_q U h)
  rw [List.append_nil] at hb
  unfold qdecR
  rw [hb]
  simp [h]
theorem q_read {l : List UInt8} {q : ReqD} (h : qdecR U l = (q, 0)) : qcheckE U q = 0 ∧ qB q = l := by
  unfold qdecR at h
  cases hr : qR U l with
  | inl e => rw [hr] at h; simp only [Prod.mk.injEq] at h; exact absurd h.2 (nz_q U l e hr)
  | inr x =>
    obtain ⟨t, m⟩ := x
    rw [hr] at h
    simp only at h
    by_cases hm : m ≠ []
    · rw [if_pos hm] at h; simp at h
    · rw [if_neg hm] at h
      have hm : m = [] := by simpa using hm
      by_cases hc : qcheckE U t ≠ 0
      · rw [if_pos hc] at h; simp only [Prod.mk.injEq] at h; exact absurd h.2 hc
      · rw [if_neg hc] at h
        simp only [Prod.mk.injEq, and_true] at h
        subst h hm
        obtain ⟨_, hl⟩ := (qC U).sound _ _ _ hr
        exact ⟨by simpa using hc, by rw [hl, List.append_nil]⟩
theorem q_err {l : List UInt8} {q : ReqD} {c : Nat} (h : qdecR U l = (q, c)) (hc : c ≠ 0) : q = zeroQ := by
  unfold qdecR at h
  split at h
  · simp only [Prod.mk.injEq] at h; exact h.1.symm
  · split at h
    · simp only [Prod.mk.injEq] at h; exact h.1.symm
    · split at h
      · simp only [Prod.mk.injEq] at h; exact h.1.symm
      · simp only [Prod.mk.injEq] at h; exact absurd h.2.symm hc
/-- No request's bytes begin another one's. -/
theorem q_one {a b : ReqD} (ha : qcheckE U a = 0) (hb : qcheckE U b = 0) {m : List UInt8} (h : qB b = qB a ++ m) : a = b ∧ m = [] := by
  have h1 := (qC U).back a m (ok_q U ha)
  have h2 := (qC U).back b [] (ok_q U hb)
  rw [List.append_nil, h, h1] at h2
  simp only [Sum.inr.injEq, Prod.mk.injEq] at h2
  exact h2
theorem q_kind {q : ReqD} (h : qcheckE U q = 0) : qB q = UInt8.ofNat q.kind.toNat :: partB q := by
  have h1 := ((qcheck_zero U q).1 h).1
  unfold qB intE
  rw [num_lt (by omega)]
  rfl
theorem q_len {q : ReqD} (h : qcheckE U q = 0) : (qB q).length ≤ 200 := by
  obtain ⟨h1, _, h3⟩ := ok_q U h
  have l0 := int_len h1
  unfold qB
  rw [List.length_append]
  unfold okPart at h3
  unfold partB
  by_cases k1 : q.kind = 1
  · rw [if_pos k1] at h3 ⊢
    obtain ⟨a1, a2, a3, a4, a5⟩ := h3
    have d1 : decide ((1 : Int) < 3) = true := by decide
    have d2 : decide ((2 : Int) < 3) = true := by decide
    rw [if_pos d1] at a4
    rw [if_pos d2] at a5
    have b1 := text_len a1
    have b2 := zig_len a2
    have b3 := int_len a3
    have b4 := int_len a4
    have b5 := text_len a5
    unfold jobB
    rw [if_pos d1, if_pos d2]
    simp only [List.length_append]
    omega
  rw [if_neg k1] at h3 ⊢
  by_cases k2 : q.kind = 2
  · rw [if_pos k2] at h3 ⊢
    obtain ⟨a1, a2, a3⟩ := h3
    have d1 : decide ((1 : Int) < 3) = true := by decide
    rw [if_pos d1] at a3
    have b1 := text_len a1
    have b2 := int_len a2
    have b3 := text_len a3
    unfold nodeB
    rw [if_pos d1]
    simp only [List.length_append]
    omega
  rw [if_neg k2] at h3 ⊢
  by_cases k5 : q.kind = 5
  · rw [if_pos k5] at h3 ⊢
    obtain ⟨a1, a2, a3⟩ := h3
    have b1 := text_len a1
    have b2 := text_len a2
    have b3 := int_len a3
    unfold leaseB
    simp only [List.length_append]
    omega
  rw [if_neg k5] at h3 ⊢
  by_cases k7 : q.kind = 7
  · rw [if_pos k7] at h3 ⊢
    have b1 := int_len h3
    omega
  rw [if_neg k7] at h3 ⊢
  by_cases k3 : q.kind = 3 ∨ q.kind = 4 ∨ q.kind = 6
  · rw [if_pos k3] at h3 ⊢
    have b1 := text_len h3
    omega
  rw [if_neg k3]
  simp only [List.length_nil]
  omega
/-- What a kind does not have may not be there. -/
theorem q_extraN {q : ReqD} (h : qcheckE U q = 0) {n : Int} (hn : n ≠ 0) (hk : q.kind ≠ 7) : qcheckE U { q with n := n } = 4 := by
  obtain ⟨h1, _, _⟩ := (qcheck_zero U q).1 h
  refine qcheck_extra U h1 (fun e => hn ?_)
  have e2 := congrArg ReqD.n e
  have e3 : (ownQ { q with n := n }).n = 0 := by
    unfold ownQ
    simp only
    split
    · rfl
    split
    · rfl
    split
    · rfl
    split <;> rfl
  rw [e3] at e2
  exact e2.symm
theorem q_extraS {q : ReqD} (h : qcheckE U q = 0) {s : ByteArray} (hs : s ≠ ⟨#[]⟩) (hk : ¬ (q.kind = 3 ∨ q.kind = 4 ∨ q.kind = 6)) : qcheckE U { q with name := s } = 4 := by
  obtain ⟨h1, _, _⟩ := (qcheck_zero U q).1 h
  refine qcheck_extra U h1 (fun e => hs ?_)
  have e2 := congrArg ReqD.name e
  have e3 : (ownQ { q with name := s }).name = ⟨#[]⟩ := by
    unfold ownQ
    simp only
    split
    · rfl
    split
    · rfl
    split
    · rfl
    split
    · rfl
    rfl
  rw [e3] at e2
  exact e2.symm
end
/-! ### replies -/
structure RepD where
  code : Int
  rev : Int
def zeroP : RepD := ⟨0, 0⟩
def pB (r : RepD) : List UInt8 := intE r.code ++ intE r.rev
def pR : Dec RepD := bindD intD fun a => bindD intD fun b => pureD ⟨a, b⟩
def goodP (r : RepD) : Bool := inR r.code 0 10 && inR r.rev 0 1099511627776
theorem goodP_iff (r : RepD) : goodP r = true ↔ (0 ≤ r.code ∧ r.code ≤ 10) ∧ 0 ≤ r.rev ∧ r.rev ≤ 1099511627776 := by
  unfold goodP; rw [Bool.and_eq_true, inR_iff, inR_iff]
theorem pC : Codec (fun r : RepD => (0 ≤ r.code ∧ r.code ≤ 4611686018427387904) ∧ (0 ≤ r.rev ∧ r.rev ≤ 4611686018427387904)) pB pR := by
  have c := Codec.seq intC (fun _ _ => intC)
  have c2 := Codec.iso c (fun x => (⟨x.1, x.2⟩ : RepD)) (fun r => (r.code, r.rev)) (fun r : RepD => (0 ≤ r.code ∧ r.code ≤ 4611686018427387904) ∧ (0 ≤ r.rev ∧ r.rev ≤ 4611686018427387904)) (fun r hr => ⟨hr, rfl⟩) (fun x hx => ⟨hx, rfl⟩)
  simp only [bindD_assoc, bindD_pure] at c2
  exact c2
theorem nz_p : NZ pR := nz_bind nz_int fun _ => nz_bind nz_int fun _ => nz_pure _
/-- What Reply and ReadReply answer. -/
def pencR (r : RepD) : List UInt8 × Nat := if goodP r then (pB r, 0) else ([], 1)
def pdecR (l : List UInt8) : RepD × Nat := match pR l with
  | .inl e => (zeroP, e)
  | .inr (r, m) => if m ≠ [] then (zeroP, 4) else if goodP r then (r, 0) else (zeroP, 1)
theorem p_back {r : RepD} (h : goodP r = true) : pdecR (pB r) = (r, 0) := by
  have h2 := (goodP_iff r).1 h
  have hb := pC.back r [] ⟨by omega, by omega⟩
  rw [List.append_nil] at hb
  unfold pdecR
  rw [hb]
  simp [h]
theorem p_read {l : List UInt8} {r : RepD} (h : pdecR l = (r, 0)) : goodP r = true ∧ pB r = l := by
  unfold pdecR at h
  cases hr : pR l with
  | inl e => rw [hr] at h; simp only [Prod.mk.injEq] at h; exact absurd h.2 (nz_p l e hr)
  | inr x =>
    obtain ⟨t, m⟩ := x
    rw [hr] at h
    simp only at h
    by_cases hm : m ≠ []
    · rw [if_pos hm] at h; simp at h
    · rw [if_neg hm] at h
      have hm : m = [] := by simpa using hm
      by_cases hc : goodP t = true
      · rw [if_pos hc] at h
        simp only [Prod.mk.injEq, and_true] at h
        subst h hm
        obtain ⟨_, hl⟩ := pC.sound _ _ _ hr
        exact ⟨hc, by rw [hl, List.append_nil]⟩
      · rw [if_neg hc] at h; simp at h
theorem p_err {l : List UInt8} {r : RepD} {c : Nat} (h : pdecR l = (r, c)) (hc : c ≠ 0) : r = zeroP := by
  unfold pdecR at h
  split at h
  · simp only [Prod.mk.injEq] at h; exact h.1.symm
  · split at h
    · simp only [Prod.mk.injEq] at h; exact h.1.symm
    · split at h
      · simp only [Prod.mk.injEq] at h; exact absurd h.2.symm hc
      · simp only [Prod.mk.injEq] at h; exact h.1.symm
end Go.Proofs.YthpgkfonbmffdaaGreatDoor
