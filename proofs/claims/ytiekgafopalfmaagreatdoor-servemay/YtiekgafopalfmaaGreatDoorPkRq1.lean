import Derived.Test.YtiekgafopalfmaaGreatDoorPkDl3
import Derived.Test.YtiekgafopalfmaaGreatDoorPkWi2
import Derived.Test.YtiekgafopalfmaaGreatDoorPkWi4
import Derived.Test.YtiekgafopalfmaaGreatDoorPkWi5
import Derived.Test.YtiekgafopalfmaaGreatDoorPkWi3
import Derived.Test.YtiekgafopalfmaaGreatDoorPkSt2
import Derived.Test.YtiekgafopalfmaaGreatDoorPkDl2
/- Plain facts on requests and replies (no program): what Check, Encode, Decode, Reply and ReadReply answer. U stands for 'is valid UTF-8'. -/
namespace Go.Proofs.YtiekgafopalfmaaGreatDoor

structure ReqD where
  kind : Int
  job : JobD
  node : NodeD
  lease : LeaseD
  name : ByteArray
  n : Int
def zeroQ : ReqD := ⟨0, zJob, zNode, zLease, ⟨#[]⟩, 0⟩
def kindQ (k : Int) : ReqD := ⟨k, zJob, zNode, zLease, ⟨#[]⟩, 0⟩
/-- Just the fields that the kind has. -/
def ownQ (q : ReqD) : ReqD :=
  if q.kind = 1 then ⟨q.kind, q.job, zNode, zLease, ⟨#[]⟩, 0⟩
  else if q.kind = 2 then ⟨q.kind, zJob, q.node, zLease, ⟨#[]⟩, 0⟩
  else if q.kind = 5 then ⟨q.kind, zJob, zNode, q.lease, ⟨#[]⟩, 0⟩
  else if q.kind = 7 then ⟨q.kind, zJob, zNode, zLease, ⟨#[]⟩, q.n⟩
  else if q.kind = 3 ∨ q.kind = 4 ∨ q.kind = 6 then ⟨q.kind, zJob, zNode, zLease, q.name, 0⟩
  else kindQ q.kind
section
variable (U : ByteArray → Bool)
/-- What is wrong with the field that the kind has. -/
def partE (q : ReqD) : Nat :=
  if q.kind = 1 then jobE U q.job
  else if q.kind = 2 then nodeE U q.node
  else if q.kind = 5 then leaseCE U q.lease
  else if q.kind = 7 then (if inR q.n 0 1099511627776 then 0 else 1)
  else if q.kind = 3 ∨ q.kind = 4 ∨ q.kind = 6 then (if isName U q.name then 0 else 4)
  else 0
open Classical in
noncomputable def qcheckE (q : ReqD) : Nat := if inR q.kind 1 9 then (if ownQ q = q then partE U q else 4) else 1
theorem qcheck_zero (q : ReqD) : qcheckE U q = 0 ↔ (1 ≤ q.kind ∧ q.kind ≤ 9) ∧ ownQ q = q ∧ partE U q = 0 := by
  unfold qcheckE
  by_cases h : inR q.kind 1 9 = true
  · rw [if_pos h]
    rw [inR_iff] at h
    by_cases h2 : ownQ q = q
    · rw [if_pos h2]; exact ⟨fun h3 => ⟨h, h2, h3⟩, fun h3 => h3.2.2⟩
    · rw [if_neg h2]; exact ⟨fun h3 => absurd h3 (by omega), fun h3 => absurd h3.2.1 h2⟩
  · rw [if_neg h]
    rw [inR_iff] at h
    exact ⟨fun h3 => absurd h3 (by omega), fun h3 => absurd h3.1 h⟩
theorem qcheck_arg {q : ReqD} (h : ¬ (1 ≤ q.kind ∧ q.kind ≤ 9)) : qcheckE U q = 1 := by
  unfold qcheckE; rw [if_neg (by rw [inR_iff]; exact h)]
theorem qcheck_extra {q : ReqD} (h : 1 ≤ q.kind ∧ q.kind ≤ 9) (h2 : ownQ q ≠ q) : qcheckE U q = 4 := by
  unfold qcheckE; rw [if_pos ((inR_iff _ _ _).2 h), if_neg h2]
theorem qcheck_part {q : ReqD} (h : 1 ≤ q.kind ∧ q.kind ≤ 9) (h2 : ownQ q = q) : qcheckE U q = partE U q := by
  unfold qcheckE; rw [if_pos ((inR_iff _ _ _).2 h), if_pos h2]
/-! ### as bytes -/
def partB (q : ReqD) : List UInt8 :=
  if q.kind = 1 then jobB 3 q.job
  else if q.kind = 2 then nodeB 3 q.node
  else if q.kind = 5 then leaseB q.lease
  else if q.kind = 7 then intE q.n
  else if q.kind = 3 ∨ q.kind = 4 ∨ q.kind = 6 then textE q.name
  else []
def qB (q : ReqD) : List UInt8 := intE q.kind ++ partB q
/-- The fields of a kind, read. -/
def partR (k : Int) : Dec ReqD :=
  if k = 1 then bindD (jobR U 3) fun x => pureD ⟨k, x, zNode, zLease, ⟨#[]⟩, 0⟩
  else if k = 2 then bindD (nodeR U 3) fun x => pureD ⟨k, zJob, x, zLease, ⟨#[]⟩, 0⟩
  else if k = 5 then bindD (leaseR U) fun x => pureD ⟨k, zJob, zNode, x, ⟨#[]⟩, 0⟩
  else if k = 7 then bindD intD fun x => pureD ⟨k, zJob, zNode, zLease, ⟨#[]⟩, x⟩
  else if k = 3 ∨ k = 4 ∨ k = 6 then bindD (textD U) fun x => pureD ⟨k, zJob, zNode, zLease, x, 0⟩
  else if k = 8 ∨ k = 9 then pureD (kindQ k)
  else failD 1
def qR : Dec ReqD := bindD intD (partR U)
/-- A request that can be told. -/
def okPart (q : ReqD) : Prop :=
  if q.kind = 1 then okJob U 3 q.job
  else if q.kind = 2 then okNode U 3 q.node
  else if q.kind = 5 then okLease U q.lease
  else if q.kind = 7 then (0 ≤ q.n ∧ q.n ≤ 4611686018427387904)
  else if q.kind = 3 ∨ q.kind = 4 ∨ q.kind = 6 then isNote U q.name = true
  else q.kind = 8 ∨ q.kind = 9
def okQ (q : ReqD) : Prop := ownQ q = q ∧ okPart U q
theorem partC (k : Int) : Codec (fun q => q.kind = k ∧ okQ U q) partB (partR U k) := by
  by_cases k1 : k = 1
  · subst k1
    have c := Codec.iso (jobC U 3) (fun x => ⟨1, x, zNode, zLease, ⟨#[]⟩, 0⟩) (·.job) (fun q => q.kind = 1 ∧ okQ U q) (fun q hq => by
      obtain ⟨h1, h2, h3⟩ := hq
      unfold okPart at h3; rw [if_pos h1] at h3
      unfold ownQ at h2; rw [if_pos h1, h1] at h2
      exact ⟨h3, h2⟩) (fun x hx => ⟨⟨rfl, by simp [ownQ], by simpa [okPart] using hx⟩, rfl⟩)
    have e : partR U 1 = bindD (jobR U 3) fun x => pureD ⟨1, x, zNode, zLease, ⟨#[]⟩, 0⟩ := by unfold partR; rw [if_pos rfl]
    rw [e]
    refine ⟨fun a m h => ?_, fun l a m h => ?_, fun a j h hj => ?_⟩
    · have := c.back a m h; unfold partB; rw [if_pos h.1]; exact this
    · have := c.sound l a m h; refine ⟨this.1, ?_⟩; unfold partB; rw [if_pos this.1.1]; exact this.2
    · unfold partB at hj ⊢; rw [if_pos h.1] at hj ⊢; exact c.cut a j h hj
  by_cases k2 : k = 2
  · subst k2
    have c := Codec.iso (nodeC U 3) (fun x => ⟨2, zJob, x, zLease, ⟨#[]⟩, 0⟩) (·.node) (fun q => q.kind = 2 ∧ okQ U q) (fun q hq => by
      obtain ⟨h1, h2, h3⟩ := hq
      unfold okPart at h3; rw [if_neg (by omega), if_pos h1] at h3
      unfold ownQ at h2; rw [if_neg (by omega), if_pos h1, h1] at h2
      exact ⟨h3, h2⟩) (fun x hx => ⟨⟨rfl, by simp [ownQ], by simpa [okPart] using hx⟩, rfl⟩)
    have e : partR U 2 = bindD (nodeR U 3) fun x => pureD ⟨2, zJob, x, zLease, ⟨#[]⟩, 0⟩ := by unfold partR; rw [if_neg (by decide), if_pos rfl]
    rw [e]
    refine ⟨fun a m h => ?_, fun l a m h => ?_, fun a j h hj => ?_⟩
    · have := c.back a m h; unfold partB; rw [if_neg (by omega), if_pos h.1]; exact this
    · have := c.sound l a m h; refine ⟨this.1, ?_⟩; unfold partB; rw [if_neg (by omega), if_pos this.1.1]; exact this.2
    · unfold partB at hj ⊢; rw [if_neg (by omega), if_pos h.1] at hj ⊢; exact c.cut a j h hj
  by_cases k5 : k = 5
  · subst k5
    have c := Codec.iso (leaseC U) (fun x => ⟨5, zJob, zNode, x, ⟨#[]⟩, 0⟩) (·.lease) (fun q => q.kind = 5 ∧ okQ U q) (fun q hq => by
      obtain ⟨h1, h2, h3⟩ := hq
      unfold okPart at h3; rw [if_neg (by omega), if_neg (by omega), if_pos h1] at h3
      unfold ownQ at h2; rw [if_neg (by omega), if_neg (by omega), if_pos h1, h1] at h2
      exact ⟨h3, h2⟩) (fun x hx => ⟨⟨rfl, by simp [ownQ], by simpa [okPart] using hx⟩, rfl⟩)
    have e : partR U 5 = bindD (leaseR U) fun x => pureD ⟨5, zJob, zNode, x, ⟨#[]⟩, 0⟩ := by unfold partR; rw [if_neg (by decide), if_neg (by decide), if_pos rfl]
    rw [e]
    refine ⟨fun a m h => ?_, fun l a m h => ?_, fun a j h hj => ?_⟩
    · have := c.back a m h; unfold partB; rw [if_neg (by omega), if_neg (by omega), if_pos h.1]; exact this
    · have := c.sound l a m h; refine ⟨this.1, ?_⟩; unfold partB; rw [if_neg (by omega), if_neg (by omega), if_pos this.1.1]; exact this.2
    · unfold partB at hj ⊢; rw [if_neg (by omega), if_neg (by omega), if_pos h.1] at hj ⊢; exact c.cut a j h hj
  by_cases k7 : k = 7
  · subst k7
    have c := Codec.iso intC (fun x => ⟨7, zJob, zNode, zLease, ⟨#[]⟩, x⟩) (·.n) (fun q => q.kind = 7 ∧ okQ U q) (fun q hq => by
      obtain ⟨h1, h2, h3⟩ := hq
      unfold okPart at h3; rw [if_neg (by omega), if_neg (by omega), if_neg (by omega), if_pos h1] at h3
      unfold ownQ at h2; rw [if_neg (by omega), if_neg (by omega), if_neg (by omega), if_pos h1, h1] at h2
      exact ⟨h3, h2⟩) (fun x hx => ⟨⟨rfl, by simp [ownQ], by simpa [okPart] using hx⟩, rfl⟩)
    have e : partR U 7 = bindD intD fun x => pureD ⟨7, zJob, zNode, zLease, ⟨#[]⟩, x⟩ := by unfold partR; rw [if_neg (by decide), if_neg (by decide), if_neg (by decide), if_pos rfl]
    rw [e]
    refine ⟨fun a m h => ?_, fun l a m h => ?_, fun a j h hj => ?_⟩
    · have := c.back a m h; unfold partB; rw [if_neg (by omega), if_neg (by omega), if_neg (by omega), if_pos h.1]; exact this
    · have := c.sound l a m h; refine ⟨this.1, ?_⟩; unfold partB; rw [if_neg (by omega), if_neg (by omega), if_neg (by omega), if_pos this.1.1]; exact this.2
    · unfold partB at hj ⊢; rw [if_neg (by omega), if_neg (by omega), if_neg (by omega), if_pos h.1] at hj ⊢; exact c.cut a j h hj
  by_cases k3 : k = 3 ∨ k = 4 ∨ k = 6
  · have c := Codec.iso (textC U) (fun x => ⟨k, zJob, zNode, zLease, x, 0⟩) (·.name) (fun q => q.kind = k ∧ okQ U q) (fun q hq => by
      obtain ⟨h1, h2, h3⟩ := hq
      unfold okPart at h3; rw [if_neg (by omega), if_neg (by omega), if_neg (by omega), if_neg (by omega), if_pos (by omega)] at h3
      unfold ownQ at h2; rw [if_neg (by omega), if_neg (by omega), if_neg (by omega), if_neg (by omega), if_pos (by omega), h1] at h2
      exact ⟨h3, h2⟩) (fun x hx => ⟨⟨rfl, by simp only [ownQ]; rw [if_neg k1, if_neg k2, if_neg k5, if_neg k7, if_pos k3], by simp only [okPart]; rw [if_neg k1, if_neg k2, if_neg k5, if_neg k7, if_pos k3]; exact hx⟩, rfl⟩)
    have e : partR U k = bindD (textD U) fun x => pureD ⟨k, zJob, zNode, zLease, x, 0⟩ := by unfold partR; rw [if_neg k1, if_neg k2, if_neg k5, if_neg k7, if_pos k3]
    rw [e]
    refine ⟨fun a m h => ?_, fun l a m h => ?_, fun a j h hj => ?_⟩
    · have := c.back a m h; unfold partB; rw [h.1, if_neg k1, if_neg k2, if_neg k5, if_neg k7, if_pos k3]; exact this
    · have := c.sound l a m h; refine ⟨this.1, ?_⟩; unfold partB; rw [this.1.1, if_neg k1, if_neg k2, if_neg k5, if_neg k7, if_pos k3]; exact this.2
    · unfold partB at hj ⊢; rw [h.1, if_neg k1, if_neg k2, if_neg k5, if_neg k7, if_pos k3] at hj ⊢; exact c.cut a j h hj
  by_cases k8 : k = 8 ∨ k = 9
  · have e : partR U k = pureD (kindQ k) := by unfold partR; rw [if_neg k1, if_neg k2, if_neg k5, if_neg k7, if_neg k3, if_pos k8]
    rw [e]
    have own : ∀ a : ReqD, a.kind = k → ownQ a = kindQ k := fun a h => by unfold ownQ; rw [h, if_neg k1, if_neg k2, if_neg k5, if_neg k7, if_neg k3]
    have ok8 : ∀ a : ReqD, a.kind = k → okPart U a := fun a h => by unfold okPart; rw [h, if_neg k1, if_neg k2, if_neg k5, if_neg k7, if_neg k3]; exact k8
    have nob : ∀ a : ReqD, a.kind = k → partB a = [] := fun a h => by unfold partB; rw [h, if_neg k1, if_neg k2, if_neg k5, if_neg k7, if_neg k3]
    refine ⟨fun a m h => ?_, fun l a m h => ?_, fun a j h hj => ?_⟩
    · rw [nob a h.1, show a = kindQ k by rw [← own a h.1]; exact h.2.1.symm]; rfl
    · simp only [pureD, Sum.inr.injEq, Prod.mk.injEq] at h
      obtain ⟨rfl, rfl⟩ := h
      exact ⟨⟨rfl, own _ rfl, ok8 _ rfl⟩, by rw [nob _ rfl]; rfl⟩
    · rw [nob a h.1] at hj; simp at hj
  · have e : partR U k = failD 1 := by unfold partR; rw [if_neg k1, if_neg k2, if_neg k5, if_neg k7, if_neg k3, if_neg k8]
    rw [e]
    have no : ∀ a : ReqD, a.kind = k → ¬ okPart U a := fun a h h2 => by
      unfold okPart at h2
      rw [h, if_neg k1, if_neg k2, if_neg k5, if_neg k7, if_neg k3] at h2
      exact k8 h2
    exact ⟨fun a m h => absurd h.2.2 (no a h.1), fun l a m h => (by cases h), fun a j h _ => absurd h.2.2 (no a h.1)⟩
theorem qC : Codec (fun q : ReqD => (0 ≤ q.kind ∧ q.kind ≤ 4611686018427387904) ∧ okQ U q) qB (qR U) := by
  have c := Codec.seq intC (fun k _ => partC U k)
  have c2 := Codec.iso c (fun x => x.2) (fun q => (q.kind, q)) (fun q : ReqD => (0 ≤ q.kind ∧ q.kind ≤ 4611686018427387904) ∧ okQ U q) (fun q hq => ⟨⟨hq.1, rfl, hq.2⟩, rfl⟩) (fun x hx => by
    obtain ⟨k, q⟩ := x
    obtain ⟨h1, h2, h3⟩ := hx
    simp only at h1 h2 h3
    subst h2
    exact ⟨⟨h1, h3⟩, rfl⟩)
  simp only [bindD_assoc, bindD_pure] at c2
  have e : qR U = bindD intD fun a => bindD (partR U a) fun b => pureD b := by
    unfold qR
    congr 1
    funext k l
    unfold bindD
    cases partR U k l <;> rfl
  rw [e]
  exact c2
theorem nz_fail {α : Type} {e : Nat} (h : e ≠ 0) : NZ (failD e : Dec α) := fun l e' h' => by
  simp only [failD, Sum.inl.injEq] at h'; omega
theorem nz_q : NZ (qR U) := by
  have hj : NZ (jobR U 3) := nz_bind (nz_text U) fun _ => nz_bind nz_zig fun _ => nz_bind nz_int fun _ => nz_bind (nz_if _ nz_int (nz_pure _)) fun _ => nz_bind (nz_if _ (nz_text U) (nz_pure _)) fun _ => nz_pure _
  have hn : NZ (nodeR U 3) := nz_bind (nz_text U) fun _ => nz_bind nz_int fun _ => nz_bind (nz_if _ (nz_text U) (nz_pure _)) fun _ => nz_pure _
  have hl : NZ (leaseR U) := nz_bind (nz_text U) fun _ => nz_bind (nz_text U) fun _ => nz_bind nz_int fun _ => nz_pure _
  refine nz_bind nz_int fun k => ?_
  unfold partR
  split
  · exact nz_bind hj fun _ => nz_pure _
  split
  · exact nz_bind hn fun _ => nz_pure _
  split
  · exact nz_bind hl fun _ => nz_pure _
  split
  · exact nz_bind nz_int fun _ => nz_pure _
  split
  · exact nz_bind (nz_text U) fun _ => nz_pure _
  split
  · exact nz_pure _
  · exact nz_fail (by omega)
theorem ok_q {q : ReqD} (h : qcheckE U q = 0) : (0 ≤ q.kind ∧ q.kind ≤ 4611686018427387904) ∧ okQ U q := by
  obtain ⟨h1, h2, h3⟩ := (qcheck_zero U q).1 h
  refine ⟨⟨by omega, by omega⟩, h2, ?_⟩
  unfold okPart
  unfold partE at h3
  by_cases k1 : q.kind = 1
  · rw [if_pos k1] at h3 ⊢
    have z := (jobE_zero U _).1 h3
    refine ⟨name_note U z.1.1, ?_, ⟨by omega, by omega⟩, ?_, ?_⟩
    · unfold zig; split <;> omega
    · rw [if_pos (by decide)]; omega
    · rw [if_pos (by decide)]; exact z.1.2
  rw [if_neg k1] at h3 ⊢
  by_cases k2 : q.kind = 2
  · rw [if_pos k2] at h3 ⊢
    have z := (nodeE_zero U _).1 h3
    refine ⟨name_note U z.1.1, ⟨by omega, by omega⟩, ?_⟩
    rw [if_pos (by decide)]; exact z.1.2
  rw [if_neg k2] at h3 ⊢
  by_cases k5 : q.kind = 5
  · rw [if_pos k5] at h3 ⊢
    have z := (leaseCE_zero U _).1 h3
    exact ⟨name_note U z.1.1, name_note U z.1.2, by omega, by omega⟩
  rw [if_neg k5] at h3 ⊢
  by_cases k7 : q.kind = 7
  · rw [if_pos k7] at h3 ⊢
    by_cases h4 : inR q.n 0 1099511627776 = true
    · rw [inR_iff] at h4; exact ⟨h4.1, by omega⟩
    · rw [if_neg h4] at h3; omega
  rw [if_neg k7] at h3 ⊢
  by_cases k3 : q.kind = 3 ∨ q.kind = 4 ∨ q.kind = 6
  · rw [if_pos k3] at h3 ⊢
    by_cases h4 : isName U q.name = true
    · exact name_note U h4
    · rw [if_neg h4] at h3; omega
  rw [if_neg k3]
  omega
/-- What Encode and Decode answer. -/
noncomputable def qencR (q : ReqD) : List UInt8 × Nat := if qcheckE U q ≠ 0 then ([], qcheckE U q) else (qB q, 0)
noncomputable def qdecR (l : List UInt8) : ReqD × Nat := match qR U l with
  | .inl e => (zeroQ, e)
  | .inr (q, m) => if m ≠ [] then (zeroQ, 4) else if qcheckE U q ≠ 0 then (zeroQ, qcheckE U q) else (q, 0)
end
section
variable {U : ByteArray → Bool}
theorem q_back {q : ReqD} (h : qcheckE U q = 0) : qdecR U (qB q) = (q, 0) := by
  have hb := (qC U).back q [] (ok_q U h)
  rw [List.append_nil] at hb
  unfold qdecR
  rw [hb]
  simp [h]
theorem q_read {l : List UInt8} {q : ReqD} (h : qdecR U l = (q, 0)) : qcheckE U q = 0 ∧ qB q = l := by
  unfold qdecR at h
  cases hr : qR U l with
  | inl e => rw [hr] at h; simp only [Prod.mk.injEq] at h; exact absurd h.2 (nz_q U l e hr)
  | inr x =>
    obtain ⟨t, m⟩ := x
    rw [hr] at h
    simp only at h
    by_cases hm : m ≠ []
    · rw [if_pos hm] at h; simp at h
    · rw [if_neg hm] at h
      have hm : m = [] := by simpa using hm
      by_cases hc : qcheckE U t ≠ 0
      · rw [if_pos hc] at h; simp only [Prod.mk.injEq] at h; exact absurd h.2 hc
      · rw [if_neg hc] at h
        simp only [Prod.mk.injEq, and_true] at h
        subst h hm
        obtain ⟨_, hl⟩ := (qC U).sound _ _ _ hr
        exact ⟨by simpa using hc, by rw [hl, List.append_nil]⟩
theorem q_err {l : List UInt8} {q : ReqD} {c : Nat} (h : qdecR U l = (q, c)) (hc : c ≠ 0) : q = zeroQ := by
  unfold qdecR at h
  split at h
  · simp only [Prod.mk.injEq] at h; exact h.1.symm
  · split at h
    · simp only [Prod.mk.injEq] at h; exact h.1.symm
    · split at h
      · simp only [Prod.mk.injEq] at h; exact h.1.symm
      · simp only [Prod.mk.injEq] at h; exact absurd h.2.symm hc
/-- No request's bytes begin another one's. -/
theorem q_one {a b : ReqD} (ha : qcheckE U a = 0) (hb : qcheckE U b = 0) {m : List UInt8} (h : qB b = qB a ++ m) : a = b ∧ m = [] := by
  have h1 := (qC U).back a m (ok_q U ha)
  have h2 := (qC U).back b [] (ok_q U hb)
  rw [List.append_nil, h, h1] at h2
  simp only [Sum.inr.injEq, Prod.mk.injEq] at h2
  exact h2
theorem q_kind {q : ReqD} (h : qcheckE U q = 0) : qB q = UInt8.ofNat q.kind.toNat :: partB q := by
  have h1 := ((qcheck_zero U q).1 h).1
  unfold qB intE
  rw [num_lt (by omega)]
  rfl
theorem q_len {q : ReqD} (h : qcheckE U q = 0) : (qB q).length ≤ 200 := by
  obtain ⟨h1, _, h3⟩ := ok_q U h
  have l0 := int_len h1
  unfold qB
  rw [List.length_append]
  unfold okPart at h3
  unfold partB
  by_cases k1 : q.kind = 1
  · rw [if_pos k1] at h3 ⊢
    obtain ⟨a1, a2, a3, a4, a5⟩ := h3
    have d1 : decide ((1 : Int) < 3) = true := by decide
    have d2 : decide ((2 : Int) < 3) = true := by decide
    rw [if_pos d1] at a4
    rw [if_pos d2] at a5
    have b1 := text_len a1
    have b2 := zig_len a2
    have b3 := int_len a3
    have b4 := int_len a4
    have b5 := text_len a5
    unfold jobB
    rw [if_pos d1, if_pos d2]
    simp only [List.length_append]
    omega
  rw [if_neg k1] at h3 ⊢
  by_cases k2 : q.kind = 2
  · rw [if_pos k2] at h3 ⊢
    obtain ⟨a1, a2, a3⟩ := h3
    have d1 : decide ((1 : Int) < 3) = true := by decide
    rw [if_pos d1] at a3
    have b1 := text_len a1
    have b2 := int_len a2
    have b3 := text_len a3
    unfold nodeB
    rw [if_pos d1]
    simp only [List.length_append]
    omega
  rw [if_neg k2] at h3 ⊢
  by_cases k5 : q.kind = 5
  · rw [if_pos k5] at h3 ⊢
    obtain ⟨a1, a2, a3⟩ := h3
    have b1 := text_len a1
    have b2 := text_len a2
    have b3 := int_len a3
    unfold leaseB
    simp only [List.length_append]
    omega
  rw [if_neg k5] at h3 ⊢
  by_cases k7 : q.kind = 7
  · rw [if_pos k7] at h3 ⊢
    have b1 := int_len h3
    omega
  rw [if_neg k7] at h3 ⊢
  by_cases k3 : q.kind = 3 ∨ q.kind = 4 ∨ q.kind = 6
  · rw [if_pos k3] at h3 ⊢
    have b1 := text_len h3
    omega
  rw [if_neg k3]
  simp only [List.length_nil]
  omega
/-- What a kind does not have may not be there. -/
theorem q_extraN {q : ReqD} (h : qcheckE U q = 0) {n : Int} (hn : n ≠ 0) (hk : q.kind ≠ 7) : qcheckE U { q with n := n } = 4 := by
  obtain ⟨h1, _, _⟩ := (qcheck_zero U q).1 h
  refine qcheck_extra U h1 (fun e => hn ?_)
  have e2 := congrArg ReqD.n e
  have e3 : (ownQ { q with n := n }).n = 0 := by
    unfold ownQ
    simp only
    split
    · rfl
    split
    · rfl
    split
    · rfl
    split <;> rfl
  rw [e3] at e2
  exact e2.symm
theorem q_extraS {q : ReqD} (h : qcheckE U q = 0) {s : ByteArray} (hs : s ≠ ⟨#[]⟩) (hk : ¬ (q.kind = 3 ∨ q.kind = 4 ∨ q.kind = 6)) : qcheckE U { q with name := s } = 4 := by
  obtain ⟨h1, _, _⟩ := (qcheck_zero U q).1 h
  refine qcheck_extra U h1 (fun e => hs ?_)
  have e2 := congrArg ReqD.name e
  have e3 : (ownQ { q with name := s }).name = ⟨#[]⟩ := by
    unfold ownQ
    simp only
    split
    · rfl
    split
    · rfl
    split
    · rfl
    split
    · rfl
    rfl
  rw [e3] at e2
  exact e2.symm
end
/-! ### replies -/
structure RepD where
  code : Int
  rev : Int
def zeroP : RepD := ⟨0, 0⟩
def pB (r : RepD) : List UInt8 := intE r.code ++ intE r.rev
def pR : Dec RepD := bindD intD fun a => bindD intD fun b => pureD ⟨a, b⟩
def goodP (r : RepD) : Bool := inR r.code 0 10 && inR r.rev 0 1099511627776
theorem goodP_iff (r : RepD) : goodP r = true ↔ (0 ≤ r.code ∧ r.code ≤ 10) ∧ 0 ≤ r.rev ∧ r.rev ≤ 1099511627776 := by
  unfold goodP; rw [Bool.and_eq_true, inR_iff, inR_iff]
theorem pC : Codec (fun r : RepD => (0 ≤ r.code ∧ r.code ≤ 4611686018427387904) ∧ (0 ≤ r.rev ∧ r.rev ≤ 4611686018427387904)) pB pR := by
  have c := Codec.seq intC (fun _ _ => intC)
  have c2 := Codec.iso c (fun x => (⟨x.1, x.2⟩ : RepD)) (fun r => (r.code, r.rev)) (fun r : RepD => (0 ≤ r.code ∧ r.code ≤ 4611686018427387904) ∧ (0 ≤ r.rev ∧ r.rev ≤ 4611686018427387904)) (fun r hr => ⟨hr, rfl⟩) (fun x hx => ⟨hx, rfl⟩)
  simp only [bindD_assoc, bindD_pure] at c2
  exact c2
theorem nz_p : NZ pR := nz_bind nz_int fun _ => nz_bind nz_int fun _ => nz_pure _
/-- What Reply and ReadReply answer. -/
def pencR (r : RepD) : List UInt8 × Nat := if goodP r then (pB r, 0) else ([], 1)
def pdecR (l : List UInt8) : RepD × Nat := match pR l with
  | .inl e => (zeroP, e)
  | .inr (r, m) => if m ≠ [] then (zeroP, 4) else if goodP r then (r, 0) else (zeroP, 1)
theorem p_back {r : RepD} (h : goodP r = true) : pdecR (pB r) = (r, 0) := by
  have h2 := (goodP_iff r).1 h
  have hb := pC.back r [] ⟨by omega, by omega⟩
  rw [List.append_nil] at hb
  unfold pdecR
  rw [hb]
  simp [h]
theorem p_read {l : List UInt8} {r : RepD} (h : pdecR l = (r, 0)) : goodP r = true ∧ pB r = l := by
  unfold pdecR at h
  cases hr : pR l with
  | inl e => rw [hr] at h; simp only [Prod.mk.injEq] at h; exact absurd h.2 (nz_p l e hr)
  | inr x =>
    obtain ⟨t, m⟩ := x
    rw [hr] at h
    simp only at h
    by_cases hm : m ≠ []
    · rw [if_pos hm] at h; simp at h
    · rw [if_neg hm] at h
      have hm : m = [] := by simpa using hm
      by_cases hc : goodP t = true
      · rw [if_pos hc] at h
        simp only [Prod.mk.injEq, and_true] at h
        subst h hm
        obtain ⟨_, hl⟩ := pC.sound _ _ _ hr
        exact ⟨hc, by rw [hl, List.append_nil]⟩
      · rw [if_neg hc] at h; simp at h
theorem p_err {l : List UInt8} {r : RepD} {c : Nat} (h : pdecR l = (r, c)) (hc : c ≠ 0) : r = zeroP := by
  unfold pdecR at h
  split at h
  · simp only [Prod.mk.injEq] at h; exact h.1.symm
  · split at h
    · simp only [Prod.mk.injEq] at h; exact h.1.symm
    · split at h
      · simp only [Prod.mk.injEq] at h; exact absurd h.2.symm hc
      · simp only [Prod.mk.injEq] at h; exact h.1.symm
end Go.Proofs.YtiekgafopalfmaaGreatDoor

/- Requests and replies as the coder of package wire passes them (no program). -/
namespace Go.Proofs.YtiekgafopalfmaaGreatDoor
open Go.RowKit Go.Lib

/-- The fields of a kind. -/
def partS (k : Int) (q : ReqD) : St ReqD :=
  if k = 1 then bindS (jobS 3 q.job) fun x => pureS ⟨k, x, zNode, zLease, ⟨#[]⟩, 0⟩
  else if k = 2 then bindS (nodeS 3 q.node) fun x => pureS ⟨k, zJob, x, zLease, ⟨#[]⟩, 0⟩
  else if k = 5 then bindS (leaseS q.lease) fun x => pureS ⟨k, zJob, zNode, x, ⟨#[]⟩, 0⟩
  else if k = 7 then bindS (numbS q.n) fun x => pureS ⟨k, zJob, zNode, zLease, ⟨#[]⟩, x⟩
  else if k = 3 ∨ k = 4 ∨ k = 6 then bindS (txtS q.name) fun x => pureS ⟨k, zJob, zNode, zLease, x, 0⟩
  else if k = 8 ∨ k = 9 then pureS (kindQ k)
  else fun m => (zeroQ, m.fail 1)
def qS (q : ReqD) : St ReqD := bindS (numbS q.kind) fun k => partS k q
theorem wrt_to {α : Type} {f : St α} {a b : α} {l k : List UInt8} (h : Wrt f a l) (ha : a = b) (hl : l = k) : Wrt f b k := by subst ha hl; exact h
theorem wrt_iso {α β : Type} {f : St α} {a : α} {l : List UInt8} (h : Wrt f a l) (g : α → β) : Wrt (bindS f fun x => pureS (g x)) (g a) l := by
  have := wrt_bind h (g := fun x => pureS (g x)) (wrt_pure _)
  rw [List.append_nil] at this
  exact this
theorem wrt_part {q : ReqD} (h : okQ V8 q) : Wrt (partS q.kind q) q (partB q) := by
  obtain ⟨ho, hp⟩ := h
  unfold ownQ at ho
  unfold okPart at hp
  unfold partS partB
  by_cases k1 : q.kind = 1
  · rw [if_pos k1] at ho hp ⊢; rw [if_pos k1]
    exact wrt_to (wrt_iso (wrt_job hp) _) ho rfl
  rw [if_neg k1] at ho hp ⊢; rw [if_neg k1]
  by_cases k2 : q.kind = 2
  · rw [if_pos k2] at ho hp ⊢; rw [if_pos k2]
    exact wrt_to (wrt_iso (wrt_node hp) _) ho rfl
  rw [if_neg k2] at ho hp ⊢; rw [if_neg k2]
  by_cases k5 : q.kind = 5
  · rw [if_pos k5] at ho hp ⊢; rw [if_pos k5]
    exact wrt_to (wrt_iso (wrt_lease hp) _) ho rfl
  rw [if_neg k5] at ho hp ⊢; rw [if_neg k5]
  by_cases k7 : q.kind = 7
  · rw [if_pos k7] at ho hp ⊢; rw [if_pos k7]
    exact wrt_to (wrt_iso (wrt_numb hp.1) _) ho rfl
  rw [if_neg k7] at ho hp ⊢; rw [if_neg k7]
  by_cases k3 : q.kind = 3 ∨ q.kind = 4 ∨ q.kind = 6
  · rw [if_pos k3] at ho hp ⊢; rw [if_pos k3]
    exact wrt_to (wrt_iso (wrt_txt q.name) _) ho rfl
  rw [if_neg k3] at ho hp ⊢; rw [if_neg k3]
  rw [if_pos hp]
  exact wrt_to (wrt_pure _) ho rfl
theorem wrt_q {q : ReqD} (h : qcheckE V8 q = 0) : Wrt (qS q) q (qB q) := by
  obtain ⟨h1, h2⟩ := ok_q V8 h
  exact wrt_bind (wrt_numb h1.1) (g := fun k => partS k q) (wrt_part h2)
theorem rdg_iso {α β : Type} {d : Dec α} {f : St α} (h : Rdg d f) (g : α → β) : Rdg (bindD d fun x => pureD (g x)) (bindS f fun x => pureS (g x)) := rdg_bind h fun _ => rdg_pure _
theorem rdg_part {k : Int} (h : 1 ≤ k ∧ k ≤ 9) : Rdg (partR V8 k) (partS k zeroQ) := by
  unfold partR partS
  by_cases k1 : k = 1
  · rw [if_pos k1, if_pos k1]; exact rdg_iso (rdg_job 3) _
  rw [if_neg k1, if_neg k1]
  by_cases k2 : k = 2
  · rw [if_pos k2, if_pos k2]; exact rdg_iso (rdg_node 3) _
  rw [if_neg k2, if_neg k2]
  by_cases k5 : k = 5
  · rw [if_pos k5, if_pos k5]; exact rdg_iso rdg_lease _
  rw [if_neg k5, if_neg k5]
  by_cases k7 : k = 7
  · rw [if_pos k7, if_pos k7]; exact rdg_iso (rdg_numb _) _
  rw [if_neg k7, if_neg k7]
  by_cases k3 : k = 3 ∨ k = 4 ∨ k = 6
  · rw [if_pos k3, if_pos k3]; exact rdg_iso (rdg_txt _) _
  rw [if_neg k3, if_neg k3, if_pos (by omega), if_pos (by omega)]
  exact rdg_pure _
theorem part_no {k : Int} (h : ¬ (1 ≤ k ∧ k ≤ 9)) (q : ReqD) (m : M) : partS k q m = (zeroQ, m.fail 1) := by
  unfold partS
  rw [if_neg (by omega), if_neg (by omega), if_neg (by omega), if_neg (by omega), if_neg (by omega), if_neg (by omega)]
theorem partR_no {k : Int} (h : ¬ (1 ≤ k ∧ k ≤ 9)) : partR V8 k = failD 1 := by
  unfold partR
  rw [if_neg (by omega), if_neg (by omega), if_neg (by omega), if_neg (by omega), if_neg (by omega), if_neg (by omega)]
/-- A request that was read. -/
def readQ (q : ReqD) : Prop := (0 ≤ q.kind ∧ q.kind ≤ 4611686018427387904) ∧ okQ V8 q
theorem end_bad {m : M} (h : m.e ≠ 0) : endE m = m.e := by
  unfold endE
  rw [if_neg h]
  split <;> rfl
theorem end_ok {m : M} (h : m.e = 0) {l : List UInt8} (hl : m.rest = ⟨l.toArray⟩) : endE m = if l = [] then 0 else 4 := by
  unfold endE
  have hs : m.rest.size = l.length := by rw [hl]; simp [ByteArray.size]
  rw [hs, h]
  by_cases h0 : l = []
  · subst h0; simp
  · have : l.length ≠ 0 := by simpa using h0
    simp [h0]
/-- What reading a request leads to. -/
theorem read_q (s : ByteArray) :
    (∃ e, e ≠ 0 ∧ qdecR V8 s.data.toList = (zeroQ, e) ∧ endE (qS zeroQ ⟨true, [], s, 0⟩).2 = e) ∨
    (∃ q, readQ q ∧ (qS zeroQ ⟨true, [], s, 0⟩).1 = q ∧ endE (qS zeroQ ⟨true, [], s, 0⟩).2 = 0 ∧ qdecR V8 s.data.toList = if qcheckE V8 q ≠ 0 then (zeroQ, qcheckE V8 q) else (q, 0)) := by
  have h0 := (rdg_numb 0 ⟨true, [], s, 0⟩ rfl).1 rfl
  simp only at h0
  have hz : qS zeroQ ⟨true, [], s, 0⟩ = partS (numbS 0 ⟨true, [], s, 0⟩).1 zeroQ (numbS 0 ⟨true, [], s, 0⟩).2 := rfl
  cases hd : intD s.data.toList with
  | inl e =>
    left
    obtain ⟨h1, h2, h3, h4⟩ := h0.1 e hd
    refine ⟨e, h1, by unfold qdecR qR; rw [bindD_err hd], ?_⟩
    rw [hz]
    by_cases hk : 1 ≤ (numbS 0 ⟨true, [], s, 0⟩).1 ∧ (numbS 0 ⟨true, [], s, 0⟩).1 ≤ 9
    · rw [(rdg_part hk _ h4).2 (by rw [h2]; exact h1) h3, end_bad (by rw [h2]; exact h1), h2]
    · rw [part_no hk]
      have : ((numbS 0 ⟨true, [], s, 0⟩).2.fail 1).e = e := by unfold M.fail; simp only; rw [if_neg (by rw [h2]; exact h1), h2]
      simp only
      rw [end_bad (by rw [this]; exact h1), this]
  | inr x =>
    obtain ⟨k, l1⟩ := x
    have h1 := h0.2 k l1 hd
    rw [hz, h1]
    simp only
    by_cases hk : 1 ≤ k ∧ k ≤ 9
    · have h2 := (rdg_part hk ⟨true, [], ⟨l1.toArray⟩, 0⟩ rfl).1 rfl
      simp only at h2
      cases hp : partR V8 k l1 with
      | inl e =>
        left
        obtain ⟨a1, a2, a3, a4⟩ := h2.1 e hp
        exact ⟨e, a1, by unfold qdecR qR; rw [bindD_ok hd, hp], by rw [end_bad (by rw [a2]; exact a1), a2]⟩
      | inr x =>
        obtain ⟨q, l2⟩ := x
        have a := h2.2 q l2 hp
        rw [a]
        have hq : qR V8 s.data.toList = .inr (q, l2) := by unfold qR; rw [bindD_ok hd, hp]
        have hs := (qC V8).sound _ _ _ hq
        have he := end_ok (m := ⟨true, [], ⟨l2.toArray⟩, 0⟩) rfl rfl
        by_cases hl : l2 = []
        · right
          rw [if_pos hl] at he
          refine ⟨q, hs.1, rfl, he, ?_⟩
          unfold qdecR
          rw [hq]
          simp [hl]
        · left
          rw [if_neg hl] at he
          exact ⟨4, by omega, by unfold qdecR; rw [hq]; simp [hl], he⟩
    · left
      rw [part_no hk]
      refine ⟨1, by omega, by unfold qdecR qR; rw [bindD_ok hd, partR_no hk]; rfl, ?_⟩
      have : ((⟨true, [], ⟨l1.toArray⟩, 0⟩ : M).fail 1).e = 1 := rfl
      simp only
      rw [end_bad (by rw [this]; omega), this]
/-! ### replies -/
def pS (r : RepD) : St RepD := bindS (numbS r.code) fun a => bindS (numbS r.rev) fun b => pureS ⟨a, b⟩
theorem wrt_p {r : RepD} (h : goodP r = true) : Wrt (pS r) r (pB r) := by
  have h2 := (goodP_iff r).1 h
  have := wrt_bind (wrt_numb h2.1.1) (g := fun a => bindS (numbS r.rev) fun b => pureS (⟨a, b⟩ : RepD)) (wrt_bind (wrt_numb h2.2.1) (wrt_pure _))
  rw [List.append_nil] at this
  exact this
theorem rdg_p : Rdg pR (pS zeroP) := rdg_bind (rdg_numb _) fun _ => rdg_bind (rdg_numb _) fun _ => rdg_pure _
def readP (r : RepD) : Prop := (0 ≤ r.code ∧ r.code ≤ 4611686018427387904) ∧ (0 ≤ r.rev ∧ r.rev ≤ 4611686018427387904)
theorem read_p (s : ByteArray) :
    (∃ e, e ≠ 0 ∧ pdecR s.data.toList = (zeroP, e) ∧ endE (pS zeroP ⟨true, [], s, 0⟩).2 = e) ∨
    (∃ r, readP r ∧ (pS zeroP ⟨true, [], s, 0⟩).1 = r ∧ endE (pS zeroP ⟨true, [], s, 0⟩).2 = 0 ∧ pdecR s.data.toList = if goodP r then (r, 0) else (zeroP, 1)) := by
  have h0 := (rdg_p ⟨true, [], s, 0⟩ rfl).1 rfl
  simp only at h0
  cases hd : pR s.data.toList with
  | inl e =>
    left
    obtain ⟨h1, h2, h3, h4⟩ := h0.1 e hd
    exact ⟨e, h1, by unfold pdecR; rw [hd], by rw [end_bad (by rw [h2]; exact h1), h2]⟩
  | inr x =>
    obtain ⟨r, l⟩ := x
    have h1 := h0.2 r l hd
    rw [h1]
    have hs := pC.sound _ _ _ hd
    have he := end_ok (m := ⟨true, [], ⟨l.toArray⟩, 0⟩) rfl rfl
    by_cases hl : l = []
    · right
      rw [if_pos hl] at he
      refine ⟨r, hs.1, rfl, he, ?_⟩
      unfold pdecR
      rw [hd]
      simp [hl]
    · left
      rw [if_neg hl] at he
      exact ⟨4, by omega, by unfold pdecR; rw [hd]; simp [hl], he⟩
end Go.Proofs.YtiekgafopalfmaaGreatDoor

/- Two requests compared: == and != between them are those of their data. -/
namespace Go.Proofs.YtiekgafopalfmaaGreatDoor
open Go.RowKit Go.Lib

/-- Whether two requests are the same. -/
def sameQ (q p : ReqD) : Bool := (q.kind == p.kind) && (q.job.name.toList == p.job.name.toList) && (q.job.prio == p.job.prio) && (q.job.need == p.job.need) && (q.job.tries == p.job.tries) && (q.job.tag.toList == p.job.tag.toList) && (q.node.name.toList == p.node.name.toList) && (q.node.room == p.node.room) && (q.node.zone.toList == p.node.zone.toList) && (q.lease.job.toList == p.lease.job.toList) && (q.lease.node.toList == p.lease.node.toList) && (q.lease.til == p.lease.til) && (q.name.toList == p.name.toList) && (q.n == p.n)
theorem tl_eq {a b : ByteArray} (h : a.toList = b.toList) : a = b := by
  by_cases e : a = b
  · exact e
  · have h2 := lists_ne e
    rw [h] at h2
    simp at h2
theorem sameQ_iff (q p : ReqD) : sameQ q p = true ↔ q = p := by
  unfold sameQ
  simp only [Bool.and_eq_true, beq_iff_eq]
  constructor
  · intro h
    obtain ⟨k, ⟨j0, j1, j2, j3, j4⟩, ⟨n0, n1, n2⟩, ⟨l0, l1, l2⟩, nm, n⟩ := q
    obtain ⟨k', ⟨j0', j1', j2', j3', j4'⟩, ⟨n0', n1', n2'⟩, ⟨l0', l1', l2'⟩, nm', n'⟩ := p
    simp only at h
    obtain ⟨⟨⟨⟨⟨⟨⟨⟨⟨⟨⟨⟨⟨h0, h1⟩, h2⟩, h3⟩, h4⟩, h5⟩, h6⟩, h7⟩, h8⟩, h9⟩, h10⟩, h11⟩, h12⟩, h13⟩ := h
    rw [h0, tl_eq h1, h2, h3, h4, tl_eq h5, tl_eq h6, h7, tl_eq h8, tl_eq h9, tl_eq h10, h11, tl_eq h12, h13]
  · rintro rfl; simp
theorem sameQ_self (q : ReqD) : sameQ q q = true := (sameQ_iff q q).2 rfl
theorem sameQ_no {q p : ReqD} (h : q ≠ p) : sameQ q p = false := by
  cases e : sameQ q p with
  | false => rfl
  | true => exact absurd ((sameQ_iff q p).1 e) h
set_option maxRecDepth 100000 in
set_option maxHeartbeats 4000000 in
theorem rq_eql (q p : ReqD) (w : World) : (binOp BinOp.eql 44 (.agg #[.int .i64 q.kind, .string q.job.name, .int .i64 q.job.prio, .int .i64 q.job.need, .int .i64 q.job.tries, .string q.job.tag, .string q.node.name, .int .i64 q.node.room, .string q.node.zone, .string q.lease.job, .string q.lease.node, .int .i64 q.lease.til, .string q.name, .int .i64 q.n]) (.agg #[.int .i64 p.kind, .string p.job.name, .int .i64 p.job.prio, .int .i64 p.job.need, .int .i64 p.job.tries, .string p.job.tag, .string p.node.name, .int .i64 p.node.room, .string p.node.zone, .string p.lease.job, .string p.lease.node, .int .i64 p.lease.til, .string p.name, .int .i64 p.n])).run Tryz.prog w = .ok (.bool (sameQ q p)) w := by
  obtain ⟨c, hc⟩ : ∃ c, sameQ q p = c := ⟨_, rfl⟩
  rw [hc]
  have no : ¬ q = p → c = false := fun h => by rw [← hc]; exact sameQ_no h
  have yes : q = p → c = true := fun h => by rw [← hc]; exact (sameQ_iff q p).2 h
  clear hc
  obtain ⟨k, ⟨j0, j1, j2, j3, j4⟩, ⟨n0, n1, n2⟩, ⟨l0, l1, l2⟩, nm, n⟩ := q
  obtain ⟨k', ⟨j0', j1', j2', j3', j4'⟩, ⟨n0', n1', n2'⟩, ⟨l0', l1', l2'⟩, nm', n'⟩ := p
  have NO := Lib.hid no
  have YES := Lib.hid yes
  clear no yes
  simp only
  go_simp
  by_cases h0 : k = k'
  case neg => rw [NO.out (fun e => h0 (congrArg (fun q : ReqD => q.kind) e))]; simp [h0]
  by_cases h1 : j0.toList = j0'.toList
  case neg => rw [NO.out (fun e => h1 (congrArg (fun q : ReqD => q.job.name.toList) e))]; simp [h1]
  by_cases h2 : j1 = j1'
  case neg => rw [NO.out (fun e => h2 (congrArg (fun q : ReqD => q.job.prio) e))]; simp [h2]
  by_cases h3 : j2 = j2'
  case neg => rw [NO.out (fun e => h3 (congrArg (fun q : ReqD => q.job.need) e))]; simp [h3]
  by_cases h4 : j3 = j3'
  case neg => rw [NO.out (fun e => h4 (congrArg (fun q : ReqD => q.job.tries) e))]; simp [h4]
  by_cases h5 : j4.toList = j4'.toList
  case neg => rw [NO.out (fun e => h5 (congrArg (fun q : ReqD => q.job.tag.toList) e))]; simp [h5]
  by_cases h6 : n0.toList = n0'.toList
  case neg => rw [NO.out (fun e => h6 (congrArg (fun q : ReqD => q.node.name.toList) e))]; simp [h6]
  by_cases h7 : n1 = n1'
  case neg => rw [NO.out (fun e => h7 (congrArg (fun q : ReqD => q.node.room) e))]; simp [h7]
  by_cases h8 : n2.toList = n2'.toList
  case neg => rw [NO.out (fun e => h8 (congrArg (fun q : ReqD => q.node.zone.toList) e))]; simp [h8]
  by_cases h9 : l0.toList = l0'.toList
  case neg => rw [NO.out (fun e => h9 (congrArg (fun q : ReqD => q.lease.job.toList) e))]; simp [h9]
  by_cases h10 : l1.toList = l1'.toList
  case neg => rw [NO.out (fun e => h10 (congrArg (fun q : ReqD => q.lease.node.toList) e))]; simp [h10]
  by_cases h11 : l2 = l2'
  case neg => rw [NO.out (fun e => h11 (congrArg (fun q : ReqD => q.lease.til) e))]; simp [h11]
  by_cases h12 : nm.toList = nm'.toList
  case neg => rw [NO.out (fun e => h12 (congrArg (fun q : ReqD => q.name.toList) e))]; simp [h12]
  by_cases h13 : n = n'
  case neg => rw [NO.out (fun e => h13 (congrArg (fun q : ReqD => q.n) e))]; simp [h13]
  rw [YES.out (by rw [h0, tl_eq h1, h2, h3, h4, tl_eq h5, tl_eq h6, h7, tl_eq h8, tl_eq h9, tl_eq h10, h11, tl_eq h12, h13])]
  simp [h0, h1, h2, h3, h4, h5, h6, h7, h8, h9, h10, h11, h12, h13]
set_option maxRecDepth 100000 in
set_option maxHeartbeats 4000000 in
theorem rq_neq (q p : ReqD) (w : World) : (binOp BinOp.neq 44 (.agg #[.int .i64 q.kind, .string q.job.name, .int .i64 q.job.prio, .int .i64 q.job.need, .int .i64 q.job.tries, .string q.job.tag, .string q.node.name, .int .i64 q.node.room, .string q.node.zone, .string q.lease.job, .string q.lease.node, .int .i64 q.lease.til, .string q.name, .int .i64 q.n]) (.agg #[.int .i64 p.kind, .string p.job.name, .int .i64 p.job.prio, .int .i64 p.job.need, .int .i64 p.job.tries, .string p.job.tag, .string p.node.name, .int .i64 p.node.room, .string p.node.zone, .string p.lease.job, .string p.lease.node, .int .i64 p.lease.til, .string p.name, .int .i64 p.n])).run Tryz.prog w = .ok (.bool (!sameQ q p)) w := by
  obtain ⟨c, hc⟩ : ∃ c, sameQ q p = c := ⟨_, rfl⟩
  rw [hc]
  have no : ¬ q = p → c = false := fun h => by rw [← hc]; exact sameQ_no h
  have yes : q = p → c = true := fun h => by rw [← hc]; exact (sameQ_iff q p).2 h
  clear hc
  obtain ⟨k, ⟨j0, j1, j2, j3, j4⟩, ⟨n0, n1, n2⟩, ⟨l0, l1, l2⟩, nm, n⟩ := q
  obtain ⟨k', ⟨j0', j1', j2', j3', j4'⟩, ⟨n0', n1', n2'⟩, ⟨l0', l1', l2'⟩, nm', n'⟩ := p
  have NO := Lib.hid no
  have YES := Lib.hid yes
  clear no yes
  simp only
  go_simp
  by_cases h0 : k = k'
  case neg => rw [NO.out (fun e => h0 (congrArg (fun q : ReqD => q.kind) e))]; simp [h0]
  by_cases h1 : j0.toList = j0'.toList
  case neg => rw [NO.out (fun e => h1 (congrArg (fun q : ReqD => q.job.name.toList) e))]; simp [h1]
  by_cases h2 : j1 = j1'
  case neg => rw [NO.out (fun e => h2 (congrArg (fun q : ReqD => q.job.prio) e))]; simp [h2]
  by_cases h3 : j2 = j2'
  case neg => rw [NO.out (fun e => h3 (congrArg (fun q : ReqD => q.job.need) e))]; simp [h3]
  by_cases h4 : j3 = j3'
  case neg => rw [NO.out (fun e => h4 (congrArg (fun q : ReqD => q.job.tries) e))]; simp [h4]
  by_cases h5 : j4.toList = j4'.toList
  case neg => rw [NO.out (fun e => h5 (congrArg (fun q : ReqD => q.job.tag.toList) e))]; simp [h5]
  by_cases h6 : n0.toList = n0'.toList
  case neg => rw [NO.out (fun e => h6 (congrArg (fun q : ReqD => q.node.name.toList) e))]; simp [h6]
  by_cases h7 : n1 = n1'
  case neg => rw [NO.out (fun e => h7 (congrArg (fun q : ReqD => q.node.room) e))]; simp [h7]
  by_cases h8 : n2.toList = n2'.toList
  case neg => rw [NO.out (fun e => h8 (congrArg (fun q : ReqD => q.node.zone.toList) e))]; simp [h8]
  by_cases h9 : l0.toList = l0'.toList
  case neg => rw [NO.out (fun e => h9 (congrArg (fun q : ReqD => q.lease.job.toList) e))]; simp [h9]
  by_cases h10 : l1.toList = l1'.toList
  case neg => rw [NO.out (fun e => h10 (congrArg (fun q : ReqD => q.lease.node.toList) e))]; simp [h10]
  by_cases h11 : l2 = l2'
  case neg => rw [NO.out (fun e => h11 (congrArg (fun q : ReqD => q.lease.til) e))]; simp [h11]
  by_cases h12 : nm.toList = nm'.toList
  case neg => rw [NO.out (fun e => h12 (congrArg (fun q : ReqD => q.name.toList) e))]; simp [h12]
  by_cases h13 : n = n'
  case neg => rw [NO.out (fun e => h13 (congrArg (fun q : ReqD => q.n) e))]; simp [h13]
  rw [YES.out (by rw [h0, tl_eq h1, h2, h3, h4, tl_eq h5, tl_eq h6, h7, tl_eq h8, tl_eq h9, tl_eq h10, h11, tl_eq h12, h13])]
  simp [h0, h1, h2, h3, h4, h5, h6, h7, h8, h9, h10, h11, h12, h13]
end Go.Proofs.YtiekgafopalfmaaGreatDoor

/- The coder of package wire: a number whose value is not used when it reads. -/
namespace Go.Proofs.YtiekgafopalfmaaGreatDoor
open Go.RowKit

theorem lim_any {most n k : Nat} {m : M} (hr : m.reading = true) : limS most n m = limS most k m := by
  unfold limS
  rw [if_pos hr, if_pos hr]
theorem lim_top {most n : Nat} {m : M} (hr : m.reading = true) : (limS most n m).1 ≤ most := by
  rw [lim_any (k := 0) hr]
  exact lim_le (Nat.zero_le _) m
theorem numb_top {n : Int} {m : M} (hn : (0 ≤ n ∧ n ≤ 4611686018427387904) ∨ m.reading = true) : 0 ≤ (numbS n m).1 ∧ (numbS n m).1 ≤ 4611686018427387904 := by
  have h : (limS 4611686018427387904 n.toNat m).1 ≤ 4611686018427387904 := by
    rcases hn with hn | hn
    · exact lim_le (by omega) m
    · exact lim_top hn
  have e : (numbS n m).1 = ((limS 4611686018427387904 n.toNat m).1 : Int) := rfl
  rw [e]
  omega
theorem numb_same {n : Int} {m : M} (hn : 0 ≤ n) (hr : m.reading = false) : (numbS n m).1 = n := by
  have e : (numbS n m).1 = ((limS 4611686018427387904 n.toNat m).1 : Int) := rfl
  rw [e]
  unfold limS
  rw [if_neg (by rw [hr]; simp)]
  simp only
  omega
/-- A delta that came lies below the coder. -/
def MemD (b : Nat) (Md : DlM) (d : DelD) (w : World) : Prop := ∃ w0 : World, w0.heap.size = b ∧ Below b w0 w ∧ DeltaAt w0 Md d
theorem memD_keep {b : Nat} {Md : DlM} {d : DelD} {w w' : World} (h : MemD b Md d w) (hk : Keep b w w') : MemD b Md d w' := by
  obtain ⟨w0, hs, hb, h1⟩ := h
  have := hb.size
  exact ⟨w0, hs, hb.trans (keep_low hk (by omega)), h1⟩
theorem memD_at {b : Nat} {Md : DlM} {d : DelD} {w : World} (h : MemD b Md d w) : DeltaAt w Md d := by
  obtain ⟨w0, rfl, hb, h1⟩ := h
  exact deltaAt_next h1 hb
theorem lim_nms (most : Nat) (l : List ByteArray) (hl : ∀ x ∈ l, isNote V8 x = true) (hn : l.length ≤ most) (hm : most ≤ 40) : Lim 3000 (rowsS most ⟨#[]⟩ txtS l) :=
  lim_rows (ok := fun x => isNote V8 x = true) most ⟨#[]⟩ l (by decide) hl hn hm (fun x hx => lim_mono (lim_txt hx) (by omega))
end Go.Proofs.YtiekgafopalfmaaGreatDoor

/- Package req: replies, as bytes and back. -/
namespace Go.Proofs.YtiekgafopalfmaaGreatDoor
open Go.RowKit Go.Lib

/-- Two blocks beside a coder: what is passed, and what is handed back. -/
def PairSt (b : Nat) (v : Int) (t : TypeId) (m : M) (vs rs : Array Value) (w0 w : World) : Prop :=
  CodeAt b v m w ∧ ObjAt w0.heap.size vs t w ∧ ObjAt (w0.heap.size + 1) rs t w ∧ Keep b w0 w ∧ b < w0.heap.size ∧ t ≠ 5
theorem pairSt_new {b : Nat} {v : Int} {t : TypeId} {m : M} {w : World} (vs rs : Array Value) (h : CodeAt b v m w) (ht : t ≠ 5) : PairSt b v t m vs rs w ((w.alloc (.cells vs t)).alloc (.cells rs t)) := by
  have o1 := objAt_new w vs t
  have o2 := objAt_new (w.alloc (.cells vs t)) rs t
  rw [World.size_alloc] at o2
  exact ⟨code_alloc (code_alloc h _) _, objAt_next o1 (below_one _ _), o2, keep_trans (keep_alloc b w _) (keep_alloc b _ _), code_lt h, ht⟩
theorem pairSt_call {b : Nat} {v : Int} {t : TypeId} {m m' : M} {vs rs : Array Value} {w0 w w1 : World} (h : PairSt b v t m vs rs w0 w) (hc : CodeAt b v m' w1) (hk : Keep b w w1) : PairSt b v t m' vs rs w0 w1 := by
  obtain ⟨_, h2, h3, h4, h6, h7⟩ := h
  exact ⟨hc, keep_obj h2 hk (by omega) h7, keep_obj h3 hk (by omega) h7, keep_trans h4 hk, h6, h7⟩
theorem pairSt_store {b : Nat} {v : Int} {t : TypeId} {m : M} {vs rs : Array Value} {w0 w : World} (h : PairSt b v t m vs rs w0 w) (j : Nat) (u : Value) : PairSt b v t m (vs.setIfInBounds j u) rs w0 (w.setCell ⟨w0.heap.size, j, none⟩ u) := by
  obtain ⟨h1, h2, h3, h4, h6, h7⟩ := h
  exact ⟨code_set h1 h2 (by omega) h7 j u, objAt_set h2 j u, objAt_other h3 (by omega) j u, keep_new h4 (Nat.le_refl _) j u, h6, h7⟩
theorem pairSt_back {b : Nat} {v : Int} {t : TypeId} {m : M} {vs rs : Array Value} {w0 w : World} (h : PairSt b v t m vs rs w0 w) (j : Nat) (u : Value) : PairSt b v t m vs (rs.setIfInBounds j u) w0 (w.setCell ⟨w0.heap.size + 1, j, none⟩ u) := by
  obtain ⟨h1, h2, h3, h4, h6, h7⟩ := h
  exact ⟨code_set h1 h3 (by omega) h7 j u, objAt_other h2 (by omega) j u, objAt_set h3 j u, keep_new h4 (by omega) j u, h6, h7⟩
theorem isTime_is (n : Int) (w : World) :
    Calls Tryz.prog 232 #[.int .i64 n] w fun e w' => e = .returned (.bool (inR n 0 1099511627776)) ∧ w = w' := by
  unfold inR
  by_cases h : 0 ≤ n
  · by_cases h2 : n ≤ 1099511627776
    · have h1 : decide (0 ≤ n) = true := decide_eq_true h
      have h3 : decide (n ≤ 1099511627776) = true := decide_eq_true h2
      rw [h1, h3]
      go_enter Tryz.func232, Tryz.ntmps232
      go_wp2
      go_ret
      exact ⟨rfl, rfl⟩
    · have h1 : decide (0 ≤ n) = true := decide_eq_true h
      have h3 : decide (n ≤ 1099511627776) = false := decide_eq_false h2
      rw [h1, h3]
      clear h2
      go_enter Tryz.func232, Tryz.ntmps232
      go_wp2
      go_ret
      exact ⟨rfl, rfl⟩
  · have h1 : decide (0 ≤ n) = false := decide_eq_false h
    rw [h1]
    clear h
    go_enter Tryz.func232, Tryz.ntmps232
    go_wp2
    go_ret
    exact ⟨by simp, rfl⟩
/-- What checkReply answers. -/
def pchkR (r : RepD) : Nat := if goodP r then 0 else 1
/-- What passing a reply wants: one that may be written, or one of zeros that is read over. -/
def InP (r : RepD) (m : M) : Prop := (m.reading = false ∧ readP r) ∨ (m.reading = true ∧ r = zeroP)
theorem pB_ne (r : RepD) : pB r ≠ [] := by
  have h := num_pos r.code.toNat
  unfold pB intE
  intro e
  have := congrArg List.length e
  simp only [List.length_append, List.length_nil] at this
  omega
theorem put2 {b : Nat} {x y : Value} {t : TypeId} {w : World} (h : ObjAt b #[x, y] t w) (u v : Value) : ObjAt b #[u, v] t ((w.setCell ⟨b, 0, none⟩ u).setCell ⟨b, 1, none⟩ v) := objAt_set (objAt_set h 0 u) 1 v
end Go.Proofs.YtiekgafopalfmaaGreatDoor

/- Package req: the payloads of requests: payloadOf, and what each payload's request answers. -/
namespace Go.Proofs.YtiekgafopalfmaaGreatDoor
open Go.RowKit Go.Lib

set_option maxRecDepth 100000 in
set_option maxHeartbeats 4000000 in
theorem pay1_is (j : JobD) (n : NodeD) (l : LeaseD) (nm : ByteArray) (N : Int) (w : World) :
    Calls Tryz.prog 95 #[.agg #[.int .i64 1, .string j.name, .int .i64 j.prio, .int .i64 j.need, .int .i64 j.tries, .string j.tag, .string n.name, .int .i64 n.room, .string n.zone, .string l.job, .string l.node, .int .i64 l.til, .string nm, .int .i64 N]] w fun e w' => e = .returned (.tuple #[.iface 151 (.agg #[.string j.name, .int .i64 j.prio, .int .i64 j.need, .int .i64 j.tries, .string j.tag]), .bool true]) ∧ Below w.heap.size w w' := by
  go_enter Tryz.func95, Tryz.ntmps95
  go_wp2
  go_ret2
  exact ⟨rfl, below_one _ _⟩
set_option maxRecDepth 100000 in
set_option maxHeartbeats 4000000 in
theorem pay2_is (j : JobD) (n : NodeD) (l : LeaseD) (nm : ByteArray) (N : Int) (w : World) :
    Calls Tryz.prog 95 #[.agg #[.int .i64 2, .string j.name, .int .i64 j.prio, .int .i64 j.need, .int .i64 j.tries, .string j.tag, .string n.name, .int .i64 n.room, .string n.zone, .string l.job, .string l.node, .int .i64 l.til, .string nm, .int .i64 N]] w fun e w' => e = .returned (.tuple #[.iface 153 (.agg #[.string n.name, .int .i64 n.room, .string n.zone]), .bool true]) ∧ Below w.heap.size w w' := by
  go_enter Tryz.func95, Tryz.ntmps95
  go_wp2
  go_ret2
  exact ⟨rfl, below_one _ _⟩
set_option maxRecDepth 100000 in
set_option maxHeartbeats 4000000 in
theorem pay3_is (j : JobD) (n : NodeD) (l : LeaseD) (nm : ByteArray) (N : Int) (w : World) :
    Calls Tryz.prog 95 #[.agg #[.int .i64 3, .string j.name, .int .i64 j.prio, .int .i64 j.need, .int .i64 j.tries, .string j.tag, .string n.name, .int .i64 n.room, .string n.zone, .string l.job, .string l.node, .int .i64 l.til, .string nm, .int .i64 N]] w fun e w' => e = .returned (.tuple #[.iface 154 (.string nm), .bool true]) ∧ Below w.heap.size w w' := by
  go_enter Tryz.func95, Tryz.ntmps95
  go_wp2
  go_ret2
  exact ⟨rfl, below_one _ _⟩
set_option maxRecDepth 100000 in
set_option maxHeartbeats 4000000 in
theorem pay4_is (j : JobD) (n : NodeD) (l : LeaseD) (nm : ByteArray) (N : Int) (w : World) :
    Calls Tryz.prog 95 #[.agg #[.int .i64 4, .string j.name, .int .i64 j.prio, .int .i64 j.need, .int .i64 j.tries, .string j.tag, .string n.name, .int .i64 n.room, .string n.zone, .string l.job, .string l.node, .int .i64 l.til, .string nm, .int .i64 N]] w fun e w' => e = .returned (.tuple #[.iface 154 (.string nm), .bool true]) ∧ Below w.heap.size w w' := by
  go_enter Tryz.func95, Tryz.ntmps95
  go_wp2
  go_ret2
  exact ⟨rfl, below_one _ _⟩
set_option maxRecDepth 100000 in
set_option maxHeartbeats 4000000 in
theorem pay5_is (j : JobD) (n : NodeD) (l : LeaseD) (nm : ByteArray) (N : Int) (w : World) :
    Calls Tryz.prog 95 #[.agg #[.int .i64 5, .string j.name, .int .i64 j.prio, .int .i64 j.need, .int .i64 j.tries, .string j.tag, .string n.name, .int .i64 n.room, .string n.zone, .string l.job, .string l.node, .int .i64 l.til, .string nm, .int .i64 N]] w fun e w' => e = .returned (.tuple #[.iface 156 (.agg #[.string l.job, .string l.node, .int .i64 l.til]), .bool true]) ∧ Below w.heap.size w w' := by
  go_enter Tryz.func95, Tryz.ntmps95
  go_wp2
  go_ret2
  exact ⟨rfl, below_one _ _⟩
set_option maxRecDepth 100000 in
set_option maxHeartbeats 4000000 in
theorem pay6_is (j : JobD) (n : NodeD) (l : LeaseD) (nm : ByteArray) (N : Int) (w : World) :
    Calls Tryz.prog 95 #[.agg #[.int .i64 6, .string j.name, .int .i64 j.prio, .int .i64 j.need, .int .i64 j.tries, .string j.tag, .string n.name, .int .i64 n.room, .string n.zone, .string l.job, .string l.node, .int .i64 l.til, .string nm, .int .i64 N]] w fun e w' => e = .returned (.tuple #[.iface 154 (.string nm), .bool true]) ∧ Below w.heap.size w w' := by
  go_enter Tryz.func95, Tryz.ntmps95
  go_wp2
  go_ret2
  exact ⟨rfl, below_one _ _⟩
set_option maxRecDepth 100000 in
set_option maxHeartbeats 4000000 in
theorem pay7_is (j : JobD) (n : NodeD) (l : LeaseD) (nm : ByteArray) (N : Int) (w : World) :
    Calls Tryz.prog 95 #[.agg #[.int .i64 7, .string j.name, .int .i64 j.prio, .int .i64 j.need, .int .i64 j.tries, .string j.tag, .string n.name, .int .i64 n.room, .string n.zone, .string l.job, .string l.node, .int .i64 l.til, .string nm, .int .i64 N]] w fun e w' => e = .returned (.tuple #[.iface 157 (.int .i64 N), .bool true]) ∧ Below w.heap.size w w' := by
  go_enter Tryz.func95, Tryz.ntmps95
  go_wp2
  go_ret2
  exact ⟨rfl, below_one _ _⟩
set_option maxRecDepth 100000 in
set_option maxHeartbeats 4000000 in
theorem pay8_is (j : JobD) (n : NodeD) (l : LeaseD) (nm : ByteArray) (N : Int) (w : World) :
    Calls Tryz.prog 95 #[.agg #[.int .i64 8, .string j.name, .int .i64 j.prio, .int .i64 j.need, .int .i64 j.tries, .string j.tag, .string n.name, .int .i64 n.room, .string n.zone, .string l.job, .string l.node, .int .i64 l.til, .string nm, .int .i64 N]] w fun e w' => e = .returned (.tuple #[.iface 159 (.agg #[]), .bool true]) ∧ Below w.heap.size w w' := by
  go_enter Tryz.func95, Tryz.ntmps95
  go_wp2
  go_ret2
  exact ⟨rfl, below_one _ _⟩
set_option maxRecDepth 100000 in
set_option maxHeartbeats 4000000 in
theorem pay9_is (j : JobD) (n : NodeD) (l : LeaseD) (nm : ByteArray) (N : Int) (w : World) :
    Calls Tryz.prog 95 #[.agg #[.int .i64 9, .string j.name, .int .i64 j.prio, .int .i64 j.need, .int .i64 j.tries, .string j.tag, .string n.name, .int .i64 n.room, .string n.zone, .string l.job, .string l.node, .int .i64 l.til, .string nm, .int .i64 N]] w fun e w' => e = .returned (.tuple #[.iface 159 (.agg #[]), .bool true]) ∧ Below w.heap.size w w' := by
  go_enter Tryz.func95, Tryz.ntmps95
  go_wp2
  go_ret2
  exact ⟨rfl, below_one _ _⟩
set_option maxRecDepth 100000 in
set_option maxHeartbeats 4000000 in
theorem pay0_is (k : Int) (hk : ¬ (1 ≤ k ∧ k ≤ 9)) (j : JobD) (n : NodeD) (l : LeaseD) (nm : ByteArray) (N : Int) (w : World) :
    Calls Tryz.prog 95 #[.agg #[.int .i64 k, .string j.name, .int .i64 j.prio, .int .i64 j.need, .int .i64 j.tries, .string j.tag, .string n.name, .int .i64 n.room, .string n.zone, .string l.job, .string l.node, .int .i64 l.til, .string nm, .int .i64 N]] w fun e w' => e = .returned (.tuple #[.nilIface, .bool false]) ∧ Below w.heap.size w w' := by
  have h1 : (k == 1) = false := by simp; omega
  have h2 : (k == 2) = false := by simp; omega
  have h3 : (k == 3) = false := by simp; omega
  have h4 : (k == 4) = false := by simp; omega
  have h5 : (k == 5) = false := by simp; omega
  have h6 : (k == 6) = false := by simp; omega
  have h7 : (k == 7) = false := by simp; omega
  have h8 : (k == 8) = false := by simp; omega
  have h9 : (k == 9) = false := by simp; omega
  clear hk
  go_enter Tryz.func95, Tryz.ntmps95
  go_wp2
  go_ret2
  exact ⟨rfl, below_one _ _⟩
set_option maxRecDepth 100000 in
set_option maxHeartbeats 4000000 in
theorem jobRequest_is (j : JobD) (k : Int) (w : World) :
    Calls Tryz.prog 218 #[.agg #[.string j.name, .int .i64 j.prio, .int .i64 j.need, .int .i64 j.tries, .string j.tag], .int .i64 k] w fun e w' => e = .returned (.agg #[.int .i64 k, .string j.name, .int .i64 j.prio, .int .i64 j.need, .int .i64 j.tries, .string j.tag, .string ⟨#[]⟩, .int .i64 0, .string ⟨#[]⟩, .string ⟨#[]⟩, .string ⟨#[]⟩, .int .i64 0, .string ⟨#[]⟩, .int .i64 0]) ∧ Below w.heap.size w w' := by
  go_enter Tryz.func218, Tryz.ntmps218
  go_wp2
  exact bodyPost_ret (v := .agg #[.int .i64 k, .string j.name, .int .i64 j.prio, .int .i64 j.need, .int .i64 j.tries, .string j.tag, .string ⟨#[]⟩, .int .i64 0, .string ⟨#[]⟩, .string ⟨#[]⟩, .string ⟨#[]⟩, .int .i64 0, .string ⟨#[]⟩, .int .i64 0]) (by simp [results, Tryz.results218, go_sem]) rfl ⟨rfl, below_trans (below_one _ _) (below_one _ _) (by simp)⟩
set_option maxRecDepth 100000 in
set_option maxHeartbeats 4000000 in
theorem nodeRequest_is (n : NodeD) (k : Int) (w : World) :
    Calls Tryz.prog 221 #[.agg #[.string n.name, .int .i64 n.room, .string n.zone], .int .i64 k] w fun e w' => e = .returned (.agg #[.int .i64 k, .string ⟨#[]⟩, .int .i64 0, .int .i64 0, .int .i64 0, .string ⟨#[]⟩, .string n.name, .int .i64 n.room, .string n.zone, .string ⟨#[]⟩, .string ⟨#[]⟩, .int .i64 0, .string ⟨#[]⟩, .int .i64 0]) ∧ Below w.heap.size w w' := by
  go_enter Tryz.func221, Tryz.ntmps221
  go_wp2
  exact bodyPost_ret (v := .agg #[.int .i64 k, .string ⟨#[]⟩, .int .i64 0, .int .i64 0, .int .i64 0, .string ⟨#[]⟩, .string n.name, .int .i64 n.room, .string n.zone, .string ⟨#[]⟩, .string ⟨#[]⟩, .int .i64 0, .string ⟨#[]⟩, .int .i64 0]) (by simp [results, Tryz.results221, go_sem]) rfl ⟨rfl, below_trans (below_one _ _) (below_one _ _) (by simp)⟩
set_option maxRecDepth 100000 in
set_option maxHeartbeats 4000000 in
theorem leaseRequest_is (l : LeaseD) (k : Int) (w : World) :
    Calls Tryz.prog 227 #[.agg #[.string l.job, .string l.node, .int .i64 l.til], .int .i64 k] w fun e w' => e = .returned (.agg #[.int .i64 k, .string ⟨#[]⟩, .int .i64 0, .int .i64 0, .int .i64 0, .string ⟨#[]⟩, .string ⟨#[]⟩, .int .i64 0, .string ⟨#[]⟩, .string l.job, .string l.node, .int .i64 l.til, .string ⟨#[]⟩, .int .i64 0]) ∧ Below w.heap.size w w' := by
  go_enter Tryz.func227, Tryz.ntmps227
  go_wp2
  exact bodyPost_ret (v := .agg #[.int .i64 k, .string ⟨#[]⟩, .int .i64 0, .int .i64 0, .int .i64 0, .string ⟨#[]⟩, .string ⟨#[]⟩, .int .i64 0, .string ⟨#[]⟩, .string l.job, .string l.node, .int .i64 l.til, .string ⟨#[]⟩, .int .i64 0]) (by simp [results, Tryz.results227, go_sem]) rfl ⟨rfl, below_trans (below_one _ _) (below_one _ _) (by simp)⟩
set_option maxRecDepth 100000 in
set_option maxHeartbeats 4000000 in
theorem nameRequest_is (nm : ByteArray) (k : Int) (w : World) :
    Calls Tryz.prog 224 #[.string nm, .int .i64 k] w fun e w' => e = .returned (.agg #[.int .i64 k, .string ⟨#[]⟩, .int .i64 0, .int .i64 0, .int .i64 0, .string ⟨#[]⟩, .string ⟨#[]⟩, .int .i64 0, .string ⟨#[]⟩, .string ⟨#[]⟩, .string ⟨#[]⟩, .int .i64 0, .string nm, .int .i64 0]) ∧ Below w.heap.size w w' := by
  go_enter Tryz.func224, Tryz.ntmps224
  go_wp2
  exact bodyPost_ret (v := .agg #[.int .i64 k, .string ⟨#[]⟩, .int .i64 0, .int .i64 0, .int .i64 0, .string ⟨#[]⟩, .string ⟨#[]⟩, .int .i64 0, .string ⟨#[]⟩, .string ⟨#[]⟩, .string ⟨#[]⟩, .int .i64 0, .string nm, .int .i64 0]) (by simp [results, Tryz.results224, go_sem]) rfl ⟨rfl, below_one _ _⟩
set_option maxRecDepth 100000 in
set_option maxHeartbeats 4000000 in
theorem ticksRequest_is (N : Int) (k : Int) (w : World) :
    Calls Tryz.prog 231 #[.int .i64 N, .int .i64 k] w fun e w' => e = .returned (.agg #[.int .i64 k, .string ⟨#[]⟩, .int .i64 0, .int .i64 0, .int .i64 0, .string ⟨#[]⟩, .string ⟨#[]⟩, .int .i64 0, .string ⟨#[]⟩, .string ⟨#[]⟩, .string ⟨#[]⟩, .int .i64 0, .string ⟨#[]⟩, .int .i64 N]) ∧ Below w.heap.size w w' := by
  go_enter Tryz.func231, Tryz.ntmps231
  go_wp2
  exact bodyPost_ret (v := .agg #[.int .i64 k, .string ⟨#[]⟩, .int .i64 0, .int .i64 0, .int .i64 0, .string ⟨#[]⟩, .string ⟨#[]⟩, .int .i64 0, .string ⟨#[]⟩, .string ⟨#[]⟩, .string ⟨#[]⟩, .int .i64 0, .string ⟨#[]⟩, .int .i64 N]) (by simp [results, Tryz.results231, go_sem]) rfl ⟨rfl, below_one _ _⟩
set_option maxRecDepth 100000 in
set_option maxHeartbeats 4000000 in
theorem nothingRequest_is (k : Int) (w : World) :
    Calls Tryz.prog 235 #[.agg #[], .int .i64 k] w fun e w' => e = .returned (.agg #[.int .i64 k, .string ⟨#[]⟩, .int .i64 0, .int .i64 0, .int .i64 0, .string ⟨#[]⟩, .string ⟨#[]⟩, .int .i64 0, .string ⟨#[]⟩, .string ⟨#[]⟩, .string ⟨#[]⟩, .int .i64 0, .string ⟨#[]⟩, .int .i64 0]) ∧ Below w.heap.size w w' := by
  go_enter Tryz.func235, Tryz.ntmps235
  go_wp2
  exact bodyPost_ret (v := .agg #[.int .i64 k, .string ⟨#[]⟩, .int .i64 0, .int .i64 0, .int .i64 0, .string ⟨#[]⟩, .string ⟨#[]⟩, .int .i64 0, .string ⟨#[]⟩, .string ⟨#[]⟩, .string ⟨#[]⟩, .int .i64 0, .string ⟨#[]⟩, .int .i64 0]) (by simp [results, Tryz.results235, go_sem]) rfl ⟨rfl, below_trans (below_one _ _) (below_one _ _) (by simp)⟩
end Go.Proofs.YtiekgafopalfmaaGreatDoor

/- Package req: Check at a request of no kind. -/
namespace Go.Proofs.YtiekgafopalfmaaGreatDoor
open Go.RowKit Go.Lib

set_option maxRecDepth 100000 in
set_option maxHeartbeats 4000000 in
theorem qcheck0_is (k : Int) (hk : ¬ (1 ≤ k ∧ k ≤ 9)) (j : JobD) (n : NodeD) (l : LeaseD) (nm : ByteArray) (N : Int) (w : World) :
    Calls Tryz.prog 81 #[.agg #[.int .i64 k, .string j.name, .int .i64 j.prio, .int .i64 j.need, .int .i64 j.tries, .string j.tag, .string n.name, .int .i64 n.room, .string n.zone, .string l.job, .string l.node, .int .i64 l.til, .string nm, .int .i64 N]] w fun e w' => e = .returned (.int .i64 1) ∧ Below w.heap.size w w' := by
  have HP := Lib.hid (pay0_is k hk j n l nm N (w.alloc (.cells #[.int .i64 k, .string j.name, .int .i64 j.prio, .int .i64 j.need, .int .i64 j.tries, .string j.tag, .string n.name, .int .i64 n.room, .string n.zone, .string l.job, .string l.node, .int .i64 l.til, .string nm, .int .i64 N] 44)))
  have B := Lib.hid (below_one w (.cells #[.int .i64 k, .string j.name, .int .i64 j.prio, .int .i64 j.need, .int .i64 j.tries, .string j.tag, .string n.name, .int .i64 n.room, .string n.zone, .string l.job, .string l.node, .int .i64 l.til, .string nm, .int .i64 N] 44))
  clear hk
  go_enter Tryz.func81, Tryz.ntmps81
  go_wp2_with fail
  refine HP.out.mono ?_
  rintro e w1 ⟨rfl, x1⟩
  go_wp2
  go_ret
  exact ⟨rfl, below_trans B.out x1 (by simp)⟩
theorem qnone_is (w : World) : Calls Tryz.prog 81 #[.agg #[.int .i64 0, .string ⟨#[]⟩, .int .i64 0, .int .i64 0, .int .i64 0, .string ⟨#[]⟩, .string ⟨#[]⟩, .int .i64 0, .string ⟨#[]⟩, .string ⟨#[]⟩, .string ⟨#[]⟩, .int .i64 0, .string ⟨#[]⟩, .int .i64 0]] w fun e w' => e = .returned (.int .i64 1) ∧ Below w.heap.size w w' := qcheck0_is 0 (by omega) zJob zNode zLease ⟨#[]⟩ 0 w
end Go.Proofs.YtiekgafopalfmaaGreatDoor

/- Package req: what each payload's check and pass answer. -/
namespace Go.Proofs.YtiekgafopalfmaaGreatDoor
open Go.RowKit Go.Lib

theorem check_job1 (j : JobD) : checkE V8 ⟨0, [j], [], []⟩ = jobE V8 j := by
  have h1 : headSE ⟨0, [j], [], []⟩ = 0 := by simp [headSE, inR]
  have h2 : rowsE (jobE V8) (·.name) none [j] = jobE V8 j := by
    unfold rowsE
    by_cases h : jobE V8 j ≠ 0
    · rw [if_pos h]
    · rw [if_neg h]; simp only [badO]; simp [rowsE]; omega
  unfold checkE
  simp only
  rw [h1, h2]
  simp [orE, rowsE, roomE]
  omega
theorem check_node1 (n : NodeD) : checkE V8 ⟨0, [], [n], []⟩ = nodeE V8 n := by
  have h1 : headSE ⟨0, [], [n], []⟩ = 0 := by simp [headSE, inR]
  have h2 : rowsE (nodeE V8) (·.name) none [n] = nodeE V8 n := by
    unfold rowsE
    by_cases h : nodeE V8 n ≠ 0
    · rw [if_pos h]
    · rw [if_neg h]; simp only [badO]; simp [rowsE]; omega
  unfold checkE
  simp only
  rw [h1, h2]
  by_cases h : nodeE V8 n ≠ 0
  · simp [orE, rowsE, h]
  · have h : nodeE V8 n = 0 := by omega
    have hr := ((nodeE_zero V8 n).1 h).2.1
    simp [orE, rowsE, h, roomE, usedD, sumZ, hr]
theorem jobsAt_one {b : Nat} {x : JobD} {t : TypeId} {w : World} (o : ObjAt b #[.string x.name, .int .i64 x.prio, .int .i64 x.need, .int .i64 x.tries, .string x.tag] t w) : JobsAt w (some ⟨b, 0, none⟩) [x] := by
  intro i hi
  obtain rfl : i = 0 := by simp at hi; omega
  exact ⟨_, rfl, objAt_lt o, objAt_cell o 0 rfl, objAt_cell o 1 rfl, objAt_cell o 2 rfl, objAt_cell o 3 rfl, objAt_cell o 4 rfl⟩
theorem nodesAt_one {b : Nat} {x : NodeD} {t : TypeId} {w : World} (o : ObjAt b #[.string x.name, .int .i64 x.room, .string x.zone] t w) : NodesAt w (some ⟨b, 0, none⟩) [x] := by
  intro i hi
  obtain rfl : i = 0 := by simp at hi; omega
  exact ⟨_, rfl, objAt_lt o, objAt_cell o 0 rfl, objAt_cell o 1 rfl, objAt_cell o 2 rfl⟩
set_option maxRecDepth 100000 in
set_option maxHeartbeats 4000000 in
theorem jobCheck_is (j : JobD) (hw : wJob j) (w : World) (hT : Tabs w) :
    Calls Tryz.prog 216 #[.agg #[.string j.name, .int .i64 j.prio, .int .i64 j.need, .int .i64 j.tries, .string j.tag]] w fun e w' => e = .returned (.int .i64 (jobE V8 j : Nat)) ∧ Below w.heap.size w w' := by
  have o := objAt_new (w.alloc (.cells #[.string j.name, .int .i64 j.prio, .int .i64 j.need, .int .i64 j.tries, .string j.tag] 151)) #[.string j.name, .int .i64 j.prio, .int .i64 j.need, .int .i64 j.tries, .string j.tag] 38
  rw [World.size_alloc] at o
  have bW : Below w.heap.size w ((w.alloc (.cells #[.string j.name, .int .i64 j.prio, .int .i64 j.need, .int .i64 j.tries, .string j.tag] 151)).alloc (.cells #[.string j.name, .int .i64 j.prio, .int .i64 j.need, .int .i64 j.tries, .string j.tag] 38)) := below_trans (below_one _ _) (below_one _ _) (by simp)
  have HC := check_any 0 (some ⟨w.heap.size + 1, 0, none⟩) none none 1 0 0 [j] [] [] ⟨by show (Lit.int .i64 0).wf = true; decide, fun x hx => by simp at hx; subst hx; exact hw, fun x hx => (by cases hx), fun x hx => (by cases hx)⟩ _ (hT.below bW) (jobsAt_one o) (fun i hi => absurd hi (by simp)) (fun i hi => absurd hi (by simp))
  rw [check_job1] at HC
  simp only [List.length_singleton, List.length_nil] at HC
  have HC := Lib.hid HC
  have BW := Lib.hid bW
  clear hT hw o bW
  go_enter Tryz.func216, Tryz.ntmps216
  go_wp2_with fail
  refine HC.out.mono ?_
  rintro e w1 ⟨rfl, b1⟩
  go_wp2
  go_ret
  exact ⟨rfl, below_trans BW.out b1 BW.out.size⟩
set_option maxRecDepth 100000 in
set_option maxHeartbeats 4000000 in
theorem nodeCheck_is (n : NodeD) (hw : wNode n) (w : World) (hT : Tabs w) :
    Calls Tryz.prog 219 #[.agg #[.string n.name, .int .i64 n.room, .string n.zone]] w fun e w' => e = .returned (.int .i64 (nodeE V8 n : Nat)) ∧ Below w.heap.size w w' := by
  have o := objAt_new (w.alloc (.cells #[.string n.name, .int .i64 n.room, .string n.zone] 153)) #[.string n.name, .int .i64 n.room, .string n.zone] 40
  rw [World.size_alloc] at o
  have bW : Below w.heap.size w ((w.alloc (.cells #[.string n.name, .int .i64 n.room, .string n.zone] 153)).alloc (.cells #[.string n.name, .int .i64 n.room, .string n.zone] 40)) := below_trans (below_one _ _) (below_one _ _) (by simp)
  have HC := check_any 0 none (some ⟨w.heap.size + 1, 0, none⟩) none 0 1 0 [] [n] [] ⟨by show (Lit.int .i64 0).wf = true; decide, fun x hx => (by cases hx), fun x hx => by simp at hx; subst hx; exact hw, fun x hx => (by cases hx)⟩ _ (hT.below bW) (fun i hi => absurd hi (by simp)) (nodesAt_one o) (fun i hi => absurd hi (by simp))
  rw [check_node1] at HC
  simp only [List.length_singleton, List.length_nil] at HC
  have HC := Lib.hid HC
  have BW := Lib.hid bW
  clear hT hw o bW
  go_enter Tryz.func219, Tryz.ntmps219
  go_wp2_with fail
  refine HC.out.mono ?_
  rintro e w1 ⟨rfl, b1⟩
  go_wp2
  go_ret
  exact ⟨rfl, below_trans BW.out b1 BW.out.size⟩
set_option maxRecDepth 100000 in
set_option maxHeartbeats 4000000 in
theorem leaseCheck_is (l : LeaseD) (w : World) (hT : Tabs w) :
    Calls Tryz.prog 225 #[.agg #[.string l.job, .string l.node, .int .i64 l.til]] w fun e w' => e = .returned (.int .i64 (leaseCE V8 l : Nat)) ∧ Below w.heap.size w w' := by
  have bW := below_one w (.cells #[.string l.job, .string l.node, .int .i64 l.til] 156)
  have HC := Lib.hid (checkLeaseC_is l _ (hT.below bW))
  have BW := Lib.hid bW
  clear hT bW
  go_enter Tryz.func225, Tryz.ntmps225
  go_wp2_with fail
  refine HC.out.mono ?_
  rintro e w1 ⟨rfl, b1⟩
  go_wp2
  go_ret
  exact ⟨rfl, below_trans BW.out b1 BW.out.size⟩
set_option maxRecDepth 100000 in
set_option maxHeartbeats 4000000 in
theorem nameCheck_is (nm : ByteArray) (w : World) (hT : Tabs w) :
    Calls Tryz.prog 222 #[.string nm] w fun e w' => e = .returned (.int .i64 ((if isName V8 nm then 0 else 4 : Nat) : Int)) ∧ Below w.heap.size w w' := by
  have HC := isName_is nm w hT
  obtain ⟨c, hc⟩ : ∃ c, isName V8 nm = c := ⟨_, rfl⟩
  rw [hc] at HC ⊢
  have HC := Lib.hid HC
  clear hT hc
  cases c with
  | true =>
    go_enter Tryz.func222, Tryz.ntmps222
    go_wp2_with fail
    refine HC.out.mono ?_
    rintro e w1 ⟨rfl, b1⟩
    go_wp2
    go_ret
    exact ⟨rfl, b1⟩
  | false =>
    go_enter Tryz.func222, Tryz.ntmps222
    go_wp2_with fail
    refine HC.out.mono ?_
    rintro e w1 ⟨rfl, b1⟩
    go_wp2
    go_ret
    exact ⟨rfl, b1⟩
set_option maxRecDepth 100000 in
set_option maxHeartbeats 4000000 in
theorem ticksCheck_is (N : Int) (w : World) :
    Calls Tryz.prog 229 #[.int .i64 N] w fun e w' => e = .returned (.int .i64 ((if inR N 0 1099511627776 then 0 else 1 : Nat) : Int)) ∧ Below w.heap.size w w' := by
  have HC := isTime_is N w
  obtain ⟨c, hc⟩ : ∃ c, inR N 0 1099511627776 = c := ⟨_, rfl⟩
  rw [hc] at HC ⊢
  have HC := Lib.hid HC
  clear hc
  cases c with
  | true =>
    go_enter Tryz.func229, Tryz.ntmps229
    go_wp2_with fail
    refine HC.out.mono ?_
    rintro e w1 ⟨rfl, rfl⟩
    go_wp2
    go_ret
    exact ⟨rfl, Below.refl _ _⟩
  | false =>
    go_enter Tryz.func229, Tryz.ntmps229
    go_wp2_with fail
    refine HC.out.mono ?_
    rintro e w1 ⟨rfl, rfl⟩
    go_wp2
    go_ret
    exact ⟨rfl, Below.refl _ _⟩
set_option maxRecDepth 100000 in
set_option maxHeartbeats 4000000 in
theorem nothingCheck_is (w : World) :
    Calls Tryz.prog 233 #[.agg #[]] w fun e w' => e = .returned (.int .i64 0) ∧ Below w.heap.size w w' := by
  go_enter Tryz.func233, Tryz.ntmps233
  go_wp2
  go_ret
  exact ⟨rfl, below_one _ _⟩
end Go.Proofs.YtiekgafopalfmaaGreatDoor
