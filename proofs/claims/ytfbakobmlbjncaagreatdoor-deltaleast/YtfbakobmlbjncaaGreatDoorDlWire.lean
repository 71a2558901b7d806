/- Plain facts on deltas as bytes, and on what Diff and Apply answer (no program). -/
import Derived.Test.YtfbakobmlbjncaaGreatDoorDlState
import Derived.Test.YtfbakobmlbjncaaGreatDoorPkWi1
namespace Go.Proofs.YtfbakobmlbjncaaGreatDoor

section
variable (U : ByteArray → Bool)
def okDel (d : DelD) : Prop := (0 ≤ d.frm ∧ d.frm ≤ 4611686018427387904) ∧ (0 ≤ d.til - d.frm ∧ d.til - d.frm ≤ 4611686018427387904) ∧ (d.jobs.length ≤ 40 ∧ ∀ x ∈ d.jobs, okJob U 3 x) ∧ (d.nodes.length ≤ 20 ∧ ∀ x ∈ d.nodes, okNode U 3 x) ∧ (d.leases.length ≤ 40 ∧ ∀ x ∈ d.leases, okLease U x) ∧
  (d.gj.length ≤ 40 ∧ ∀ x ∈ d.gj, isNote U x = true) ∧ (d.gn.length ≤ 20 ∧ ∀ x ∈ d.gn, isNote U x = true) ∧ (d.gl.length ≤ 40 ∧ ∀ x ∈ d.gl, isNote U x = true)
def delB (d : DelD) : List UInt8 := intE d.frm ++ (intE (d.til - d.frm) ++ (rowsE' (jobB 3) d.jobs ++ (rowsE' (nodeB 3) d.nodes ++ (rowsE' leaseB d.leases ++ (rowsE' textE d.gj ++ (rowsE' textE d.gn ++ rowsE' textE d.gl))))))
def delR : Dec DelD := bindD intD fun a => bindD intD fun n => bindD (rowsD 40 (jobR U 3)) fun j => bindD (rowsD 20 (nodeR U 3)) fun nd => bindD (rowsD 40 (leaseR U)) fun l => bindD (rowsD 40 (textD U)) fun gj => bindD (rowsD 20 (textD U)) fun gn => bindD (rowsD 40 (textD U)) fun gl => pureD ⟨a, a + n, j, nd, l, gj, gn, gl⟩
theorem delC : Codec (okDel U) delB (delR U) := by
  have c := Codec.seq intC (fun _ _ => Codec.seq intC (fun _ _ => Codec.seq ((jobC U 3).rows 40 (by omega)) (fun _ _ => Codec.seq ((nodeC U 3).rows 20 (by omega)) (fun _ _ => Codec.seq ((leaseC U).rows 40 (by omega)) (fun _ _ => Codec.seq ((textC U).rows 40 (by omega)) (fun _ _ => Codec.seq ((textC U).rows 20 (by omega)) (fun _ _ => (textC U).rows 40 (by omega))))))))
  have c2 := Codec.iso c (fun x => (⟨x.1, x.1 + x.2.1, x.2.2.1, x.2.2.2.1, x.2.2.2.2.1, x.2.2.2.2.2.1, x.2.2.2.2.2.2.1, x.2.2.2.2.2.2.2⟩ : DelD)) (fun d => (d.frm, d.til - d.frm, d.jobs, d.nodes, d.leases, d.gj, d.gn, d.gl)) (okDel U)
    (fun d hd => ⟨hd, by cases d; simp only [DelD.mk.injEq, and_true, true_and]; omega⟩) (fun x hx => ⟨⟨hx.1, by simp only; rw [show x.1 + x.2.1 - x.1 = x.2.1 by omega]; exact hx.2.1, hx.2.2⟩, by simp only; rw [show x.1 + x.2.1 - x.1 = x.2.1 by omega]⟩)
  simp only [bindD_assoc, bindD_pure] at c2
  exact c2
theorem nz_del : NZ (delR U) := by
  have hj : NZ (jobR U 3) := nz_bind (nz_text U) fun _ => nz_bind nz_zig fun _ => nz_bind nz_int fun _ => nz_bind (nz_if _ nz_int (nz_pure _)) fun _ => nz_bind (nz_if _ (nz_text U) (nz_pure _)) fun _ => nz_pure _
  have hn : NZ (nodeR U 3) := nz_bind (nz_text U) fun _ => nz_bind nz_int fun _ => nz_bind (nz_if _ (nz_text U) (nz_pure _)) fun _ => nz_pure _
  have hl : NZ (leaseR U) := nz_bind (nz_text U) fun _ => nz_bind (nz_text U) fun _ => nz_bind nz_int fun _ => nz_pure _
  exact nz_bind nz_int fun _ => nz_bind nz_int fun _ => nz_bind (nz_rows hj _) fun _ => nz_bind (nz_rows hn _) fun _ => nz_bind (nz_rows hl _) fun _ => nz_bind (nz_rows (nz_text U) _) fun _ => nz_bind (nz_rows (nz_text U) _) fun _ => nz_bind (nz_rows (nz_text U) _) fun _ => nz_pure _
theorem name_note {s : ByteArray} (h : isName U s = true) : isNote U s = true := by
  simp only [isName, Bool.and_eq_true] at h; exact h.2
/-- A delta that may be can be told. -/
theorem ok_del {d : DelD} (h : ValidD U d) : okDel U d := by
  obtain ⟨h0, ⟨⟨l1, l2, l3, l4⟩, l5, l6⟩, ⟨hj, _⟩, ⟨hn, _⟩, ⟨hl, _⟩, ⟨g1, _⟩, ⟨g2, _⟩, ⟨g3, _⟩⟩ := h
  refine ⟨⟨by omega, by omega⟩, ⟨by omega, by omega⟩, ⟨l1, fun j hm => ?_⟩, ⟨l5, fun n hm => ?_⟩, ⟨l2, fun l hm => ?_⟩, ⟨l3, fun x hm => name_note U (g1 x hm).1⟩, ⟨l6, fun x hm => name_note U (g2 x hm).1⟩, ⟨l4, fun x hm => name_note U (g3 x hm).1⟩⟩
  · have z := (jobE_zero U j).1 (hj j hm)
    refine ⟨name_note U z.1.1, ?_, ⟨by omega, by omega⟩, ?_, ?_⟩
    · unfold zig; split <;> omega
    · rw [if_pos (by decide)]; omega
    · rw [if_pos (by decide)]; exact z.1.2
  · have z := (nodeE_zero U n).1 (hn n hm)
    refine ⟨name_note U z.1.1, ⟨by omega, by omega⟩, ?_⟩
    rw [if_pos (by decide)]; exact z.1.2
  · have z := (leaseCE_zero U l).1 (hl l hm)
    exact ⟨name_note U z.1.1, name_note U z.1.2, by omega, by omega⟩
/-- What Encode and Decode answer. -/
def dencR (d : DelD) : List UInt8 × Nat := if dcheckE U d ≠ 0 then ([], dcheckE U d) else if 6000 < (delB d).length then ([], 2) else (delB d, 0)
def ddecR (l : List UInt8) : DelD × Nat := if 6000 < l.length then (zeroDel, 2) else match delR U l with
  | .inl e => (zeroDel, e)
  | .inr (d, m) => if m ≠ [] then (zeroDel, 4) else if dcheckE U d ≠ 0 then (zeroDel, dcheckE U d) else (d, 0)
end
section
variable {U : ByteArray → Bool}
theorem denc_inv {d : DelD} {l : List UInt8} (h : dencR U d = (l, 0)) : dcheckE U d = 0 ∧ l = delB d ∧ (delB d).length ≤ 6000 := by
  unfold dencR at h
  split at h
  · rename_i h0; simp only [Prod.mk.injEq] at h; exact absurd h.2 h0
  · rename_i h0
    split at h
    · simp at h
    · rename_i h1; simp only [Prod.mk.injEq, and_true] at h; exact ⟨by simpa using h0, h.symm, by omega⟩
theorem del_back {d : DelD} (h : dcheckE U d = 0) (hl : (delB d).length ≤ 6000) : ddecR U (delB d) = (d, 0) := by
  have hb := (delC U).back d [] (ok_del U ((dcheck_zero U d).1 h))
  rw [List.append_nil] at hb
  unfold ddecR
  rw [if_neg (by omega), hb]
  simp [h]
theorem del_more {d : DelD} (h : dcheckE U d = 0) {m : List UInt8} (hm : m ≠ []) (hl : (delB d ++ m).length ≤ 6000) : ddecR U (delB d ++ m) = (zeroDel, 4) := by
  unfold ddecR
  rw [if_neg (by omega), (delC U).back d m (ok_del U ((dcheck_zero U d).1 h))]
  simp [hm]
theorem del_cut {d : DelD} (h : dcheckE U d = 0) {k : Nat} (hk : k < (delB d).length) (hl : (delB d).length ≤ 6000) : ddecR U ((delB d).take k) = (zeroDel, 3) := by
  unfold ddecR
  rw [if_neg (by rw [List.length_take]; omega), (delC U).cut d k (ok_del U ((dcheck_zero U d).1 h)) hk]
theorem del_read {l : List UInt8} {d : DelD} (h : ddecR U l = (d, 0)) : dcheckE U d = 0 ∧ delB d = l ∧ l.length ≤ 6000 := by
  unfold ddecR at h
  by_cases h6 : 6000 < l.length
  · rw [if_pos h6] at h; simp at h
  · rw [if_neg h6] at h
    cases hr : delR U l with
    | inl e => rw [hr] at h; simp only [Prod.mk.injEq] at h; exact absurd h.2 (nz_del U l e hr)
    | inr x =>
      obtain ⟨t, m⟩ := x
      rw [hr] at h
      simp only at h
      by_cases hm : m ≠ []
      · rw [if_pos hm] at h; simp at h
      · rw [if_neg hm] at h
        have hm : m = [] := by simpa using hm
        by_cases hc : dcheckE U t ≠ 0
        · rw [if_pos hc] at h; simp only [Prod.mk.injEq] at h; exact absurd h.2 hc
        · rw [if_neg hc] at h
          simp only [Prod.mk.injEq, and_true] at h
          subst h hm
          obtain ⟨_, hl⟩ := (delC U).sound _ _ _ hr
          exact ⟨by simpa using hc, by rw [hl, List.append_nil], by omega⟩
theorem del_err {l : List UInt8} {d : DelD} {c : Nat} (h : ddecR U l = (d, c)) (hc : c ≠ 0) : d = zeroDel := by
  unfold ddecR at h
  split at h
  · simp only [Prod.mk.injEq] at h; exact h.1.symm
  · split at h
    · simp only [Prod.mk.injEq] at h; exact h.1.symm
    · split at h
      · simp only [Prod.mk.injEq] at h; exact h.1.symm
      · split at h
        · simp only [Prod.mk.injEq] at h; exact h.1.symm
        · simp only [Prod.mk.injEq] at h; exact absurd h.2.symm hc
end
/-- What Diff and Apply answer. -/
noncomputable def diffR (U : ByteArray → Bool) (a b : StD) : DelD × Nat := if checkE U a ≠ 0 then (zeroDel, checkE U a) else if checkE U b ≠ 0 then (zeroDel, checkE U b) else if a.rev < b.rev then (diffS a b, 0) else (zeroDel, 1)
def goneIn (s : StD) (d : DelD) : Bool := d.gj.all (hasJob s.jobs) && d.gn.all (hasNode s.nodes) && d.gl.all (hasLease s.leases)
noncomputable def applyR (U : ByteArray → Bool) (s : StD) (d : DelD) : StD × Nat :=
  if checkE U s ≠ 0 then (zeroSt, checkE U s) else if dcheckE U d ≠ 0 then (zeroSt, dcheckE U d) else if d.frm ≠ s.rev then (zeroSt, 10) else if goneIn s d = true then (if checkE U (applyS s d) ≠ 0 then (zeroSt, checkE U (applyS s d)) else (applyS s d, 0)) else (zeroSt, 6)
section
variable {U : ByteArray → Bool}
theorem diffR_ok {a b : StD} (ha : checkE U a = 0) (hb : checkE U b = 0) (hr : a.rev < b.rev) : diffR U a b = (diffS a b, 0) := by unfold diffR; rw [if_neg (by simp [ha]), if_neg (by simp [hb]), if_pos hr]
theorem apply_back {a b : StD} (ha : checkE U a = 0) (hb : checkE U b = 0) (hr : a.rev < b.rev) : applyR U a (diffS a b) = (b, 0) := by
  have va := (check_zero U a).1 ha
  have vb := (check_zero U b).1 hb
  have hd := (dcheck_zero U _).2 (valid_diff va vb hr)
  have hg : goneIn a (diffS a b) = true := by
    have g := gone_there (a := a) (b := b)
    simp only [goneIn, Bool.and_eq_true, List.all_eq_true]
    exact ⟨⟨g.1, g.2.1⟩, g.2.2⟩
  unfold applyR
  rw [if_neg (by simp [ha]), if_neg (by simp [hd]), if_neg (show ¬ (diffS a b).frm ≠ a.rev by simp [diffS]), if_pos hg, apply_diffS va vb, if_neg (by simp [hb])]
theorem apply_old {s : StD} {d : DelD} (hs : checkE U s = 0) (hd : dcheckE U d = 0) (h : d.frm ≠ s.rev) : applyR U s d = (zeroSt, 10) := by unfold applyR; rw [if_neg (by simp [hs]), if_neg (by simp [hd]), if_pos h]
end
end Go.Proofs.YtfbakobmlbjncaaGreatDoor
