import Derived.Test.YtiekgafopalfmaaGreatDoorPkDl1
import Derived.Test.YtiekgafopalfmaaGreatDoorPkWi1
import Derived.Test.YtiekgafopalfmaaGreatDoorPkWi4
/- Plain facts on deltas as bytes, and on what Diff and Apply answer (no program). -/
namespace Go.Proofs.YtiekgafopalfmaaGreatDoor

section
variable (U : ByteArray → Bool)
def okDel (d : DelD) : Prop := (0 ≤ d.frm ∧ d.frm ≤ 4611686018427387904) ∧ (0 ≤ d.til - d.frm ∧ d.til - d.frm ≤ 4611686018427387904) ∧ (d.jobs.length ≤ 40 ∧ ∀ x ∈ d.jobs, okJob U 3 x) ∧ (d.nodes.length ≤ 20 ∧ ∀ x ∈ d.nodes, okNode U 3 x) ∧ (d.leases.length ≤ 40 ∧ ∀ x ∈ d.leases, okLease U x) ∧
  (d.gj.length ≤ 40 ∧ ∀ x ∈ d.gj, isNote U x = true) ∧ (d.gn.length ≤ 20 ∧ ∀ x ∈ d.gn, isNote U x = true) ∧ (d.gl.length ≤ 40 ∧ ∀ x ∈ d.gl, isNote U x = true)
def delB (d : DelD) : List UInt8 := intE d.frm ++ (intE (d.til - d.frm) ++ (rowsE' (jobB 3) d.jobs ++ (rowsE' (nodeB 3) d.nodes ++ (rowsE' leaseB d.leases ++ (rowsE' textE d.gj ++ (rowsE' textE d.gn ++ rowsE' textE d.gl))))))
def delR : Dec DelD := bindD intD fun a => bindD intD fun n => bindD (rowsD 40 (jobR U 3)) fun j => bindD (rowsD 20 (nodeR U 3)) fun nd => bindD (rowsD 40 (leaseR U)) fun l => bindD (rowsD 40 (textD U)) fun gj => bindD (rowsD 20 (textD U)) fun gn => bindD (rowsD 40 (textD U)) fun gl => pureD ⟨a, a + n, j, nd, l, gj, gn, gl⟩
theorem delC : Codec (okDel U) delB (delR U) := by
  have c := Codec.seq intC (fun _ _ => Codec.seq intC (fun _ _ => Codec.seq ((jobC U 3).rows 40 (by omega)) (fun _ _ => Codec.seq ((nodeC U 3).rows 20 (by omega)) (fun _ _ => Codec.seq ((leaseC U).rows 40 (by omega)) (fun _ _ => Codec.seq ((textC U).rows 40 (by omega)) (fun _ _ => Codec.seq ((textC U).rows 20 (by omega)) (fun _ _ => (textC U).rows 40 (by omega))))))))
  have c2 := Codec.iso c (fun x => (⟨x.1, x.1 + x.2.1, x.2.2.1, x.2.2.2.1, x.2.2.2.2.1, x.2.2.2.2.2.1, x.2.2.2.2.2.2.1, x.2.2.2.2.2.2.2⟩ : DelD)) (fun d => (d.frm, d.til - d.frm, d.jobs, d.nodes, d.leases, d.gj, d.gn, d.gl)) (okDel U)
    (fun d hd => ⟨hd, by cases d; simp only [DelD.mk.injEq, and_true, true_and]; omega⟩) (fun x hx => ⟨⟨hx.1, by simp only; rw [show x.1 + x.2.1 - x.1 = x.2.1 by omega]; exact hx.2.1, hx.2.2⟩, by simp only; rw [show x.1 + x.2.1 - x.1 = x.2.1 by omega]⟩)
  simp only [bindD_assoc, bindD_pure] at c2
  exact c2
theorem nz_del : NZ (delR U) := by
  have hj : NZ (jobR U 3) := nz_bind (nz_text U) fun _ => nz_bind nz_zig fun _ => nz_bind nz_int fun _ => nz_bind (nz_if _ nz_int (nz_pure _)) fun _ => nz_bind (nz_if _ (nz_text U) (nz_pure _)) fun _ => nz_pure _
  have hn : NZ (nodeR U 3) := nz_bind (nz_text U) fun _ => nz_bind nz_int fun _ => nz_bind (nz_if _ (nz_text U) (nz_pure _)) fun _ => nz_pure _
  have hl : NZ (leaseR U) := nz_bind (nz_text U) fun _ => nz_bind (nz_text U) fun _ => nz_bind nz_int fun _ => nz_pure _
  exact nz_bind nz_int fun _ => nz_bind nz_int fun _ => nz_bind (nz_rows hj _) fun _ => nz_bind (nz_rows hn _) fun _ => nz_bind (nz_rows hl _) fun _ => nz_bind (nz_rows (nz_text U) _) fun _ => nz_bind (nz_rows (nz_text U) _) fun _ => nz_bind (nz_rows (nz_text U) _) fun _ => nz_pure _
theorem name_note {s : ByteArray} (h : isName U s = true) : isNote U s = true := by
  simp only [isName, Bool.and_eq_true] at h; exact h.2
/-- A delta that may be can be told. -/
theorem ok_del {d : DelD} (h : ValidD U d) : okDel U d := by
  obtain ⟨h0, ⟨⟨l1, l2, l3, l4⟩, l5, l6⟩, ⟨hj, _⟩, ⟨hn, _⟩, ⟨hl, _⟩, ⟨g1, _⟩, ⟨g2, _⟩, ⟨g3, _⟩⟩ := h
  refine ⟨⟨by omega, by omega⟩, ⟨by omega, by omega⟩, ⟨l1, fun j hm => ?_⟩, ⟨l5, fun n hm => ?_⟩, ⟨l2, fun l hm => ?_⟩, ⟨l3, fun x hm => name_note U (g1 x hm).1⟩, ⟨l6, fun x hm => name_note U (g2 x hm).1⟩, ⟨l4, fun x hm => name_note U (g3 x hm).1⟩⟩
  · have z := (jobE_zero U j).1 (hj j hm)
    refine ⟨name_note U z.1.1, ?_, ⟨by omega, by omega⟩, ?_, ?_⟩
    · unfold zig; split <;> omega
    · rw [if_pos (by decide)]; omega
    · rw [if_pos (by decide)]; exact z.1.2
  · have z := (nodeE_zero U n).1 (hn n hm)
    refine ⟨name_note U z.1.1, ⟨by omega, by omega⟩, ?_⟩
    rw [if_pos (by decide)]; exact z.1.2
  · have z := (leaseCE_zero U l).1 (hl l hm)
    exact ⟨name_note U z.1.1, name_note U z.1.2, by omega, by omega⟩
/-- What Encode and Decode answer. -/
def dencR (d : DelD) : List UInt8 × Nat := if dcheckE U d ≠ 0 then ([], dcheckE U d) else if 6000 < (delB d).length then ([], 2) else (delB d, 0)
def ddecR (l : List UInt8) : DelD × Nat := if 6000 < l.length then (zeroDel, 2) else match delR U l with
  | .inl e => (zeroDel, e)
  | .inr (d, m) => if m ≠ [] then (zeroDel, 4) else if dcheckE U d ≠ 0 then (zeroDel, dcheckE U d) else (d, 0)
end
section
variable {U : ByteArray → Bool}
theorem denc_inv {d : DelD} {l : List UInt8} (h : dencR U d = (l, 0)) : dcheckE U d = 0 ∧ l = delB d ∧ (delB d).length ≤ 6000 := by
  unfold dencR at h
  split at h
  · rename_i h0; simp only [Prod.mk.injEq] at h; exact absurd h.2 h0
  · rename_i h0
    split at h
    · simp at h
    · rename_i h1; simp only [Prod.mk.injEq, and_true] at h; exact ⟨by simpa using h0, h.symm, by omega⟩
theorem del_back {d : DelD} (h : dcheckE U d = 0) (hl : (delB d).length ≤ 6000) : ddecR U (delB d) = (d, 0) := by
  have hb := (delC U).back d [] (ok_del U ((dcheck_zero U d).1 h))
  rw [List.append_nil] at hb
  unfold ddecR
  rw [if_neg (by omega), hb]
  simp [h]
theorem del_more {d : DelD} (h : dcheckE U d = 0) {m : List UInt8} (hm : m ≠ []) (hl : (delB d ++ m).length ≤ 6000) : ddecR U (delB d ++ m) = (zeroDel, 4) := by
  unfold ddecR
  rw [if_neg (by omega), (delC U).back d m (ok_del U ((dcheck_zero U d).1 h))]
  simp [hm]
theorem del_cut {d : DelD} (h : dcheckE U d = 0) {k : Nat} (hk : k < (delB d).length) (hl : (delB d).length ≤ 6000) : ddecR U ((delB d).take k) = (zeroDel, 3) := by
  unfold ddecR
  rw [if_neg (by rw [List.length_take]; omega), (delC U).cut d k (ok_del U ((dcheck_zero U d).1 h)) hk]
theorem del_read {l : List UInt8} {d : DelD} (h : ddecR U l = (d, 0)) : dcheckE U d = 0 ∧ delB d = l ∧ l.length ≤ 6000 := by
  unfold ddecR at h
  by_cases h6 : 6000 < l.length
  · rw [if_pos h6] at h; simp at h
  · rw [if_neg h6] at h
    cases hr : delR U l with
    | inl e => rw [hr] at h; simp only [Prod.mk.injEq] at h; exact absurd h.2 (nz_del U l e hr)
    | inr x =>
      obtain ⟨t, m⟩ := x
      rw [hr] at h
      simp only at h
      by_cases hm : m ≠ []
      · rw [if_pos hm] at h; simp at h
      · rw [if_neg hm] at h
        have hm : m = [] := by simpa using hm
        by_cases hc : dcheckE U t ≠ 0
        · rw [if_pos hc] at h; simp only [Prod.mk.injEq] at h; exact absurd h.2 hc
        · rw [if_neg hc] at h
          simp only [Prod.mk.injEq, and_true] at h
          subst h hm
          obtain ⟨_, hl⟩ := (delC U).sound _ _ _ hr
          exact ⟨by simpa using hc, by rw [hl, List.append_nil], by omega⟩
theorem del_err {l : List UInt8} {d : DelD} {c : Nat} (h : ddecR U l = (d, c)) (hc : c ≠ 0) : d = zeroDel := by
  unfold ddecR at h
  split at h
  · simp only [Prod.mk.injEq] at h; exact h.1.symm
  · split at h
    · simp only [Prod.mk.injEq] at h; exact h.1.symm
    · split at h
      · simp only [Prod.mk.injEq] at h; exact h.1.symm
      · split at h
        · simp only [Prod.mk.injEq] at h; exact h.1.symm
        · simp only [Prod.mk.injEq] at h; exact absurd h.2.symm hc
end
/-- What Diff and Apply answer. -/
noncomputable def diffR (U : ByteArray → Bool) (a b : StD) : DelD × Nat := if checkE U a ≠ 0 then (zeroDel, checkE U a) else if checkE U b ≠ 0 then (zeroDel, checkE U b) else if a.rev < b.rev then (diffS a b, 0) else (zeroDel, 1)
def goneIn (s : StD) (d : DelD) : Bool := d.gj.all (hasJob s.jobs) && d.gn.all (hasNode s.nodes) && d.gl.all (hasLease s.leases)
noncomputable def applyR (U : ByteArray → Bool) (s : StD) (d : DelD) : StD × Nat :=
  if checkE U s ≠ 0 then (zeroSt, checkE U s) else if dcheckE U d ≠ 0 then (zeroSt, dcheckE U d) else if d.frm ≠ s.rev then (zeroSt, 10) else if goneIn s d = true then (if checkE U (applyS s d) ≠ 0 then (zeroSt, checkE U (applyS s d)) else (applyS s d, 0)) else (zeroSt, 6)
section
variable {U : ByteArray → Bool}
theorem diffR_ok {a b : StD} (ha : checkE U a = 0) (hb : checkE U b = 0) (hr : a.rev < b.rev) : diffR U a b = (diffS a b, 0) := by unfold diffR; rw [if_neg (by simp [ha]), if_neg (by simp [hb]), if_pos hr]
theorem apply_back {a b : StD} (ha : checkE U a = 0) (hb : checkE U b = 0) (hr : a.rev < b.rev) : applyR U a (diffS a b) = (b, 0) := by
  have va := (check_zero U a).1 ha
  have vb := (check_zero U b).1 hb
  have hd := (dcheck_zero U _).2 (valid_diff va vb hr)
  have hg : goneIn a (diffS a b) = true := by
    have g := gone_there (a := a) (b := b)
    simp only [goneIn, Bool.and_eq_true, List.all_eq_true]
    exact ⟨⟨g.1, g.2.1⟩, g.2.2⟩
  unfold applyR
  rw [if_neg (by simp [ha]), if_neg (by simp [hd]), if_neg (show ¬ (diffS a b).frm ≠ a.rev by simp [diffS]), if_pos hg, apply_diffS va vb, if_neg (by simp [hb])]
theorem apply_old {s : StD} {d : DelD} (hs : checkE U s = 0) (hd : dcheckE U d = 0) (h : d.frm ≠ s.rev) : applyR U s d = (zeroSt, 10) := by unfold applyR; rw [if_neg (by simp [hs]), if_neg (by simp [hd]), if_pos h]
end
end Go.Proofs.YtiekgafopalfmaaGreatDoor

/- The coder's way through a delta, as a plain machine (no program). -/
namespace Go.Proofs.YtiekgafopalfmaaGreatDoor
open Go.RowKit

def delS (d : DelD) : St DelD := bindS (numbS d.frm) fun a => bindS (numbS (d.til - a)) fun n => bindS (rowsS 40 zJob (jobS 3) d.jobs) fun j => bindS (rowsS 20 zNode (nodeS 3) d.nodes) fun nd => bindS (rowsS 40 zLease leaseS d.leases) fun l =>
  bindS (rowsS 40 ⟨#[]⟩ txtS d.gj) fun gj => bindS (rowsS 20 ⟨#[]⟩ txtS d.gn) fun gn => bindS (rowsS 40 ⟨#[]⟩ txtS d.gl) fun gl => pureS ⟨a, wrap64 (a + n), j, nd, l, gj, gn, gl⟩
theorem wrap_in {n : Int} (h : -9223372036854775808 ≤ n ∧ n ≤ 9223372036854775807) : wrap64 n = n := by unfold wrap64; omega
theorem wrt_del {U : ByteArray → Bool} {d : DelD} (h : okDel U d) (ht : d.til ≤ 9223372036854775807) : Wrt (delS d) d (delB d) := by
  obtain ⟨h1, h2, h3, h4, h5, h6, h7, h8⟩ := h
  have e : (⟨d.frm, wrap64 (d.frm + (d.til - d.frm)), d.jobs, d.nodes, d.leases, d.gj, d.gn, d.gl⟩ : DelD) = d := by
    have : wrap64 (d.frm + (d.til - d.frm)) = d.til := by rw [wrap_in (by omega)]; omega
    rw [this]
  have := wrt_bind (wrt_numb h1.1) (g := fun a => bindS (numbS (d.til - a)) fun n => bindS (rowsS 40 zJob (jobS 3) d.jobs) fun j => bindS (rowsS 20 zNode (nodeS 3) d.nodes) fun nd => bindS (rowsS 40 zLease leaseS d.leases) fun l =>
      bindS (rowsS 40 ⟨#[]⟩ txtS d.gj) fun gj => bindS (rowsS 20 ⟨#[]⟩ txtS d.gn) fun gn => bindS (rowsS 40 ⟨#[]⟩ txtS d.gl) fun gl => pureS (⟨a, wrap64 (a + n), j, nd, l, gj, gn, gl⟩ : DelD))
    (wrt_bind (wrt_numb h2.1) (wrt_bind (wrt_rows 40 zJob d.jobs (fun x hx => wrt_job (h3.2 x hx))) (wrt_bind (wrt_rows 20 zNode d.nodes (fun x hx => wrt_node (h4.2 x hx))) (wrt_bind (wrt_rows 40 zLease d.leases (fun x hx => wrt_lease (h5.2 x hx)))
      (wrt_bind (wrt_rows 40 ⟨#[]⟩ d.gj (fun x _ => wrt_txt x)) (wrt_bind (wrt_rows 20 ⟨#[]⟩ d.gn (fun x _ => wrt_txt x)) (wrt_bind (wrt_rows 40 ⟨#[]⟩ d.gl (fun x _ => wrt_txt x)) (wrt_pure _))))))))
  rw [List.append_nil, e] at this
  exact this
/-- The reader, with the sum as a machine makes it. -/
def delRW : Dec DelD := bindD intD fun a => bindD intD fun n => bindD (rowsD 40 (jobR V8 3)) fun j => bindD (rowsD 20 (nodeR V8 3)) fun nd => bindD (rowsD 40 (leaseR V8)) fun l => bindD (rowsD 40 (textD V8)) fun gj => bindD (rowsD 20 (textD V8)) fun gn => bindD (rowsD 40 (textD V8)) fun gl => pureD ⟨a, wrap64 (a + n), j, nd, l, gj, gn, gl⟩
theorem rdg_del : Rdg delRW (delS zeroDel) :=
  rdg_bind (rdg_numb _) fun _ => rdg_bind (rdg_numb _) fun _ => rdg_bind (rdg_rows 40 zJob (rdg_job 3)) fun _ => rdg_bind (rdg_rows 20 zNode (rdg_node 3)) fun _ => rdg_bind (rdg_rows 40 zLease rdg_lease) fun _ =>
    rdg_bind (rdg_rows 40 ⟨#[]⟩ (rdg_txt _)) fun _ => rdg_bind (rdg_rows 20 ⟨#[]⟩ (rdg_txt _)) fun _ => rdg_bind (rdg_rows 40 ⟨#[]⟩ (rdg_txt _)) fun _ => rdg_pure _
def wrapD (d : DelD) : DelD := { d with til := wrap64 d.til }
theorem delRW_is (l : List UInt8) : delRW l = match delR V8 l with
  | .inl e => .inl e
  | .inr (d, m) => .inr (wrapD d, m) := by
  have e : delRW = bindD (delR V8) fun d => pureD (wrapD d) := by
    unfold delRW delR
    simp only [bindD_assoc, bindD_pure]
    rfl
  rw [e]
  cases h : delR V8 l with
  | inl e => rw [bindD_err h]
  | inr x =>
    obtain ⟨d, m⟩ := x
    rw [bindD_ok h]
    rfl
theorem wrap_ok {d : DelD} (h : okDel V8 d) : dcheckE V8 (wrapD d) = dcheckE V8 d ∧ (dcheckE V8 d = 0 → wrapD d = d) ∧ (Lit.int .i64 (wrapD d).til).wf = true := by
  obtain ⟨h1, h2, _⟩ := h
  by_cases hb : d.til ≤ 9223372036854775807
  · have e : wrapD d = d := by
      unfold wrapD
      rw [wrap_in (by omega)]
    rw [e]
    refine ⟨rfl, fun _ => rfl, ?_⟩
    simp [Lit.wf, IntKind.min, IntKind.max, IntKind.signed, IntKind.bits]; omega
  · have e : d.til = 9223372036854775808 := by omega
    have e1 : wrap64 d.til = -9223372036854775808 := by rw [e]; unfold wrap64; omega
    have z : ∀ t : Int, ¬ (d.frm ≤ 1099511627776) → headDE { d with til := t } = 1 := by
      intro t ht
      unfold headDE
      rw [if_neg]
      rw [Bool.and_eq_true, inR_iff, inR_iff]
      intro hc
      exact ht hc.1.2
    have z0 := z d.til (by omega)
    have z1 := z (wrap64 d.til) (by omega)
    have w0 : dcheckE V8 d = 1 := by
      unfold dcheckE
      rw [show headDE d = 1 from z0]
      rfl
    have w1 : dcheckE V8 (wrapD d) = 1 := by
      unfold dcheckE
      rw [show headDE (wrapD d) = 1 from z1]
      rfl
    refine ⟨by rw [w0, w1], fun h => absurd h (by rw [w0]; omega), ?_⟩
    show (Lit.int .i64 (wrap64 d.til)).wf = true
    rw [e1]
    decide
/-- What Decode answers at bytes that are not too many. -/
def dreadR (l : List UInt8) : DelD × Nat := match delR V8 l with
  | .inl e => (zeroDel, e)
  | .inr (d, m) => if m ≠ [] then (zeroDel, 4) else if dcheckE V8 d ≠ 0 then (zeroDel, dcheckE V8 d) else (d, 0)
theorem ddec_is (l : List UInt8) : ddecR V8 l = if 6000 < l.length then (zeroDel, 2) else dreadR l := rfl
/-- What was read may be handed on. -/
def readOk (d : DelD) : Prop := ((0 ≤ d.frm ∧ d.frm ≤ 4611686018427387904) ∧ (Lit.int .i64 d.til).wf = true) ∧ (d.jobs.length ≤ 40 ∧ ∀ x ∈ d.jobs, okJob V8 3 x) ∧ (d.nodes.length ≤ 20 ∧ ∀ x ∈ d.nodes, okNode V8 3 x) ∧ (d.leases.length ≤ 40 ∧ ∀ x ∈ d.leases, okLease V8 x) ∧
  (d.gj.length ≤ 40 ∧ ∀ x ∈ d.gj, isNote V8 x = true) ∧ (d.gn.length ≤ 20 ∧ ∀ x ∈ d.gn, isNote V8 x = true) ∧ (d.gl.length ≤ 40 ∧ ∀ x ∈ d.gl, isNote V8 x = true)
theorem dread_cases (s : ByteArray) :
    (endE (delS zeroDel ⟨true, [], s, 0⟩).2 ≠ 0 ∧ dreadR s.data.toList = (zeroDel, endE (delS zeroDel ⟨true, [], s, 0⟩).2)) ∨
    (endE (delS zeroDel ⟨true, [], s, 0⟩).2 = 0 ∧ readOk (delS zeroDel ⟨true, [], s, 0⟩).1 ∧
      dreadR s.data.toList = if dcheckE V8 (delS zeroDel ⟨true, [], s, 0⟩).1 ≠ 0 then (zeroDel, dcheckE V8 (delS zeroDel ⟨true, [], s, 0⟩).1) else ((delS zeroDel ⟨true, [], s, 0⟩).1, 0)) := by
  have h := (rdg_del ⟨true, [], s, 0⟩ rfl).1 rfl
  simp only at h
  rw [delRW_is] at h
  cases hr : delR V8 s.data.toList with
  | inl e =>
    left
    rw [hr] at h
    have h1 := h.1 e rfl
    have e1 : endE (delS zeroDel ⟨true, [], s, 0⟩).2 = e := by
      unfold endE
      rw [h1.2.2.1, h1.2.1]
      simp [ByteArray.size]
    rw [e1]
    refine ⟨h1.1, ?_⟩
    unfold dreadR
    rw [hr]
  | inr x =>
    obtain ⟨t, r⟩ := x
    rw [hr] at h
    have h1 := h.2 (wrapD t) r rfl
    rw [h1]
    simp only
    by_cases hz : r = []
    · right
      subst hz
      have e1 : endE ⟨true, [], ⟨([] : List UInt8).toArray⟩, 0⟩ = 0 := rfl
      have hok := ((delC V8).sound _ _ _ hr).1
      obtain ⟨w1, w2, w3⟩ := wrap_ok hok
      refine ⟨e1, ⟨⟨hok.1, w3⟩, hok.2.2⟩, ?_⟩
      unfold dreadR
      rw [hr, w1]
      by_cases hc : dcheckE V8 t ≠ 0
      · simp [hc]
      · have hc : dcheckE V8 t = 0 := by simpa using hc
        rw [w2 hc]
        simp [hc]
    · left
      have e1 : endE ⟨true, [], ⟨r.toArray⟩, 0⟩ = 4 := by
        unfold endE
        have : (⟨r.toArray⟩ : ByteArray).size ≠ 0 := by
          simp [ByteArray.size]; exact hz
        rw [if_pos this]; rfl
      rw [e1]
      refine ⟨by omega, ?_⟩
      unfold dreadR
      rw [hr]
      simp [hz]
end Go.Proofs.YtiekgafopalfmaaGreatDoor
