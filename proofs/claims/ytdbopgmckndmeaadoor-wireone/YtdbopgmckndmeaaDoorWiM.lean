/- The coder of package wire as a plain machine (no program): what each of its functions answers, where it writes and where it reads. -/
import Derived.Test.YtdbopgmckndmeaaDoorTxtPlain
import Derived.Test.YtdbopgmckndmeaaDoorWiMore
namespace Go.Proofs.YtdbopgmckndmeaaDoor
open Go.RowKit Go.Lib

/-- The machine: whether it reads, what it wrote, what is left to read, the first error. -/
structure M where
  reading : Bool
  gs : List UInt8
  rest : ByteArray
  e : Nat
abbrev St (α : Type) := M → α × M
def pureS {α : Type} (a : α) : St α := fun m => (a, m)
def bindS {α β : Type} (f : St α) (g : α → St β) : St β := fun m => g (f m).1 (f m).2
def M.fail (m : M) (e : Nat) : M := { m with e := if m.e = 0 then e else m.e }
def M.adv (m : M) (k e : Nat) : M := if e = 0 then { m with rest := m.rest.extract k m.rest.size } else { m.fail e with rest := ⟨#[]⟩ }
def limS (most n : Nat) : St Nat := fun m =>
  if m.reading = true then
    (if most < (rd m.rest.data.toList).1 then (0, m.adv (rd m.rest.data.toList).2.1 2) else ((rd m.rest.data.toList).1, m.adv (rd m.rest.data.toList).2.1 (rd m.rest.data.toList).2.2))
  else (n, { m with gs := m.gs ++ num n })
def txtS (s : ByteArray) : St ByteArray := fun m => if m.reading = true then ((rdT m.rest).1, m.adv (rdT m.rest).2.1 (rdT m.rest).2.2) else (s, { m with gs := m.gs ++ textE s })
def numbS (n : Int) : St Int := bindS (limS 4611686018427387904 n.toNat) fun k => pureS (k : Int)
def sgnS (n : Int) : St Int := bindS (limS 4611686018427387904 (zig n).toNat) fun k => pureS (zag (k : Int))
def goS {α : Type} (f : α → St α) : List α → St (List α)
  | [] => pureS []
  | x :: l => bindS (f x) fun y => bindS (goS f l) fun ys => pureS (y :: ys)
/-- The rows that are passed: those of a list, and zero ones behind them. -/
def padL {α : Type} (z : α) (l : List α) (n : Nat) : List α := (List.range n).map fun i => l.getD i z
def rowsS {α : Type} (most : Nat) (z : α) (f : α → St α) (l : List α) : St (List α) := bindS (limS most l.length) fun n => goS f (padL z l n)
def zJob : JobD := ⟨⟨#[]⟩, 0, 0, 0, ⟨#[]⟩⟩
def zNode : NodeD := ⟨⟨#[]⟩, 0, ⟨#[]⟩⟩
def zLease : LeaseD := ⟨⟨#[]⟩, ⟨#[]⟩, 0⟩
def jobS (v : Int) (j : JobD) : St JobD := bindS (txtS j.name) fun a => bindS (sgnS j.prio) fun b => bindS (numbS j.need) fun c => bindS (if decide (1 < v) then numbS j.tries else pureS j.tries) fun d => bindS (if decide (2 < v) then txtS j.tag else pureS j.tag) fun e => pureS ⟨a, b, c, d, e⟩
def nodeS (v : Int) (j : NodeD) : St NodeD := bindS (txtS j.name) fun a => bindS (numbS j.room) fun b => bindS (if decide (1 < v) then txtS j.zone else pureS j.zone) fun c => pureS ⟨a, b, c⟩
def leaseS (j : LeaseD) : St LeaseD := bindS (txtS j.job) fun a => bindS (txtS j.node) fun b => bindS (numbS j.til) fun c => pureS ⟨a, b, c⟩
def wholeS (v : Int) (s : StD) : St StD := bindS (if decide (2 < v) then numbS s.rev else pureS s.rev) fun a => bindS (rowsS 40 zJob (jobS v) s.jobs) fun b => bindS (rowsS 20 zNode (nodeS v) s.nodes) fun c => bindS (rowsS 40 zLease leaseS s.leases) fun d => pureS ⟨a, b, c, d⟩

/-! ### writing -/
/-- It writes these bytes, and passes this value. -/
def Wrt {α : Type} (f : St α) (a : α) (l : List UInt8) : Prop := ∀ m, m.reading = false → f m = (a, { m with gs := m.gs ++ l })
theorem wrt_pure {α : Type} (a : α) : Wrt (pureS a) a [] := fun m _ => by simp [pureS]
theorem wrt_bind {α β : Type} {f : St α} {g : α → St β} {a : α} {b : β} {l k : List UInt8} (hf : Wrt f a l) (hg : Wrt (g a) b k) : Wrt (bindS f g) b (l ++ k) := by
  intro m hm
  unfold bindS
  rw [hf m hm]
  simp only
  rw [hg { m with gs := m.gs ++ l } hm]
  simp
theorem wrt_lim (most n : Nat) : Wrt (limS most n) n (num n) := fun m hm => by simp [limS, hm]
theorem wrt_txt (s : ByteArray) : Wrt (txtS s) s (textE s) := fun m hm => by simp [txtS, hm]
theorem wrt_numb {n : Int} (h : 0 ≤ n) : Wrt (numbS n) n (intE n) := by
  have := wrt_bind (wrt_lim 4611686018427387904 n.toNat) (g := fun k : Nat => pureS (k : Int)) (wrt_pure _)
  rw [List.append_nil] at this
  have e : ((n.toNat : Nat) : Int) = n := by omega
  rw [e] at this
  exact this
theorem wrt_sgn (n : Int) : Wrt (sgnS n) n (zigE n) := by
  have := wrt_bind (wrt_lim 4611686018427387904 (zig n).toNat) (g := fun k : Nat => pureS (zag (k : Int))) (wrt_pure _)
  rw [List.append_nil] at this
  have h0 := zig_lo n
  have e : (((zig n).toNat : Nat) : Int) = zig n := by omega
  rw [e, zag_zig] at this
  exact this
theorem wrt_if {α : Type} {f : St α} {a : α} {l : List UInt8} (c : Bool) (h : Wrt f a l) : Wrt (if c then f else pureS a) a (if c then l else []) := by
  cases c with
  | true => exact h
  | false => exact wrt_pure a
theorem wrt_go {α : Type} {f : α → St α} {enc : α → List UInt8} : ∀ (l : List α), (∀ x ∈ l, Wrt (f x) x (enc x)) → Wrt (goS f l) l (l.flatMap enc)
  | [], _ => wrt_pure _
  | x :: l, h => by
    have h1 := wrt_bind (h x (by simp)) (g := fun y => bindS (goS f l) fun ys => pureS (y :: ys)) (wrt_bind (wrt_go l (fun y hy => h y (by simp [hy]))) (g := fun ys => pureS (x :: ys)) (wrt_pure _))
    rw [List.append_nil] at h1
    exact h1
theorem padL_self {α : Type} (z : α) (l : List α) : padL z l l.length = l := by
  apply List.ext_getElem
  · simp [padL]
  · intro i h1 h2
    simp [padL, h2]
theorem wrt_rows {α : Type} {f : α → St α} {enc : α → List UInt8} (most : Nat) (z : α) (l : List α) (h : ∀ x ∈ l, Wrt (f x) x (enc x)) : Wrt (rowsS most z f l) l (rowsE' enc l) := by
  have := wrt_bind (wrt_lim most l.length) (g := fun n => goS f (padL z l n)) (by rw [padL_self]; exact wrt_go l h)
  exact this
theorem wrt_job {U : ByteArray → Bool} {v : Int} {j : JobD} (h : okJob U v j) : Wrt (jobS v j) j (jobB v j) := by
  obtain ⟨h1, h2, h3, h4, h5⟩ := h
  have t4 : Wrt (if decide (1 < v) then numbS j.tries else pureS j.tries) j.tries (if decide (1 < v) then intE j.tries else []) := by
    by_cases hv : decide (1 < v) = true
    · rw [if_pos hv] at h4; rw [if_pos hv, if_pos hv]; exact wrt_numb h4.1
    · rw [if_neg hv, if_neg hv]; exact wrt_pure _
  have := wrt_bind (wrt_txt j.name) (g := fun a => bindS (sgnS j.prio) fun b => bindS (numbS j.need) fun c => bindS (if decide (1 < v) then numbS j.tries else pureS j.tries) fun d => bindS (if decide (2 < v) then txtS j.tag else pureS j.tag) fun e => pureS (⟨a, b, c, d, e⟩ : JobD))
    (wrt_bind (wrt_sgn j.prio) (wrt_bind (wrt_numb h3.1) (wrt_bind t4 (wrt_bind (wrt_if (decide (2 < v)) (wrt_txt j.tag)) (wrt_pure _)))))
  rw [List.append_nil] at this
  exact this
theorem wrt_node {U : ByteArray → Bool} {v : Int} {j : NodeD} (h : okNode U v j) : Wrt (nodeS v j) j (nodeB v j) := by
  have := wrt_bind (wrt_txt j.name) (g := fun a => bindS (numbS j.room) fun b => bindS (if decide (1 < v) then txtS j.zone else pureS j.zone) fun c => pureS (⟨a, b, c⟩ : NodeD))
    (wrt_bind (wrt_numb h.2.1.1) (wrt_bind (wrt_if (decide (1 < v)) (wrt_txt j.zone)) (wrt_pure _)))
  rw [List.append_nil] at this
  exact this
theorem wrt_lease {U : ByteArray → Bool} {j : LeaseD} (h : okLease U j) : Wrt (leaseS j) j (leaseB j) := by
  have := wrt_bind (wrt_txt j.job) (g := fun a => bindS (txtS j.node) fun b => bindS (numbS j.til) fun c => pureS (⟨a, b, c⟩ : LeaseD))
    (wrt_bind (wrt_txt j.node) (wrt_bind (wrt_numb h.2.2.1) (wrt_pure _)))
  rw [List.append_nil] at this
  exact this
theorem wrt_whole {U : ByteArray → Bool} {v : Int} {s : StD} (h : okSt U v s) : Wrt (wholeS v s) s (stB v s) := by
  obtain ⟨h1, h2, h3, h4⟩ := h
  have t1 : Wrt (if decide (2 < v) then numbS s.rev else pureS s.rev) s.rev (if decide (2 < v) then intE s.rev else []) := by
    by_cases hv : decide (2 < v) = true
    · rw [if_pos hv] at h1; rw [if_pos hv, if_pos hv]; exact wrt_numb h1.1
    · rw [if_neg hv, if_neg hv]; exact wrt_pure _
  have := wrt_bind t1 (g := fun a => bindS (rowsS 40 zJob (jobS v) s.jobs) fun b => bindS (rowsS 20 zNode (nodeS v) s.nodes) fun c => bindS (rowsS 40 zLease leaseS s.leases) fun d => pureS (⟨a, b, c, d⟩ : StD))
    (wrt_bind (wrt_rows 40 zJob s.jobs (fun x hx => wrt_job (h2.2 x hx))) (wrt_bind (wrt_rows 20 zNode s.nodes (fun x hx => wrt_node (h3.2 x hx))) (wrt_bind (wrt_rows 40 zLease s.leases (fun x hx => wrt_lease (h4.2 x hx))) (wrt_pure _))))
  rw [List.append_nil] at this
  exact this

/-! ### reading -/
/-- It reads as 'd' does; behind an error nothing is left, and the first one stays. -/
def Rdg {α : Type} (d : Dec α) (f : St α) : Prop := ∀ m, m.reading = true →
  (m.e = 0 → (∀ e, d m.rest.data.toList = .inl e → e ≠ 0 ∧ (f m).2.e = e ∧ (f m).2.rest = ⟨#[]⟩ ∧ (f m).2.reading = true) ∧ (∀ a r, d m.rest.data.toList = .inr (a, r) → f m = (a, { m with rest := ⟨r.toArray⟩ }))) ∧
  (m.e ≠ 0 → m.rest = ⟨#[]⟩ → (f m).2 = m)
theorem rdg_pure {α : Type} (a : α) : Rdg (pureD a) (pureS a) := by
  intro m hm
  refine ⟨fun _ => ⟨fun e he => (by cases he), fun a' r h => ?_⟩, fun _ _ => rfl⟩
  simp only [pureD, Sum.inr.injEq, Prod.mk.injEq] at h
  obtain ⟨rfl, rfl⟩ := h
  rfl
theorem rdg_bind {α β : Type} {d : Dec α} {f : St α} {d' : α → Dec β} {g : α → St β} (hf : Rdg d f) (hg : ∀ a, Rdg (d' a) (g a)) : Rdg (bindD d d') (bindS f g) := by
  intro m hm
  have h1 := hf m hm
  refine ⟨fun he => ?_, fun he hr => ?_⟩
  · have h2 := h1.1 he
    cases hd : d m.rest.data.toList with
    | inl e =>
      have h3 := h2.1 e hd
      rw [bindD_err hd]
      refine ⟨fun e' he' => ?_, fun a r h => (by cases h)⟩
      simp only [Sum.inl.injEq] at he'
      subst he'
      have h4 := (hg (f m).1 (f m).2 h3.2.2.2).2 (by rw [h3.2.1]; exact h3.1) h3.2.2.1
      unfold bindS
      rw [h4]
      exact h3
    | inr x =>
      obtain ⟨a, r⟩ := x
      have h3 := h2.2 a r hd
      rw [bindD_ok hd]
      have h4 := (hg a { m with rest := ⟨r.toArray⟩ } hm).1 he
      unfold bindS
      rw [h3]
      simp only at h4 ⊢
      exact h4
  · have h2 := h1.2 he hr
    unfold bindS
    rw [h2]
    exact (hg (f m).1 m hm).2 he hr
theorem empty_data : (⟨#[]⟩ : ByteArray).data.toList = [] := rfl
theorem adv_stuck {m : M} (he : m.e ≠ 0) (hr : m.rest = ⟨#[]⟩) (k e : Nat) (h : e ≠ 0) : m.adv k e = m := by
  unfold M.adv M.fail
  rw [if_neg h, if_neg he]
  cases m
  simp only at hr
  subst hr
  rfl
theorem adv_err {m : M} (he : m.e = 0) (k e : Nat) (h : e ≠ 0) : (m.adv k e).e = e ∧ (m.adv k e).rest = ⟨#[]⟩ ∧ (m.adv k e).reading = m.reading := by
  unfold M.adv M.fail
  rw [if_neg h, if_pos he]
  exact ⟨rfl, rfl, rfl⟩
theorem drop_bytes (s : ByteArray) (k : Nat) : s.extract k s.size = ⟨(s.data.toList.drop k).toArray⟩ := by
  apply ByteArray.ext
  apply Array.ext'
  show (s.extract k s.size).data.toList = s.data.toList.drop k
  rw [ByteArray.data_extract, Array.toList_extract, List.extract_eq_take_drop, List.take_of_length_le (by simp)]
theorem rdg_lim (most n : Nat) : Rdg (numD most) (limS most n) := by
  intro m hm
  unfold limS
  rw [if_pos hm]
  refine ⟨fun he => ?_, fun he hr => ?_⟩
  · unfold numD
    by_cases h0 : (rd m.rest.data.toList).2.2 ≠ 0
    · have hz := rd_err h0
      rw [if_pos h0, if_neg (by rw [hz.1]; omega)]
      refine ⟨fun e h => ?_, fun a r h => (by cases h)⟩
      simp only [Sum.inl.injEq] at h
      subst h
      have := adv_err he (rd m.rest.data.toList).2.1 _ h0
      exact ⟨h0, this.1, this.2.1, by rw [this.2.2]; exact hm⟩
    · rw [if_neg h0]
      have h0 : (rd m.rest.data.toList).2.2 = 0 := by simpa using h0
      by_cases h1 : most < (rd m.rest.data.toList).1
      · rw [if_pos h1, if_pos h1]
        refine ⟨fun e h => ?_, fun a r h => (by cases h)⟩
        simp only [Sum.inl.injEq] at h
        subst h
        have := adv_err he (rd m.rest.data.toList).2.1 2 (by omega)
        exact ⟨by omega, this.1, this.2.1, by rw [this.2.2]; exact hm⟩
      · rw [if_neg h1, if_neg h1]
        refine ⟨fun e h => (by cases h), fun a r h => ?_⟩
        simp only [Sum.inr.injEq, Prod.mk.injEq] at h
        obtain ⟨rfl, rfl⟩ := h
        rw [h0]
        unfold M.adv
        rw [if_pos rfl, drop_bytes]
  · rw [hr]
    have e0 : rd (⟨#[]⟩ : ByteArray).data.toList = (0, 0, 3) := rfl
    rw [e0]
    simp only [Nat.not_lt_zero, if_false]
    exact adv_stuck he hr 0 3 (by omega)
theorem take_ext (s : ByteArray) (k n : Nat) : s.extract k (k + n) = ⟨((s.data.toList.drop k).take n).toArray⟩ := by
  apply ByteArray.ext
  apply Array.ext'
  simp [ByteArray.data_extract]
theorem size_l (s : ByteArray) : s.data.toList.length = s.size := by rw [Array.length_toList]; rfl
theorem rdg_txt (s : ByteArray) : Rdg (textD V8) (txtS s) := by
  intro m hm
  unfold txtS
  rw [if_pos hm]
  refine ⟨fun he => ?_, fun he hr => ?_⟩
  · obtain ⟨N, k, c, hr⟩ : ∃ N k c, rd m.rest.data.toList = (N, k, c) := ⟨_, _, _, rfl⟩
    unfold textD bindD numD rdT
    rw [hr]
    simp only
    by_cases h0 : c ≠ 0
    · rw [if_pos h0, if_pos h0]
      refine ⟨fun e h => ?_, fun a r h => (by cases h)⟩
      simp only [Sum.inl.injEq] at h
      subst h
      have := adv_err he 0 _ h0
      exact ⟨h0, this.1, this.2.1, by rw [this.2.2]; exact hm⟩
    · rw [if_neg h0, if_neg h0]
      have ho := rd_ok (l := m.rest.data.toList) (by rw [hr]; simpa using h0)
      rw [hr] at ho
      simp only at ho
      rw [size_l] at ho
      by_cases h1 : 16 < N
      · rw [if_pos h1, if_pos h1]
        refine ⟨fun e h => ?_, fun a r h => (by cases h)⟩
        simp only [Sum.inl.injEq] at h
        subst h
        have := adv_err he 0 2 (by omega)
        exact ⟨by omega, this.1, this.2.1, by rw [this.2.2]; exact hm⟩
      · rw [if_neg h1, if_neg h1]
        simp only [List.length_drop, size_l]
        by_cases h2 : m.rest.size < k + N
        · rw [if_pos h2, if_pos (by omega)]
          refine ⟨fun e h => ?_, fun a r h => (by cases h)⟩
          simp only [Sum.inl.injEq] at h
          subst h
          have := adv_err he 0 3 (by omega)
          exact ⟨by omega, this.1, this.2.1, by rw [this.2.2]; exact hm⟩
        · rw [if_neg h2, if_neg (by omega), take_ext]
          by_cases h3 : V8 ⟨((m.rest.data.toList.drop k).take N).toArray⟩ = true
          · have h3' : validD (⟨((m.rest.data.toList.drop k).take N).toArray⟩ : ByteArray).data.toList = true := h3
            rw [if_pos h3, if_pos h3']
            refine ⟨fun e h => (by cases h), fun a r h => ?_⟩
            simp only [Sum.inr.injEq, Prod.mk.injEq] at h
            obtain ⟨rfl, rfl⟩ := h
            unfold M.adv
            rw [if_pos rfl, drop_bytes, List.drop_drop]
          · have h3' : ¬ validD (⟨((m.rest.data.toList.drop k).take N).toArray⟩ : ByteArray).data.toList = true := h3
            rw [if_neg h3, if_neg h3']
            refine ⟨fun e h => ?_, fun a r h => (by cases h)⟩
            simp only [Sum.inl.injEq] at h
            subst h
            have := adv_err he 0 4 (by omega)
            exact ⟨by omega, this.1, this.2.1, by rw [this.2.2]; exact hm⟩
  · rw [hr]
    exact adv_stuck he hr 0 3 (by omega)
theorem rdg_if {α : Type} {d : Dec α} {f : St α} (c : Bool) (z : α) (h : Rdg d f) : Rdg (if c then d else pureD z) (if c then f else pureS z) := by
  cases c with
  | true => exact h
  | false => exact rdg_pure z
theorem rdg_numb (n : Int) : Rdg intD (numbS n) := rdg_bind (rdg_lim _ _) (fun _ => rdg_pure _)
theorem rdg_sgn (n : Int) : Rdg zigD (sgnS n) := rdg_bind (rdg_lim _ _) (fun _ => rdg_pure _)
theorem rdg_job (v : Int) : Rdg (jobR V8 v) (jobS v zJob) :=
  rdg_bind (rdg_txt _) fun _ => rdg_bind (rdg_sgn _) fun _ => rdg_bind (rdg_numb _) fun _ => rdg_bind (rdg_if _ _ (rdg_numb _)) fun _ => rdg_bind (rdg_if _ _ (rdg_txt _)) fun _ => rdg_pure _
theorem rdg_node (v : Int) : Rdg (nodeR V8 v) (nodeS v zNode) :=
  rdg_bind (rdg_txt _) fun _ => rdg_bind (rdg_numb _) fun _ => rdg_bind (rdg_if _ _ (rdg_txt _)) fun _ => rdg_pure _
theorem rdg_lease : Rdg (leaseR V8) (leaseS zLease) :=
  rdg_bind (rdg_txt _) fun _ => rdg_bind (rdg_txt _) fun _ => rdg_bind (rdg_numb _) fun _ => rdg_pure _
theorem rdg_go {α : Type} {d : Dec α} {f : α → St α} (z : α) (h : Rdg d (f z)) : ∀ n, Rdg (repD d n) (goS f (List.replicate n z))
  | 0 => rdg_pure _
  | n + 1 => rdg_bind h fun _ => rdg_bind (rdg_go z h n) fun _ => rdg_pure _
theorem padL_nil {α : Type} (z : α) (n : Nat) : padL z [] n = List.replicate n z := by
  apply List.ext_getElem
  · simp [padL]
  · intro i h1 h2
    simp [padL]
theorem rdg_rows {α : Type} {d : Dec α} {f : α → St α} (most : Nat) (z : α) (h : Rdg d (f z)) : Rdg (rowsD most d) (rowsS most z f []) :=
  rdg_bind (rdg_lim _ _) fun n => by rw [padL_nil]; exact rdg_go z h n
theorem rdg_whole (v : Int) : Rdg (stR V8 v) (wholeS v zeroSt) :=
  rdg_bind (rdg_if _ _ (rdg_numb _)) fun _ => rdg_bind (rdg_rows 40 zJob (rdg_job v)) fun _ => rdg_bind (rdg_rows 20 zNode (rdg_node v)) fun _ => rdg_bind (rdg_rows 40 zLease rdg_lease) fun _ => rdg_pure _
end Go.Proofs.YtdbopgmckndmeaaDoor
