/- Plain facts on the wire format of states (no program): rows and states in a version. U stands for 'is valid UTF-8'. -/
import Derived.Test.YtdbopgmckndmeaaDoorWiPlain
namespace Go.Proofs.YtdbopgmckndmeaaDoor

theorem bindD_pure {α β : Type} (a : α) (f : α → Dec β) : bindD (pureD a) f = f a := rfl
theorem bindD_assoc {α β γ : Type} (d : Dec α) (f : α → Dec β) (g : β → Dec γ) : bindD (bindD d f) g = bindD d fun a => bindD (f a) g := by
  funext l
  unfold bindD
  cases d l <;> rfl
/-- A field that is there or not. -/
theorem Codec.opt {α : Type} {P : α → Prop} {enc : α → List UInt8} {dec : Dec α} (c : Codec P enc dec) (b : Bool) (z : α) : Codec (fun a => if b then P a else a = z) (fun a => if b then enc a else []) (if b then dec else pureD z) := by
  cases b with
  | true => exact c
  | false => exact Codec.none z
/-- Rows: how many, then each. -/
def rowsD {α : Type} (most : Nat) (d : Dec α) : Dec (List α) := bindD (numD most) fun n => repD d n
def rowsE' {α : Type} (e : α → List UInt8) (l : List α) : List UInt8 := num l.length ++ l.flatMap e
theorem Codec.rows {α : Type} {P : α → Prop} {enc : α → List UInt8} {dec : Dec α} (c : Codec P enc dec) (most : Nat) (h : most < 18446744073709551616) : Codec (fun l : List α => l.length ≤ most ∧ ∀ x ∈ l, P x) (rowsE' enc) (rowsD most dec) := by
  have c1 := Codec.seq (numC most h) (fun n _ => c.rep n)
  have c2 := Codec.iso c1 (fun x => x.2) (fun l => (l.length, l)) (fun l : List α => l.length ≤ most ∧ ∀ x ∈ l, P x) (fun l hl => ⟨⟨hl.1, rfl, hl.2⟩, rfl⟩) (fun x hx => by
    obtain ⟨n, l⟩ := x
    obtain ⟨h1, h2, h3⟩ := hx
    simp only at h1 h2 h3
    subst h2
    exact ⟨⟨h1, h3⟩, rfl⟩)
  have e : rowsD most dec = bindD (bindD (numD most) fun a => bindD (repD dec a) fun b => pureD (a, b)) fun a => pureD a.2 := by
    unfold rowsD
    rw [bindD_assoc]
    congr 1
    funext n
    rw [bindD_assoc]
    funext l
    unfold bindD
    cases repD dec n l <;> rfl
  rw [e]
  exact c2
section
variable (U : ByteArray → Bool) (v : Int)
def okJob (j : JobD) : Prop := isNote U j.name = true ∧ zig j.prio ≤ 4611686018427387904 ∧ (0 ≤ j.need ∧ j.need ≤ 4611686018427387904) ∧ (if decide (1 < v) then (0 ≤ j.tries ∧ j.tries ≤ 4611686018427387904) else j.tries = 0) ∧ (if decide (2 < v) then isNote U j.tag = true else j.tag = ⟨#[]⟩)
def jobB (j : JobD) : List UInt8 := textE j.name ++ (zigE j.prio ++ (intE j.need ++ ((if decide (1 < v) then intE j.tries else []) ++ (if decide (2 < v) then textE j.tag else []))))
def jobR : Dec JobD := bindD (textD U) fun a => bindD zigD fun b => bindD intD fun c => bindD (if decide (1 < v) then intD else pureD 0) fun d => bindD (if decide (2 < v) then textD U else pureD ⟨#[]⟩) fun e => pureD ⟨a, b, c, d, e⟩
theorem jobC : Codec (okJob U v) (jobB v) (jobR U v) := by
  have c := Codec.seq (textC U) (fun _ _ => Codec.seq zigC (fun _ _ => Codec.seq intC (fun _ _ => Codec.seq (Codec.opt intC (decide (1 < v)) 0) (fun _ _ => Codec.opt (textC U) (decide (2 < v)) ⟨#[]⟩))))
  have c2 := Codec.iso c (fun x => (⟨x.1, x.2.1, x.2.2.1, x.2.2.2.1, x.2.2.2.2⟩ : JobD)) (fun j => (j.name, j.prio, j.need, j.tries, j.tag)) (okJob U v) (fun j hj => ⟨hj, rfl⟩) (fun x hx => ⟨hx, rfl⟩)
  simp only [bindD_assoc, bindD_pure] at c2
  exact c2
def okNode (n : NodeD) : Prop := isNote U n.name = true ∧ (0 ≤ n.room ∧ n.room ≤ 4611686018427387904) ∧ (if decide (1 < v) then isNote U n.zone = true else n.zone = ⟨#[]⟩)
def nodeB (n : NodeD) : List UInt8 := textE n.name ++ (intE n.room ++ (if decide (1 < v) then textE n.zone else []))
def nodeR : Dec NodeD := bindD (textD U) fun a => bindD intD fun b => bindD (if decide (1 < v) then textD U else pureD ⟨#[]⟩) fun c => pureD ⟨a, b, c⟩
theorem nodeC : Codec (okNode U v) (nodeB v) (nodeR U v) := by
  have c := Codec.seq (textC U) (fun _ _ => Codec.seq intC (fun _ _ => Codec.opt (textC U) (decide (1 < v)) ⟨#[]⟩))
  have c2 := Codec.iso c (fun x => (⟨x.1, x.2.1, x.2.2⟩ : NodeD)) (fun n => (n.name, n.room, n.zone)) (okNode U v) (fun j hj => ⟨hj, rfl⟩) (fun x hx => ⟨hx, rfl⟩)
  simp only [bindD_assoc, bindD_pure] at c2
  exact c2
def okLease (l : LeaseD) : Prop := isNote U l.job = true ∧ isNote U l.node = true ∧ (0 ≤ l.til ∧ l.til ≤ 4611686018427387904)
def leaseB (l : LeaseD) : List UInt8 := textE l.job ++ (textE l.node ++ intE l.til)
def leaseR : Dec LeaseD := bindD (textD U) fun a => bindD (textD U) fun b => bindD intD fun c => pureD ⟨a, b, c⟩
theorem leaseC : Codec (okLease U) leaseB (leaseR U) := by
  have c := Codec.seq (textC U) (fun _ _ => Codec.seq (textC U) (fun _ _ => intC))
  have c2 := Codec.iso c (fun x => (⟨x.1, x.2.1, x.2.2⟩ : LeaseD)) (fun n => (n.job, n.node, n.til)) (okLease U) (fun j hj => ⟨hj, rfl⟩) (fun x hx => ⟨hx, rfl⟩)
  simp only [bindD_assoc, bindD_pure] at c2
  exact c2
def okSt (s : StD) : Prop := (if decide (2 < v) then (0 ≤ s.rev ∧ s.rev ≤ 4611686018427387904) else s.rev = 0) ∧ (s.jobs.length ≤ 40 ∧ ∀ x ∈ s.jobs, okJob U v x) ∧ (s.nodes.length ≤ 20 ∧ ∀ x ∈ s.nodes, okNode U v x) ∧ (s.leases.length ≤ 40 ∧ ∀ x ∈ s.leases, okLease U x)
def stB (s : StD) : List UInt8 := (if decide (2 < v) then intE s.rev else []) ++ (rowsE' (jobB v) s.jobs ++ (rowsE' (nodeB v) s.nodes ++ rowsE' leaseB s.leases))
def stR : Dec StD := bindD (if decide (2 < v) then intD else pureD 0) fun a => bindD (rowsD 40 (jobR U v)) fun b => bindD (rowsD 20 (nodeR U v)) fun c => bindD (rowsD 40 (leaseR U)) fun d => pureD ⟨a, b, c, d⟩
theorem stC : Codec (okSt U v) (stB v) (stR U v) := by
  have c := Codec.seq (Codec.opt intC (decide (2 < v)) 0) (fun _ _ => Codec.seq ((jobC U v).rows 40 (by omega)) (fun _ _ => Codec.seq ((nodeC U v).rows 20 (by omega)) (fun _ _ => (leaseC U).rows 40 (by omega))))
  have c2 := Codec.iso c (fun x => (⟨x.1, x.2.1, x.2.2.1, x.2.2.2⟩ : StD)) (fun s => (s.rev, s.jobs, s.nodes, s.leases)) (okSt U v) (fun j hj => ⟨hj, rfl⟩) (fun x hx => ⟨hx, rfl⟩)
  simp only [bindD_assoc, bindD_pure] at c2
  exact c2
/-! ### whole states -/
def zeroSt : StD := ⟨0, [], [], []⟩
/-- What Decode answers in a version from 1 to 3. -/
def wireD (l : List UInt8) : StD × Nat := match stR U v l with
  | .inl e => (zeroSt, e)
  | .inr (s, m) => if m ≠ [] then (zeroSt, 4) else if checkE U s ≠ 0 then (zeroSt, checkE U s) else (s, 0)
end
theorem empty_of_size {s : ByteArray} (h : s.size = 0) : s = ⟨#[]⟩ := by
  cases s with
  | mk d =>
    have : d.size = 0 := h
    rw [Array.eq_empty_of_size_eq_zero this]
theorem isName_note {U : ByteArray → Bool} {s : ByteArray} (h : isName U s = true) : isNote U s = true := by
  unfold isName at h
  exact (Bool.and_eq_true _ _ ▸ h).2
theorem ok_of_valid {U : ByteArray → Bool} {v : Int} {s : StD} (h : Valid U s) (hf : fitsD s v = true) : okSt U v s := by
  simp only [fitsD, Bool.and_eq_true, Bool.or_eq_true, List.all_eq_true, decide_eq_true_eq] at hf
  obtain ⟨⟨f1, f2⟩, f3⟩ := hf
  obtain ⟨h1, ⟨h2, h3, h4⟩, ⟨hj, _⟩, ⟨hn, _⟩, ⟨hl, _⟩, _⟩ := h
  have noteJ : ∀ x, hasJob s.jobs x = true → isNote U x = true := fun x hx => by
    obtain ⟨j, hj1, rfl⟩ := (hasJob_iff _ _).1 hx
    exact isName_note ((jobE_zero U j).1 (hj j hj1)).1.1
  have noteN : ∀ x, hasNode s.nodes x = true → isNote U x = true := fun x hx => by
    obtain ⟨n, hn1, rfl⟩ := (hasNode_iff _ _).1 hx
    exact isName_note ((nodeE_zero U n).1 (hn n hn1)).1.1
  refine ⟨?_, ⟨h2, fun j hj' => ?_⟩, ⟨h4, fun n hn' => ?_⟩, h3, fun l hl' => ?_⟩
  · by_cases hv : 2 < v
    · simp only [hv, decide_true, if_true]; omega
    · simp only [hv, decide_false, Bool.false_eq_true, if_false]; omega
  · have z := (jobE_zero U j).1 (hj j hj')
    have f := f2 j hj'
    refine ⟨isName_note z.1.1, by unfold zig; split <;> omega, by omega, ?_, ?_⟩
    · by_cases hv : 1 < v
      · simp only [hv, decide_true, if_true]; omega
      · simp only [hv, decide_false, Bool.false_eq_true, if_false]; omega
    · by_cases hv : 2 < v
      · simp only [hv, decide_true, if_true]; exact z.1.2
      · simp only [hv, decide_false, Bool.false_eq_true, if_false]; exact empty_of_size (by omega)
  · have z := (nodeE_zero U n).1 (hn n hn')
    have f := f3 n hn'
    refine ⟨isName_note z.1.1, by omega, ?_⟩
    by_cases hv : 1 < v
    · simp only [hv, decide_true, if_true]; exact z.1.2
    · simp only [hv, decide_false, Bool.false_eq_true, if_false]; exact empty_of_size (by omega)
  · have z := (leaseE_zero _ _ _).1 (hl l hl')
    exact ⟨noteJ _ z.1, noteN _ z.2.1, by omega⟩
theorem fits_of_ok {U : ByteArray → Bool} {v : Int} {s : StD} (h : okSt U v s) : fitsD s v = true := by
  obtain ⟨h1, ⟨_, hj⟩, ⟨_, hn⟩, _⟩ := h
  simp only [fitsD, Bool.and_eq_true, Bool.or_eq_true, List.all_eq_true, decide_eq_true_eq]
  refine ⟨⟨?_, fun j hj' => ⟨?_, ?_⟩⟩, fun n hn' => ?_⟩
  · by_cases hv : 2 < v
    · exact .inl (by omega)
    · simp only [hv, decide_false, Bool.false_eq_true, if_false] at h1; exact .inr h1
  · have z := (hj j hj').2.2.2.2
    by_cases hv : 2 < v
    · exact .inl (by omega)
    · simp only [hv, decide_false, Bool.false_eq_true, if_false] at z; exact .inr (by rw [z]; rfl)
  · have z := (hj j hj').2.2.2.1
    by_cases hv : 1 < v
    · exact .inl (by omega)
    · simp only [hv, decide_false, Bool.false_eq_true, if_false] at z; exact .inr z
  · have z := (hn n hn').2.2
    by_cases hv : 1 < v
    · exact .inl (by omega)
    · simp only [hv, decide_false, Bool.false_eq_true, if_false] at z; exact .inr (by rw [z]; rfl)
section
variable {U : ByteArray → Bool} {v : Int}
theorem wire_back {s : StD} (h : checkE U s = 0) (hf : fitsD s v = true) : wireD U v (stB v s) = (s, 0) := by
  have hb := (stC U v).back s [] (ok_of_valid ((check_zero U s).1 h) hf)
  rw [List.append_nil] at hb
  unfold wireD
  rw [hb]
  simp [h]
theorem wire_more {s : StD} (h : checkE U s = 0) (hf : fitsD s v = true) {m : List UInt8} (hm : m ≠ []) : wireD U v (stB v s ++ m) = (zeroSt, 4) := by
  unfold wireD
  rw [(stC U v).back s m (ok_of_valid ((check_zero U s).1 h) hf)]
  simp [hm]
theorem wire_cut {s : StD} (h : checkE U s = 0) (hf : fitsD s v = true) {k : Nat} (hk : k < (stB v s).length) : wireD U v ((stB v s).take k) = (zeroSt, 3) := by
  unfold wireD
  rw [(stC U v).cut s k (ok_of_valid ((check_zero U s).1 h) hf) hk]
theorem wire_read {l : List UInt8} {s : StD} (h : wireD U v l = (s, 0)) (h0 : ∀ e, stR U v l = .inl e → e ≠ 0) : checkE U s = 0 ∧ fitsD s v = true ∧ stB v s = l := by
  unfold wireD at h
  cases hr : stR U v l with
  | inl e => rw [hr] at h; simp only [Prod.mk.injEq] at h; exact absurd h.2 (h0 e hr)
  | inr x =>
    obtain ⟨t, m⟩ := x
    rw [hr] at h
    simp only at h
    by_cases hm : m ≠ []
    · rw [if_pos hm] at h; simp at h
    · rw [if_neg hm] at h
      have hm : m = [] := by simpa using hm
      by_cases hc : checkE U t ≠ 0
      · rw [if_pos hc] at h; simp only [Prod.mk.injEq] at h; exact absurd h.2 hc
      · rw [if_neg hc] at h
        simp only [Prod.mk.injEq, and_true] at h
        subst h hm
        obtain ⟨hp, hl⟩ := (stC U v).sound _ _ _ hr
        exact ⟨by simpa using hc, fits_of_ok hp, by rw [hl, List.append_nil]⟩
theorem wire_one {s t : StD} (hs : checkE U s = 0) (fs : fitsD s v = true) (ht : checkE U t = 0) (ft : fitsD t v = true) (h : stB v s = stB v t) : s = t :=
  (stC U v).inj (ok_of_valid ((check_zero U s).1 hs) fs) (ok_of_valid ((check_zero U t).1 ht) ft) h
end
end Go.Proofs.YtdbopgmckndmeaaDoor
