/- The reference's reader of the JSON form as a plain reader (no program): it reads what was printed. -/
import Derived.Test.YthbgaphidojneaaGreatDoorJsState
import Derived.Test.YthbgaphidojneaaGreatDoorJsBound
import Derived.Test.YthbgaphidojneaaGreatDoorPkWi1
namespace Go.Proofs.YthbgaphidojneaaGreatDoor

/-- A text that must stand there. -/
def litD (p : List UInt8) : Dec Unit := fun l => if l.take p.length = p then .inr ((), l.drop p.length) else .inl 4
theorem litD_ok (p m : List UInt8) : litD p (p ++ m) = .inr ((), m) := by
  unfold litD
  rw [List.take_left' rfl, if_pos rfl, List.drop_left' rfl]
/-- Digits, up to so many: the number, and how many there were. -/
def digGo : Nat → Nat → List UInt8 → Nat × Nat
  | 0, n, _ => (n, 0)
  | _ + 1, n, [] => (n, 0)
  | f + 1, n, c :: l => if 48 ≤ c.toNat ∧ c.toNat ≤ 57 then ((digGo f (10 * n + (c.toNat - 48)) l).1, (digGo f (10 * n + (c.toNat - 48)) l).2 + 1) else (n, 0)
def digFin (neg : Bool) : Dec Int := fun l => if (digGo 18 0 l).2 = 0 then .inl 4 else .inr (if neg then -((digGo 18 0 l).1 : Int) else ((digGo 18 0 l).1 : Int), l.drop (digGo 18 0 l).2)
def digD : Dec Int := fun l => if l.head? = some 45 then digFin true l.tail else digFin false l
def valOf (n : Nat) (ds : List UInt8) : Nat := ds.foldl (fun n c => 10 * n + (c.toNat - 48)) n
theorem digGo_all : ∀ (ds : List UInt8) (f n : Nat) (c : UInt8) (m : List UInt8), (∀ x ∈ ds, 48 ≤ x.toNat ∧ x.toNat ≤ 57) → ds.length ≤ f → ¬ (48 ≤ c.toNat ∧ c.toNat ≤ 57) → digGo f n (ds ++ c :: m) = (valOf n ds, ds.length)
  | [], f, n, c, m, _, _, hc => by
    cases f with
    | zero => rfl
    | succ f => simp only [List.nil_append, digGo]; rw [if_neg hc]; rfl
  | x :: ds, f, n, c, m, hd, hf, hc => by
    cases f with
    | zero => simp at hf
    | succ f =>
      have hx := hd x (List.mem_cons_self ..)
      simp only [List.cons_append, digGo]
      rw [if_pos hx, digGo_all ds f _ c m (fun y hy => hd y (List.mem_cons_of_mem _ hy)) (by simpa using hf) hc]
      rfl
theorem ofNat_dig {k : Nat} (h : k < 10) : (UInt8.ofNat (48 + k)).toNat = 48 + k := by simp; omega
theorem valOf_digN : ∀ n : Nat, valOf 0 (digN n) = n := by
  intro n
  induction n using Nat.strongRecOn with
  | ind n ih =>
    by_cases h : n < 10
    · rw [digN_lt h]
      simp only [valOf, List.foldl_cons, List.foldl_nil, ofNat_dig h]
      omega
    · have h2 := ih (n / 10) (by omega)
      rw [digN_ge h]
      unfold valOf at h2 ⊢
      rw [List.foldl_append, h2]
      simp only [List.foldl_cons, List.foldl_nil, ofNat_dig (show n % 10 < 10 by omega)]
      omega
theorem digD_ok {n : Int} (h : -1000000000000000000 < n ∧ n < 1000000000000000000) {c : UInt8} (hc : ¬ (48 ≤ c.toNat ∧ c.toNat ≤ 57)) (m : List UInt8) : digD (digZ n ++ c :: m) = .inr (n, c :: m) := by
  have key : ∀ k : Nat, k < 1000000000000000000 → digGo 18 0 (digN k ++ c :: m) = (k, (digN k).length) := by
    intro k hk
    rw [digGo_all (digN k) 18 0 c m (fun x hx => digN_mem k x hx) (digN_len 17 k (by omega)) hc, valOf_digN]
  have fin : ∀ (neg : Bool) (k : Nat), k < 1000000000000000000 → digFin neg (digN k ++ c :: m) = .inr (if neg then -(k : Int) else (k : Int), c :: m) := by
    intro neg k hk
    have hp := digN_pos k
    unfold digFin
    simp only [key k hk]
    rw [if_neg (by omega), List.drop_left' rfl]
  unfold digD digZ
  by_cases hn : n < 0
  · rw [if_pos hn, List.cons_append]
    simp only [List.head?_cons, List.tail_cons, if_true]
    rw [fin true _ (by omega)]
    simp only [if_true]
    congr 2
    omega
  · rw [if_neg hn]
    obtain ⟨x, r, hx, hne⟩ := digN_head n.toNat
    have h0 : (digN n.toNat ++ c :: m).head? ≠ some 45 := by rw [hx]; simpa using hne
    rw [if_neg h0, fin false _ (by omega)]
    congr 2
    simp only [Bool.false_eq_true, if_false]
    omega
/-- One sign of a quoted text; none: its end. -/
def escAt (l : List UInt8) : Option Nat := (List.range 32).find? fun d => decide (l.take 6 = escB (UInt8.ofNat d))
def stepQ (l : List UInt8) : Sum Nat (Option UInt8 × List UInt8) :=
  if l.take 1 = [34] then .inr (none, l.drop 1)
  else if l.take 2 = [92, 34] then .inr (some 34, l.drop 2)
  else if l.take 2 = [92, 92] then .inr (some 92, l.drop 2)
  else match escAt l with
  | some d => .inr (some (UInt8.ofNat d), l.drop 6)
  | none => match l with
    | [] => .inl 4
    | c :: m => if c = 92 then .inl 4 else .inr (some c, m)
def quoGo : Nat → List UInt8 → Dec (List UInt8)
  | 0, _, _ => .inl 4
  | f + 1, out, l => match stepQ l with
    | .inl e => .inl e
    | .inr (none, m) => .inr (out, m)
    | .inr (some c, m) => quoGo f (out ++ [c]) m
def quoD : Dec (List UInt8) := bindD (litD [34]) fun _ l => quoGo (l.length + 1) [] l
theorem escB_low {c : UInt8} (h : c.toNat < 32) : escB c = [92, 117, 48, 48, hexB (c.toNat / 16), hexB (c.toNat % 16)] := by
  unfold escB
  rw [if_neg (by rintro (rfl | rfl) <;> simp at h), if_pos h]
theorem escAt_low {c : UInt8} (h : c.toNat < 32) (m : List UInt8) : escAt (escB c ++ m) = some c.toNat := by
  unfold escAt
  have e6 : (escB c ++ m).take 6 = escB c := by rw [escB_low h]; rfl
  rw [e6]
  have huniq : ∀ d, d < 32 → escB c = escB (UInt8.ofNat d) → d = c.toNat := by
    intro d hd e
    have := (escB_pf (m := []) (n := []) (by simpa using e)).1
    have h2 : c.toNat = d := by rw [this]; simp; omega
    exact h2.symm
  rw [List.find?_range_eq_some]
  refine ⟨?_, by simpa using h, fun j hj => ?_⟩
  · simp
  · simp only [Bool.not_eq_true', decide_eq_false_iff_not]
    intro e
    have := huniq j (by omega) e
    omega
theorem escAt_none {c : UInt8} (h : c ≠ 92) (m : List UInt8) : escAt (c :: m) = none := by
  unfold escAt
  rw [List.find?_eq_none]
  intro d hd
  simp only [decide_eq_true_eq]
  intro e
  have hd' : d < 32 := by simpa using hd
  rw [escB_low (by simp; omega)] at e
  simp only [List.take_succ_cons, List.cons.injEq] at e
  exact h e.1
theorem stepQ_esc (c : UInt8) (m : List UInt8) : stepQ (escB c ++ m) = .inr (some c, m) := by
  by_cases h1 : c = 34
  · subst h1; rfl
  · by_cases h2 : c = 92
    · subst h2; rfl
    · by_cases h3 : c.toNat < 32
      · have e := escAt_low h3 m
        have e1 := escB_low h3
        unfold stepQ
        rw [e]
        rw [if_neg (by rw [e1]; simp), if_neg (by rw [e1]; simp), if_neg (by rw [e1]; simp)]
        simp only
        rw [e1]
        simp
      · have e1 : escB c = [c] := by unfold escB; rw [if_neg (by rintro (rfl | rfl) <;> simp_all), if_neg h3]
        rw [e1]
        unfold stepQ
        simp only [List.cons_append, List.nil_append]
        rw [escAt_none h2 m, if_neg (by simpa using h1), if_neg (by simp [h2]), if_neg (by simp [h2])]
        simp only
        rw [if_neg h2]
theorem quoGo_ok : ∀ (s : List UInt8) (f : Nat) (out m : List UInt8), s.length < f → quoGo f out (escL s ++ 34 :: m) = .inr (out ++ s, m)
  | [], f, out, m, hf => by
    cases f with
    | zero => omega
    | succ f => simp [quoGo, escL, stepQ]
  | c :: s, f, out, m, hf => by
    cases f with
    | zero => omega
    | succ f =>
      have e : escL (c :: s) ++ 34 :: m = escB c ++ (escL s ++ 34 :: m) := by simp [escL]
      rw [e, quoGo, stepQ_esc]
      simp only
      rw [quoGo_ok s f (out ++ [c]) m (by simpa using hf)]
      simp
theorem escL_len (s : List UInt8) : s.length ≤ (escL s).length := by
  induction s with
  | nil => simp
  | cons c s ih =>
    obtain ⟨x, r, hx, _⟩ := escB_ne c
    have e : escL (c :: s) = escB c ++ escL s := by simp [escL]
    rw [e, hx]
    simp only [List.length_cons, List.length_append]
    omega
theorem quoD_ok (s m : List UInt8) : quoD (quoteL s ++ m) = .inr (s, m) := by
  have e : quoteL s ++ m = [34] ++ (escL s ++ 34 :: m) := by simp [quoteL]
  unfold quoD
  rw [e, bindD_ok (litD_ok _ _), quoGo_ok s _ [] m (by have := escL_len s; simp only [List.length_append, List.length_cons]; omega)]
  rfl
/-- The elements of a list, with commas, up to the bracket. -/
def rowsGo {α : Type} (d : Dec α) : Nat → Bool → List α → Dec (List α)
  | 0, _, _, _ => .inl 4
  | f + 1, first, acc, l => if l.take 1 = [93] then .inr (acc, l.drop 1) else bindD (if first then pureD () else litD [44]) (fun _ => bindD d fun x => rowsGo d f false (acc ++ [x])) l
def rowsJ {α : Type} (d : Dec α) : Dec (List α) := fun l => rowsGo d (l.length + 1) true [] l
theorem rowsJ_ok {α : Type} {P : α → Prop} {d : Dec α} {g : α → List UInt8} (hd : ∀ x m, P x → d (g x ++ m) = .inr (x, m)) (h0 : ∀ x, ∃ r, g x = 123 :: r) (xs : List α) (hP : ∀ x ∈ xs, P x) (m : List UInt8) : rowsJ d (listL g xs ++ m) = .inr (xs, m) := by
  have tail : ∀ (xs : List α) (f : Nat) (acc : List α) (m : List UInt8), (∀ x ∈ xs, P x) → xs.length < f → rowsGo d f false acc (tailL g xs ++ m) = .inr (acc ++ xs, m) := by
    intro xs
    induction xs with
    | nil =>
      intro f acc m _ hf
      cases f with
      | zero => omega
      | succ f => simp [rowsGo, tailL]
    | cons x xs ih =>
      intro f acc m hx hf
      cases f with
      | zero => omega
      | succ f =>
        have e : tailL g (x :: xs) ++ m = [44] ++ (g x ++ (tailL g xs ++ m)) := by simp [tailL]
        rw [e, rowsGo, if_neg (by simp)]
        simp only [Bool.false_eq_true, if_false]
        rw [bindD_ok (litD_ok _ _), bindD_ok (hd x _ (hx x (List.mem_cons_self ..))), ih f (acc ++ [x]) m (fun y hy => hx y (List.mem_cons_of_mem _ hy)) (by simpa using hf)]
        simp
  have len : ∀ xs : List α, xs.length ≤ (tailL g xs).length := by
    intro xs
    induction xs with
    | nil => simp
    | cons x xs ih => simp only [tailL, List.length_cons, List.length_append]; omega
  cases xs with
  | nil => simp [rowsJ, rowsGo, listL]
  | cons x xs =>
    obtain ⟨r, hr⟩ := h0 x
    have e : listL g (x :: xs) ++ m = g x ++ (tailL g xs ++ m) := by simp [listL]
    have hne : ¬ (g x ++ (tailL g xs ++ m)).take 1 = [93] := by rw [hr]; simp
    unfold rowsJ
    rw [e, rowsGo, if_neg hne]
    simp only [if_true]
    rw [bindD_ok (d := pureD ()) (l := g x ++ (tailL g xs ++ m)) rfl, bindD_ok (hd x _ (hP x (List.mem_cons_self ..))), tail xs _ ([] ++ [x]) m (fun y hy => hP y (List.mem_cons_of_mem _ hy)) (by
      have := len xs
      rw [hr]
      simp only [List.cons_append, List.length_cons, List.length_append]
      omega)]
    simp
def quoB : Dec ByteArray := bindD quoD fun s => pureD ⟨s.toArray⟩
theorem quoB_ok (s : ByteArray) (m : List UInt8) : quoB (quoteB s ++ m) = .inr (s, m) := by
  unfold quoB quoteB
  rw [bindD_ok (quoD_ok _ _)]
  rfl
def jobP : Dec JobD := bindD (litD [123, 34, 110, 97, 109, 101, 34, 58]) fun _ => bindD quoB fun a => bindD (litD [44, 34, 112, 114, 105, 111, 34, 58]) fun _ => bindD digD fun b => bindD (litD [44, 34, 110, 101, 101, 100, 34, 58]) fun _ => bindD digD fun c => bindD (litD [44, 34, 116, 114, 105, 101, 115, 34, 58]) fun _ => bindD digD fun d => bindD (litD [44, 34, 116, 97, 103, 34, 58]) fun _ => bindD quoB fun e => bindD (litD [125]) fun _ => pureD ⟨a, b, c, d, e⟩
theorem jobP_ok (j : JobD) (m : List UInt8) (h : small18 j.prio ∧ small18 j.need ∧ small18 j.tries) : jobP (jobJ j ++ m) = .inr (j, m) := by
  have e : jobJ j ++ m = [123, 34, 110, 97, 109, 101, 34, 58] ++ (quoteB j.name ++ ([44, 34, 112, 114, 105, 111, 34, 58] ++ (digZ j.prio ++ 44 :: ([34, 110, 101, 101, 100, 34, 58] ++ (digZ j.need ++ 44 :: ([34, 116, 114, 105, 101, 115, 34, 58] ++ (digZ j.tries ++ 44 :: ([34, 116, 97, 103, 34, 58] ++ (quoteB j.tag ++ ([125] ++ m)))))))))) := by simp [jobJ]
  have c44 : ¬ (48 ≤ (44 : UInt8).toNat ∧ (44 : UInt8).toNat ≤ 57) := by decide
  unfold jobP
  rw [e, bindD_ok (litD_ok _ _), bindD_ok (quoB_ok _ _), bindD_ok (litD_ok _ _), bindD_ok (digD_ok h.1 c44 _)]
  rw [show (44 : UInt8) :: ([34, 110, 101, 101, 100, 34, 58] ++ (digZ j.need ++ 44 :: ([34, 116, 114, 105, 101, 115, 34, 58] ++ (digZ j.tries ++ 44 :: ([34, 116, 97, 103, 34, 58] ++ (quoteB j.tag ++ ([125] ++ m))))))) = [44, 34, 110, 101, 101, 100, 34, 58] ++ (digZ j.need ++ 44 :: ([34, 116, 114, 105, 101, 115, 34, 58] ++ (digZ j.tries ++ 44 :: ([34, 116, 97, 103, 34, 58] ++ (quoteB j.tag ++ ([125] ++ m)))))) from rfl]
  rw [bindD_ok (litD_ok _ _), bindD_ok (digD_ok h.2.1 c44 _)]
  rw [show (44 : UInt8) :: ([34, 116, 114, 105, 101, 115, 34, 58] ++ (digZ j.tries ++ 44 :: ([34, 116, 97, 103, 34, 58] ++ (quoteB j.tag ++ ([125] ++ m))))) = [44, 34, 116, 114, 105, 101, 115, 34, 58] ++ (digZ j.tries ++ 44 :: ([34, 116, 97, 103, 34, 58] ++ (quoteB j.tag ++ ([125] ++ m)))) from rfl]
  rw [bindD_ok (litD_ok _ _), bindD_ok (digD_ok h.2.2 c44 _)]
  rw [show (44 : UInt8) :: ([34, 116, 97, 103, 34, 58] ++ (quoteB j.tag ++ ([125] ++ m))) = [44, 34, 116, 97, 103, 34, 58] ++ (quoteB j.tag ++ ([125] ++ m)) from rfl]
  rw [bindD_ok (litD_ok _ _), bindD_ok (quoB_ok _ _), bindD_ok (litD_ok _ _)]
  rfl
def nodeP : Dec NodeD := bindD (litD [123, 34, 110, 97, 109, 101, 34, 58]) fun _ => bindD quoB fun a => bindD (litD [44, 34, 114, 111, 111, 109, 34, 58]) fun _ => bindD digD fun b => bindD (litD [44, 34, 122, 111, 110, 101, 34, 58]) fun _ => bindD quoB fun e => bindD (litD [125]) fun _ => pureD ⟨a, b, e⟩
theorem nodeP_ok (n : NodeD) (m : List UInt8) (h : small18 n.room) : nodeP (nodeJ n ++ m) = .inr (n, m) := by
  have e : nodeJ n ++ m = [123, 34, 110, 97, 109, 101, 34, 58] ++ (quoteB n.name ++ ([44, 34, 114, 111, 111, 109, 34, 58] ++ (digZ n.room ++ 44 :: ([34, 122, 111, 110, 101, 34, 58] ++ (quoteB n.zone ++ ([125] ++ m)))))) := by simp [nodeJ]
  have c44 : ¬ (48 ≤ (44 : UInt8).toNat ∧ (44 : UInt8).toNat ≤ 57) := by decide
  unfold nodeP
  rw [e, bindD_ok (litD_ok _ _), bindD_ok (quoB_ok _ _), bindD_ok (litD_ok _ _), bindD_ok (digD_ok h c44 _)]
  rw [show (44 : UInt8) :: ([34, 122, 111, 110, 101, 34, 58] ++ (quoteB n.zone ++ ([125] ++ m))) = [44, 34, 122, 111, 110, 101, 34, 58] ++ (quoteB n.zone ++ ([125] ++ m)) from rfl]
  rw [bindD_ok (litD_ok _ _), bindD_ok (quoB_ok _ _), bindD_ok (litD_ok _ _)]
  rfl
def leaseP : Dec LeaseD := bindD (litD [123, 34, 106, 111, 98, 34, 58]) fun _ => bindD quoB fun a => bindD (litD [44, 34, 110, 111, 100, 101, 34, 58]) fun _ => bindD quoB fun b => bindD (litD [44, 34, 117, 110, 116, 105, 108, 34, 58]) fun _ => bindD digD fun c => bindD (litD [125]) fun _ => pureD ⟨a, b, c⟩
theorem leaseP_ok (n : LeaseD) (m : List UInt8) (h : small18 n.til) : leaseP (leaseJ n ++ m) = .inr (n, m) := by
  have e : leaseJ n ++ m = [123, 34, 106, 111, 98, 34, 58] ++ (quoteB n.job ++ ([44, 34, 110, 111, 100, 101, 34, 58] ++ (quoteB n.node ++ ([44, 34, 117, 110, 116, 105, 108, 34, 58] ++ (digZ n.til ++ 125 :: m))))) := by simp [leaseJ]
  have c125 : ¬ (48 ≤ (125 : UInt8).toNat ∧ (125 : UInt8).toNat ≤ 57) := by decide
  unfold leaseP
  rw [e, bindD_ok (litD_ok _ _), bindD_ok (quoB_ok _ _), bindD_ok (litD_ok _ _), bindD_ok (quoB_ok _ _), bindD_ok (litD_ok _ _), bindD_ok (digD_ok h c125 _)]
  rw [show (125 : UInt8) :: m = [125] ++ m from rfl, bindD_ok (litD_ok _ _)]
  rfl
/-- The whole reader. -/
def stP : Dec StD := bindD (litD [123, 34, 114, 101, 118, 34, 58]) fun _ => bindD digD fun r => bindD (litD [44, 34, 106, 111, 98, 115, 34, 58, 91]) fun _ => bindD (rowsJ jobP) fun j => bindD (litD [44, 34, 110, 111, 100, 101, 115, 34, 58, 91]) fun _ => bindD (rowsJ nodeP) fun n => bindD (litD [44, 34, 108, 101, 97, 115, 101, 115, 34, 58, 91]) fun _ => bindD (rowsJ leaseP) fun l => bindD (litD [125]) fun _ => pureD ⟨r, j, n, l⟩
theorem stP_ok (s : StD) (m : List UInt8) (hr : small18 s.rev) (hj : ∀ j ∈ s.jobs, small18 j.prio ∧ small18 j.need ∧ small18 j.tries) (hn : ∀ n ∈ s.nodes, small18 n.room) (hl : ∀ l ∈ s.leases, small18 l.til) : stP (stJ s ++ m) = .inr (s, m) := by
  have e : stJ s ++ m = [123, 34, 114, 101, 118, 34, 58] ++ (digZ s.rev ++ 44 :: ([34, 106, 111, 98, 115, 34, 58, 91] ++ (listL jobJ s.jobs ++ ([44, 34, 110, 111, 100, 101, 115, 34, 58, 91] ++ (listL nodeJ s.nodes ++ ([44, 34, 108, 101, 97, 115, 101, 115, 34, 58, 91] ++ (listL leaseJ s.leases ++ ([125] ++ m)))))))) := by simp [stJ]
  have c44 : ¬ (48 ≤ (44 : UInt8).toNat ∧ (44 : UInt8).toNat ≤ 57) := by decide
  unfold stP
  rw [e, bindD_ok (litD_ok _ _), bindD_ok (digD_ok hr c44 _)]
  rw [show (44 : UInt8) :: ([34, 106, 111, 98, 115, 34, 58, 91] ++ (listL jobJ s.jobs ++ ([44, 34, 110, 111, 100, 101, 115, 34, 58, 91] ++ (listL nodeJ s.nodes ++ ([44, 34, 108, 101, 97, 115, 101, 115, 34, 58, 91] ++ (listL leaseJ s.leases ++ ([125] ++ m))))))) = [44, 34, 106, 111, 98, 115, 34, 58, 91] ++ (listL jobJ s.jobs ++ ([44, 34, 110, 111, 100, 101, 115, 34, 58, 91] ++ (listL nodeJ s.nodes ++ ([44, 34, 108, 101, 97, 115, 101, 115, 34, 58, 91] ++ (listL leaseJ s.leases ++ ([125] ++ m)))))) from rfl]
  rw [bindD_ok (litD_ok _ _), bindD_ok (rowsJ_ok (fun x m h => jobP_ok x m h) (fun x => ⟨_, rfl⟩) s.jobs hj _), bindD_ok (litD_ok _ _), bindD_ok (rowsJ_ok (fun x m h => nodeP_ok x m h) (fun x => ⟨_, rfl⟩) s.nodes hn _), bindD_ok (litD_ok _ _), bindD_ok (rowsJ_ok (fun x m h => leaseP_ok x m h) (fun x => ⟨_, rfl⟩) s.leases hl _), bindD_ok (litD_ok _ _)]
  rfl
/-- A state that may be is read back from its form. -/
theorem stP_valid {U : ByteArray → Bool} {s : StD} (h : Valid U s) (m : List UInt8) : stP (stJ s ++ m) = .inr (s, m) := by
  obtain ⟨h1, _, ⟨hj, _⟩, ⟨hn, _⟩, ⟨hl, _⟩, _⟩ := h
  refine stP_ok s m ⟨by omega, by omega⟩ (fun j hm => ?_) (fun n hm => ?_) (fun l hm => ?_)
  · have z := (jobE_zero U j).1 (hj j hm)
    exact ⟨⟨by omega, by omega⟩, ⟨by omega, by omega⟩, ⟨by omega, by omega⟩⟩
  · have z := (nodeE_zero U n).1 (hn n hm)
    exact ⟨by omega, by omega⟩
  · have z := (leaseE_zero _ _ _).1 (hl l hm)
    exact ⟨by omega, by omega⟩
end Go.Proofs.YthbgaphidojneaaGreatDoor
