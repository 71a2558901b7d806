import Derived.Test.YtiekgafopalfmaaGreatDoorRows
import Derived.Test.YtiekgafopalfmaaGreatDoorPkNum
import Derived.Test.YtiekgafopalfmaaGreatDoorPkSt1
import Derived.Test.YtiekgafopalfmaaGreatDoorPkTxt
/- Plain facts on codes of bytes (no program): what is told is read back, what is read was told so, and what is cut off is too short. -/
namespace Go.Proofs.YtiekgafopalfmaaGreatDoor

/-- A reader: an error's number, or what was read and what is left. -/
abbrev Dec (α : Type) := List UInt8 → Sum Nat (α × List UInt8)
def pureD {α : Type} (a : α) : Dec α := fun l => .inr (a, l)
def failD {α : Type} (e : Nat) : Dec α := fun _ => .inl e
def bindD {α β : Type} (d : Dec α) (f : α → Dec β) : Dec β := fun l => match d l with | .inl e => .inl e | .inr (a, m) => f a m
theorem bindD_ok {α β : Type} {d : Dec α} {f : α → Dec β} {l m : List UInt8} {a : α} (h : d l = .inr (a, m)) : bindD d f l = f a m := by simp [bindD, h]
theorem bindD_err {α β : Type} {d : Dec α} {f : α → Dec β} {l : List UInt8} {e : Nat} (h : d l = .inl e) : bindD d f l = .inl e := by simp [bindD, h]
theorem bindD_inv {α β : Type} {d : Dec α} {f : α → Dec β} {l r : List UInt8} {b : β} (h : bindD d f l = .inr (b, r)) : ∃ a m, d l = .inr (a, m) ∧ f a m = .inr (b, r) := by
  unfold bindD at h
  cases hd : d l with
  | inl e => rw [hd] at h; cases h
  | inr x => rw [hd] at h; exact ⟨x.1, x.2, rfl, h⟩
/-- Things with P are told by 'enc' and read by 'dec'. -/
structure Codec {α : Type} (P : α → Prop) (enc : α → List UInt8) (dec : Dec α) : Prop where
  back : ∀ a m, P a → dec (enc a ++ m) = .inr (a, m)
  sound : ∀ l a m, dec l = .inr (a, m) → P a ∧ l = enc a ++ m
  cut : ∀ a k, P a → k < (enc a).length → dec ((enc a).take k) = .inl 3
/-- One thing, then another one that may hang on it. -/
theorem Codec.seq {α β : Type} {P : α → Prop} {ea : α → List UInt8} {da : Dec α} {Q : α → β → Prop} {eb : α → β → List UInt8} {db : α → Dec β} (ca : Codec P ea da) (cb : ∀ a, P a → Codec (Q a) (eb a) (db a)) :
    Codec (fun x : α × β => P x.1 ∧ Q x.1 x.2) (fun x => ea x.1 ++ eb x.1 x.2) (bindD da fun a => bindD (db a) fun b => pureD (a, b)) where
  back := by
    rintro ⟨a, b⟩ m ⟨hp, hq⟩
    simp only [List.append_assoc]
    rw [bindD_ok (ca.back a _ hp), bindD_ok ((cb a hp).back b m hq)]
    rfl
  sound := by
    rintro l ⟨a, b⟩ m h
    obtain ⟨a', m', h1, h2⟩ := bindD_inv h
    obtain ⟨b', m'', h3, h4⟩ := bindD_inv h2
    simp only [pureD, Sum.inr.injEq, Prod.mk.injEq] at h4
    obtain ⟨⟨rfl, rfl⟩, rfl⟩ := h4
    obtain ⟨hp, rfl⟩ := ca.sound _ _ _ h1
    obtain ⟨hq, rfl⟩ := (cb a' hp).sound _ _ _ h3
    exact ⟨⟨hp, hq⟩, by rw [List.append_assoc]⟩
  cut := by
    rintro ⟨a, b⟩ k ⟨hp, hq⟩ hk
    simp only [List.length_append] at hk hp hq ⊢
    by_cases h : k < (ea a).length
    · rw [List.take_append_of_le_length (by omega), bindD_err (ca.cut a k hp h)]
    · rw [List.take_append, List.take_of_length_le (by omega), bindD_ok (ca.back a _ hp), bindD_err ((cb a hp).cut b _ hq (by omega))]
/-- Seen as another type. -/
theorem Codec.iso {α β : Type} {P : α → Prop} {ea : α → List UInt8} {da : Dec α} (ca : Codec P ea da) (f : α → β) (g : β → α) (Q : β → Prop) (hg : ∀ b, Q b → P (g b) ∧ f (g b) = b) (hf : ∀ a, P a → Q (f a) ∧ g (f a) = a) :
    Codec Q (fun b => ea (g b)) (bindD da fun a => pureD (f a)) where
  back := by
    intro b m hq
    rw [bindD_ok (ca.back _ m (hg b hq).1)]
    simp [pureD, (hg b hq).2]
  sound := by
    intro l b m h
    obtain ⟨a, m', h1, h2⟩ := bindD_inv h
    simp only [pureD, Sum.inr.injEq, Prod.mk.injEq] at h2
    obtain ⟨rfl, rfl⟩ := h2
    obtain ⟨hp, rfl⟩ := ca.sound _ _ _ h1
    exact ⟨(hf a hp).1, by rw [(hf a hp).2]⟩
  cut := by
    intro b k hq hk
    rw [bindD_err (ca.cut _ k (hg b hq).1 hk)]
/-- Nothing is told; one thing is read. -/
theorem Codec.none {α : Type} (z : α) : Codec (fun a => a = z) (fun _ => []) (pureD z) where
  back := by rintro a m rfl; rfl
  sound := by
    intro l a m h
    simp only [pureD, Sum.inr.injEq, Prod.mk.injEq] at h
    exact ⟨h.1.symm, by simp [h.2]⟩
  cut := by intro a k _ hk; simp at hk
/-- n things, one behind the other. -/
def repD {α : Type} (d : Dec α) : Nat → Dec (List α)
  | 0 => pureD []
  | n + 1 => bindD d fun a => bindD (repD d n) fun r => pureD (a :: r)
theorem Codec.rep {α : Type} {P : α → Prop} {enc : α → List UInt8} {dec : Dec α} (c : Codec P enc dec) (n : Nat) : Codec (fun l : List α => l.length = n ∧ ∀ x ∈ l, P x) (fun l => l.flatMap enc) (repD dec n) := by
  induction n with
  | zero =>
    constructor
    · rintro a m ⟨h, _⟩
      obtain rfl := List.eq_nil_of_length_eq_zero h
      rfl
    · intro l a m h
      simp only [repD, pureD, Sum.inr.injEq, Prod.mk.injEq] at h
      obtain ⟨rfl, rfl⟩ := h
      exact ⟨⟨rfl, fun x hx => (by cases hx)⟩, rfl⟩
    · rintro a k ⟨h, _⟩ hk
      obtain rfl := List.eq_nil_of_length_eq_zero h
      simp at hk
  | succ n ih =>
    constructor
    · rintro a m ⟨h, hp⟩
      cases a with
      | nil => simp at h
      | cons x r =>
        have hr : r.length = n ∧ ∀ y ∈ r, P y := ⟨by simpa using h, fun y hy => hp y (by simp [hy])⟩
        simp only [List.flatMap_cons, List.append_assoc, repD]
        rw [bindD_ok (c.back x _ (hp x (by simp))), bindD_ok (ih.back r m hr)]
        rfl
    · intro l a m h
      simp only [repD] at h
      obtain ⟨x, m', h1, h2⟩ := bindD_inv h
      obtain ⟨r, m'', h3, h4⟩ := bindD_inv h2
      simp only [pureD, Sum.inr.injEq, Prod.mk.injEq] at h4
      obtain ⟨rfl, rfl⟩ := h4
      obtain ⟨hp, rfl⟩ := c.sound _ _ _ h1
      obtain ⟨⟨hl, hq⟩, rfl⟩ := ih.sound _ _ _ h3
      refine ⟨⟨by simp [hl], fun y hy => ?_⟩, by simp only [List.flatMap_cons, List.append_assoc]⟩
      rcases List.mem_cons.1 hy with rfl | hy
      · exact hp
      · exact hq y hy
    · rintro a k ⟨h, hp⟩ hk
      cases a with
      | nil => simp at h
      | cons x r =>
        have hr : r.length = n ∧ ∀ y ∈ r, P y := ⟨by simpa using h, fun y hy => hp y (by simp [hy])⟩
        simp only [List.flatMap_cons, List.length_append] at hk
        simp only [List.flatMap_cons, repD]
        by_cases h2 : k < (enc x).length
        · rw [List.take_append_of_le_length (by omega), bindD_err (c.cut x k (hp x (by simp)) h2)]
        · rw [List.take_append, List.take_of_length_le (by omega), bindD_ok (c.back x _ (hp x (by simp))), bindD_err (ih.cut r _ hr (by omega))]
/-- What is told alike is alike. -/
theorem Codec.inj {α : Type} {P : α → Prop} {enc : α → List UInt8} {dec : Dec α} (c : Codec P enc dec) {a b : α} (ha : P a) (hb : P b) (h : enc a = enc b) : a = b := by
  have h1 := c.back a [] ha
  rw [h, c.back b [] hb] at h1
  simp only [Sum.inr.injEq, Prod.mk.injEq, and_true] at h1
  exact h1.symm
end Go.Proofs.YtiekgafopalfmaaGreatDoor

/- Plain facts on the wire format of states (no program): its code, in a version. U stands for 'is valid UTF-8'. -/
namespace Go.Proofs.YtiekgafopalfmaaGreatDoor

/-- A number of at most 'most'. -/
def numD (most : Nat) : Dec Nat := fun l => if (rd l).2.2 ≠ 0 then .inl (rd l).2.2 else if most < (rd l).1 then .inl 2 else .inr ((rd l).1, l.drop (rd l).2.1)
theorem numC (most : Nat) (h : most < 18446744073709551616) : Codec (fun n : Nat => n ≤ most) num (numD most) where
  back := by
    intro n m hn
    unfold numD
    rw [rd_num (by omega) m, if_neg (by simp), if_neg (by omega)]
    simp
  sound := by
    intro l n m hd
    unfold numD at hd
    by_cases h0 : (rd l).2.2 ≠ 0
    · rw [if_pos h0] at hd; cases hd
    · rw [if_neg h0] at hd
      by_cases h1 : most < (rd l).1
      · rw [if_pos h1] at hd; cases hd
      · rw [if_neg h1] at hd
        simp only [Sum.inr.injEq, Prod.mk.injEq] at hd
        obtain ⟨rfl, rfl⟩ := hd
        have h2 := rd_ok (by simpa using h0)
        refine ⟨by omega, ?_⟩
        rw [h2.2.2.2.1, List.take_append_drop]
  cut := by
    intro n k hn hk
    have h2 := rd_ok (l := num n) (by have := rd_num (n := n) (by omega) []; rw [List.append_nil] at this; rw [this])
    have h3 : rd (num n) = (n, (num n).length, 0) := by have := rd_num (n := n) (by omega) []; rwa [List.append_nil] at this
    have h4 := h2.2.2.2.2 k (by rw [h3]; exact hk)
    unfold numD
    rw [h4]; simp
section
variable (U : ByteArray → Bool)
/-- A text. -/
def textE (s : ByteArray) : List UInt8 := num s.size ++ s.data.toList
def textD : Dec ByteArray := bindD (numD 16) fun n => fun l => if l.length < n then .inl 3 else if U ⟨(l.take n).toArray⟩ = true then .inr (⟨(l.take n).toArray⟩, l.drop n) else .inl 4
theorem bytesC (n : Nat) : Codec (fun s : ByteArray => s.size = n ∧ U s = true) (fun s => s.data.toList) (fun l => if l.length < n then .inl 3 else if U ⟨(l.take n).toArray⟩ = true then .inr (⟨(l.take n).toArray⟩, l.drop n) else .inl 4) where
  back := by
    rintro ⟨⟨s⟩⟩ m ⟨hn, hu⟩
    have hn : s.length = n := hn
    have e : (s ++ m).take n = s := by rw [← hn]; simp
    simp only
    rw [if_neg (by simp; omega), e, if_pos hu, ← hn]
    simp
  sound := by
    intro l s m h
    by_cases h1 : l.length < n
    · rw [if_pos h1] at h; cases h
    · rw [if_neg h1] at h
      by_cases h2 : U ⟨(l.take n).toArray⟩ = true
      · rw [if_pos h2] at h
        simp only [Sum.inr.injEq, Prod.mk.injEq] at h
        obtain ⟨rfl, rfl⟩ := h
        refine ⟨⟨?_, h2⟩, by simp⟩
        show (l.take n).toArray.size = n
        simp; omega
      · rw [if_neg h2] at h; cases h
  cut := by
    rintro s k ⟨hn, _⟩ hk
    have hl : s.data.toList.length = s.size := by rw [Array.length_toList]; rfl
    rw [if_pos (by rw [List.length_take]; omega)]
theorem textC : Codec (fun s : ByteArray => isNote U s = true) textE (textD U) := by
  have c := Codec.seq (numC 16 (by omega)) (fun n _ => bytesC U n)
  have c2 := Codec.iso c (fun x => x.2) (fun s => (s.size, s)) (fun s => isNote U s = true) (fun s hs => by
    simp only [isNote, Bool.and_eq_true, decide_eq_true_eq] at hs
    exact ⟨⟨hs.1, rfl, hs.2⟩, rfl⟩) (fun x hx => by
    obtain ⟨n, s⟩ := x
    obtain ⟨h1, h2, h3⟩ := hx
    simp only at h1 h2 h3
    subst h2
    exact ⟨by simp [isNote, h1, h3], rfl⟩)
  have e : textD U = bindD (bindD (numD 16) fun a => bindD (fun l => if l.length < a then .inl 3 else if U ⟨(l.take a).toArray⟩ = true then .inr (⟨(l.take a).toArray⟩, l.drop a) else .inl 4) fun b => pureD (a, b)) fun a => pureD a.2 := by
    funext l
    unfold textD bindD
    cases numD 16 l with
    | inl e => rfl
    | inr x =>
      simp only
      split
      · rfl
      · split <;> rfl
  rw [e]
  exact c2
end
/-- A number that is not negative, up to 2^62; one with a sign. -/
def intE (n : Int) : List UInt8 := num n.toNat
def intD : Dec Int := bindD (numD 4611686018427387904) fun n => pureD (n : Int)
theorem intC : Codec (fun n : Int => 0 ≤ n ∧ n ≤ 4611686018427387904) intE intD :=
  Codec.iso (numC 4611686018427387904 (by omega)) (fun n => (n : Int)) Int.toNat _ (fun n h => ⟨by omega, by omega⟩) (fun n h => ⟨⟨by omega, by omega⟩, by omega⟩)
def zigE (n : Int) : List UInt8 := num (zig n).toNat
def zigD : Dec Int := bindD (numD 4611686018427387904) fun n => pureD (zag (n : Int))
theorem zigC : Codec (fun n : Int => zig n ≤ 4611686018427387904) zigE zigD :=
  Codec.iso (numC 4611686018427387904 (by omega)) (fun n => zag (n : Int)) (fun n => (zig n).toNat) _ (fun n h => by
    have h0 := zig_lo n
    have e : (((zig n).toNat : Nat) : Int) = zig n := by omega
    exact ⟨by omega, by rw [e, zag_zig]⟩) (fun n h => by
    have e : zig (zag (n : Int)) = (n : Int) := zig_zag _ (by omega)
    exact ⟨by rw [e]; omega, by rw [e]; omega⟩)
end Go.Proofs.YtiekgafopalfmaaGreatDoor

/- Plain facts on the wire format of states (no program): rows and states in a version. U stands for 'is valid UTF-8'. -/
namespace Go.Proofs.YtiekgafopalfmaaGreatDoor

theorem bindD_pure {α β : Type} (a : α) (f : α → Dec β) : bindD (pureD a) f = f a := rfl
theorem bindD_assoc {α β γ : Type} (d : Dec α) (f : α → Dec β) (g : β → Dec γ) : bindD (bindD d f) g = bindD d fun a => bindD (f a) g := by
  funext l
  unfold bindD
  cases d l <;> rfl
/-- A field that is there or not. -/
theorem Codec.opt {α : Type} {P : α → Prop} {enc : α → List UInt8} {dec : Dec α} (c : Codec P enc dec) (b : Bool) (z : α) : Codec (fun a => if b then P a else a = z) (fun a => if b then enc a else []) (if b then dec else pureD z) := by
  cases b with
  | true => exact c
  | false => exact Codec.none z
/-- Rows: how many, then each. -/
def rowsD {α : Type} (most : Nat) (d : Dec α) : Dec (List α) := bindD (numD most) fun n => repD d n
def rowsE' {α : Type} (e : α → List UInt8) (l : List α) : List UInt8 := num l.length ++ l.flatMap e
theorem Codec.rows {α : Type} {P : α → Prop} {enc : α → List UInt8} {dec : Dec α} (c : Codec P enc dec) (most : Nat) (h : most < 18446744073709551616) : Codec (fun l : List α => l.length ≤ most ∧ ∀ x ∈ l, P x) (rowsE' enc) (rowsD most dec) := by
  have c1 := Codec.seq (numC most h) (fun n _ => c.rep n)
  have c2 := Codec.iso c1 (fun x => x.2) (fun l => (l.length, l)) (fun l : List α => l.length ≤ most ∧ ∀ x ∈ l, P x) (fun l hl => ⟨⟨hl.1, rfl, hl.2⟩, rfl⟩) (fun x hx => by
    obtain ⟨n, l⟩ := x
    obtain ⟨h1, h2, h3⟩ := hx
    simp only at h1 h2 h3
    subst h2
    exact ⟨⟨h1, h3⟩, rfl⟩)
  have e : rowsD most dec = bindD (bindD (numD most) fun a => bindD (repD dec a) fun b => pureD (a, b)) fun a => pureD a.2 := by
    unfold rowsD
    rw [bindD_assoc]
    congr 1
    funext n
    rw [bindD_assoc]
    funext l
    unfold bindD
    cases repD dec n l <;> rfl
  rw [e]
  exact c2
section
variable (U : ByteArray → Bool) (v : Int)
def okJob (j : JobD) : Prop := isNote U j.name = true ∧ zig j.prio ≤ 4611686018427387904 ∧ (0 ≤ j.need ∧ j.need ≤ 4611686018427387904) ∧ (if decide (1 < v) then (0 ≤ j.tries ∧ j.tries ≤ 4611686018427387904) else j.tries = 0) ∧ (if decide (2 < v) then isNote U j.tag = true else j.tag = ⟨#[]⟩)
def jobB (j : JobD) : List UInt8 := textE j.name ++ (zigE j.prio ++ (intE j.need ++ ((if decide (1 < v) then intE j.tries else []) ++ (if decide (2 < v) then textE j.tag else []))))
def jobR : Dec JobD := bindD (textD U) fun a => bindD zigD fun b => bindD intD fun c => bindD (if decide (1 < v) then intD else pureD 0) fun d => bindD (if decide (2 < v) then textD U else pureD ⟨#[]⟩) fun e => pureD ⟨a, b, c, d, e⟩
theorem jobC : Codec (okJob U v) (jobB v) (jobR U v) := by
  have c := Codec.seq (textC U) (fun _ _ => Codec.seq zigC (fun _ _ => Codec.seq intC (fun _ _ => Codec.seq (Codec.opt intC (decide (1 < v)) 0) (fun _ _ => Codec.opt (textC U) (decide (2 < v)) ⟨#[]⟩))))
  have c2 := Codec.iso c (fun x => (⟨x.1, x.2.1, x.2.2.1, x.2.2.2.1, x.2.2.2.2⟩ : JobD)) (fun j => (j.name, j.prio, j.need, j.tries, j.tag)) (okJob U v) (fun j hj => ⟨hj, rfl⟩) (fun x hx => ⟨hx, rfl⟩)
  simp only [bindD_assoc, bindD_pure] at c2
  exact c2
def okNode (n : NodeD) : Prop := isNote U n.name = true ∧ (0 ≤ n.room ∧ n.room ≤ 4611686018427387904) ∧ (if decide (1 < v) then isNote U n.zone = true else n.zone = ⟨#[]⟩)
def nodeB (n : NodeD) : List UInt8 := textE n.name ++ (intE n.room ++ (if decide (1 < v) then textE n.zone else []))
def nodeR : Dec NodeD := bindD (textD U) fun a => bindD intD fun b => bindD (if decide (1 < v) then textD U else pureD ⟨#[]⟩) fun c => pureD ⟨a, b, c⟩
theorem nodeC : Codec (okNode U v) (nodeB v) (nodeR U v) := by
  have c := Codec.seq (textC U) (fun _ _ => Codec.seq intC (fun _ _ => Codec.opt (textC U) (decide (1 < v)) ⟨#[]⟩))
  have c2 := Codec.iso c (fun x => (⟨x.1, x.2.1, x.2.2⟩ : NodeD)) (fun n => (n.name, n.room, n.zone)) (okNode U v) (fun j hj => ⟨hj, rfl⟩) (fun x hx => ⟨hx, rfl⟩)
  simp only [bindD_assoc, bindD_pure] at c2
  exact c2
def okLease (l : LeaseD) : Prop := isNote U l.job = true ∧ isNote U l.node = true ∧ (0 ≤ l.til ∧ l.til ≤ 4611686018427387904)
def leaseB (l : LeaseD) : List UInt8 := textE l.job ++ (textE l.node ++ intE l.til)
def leaseR : Dec LeaseD := bindD (textD U) fun a => bindD (textD U) fun b => bindD intD fun c => pureD ⟨a, b, c⟩
theorem leaseC : Codec (okLease U) leaseB (leaseR U) := by
  have c := Codec.seq (textC U) (fun _ _ => Codec.seq (textC U) (fun _ _ => intC))
  have c2 := Codec.iso c (fun x => (⟨x.1, x.2.1, x.2.2⟩ : LeaseD)) (fun n => (n.job, n.node, n.til)) (okLease U) (fun j hj => ⟨hj, rfl⟩) (fun x hx => ⟨hx, rfl⟩)
  simp only [bindD_assoc, bindD_pure] at c2
  exact c2
def okSt (s : StD) : Prop := (if decide (2 < v) then (0 ≤ s.rev ∧ s.rev ≤ 4611686018427387904) else s.rev = 0) ∧ (s.jobs.length ≤ 40 ∧ ∀ x ∈ s.jobs, okJob U v x) ∧ (s.nodes.length ≤ 20 ∧ ∀ x ∈ s.nodes, okNode U v x) ∧ (s.leases.length ≤ 40 ∧ ∀ x ∈ s.leases, okLease U x)
def stB (s : StD) : List UInt8 := (if decide (2 < v) then intE s.rev else []) ++ (rowsE' (jobB v) s.jobs ++ (rowsE' (nodeB v) s.nodes ++ rowsE' leaseB s.leases))
def stR : Dec StD := bindD (if decide (2 < v) then intD else pureD 0) fun a => bindD (rowsD 40 (jobR U v)) fun b => bindD (rowsD 20 (nodeR U v)) fun c => bindD (rowsD 40 (leaseR U)) fun d => pureD ⟨a, b, c, d⟩
theorem stC : Codec (okSt U v) (stB v) (stR U v) := by
  have c := Codec.seq (Codec.opt intC (decide (2 < v)) 0) (fun _ _ => Codec.seq ((jobC U v).rows 40 (by omega)) (fun _ _ => Codec.seq ((nodeC U v).rows 20 (by omega)) (fun _ _ => (leaseC U).rows 40 (by omega))))
  have c2 := Codec.iso c (fun x => (⟨x.1, x.2.1, x.2.2.1, x.2.2.2⟩ : StD)) (fun s => (s.rev, s.jobs, s.nodes, s.leases)) (okSt U v) (fun j hj => ⟨hj, rfl⟩) (fun x hx => ⟨hx, rfl⟩)
  simp only [bindD_assoc, bindD_pure] at c2
  exact c2
/-! ### whole states -/
def zeroSt : StD := ⟨0, [], [], []⟩
/-- What Decode answers in a version from 1 to 3. -/
def wireD (l : List UInt8) : StD × Nat := match stR U v l with
  | .inl e => (zeroSt, e)
  | .inr (s, m) => if m ≠ [] then (zeroSt, 4) else if checkE U s ≠ 0 then (zeroSt, checkE U s) else (s, 0)
end
theorem empty_of_size {s : ByteArray} (h : s.size = 0) : s = ⟨#[]⟩ := by
  cases s with
  | mk d =>
    have : d.size = 0 := h
    rw [Array.eq_empty_of_size_eq_zero this]
theorem isName_note {U : ByteArray → Bool} {s : ByteArray} (h : isName U s = true) : isNote U s = true := by
  unfold isName at h
  exact (Bool.and_eq_true _ _ ▸ h).2
theorem ok_of_valid {U : ByteArray → Bool} {v : Int} {s : StD} (h : Valid U s) (hf : fitsD s v = true) : okSt U v s := by
  simp only [fitsD, Bool.and_eq_true, Bool.or_eq_true, List.all_eq_true, decide_eq_true_eq] at hf
  obtain ⟨⟨f1, f2⟩, f3⟩ := hf
  obtain ⟨h1, ⟨h2, h3, h4⟩, ⟨hj, _⟩, ⟨hn, _⟩, ⟨hl, _⟩, _⟩ := h
  have noteJ : ∀ x, hasJob s.jobs x = true → isNote U x = true := fun x hx => by
    obtain ⟨j, hj1, rfl⟩ := (hasJob_iff _ _).1 hx
    exact isName_note ((jobE_zero U j).1 (hj j hj1)).1.1
  have noteN : ∀ x, hasNode s.nodes x = true → isNote U x = true := fun x hx => by
    obtain ⟨n, hn1, rfl⟩ := (hasNode_iff _ _).1 hx
    exact isName_note ((nodeE_zero U n).1 (hn n hn1)).1.1
  refine ⟨?_, ⟨h2, fun j hj' => ?_⟩, ⟨h4, fun n hn' => ?_⟩, h3, fun l hl' => ?_⟩
  · by_cases hv : 2 < v
    · simp only [hv, decide_true, if_true]; omega
    · simp only [hv, decide_false, Bool.false_eq_true, if_false]; omega
  · have z := (jobE_zero U j).1 (hj j hj')
    have f := f2 j hj'
    refine ⟨isName_note z.1.1, by unfold zig; split <;> omega, by omega, ?_, ?_⟩
    · by_cases hv : 1 < v
      · simp only [hv, decide_true, if_true]; omega
      · simp only [hv, decide_false, Bool.false_eq_true, if_false]; omega
    · by_cases hv : 2 < v
      · simp only [hv, decide_true, if_true]; exact z.1.2
      · simp only [hv, decide_false, Bool.false_eq_true, if_false]; exact empty_of_size (by omega)
  · have z := (nodeE_zero U n).1 (hn n hn')
    have f := f3 n hn'
    refine ⟨isName_note z.1.1, by omega, ?_⟩
    by_cases hv : 1 < v
    · simp only [hv, decide_true, if_true]; exact z.1.2
    · simp only [hv, decide_false, Bool.false_eq_true, if_false]; exact empty_of_size (by omega)
  · have z := (leaseE_zero _ _ _).1 (hl l hl')
    exact ⟨noteJ _ z.1, noteN _ z.2.1, by omega⟩
theorem fits_of_ok {U : ByteArray → Bool} {v : Int} {s : StD} (h : okSt U v s) : fitsD s v = true := by
  obtain ⟨h1, ⟨_, hj⟩, ⟨_, hn⟩, _⟩ := h
  simp only [fitsD, Bool.and_eq_true, Bool.or_eq_true, List.all_eq_true, decide_eq_true_eq]
  refine ⟨⟨?_, fun j hj' => ⟨?_, ?_⟩⟩, fun n hn' => ?_⟩
  · by_cases hv : 2 < v
    · exact .inl (by omega)
    · simp only [hv, decide_false, Bool.false_eq_true, if_false] at h1; exact .inr h1
  · have z := (hj j hj').2.2.2.2
    by_cases hv : 2 < v
    · exact .inl (by omega)
    · simp only [hv, decide_false, Bool.false_eq_true, if_false] at z; exact .inr (by rw [z]; rfl)
  · have z := (hj j hj').2.2.2.1
    by_cases hv : 1 < v
    · exact .inl (by omega)
    · simp only [hv, decide_false, Bool.false_eq_true, if_false] at z; exact .inr z
  · have z := (hn n hn').2.2
    by_cases hv : 1 < v
    · exact .inl (by omega)
    · simp only [hv, decide_false, Bool.false_eq_true, if_false] at z; exact .inr (by rw [z]; rfl)
section
variable {U : ByteArray → Bool} {v : Int}
theorem wire_back {s : StD} (h : checkE U s = 0) (hf : fitsD s v = true) : wireD U v (stB v s) = (s, 0) := by
  have hb := (stC U v).back s [] (ok_of_valid ((check_zero U s).1 h) hf)
  rw [List.append_nil] at hb
  unfold wireD
  rw [hb]
  simp [h]
theorem wire_more {s : StD} (h : checkE U s = 0) (hf : fitsD s v = true) {m : List UInt8} (hm : m ≠ []) : wireD U v (stB v s ++ m) = (zeroSt, 4) := by
  unfold wireD
  rw [(stC U v).back s m (ok_of_valid ((check_zero U s).1 h) hf)]
  simp [hm]
theorem wire_cut {s : StD} (h : checkE U s = 0) (hf : fitsD s v = true) {k : Nat} (hk : k < (stB v s).length) : wireD U v ((stB v s).take k) = (zeroSt, 3) := by
  unfold wireD
  rw [(stC U v).cut s k (ok_of_valid ((check_zero U s).1 h) hf) hk]
theorem wire_read {l : List UInt8} {s : StD} (h : wireD U v l = (s, 0)) (h0 : ∀ e, stR U v l = .inl e → e ≠ 0) : checkE U s = 0 ∧ fitsD s v = true ∧ stB v s = l := by
  unfold wireD at h
  cases hr : stR U v l with
  | inl e => rw [hr] at h; simp only [Prod.mk.injEq] at h; exact absurd h.2 (h0 e hr)
  | inr x =>
    obtain ⟨t, m⟩ := x
    rw [hr] at h
    simp only at h
    by_cases hm : m ≠ []
    · rw [if_pos hm] at h; simp at h
    · rw [if_neg hm] at h
      have hm : m = [] := by simpa using hm
      by_cases hc : checkE U t ≠ 0
      · rw [if_pos hc] at h; simp only [Prod.mk.injEq] at h; exact absurd h.2 hc
      · rw [if_neg hc] at h
        simp only [Prod.mk.injEq, and_true] at h
        subst h hm
        obtain ⟨hp, hl⟩ := (stC U v).sound _ _ _ hr
        exact ⟨by simpa using hc, fits_of_ok hp, by rw [hl, List.append_nil]⟩
theorem wire_one {s t : StD} (hs : checkE U s = 0) (fs : fitsD s v = true) (ht : checkE U t = 0) (ft : fitsD t v = true) (h : stB v s = stB v t) : s = t :=
  (stC U v).inj (ok_of_valid ((check_zero U s).1 hs) fs) (ok_of_valid ((check_zero U t).1 ht) ft) h
end
end Go.Proofs.YtiekgafopalfmaaGreatDoor

/- Plain facts on the wire format of states (no program): errors are no 0; lengths. -/
namespace Go.Proofs.YtiekgafopalfmaaGreatDoor

def NZ {α : Type} (d : Dec α) : Prop := ∀ l e, d l = .inl e → e ≠ 0
theorem nz_pure {α : Type} (a : α) : NZ (pureD a) := fun l e h => by cases h
theorem nz_bind {α β : Type} {d : Dec α} {f : α → Dec β} (h : NZ d) (hf : ∀ a, NZ (f a)) : NZ (bindD d f) := by
  intro l e he
  unfold bindD at he
  cases hd : d l with
  | inl e' => rw [hd] at he; simp only [Sum.inl.injEq] at he; subst he; exact h l _ hd
  | inr x => rw [hd] at he; exact hf x.1 x.2 e he
theorem nz_num (most : Nat) : NZ (numD most) := by
  intro l e h
  unfold numD at h
  by_cases h0 : (rd l).2.2 ≠ 0
  · rw [if_pos h0] at h; simp only [Sum.inl.injEq] at h; subst h; exact h0
  · rw [if_neg h0] at h
    by_cases h1 : most < (rd l).1
    · rw [if_pos h1] at h; simp only [Sum.inl.injEq] at h; omega
    · rw [if_neg h1] at h; cases h
theorem nz_text (U : ByteArray → Bool) : NZ (textD U) := by
  refine nz_bind (nz_num 16) (fun n l e h => ?_)
  split at h
  · simp only [Sum.inl.injEq] at h; omega
  · split at h
    · cases h
    · simp only [Sum.inl.injEq] at h; omega
theorem nz_int : NZ intD := nz_bind (nz_num _) (fun _ => nz_pure _)
theorem nz_zig : NZ zigD := nz_bind (nz_num _) (fun _ => nz_pure _)
theorem nz_if {α : Type} {d d' : Dec α} (b : Bool) (h : NZ d) (h' : NZ d') : NZ (if b then d else d') := by cases b <;> assumption
theorem nz_rep {α : Type} {d : Dec α} (h : NZ d) (n : Nat) : NZ (repD d n) := by
  induction n with
  | zero => exact nz_pure _
  | succ n ih => exact nz_bind h (fun _ => nz_bind ih (fun _ => nz_pure _))
theorem nz_rows {α : Type} {d : Dec α} (h : NZ d) (most : Nat) : NZ (rowsD most d) := nz_bind (nz_num _) (fun _ => nz_rep h _)
theorem nz_st (U : ByteArray → Bool) (v : Int) : NZ (stR U v) := by
  have hj : NZ (jobR U v) := nz_bind (nz_text U) fun _ => nz_bind nz_zig fun _ => nz_bind nz_int fun _ => nz_bind (nz_if _ nz_int (nz_pure _)) fun _ => nz_bind (nz_if _ (nz_text U) (nz_pure _)) fun _ => nz_pure _
  have hn : NZ (nodeR U v) := nz_bind (nz_text U) fun _ => nz_bind nz_int fun _ => nz_bind (nz_if _ (nz_text U) (nz_pure _)) fun _ => nz_pure _
  have hl : NZ (leaseR U) := nz_bind (nz_text U) fun _ => nz_bind (nz_text U) fun _ => nz_bind nz_int fun _ => nz_pure _
  exact nz_bind (nz_if _ nz_int (nz_pure _)) fun _ => nz_bind (nz_rows hj _) fun _ => nz_bind (nz_rows hn _) fun _ => nz_bind (nz_rows hl _) fun _ => nz_pure _
/-- What is decoded without an error is valid, fits, and is encoded so. -/
theorem wire_ok {U : ByteArray → Bool} {v : Int} {l : List UInt8} {s : StD} (h : wireD U v l = (s, 0)) : checkE U s = 0 ∧ fitsD s v = true ∧ stB v s = l := wire_read h (fun e he => nz_st U v l e he)
theorem wire_err {U : ByteArray → Bool} {v : Int} {l : List UInt8} {s : StD} {e : Nat} (h : wireD U v l = (s, e)) (h0 : e ≠ 0) : s = zeroSt := by
  unfold wireD at h
  cases hr : stR U v l with
  | inl e' => rw [hr] at h; simp only [Prod.mk.injEq] at h; exact h.1.symm
  | inr x =>
    rw [hr] at h
    simp only at h
    split at h
    · simp only [Prod.mk.injEq] at h; exact h.1.symm
    · split at h
      · simp only [Prod.mk.injEq] at h; exact h.1.symm
      · simp only [Prod.mk.injEq] at h; exact absurd h.2.symm h0
/-! ### lengths -/
theorem text_len {U : ByteArray → Bool} {s : ByteArray} (h : isNote U s = true) : (textE s).length ≤ 17 := by
  simp only [isNote, Bool.and_eq_true, decide_eq_true_eq] at h
  have hl : s.data.toList.length = s.size := by rw [Array.length_toList]; rfl
  unfold textE
  rw [List.length_append, num_lt (by omega), hl]
  simp; omega
theorem int_len {n : Int} (h : 0 ≤ n ∧ n ≤ 4611686018427387904) : (intE n).length ≤ 10 := num_len10 (by omega)
theorem zig_len {n : Int} (h : zig n ≤ 4611686018427387904) : (zigE n).length ≤ 10 := num_len10 (by omega)
theorem flat_len {α : Type} {f : α → List UInt8} {l : List α} {M : Nat} (h : ∀ x ∈ l, (f x).length ≤ M) : (l.flatMap f).length ≤ l.length * M := by
  induction l with
  | nil => simp
  | cons x l ih =>
    have h1 := h x (by simp)
    have h2 := ih (fun y hy => h y (by simp [hy]))
    rw [List.flatMap_cons, List.length_append, List.length_cons, Nat.add_mul]
    omega
theorem flat_mono {α : Type} {f g : α → List UInt8} {l : List α} (h : ∀ x ∈ l, (f x).length ≤ (g x).length) : (l.flatMap f).length ≤ (l.flatMap g).length := by
  induction l with
  | nil => simp
  | cons x l ih =>
    have h1 := h x (by simp)
    have h2 := ih (fun y hy => h y (by simp [hy]))
    rw [List.flatMap_cons, List.flatMap_cons, List.length_append, List.length_append]
    omega
/-- The bytes of a state fit a frame. -/
theorem st_len {U : ByteArray → Bool} {v : Int} {s : StD} (h : okSt U v s) : (stB v s).length ≤ 5240 := by
  obtain ⟨h1, ⟨hj, hj'⟩, ⟨hn, hn'⟩, hl, hl'⟩ := h
  have a0 : (if decide (2 < v) then intE s.rev else []).length ≤ 10 := by
    by_cases hv : decide (2 < v) = true
    · rw [if_pos hv] at h1 ⊢; exact int_len h1
    · rw [if_neg hv]; simp
  have aj : ∀ x ∈ s.jobs, (jobB v x).length ≤ 64 := by
    intro x hx
    obtain ⟨z1, z2, z3, z4, z5⟩ := hj' x hx
    have b1 := text_len z1
    have b2 := zig_len z2
    have b3 := int_len z3
    have b4 : (if decide (1 < v) then intE x.tries else []).length ≤ 10 := by
      by_cases hv : decide (1 < v) = true
      · rw [if_pos hv] at z4 ⊢; exact int_len z4
      · rw [if_neg hv]; simp
    have b5 : (if decide (2 < v) then textE x.tag else []).length ≤ 17 := by
      by_cases hv : decide (2 < v) = true
      · rw [if_pos hv] at z5 ⊢; exact text_len z5
      · rw [if_neg hv]; simp
    unfold jobB
    simp only [List.length_append]
    omega
  have an : ∀ x ∈ s.nodes, (nodeB v x).length ≤ 44 := by
    intro x hx
    obtain ⟨z1, z2, z3⟩ := hn' x hx
    have b1 := text_len z1
    have b2 := int_len z2
    have b3 : (if decide (1 < v) then textE x.zone else []).length ≤ 17 := by
      by_cases hv : decide (1 < v) = true
      · rw [if_pos hv] at z3 ⊢; exact text_len z3
      · rw [if_neg hv]; simp
    unfold nodeB
    simp only [List.length_append]
    omega
  have al : ∀ x ∈ s.leases, (leaseB x).length ≤ 44 := by
    intro x hx
    obtain ⟨z1, z2, z3⟩ := hl' x hx
    have b1 := text_len z1
    have b2 := text_len z2
    have b3 := int_len z3
    unfold leaseB
    simp only [List.length_append]
    omega
  have f1 := flat_len aj
  have f2 := flat_len an
  have f3 := flat_len al
  have n1 := num_len10 (n := s.jobs.length) (by omega)
  have n2 := num_len10 (n := s.nodes.length) (by omega)
  have n3 := num_len10 (n := s.leases.length) (by omega)
  have m1 : s.jobs.length * 64 ≤ 40 * 64 := Nat.mul_le_mul_right 64 hj
  have m2 : s.nodes.length * 44 ≤ 20 * 44 := Nat.mul_le_mul_right 44 hn
  have m3 : s.leases.length * 44 ≤ 40 * 44 := Nat.mul_le_mul_right 44 hl
  unfold stB rowsE'
  simp only [List.length_append]
  omega
/-- A later version has no fewer bytes; there are three at least. -/
theorem st_mono (v v' : Int) (hv : v ≤ v') (s : StD) : (stB v s).length ≤ (stB v' s).length ∧ 3 ≤ (stB v s).length := by
  have opt : ∀ (k : Int) (x : List UInt8), (if decide (k < v) then x else []).length ≤ (if decide (k < v') then x else []).length := by
    intro k x
    by_cases h : k < v
    · have h' : k < v' := by omega
      simp [h, h']
    · simp [h]
  have aj : ∀ x ∈ s.jobs, (jobB v x).length ≤ (jobB v' x).length := by
    intro x _
    have h1 := opt 1 (intE x.tries)
    have h2 := opt 2 (textE x.tag)
    unfold jobB
    simp only [List.length_append]
    omega
  have an : ∀ x ∈ s.nodes, (nodeB v x).length ≤ (nodeB v' x).length := by
    intro x _
    have h1 := opt 1 (textE x.zone)
    unfold nodeB
    simp only [List.length_append]
    omega
  have f1 := flat_mono aj
  have f2 := flat_mono an
  have h0 := opt 2 (intE s.rev)
  have n1 := num_pos s.jobs.length
  have n2 := num_pos s.nodes.length
  have n3 := num_pos s.leases.length
  unfold stB rowsE'
  simp only [List.length_append]
  omega
end Go.Proofs.YtiekgafopalfmaaGreatDoor

/- The coder of package wire as a plain machine (no program): what each of its functions answers, where it writes and where it reads. -/
namespace Go.Proofs.YtiekgafopalfmaaGreatDoor
open Go.RowKit Go.Lib

/-- The machine: whether it reads, what it wrote, what is left to read, the first error. -/
structure M where
  reading : Bool
  gs : List UInt8
  rest : ByteArray
  e : Nat
abbrev St (α : Type) := M → α × M
def pureS {α : Type} (a : α) : St α := fun m => (a, m)
def bindS {α β : Type} (f : St α) (g : α → St β) : St β := fun m => g (f m).1 (f m).2
def M.fail (m : M) (e : Nat) : M := { m with e := if m.e = 0 then e else m.e }
def M.adv (m : M) (k e : Nat) : M := if e = 0 then { m with rest := m.rest.extract k m.rest.size } else { m.fail e with rest := ⟨#[]⟩ }
def limS (most n : Nat) : St Nat := fun m =>
  if m.reading = true then
    (if most < (rd m.rest.data.toList).1 then (0, m.adv (rd m.rest.data.toList).2.1 2) else ((rd m.rest.data.toList).1, m.adv (rd m.rest.data.toList).2.1 (rd m.rest.data.toList).2.2))
  else (n, { m with gs := m.gs ++ num n })
def txtS (s : ByteArray) : St ByteArray := fun m => if m.reading = true then ((rdT m.rest).1, m.adv (rdT m.rest).2.1 (rdT m.rest).2.2) else (s, { m with gs := m.gs ++ textE s })
def numbS (n : Int) : St Int := bindS (limS 4611686018427387904 n.toNat) fun k => pureS (k : Int)
def sgnS (n : Int) : St Int := bindS (limS 4611686018427387904 (zig n).toNat) fun k => pureS (zag (k : Int))
def goS {α : Type} (f : α → St α) : List α → St (List α)
  | [] => pureS []
  | x :: l => bindS (f x) fun y => bindS (goS f l) fun ys => pureS (y :: ys)
/-- The rows that are passed: those of a list, and zero ones behind them. -/
def padL {α : Type} (z : α) (l : List α) (n : Nat) : List α := (List.range n).map fun i => l.getD i z
def rowsS {α : Type} (most : Nat) (z : α) (f : α → St α) (l : List α) : St (List α) := bindS (limS most l.length) fun n => goS f (padL z l n)
def zJob : JobD := ⟨⟨#[]⟩, 0, 0, 0, ⟨#[]⟩⟩
def zNode : NodeD := ⟨⟨#[]⟩, 0, ⟨#[]⟩⟩
def zLease : LeaseD := ⟨⟨#[]⟩, ⟨#[]⟩, 0⟩
def jobS (v : Int) (j : JobD) : St JobD := bindS (txtS j.name) fun a => bindS (sgnS j.prio) fun b => bindS (numbS j.need) fun c => bindS (if decide (1 < v) then numbS j.tries else pureS j.tries) fun d => bindS (if decide (2 < v) then txtS j.tag else pureS j.tag) fun e => pureS ⟨a, b, c, d, e⟩
def nodeS (v : Int) (j : NodeD) : St NodeD := bindS (txtS j.name) fun a => bindS (numbS j.room) fun b => bindS (if decide (1 < v) then txtS j.zone else pureS j.zone) fun c => pureS ⟨a, b, c⟩
def leaseS (j : LeaseD) : St LeaseD := bindS (txtS j.job) fun a => bindS (txtS j.node) fun b => bindS (numbS j.til) fun c => pureS ⟨a, b, c⟩
def wholeS (v : Int) (s : StD) : St StD := bindS (if decide (2 < v) then numbS s.rev else pureS s.rev) fun a => bindS (rowsS 40 zJob (jobS v) s.jobs) fun b => bindS (rowsS 20 zNode (nodeS v) s.nodes) fun c => bindS (rowsS 40 zLease leaseS s.leases) fun d => pureS ⟨a, b, c, d⟩

/-! ### writing -/
/-- It writes these bytes, and passes this value. -/
def Wrt {α : Type} (f : St α) (a : α) (l : List UInt8) : Prop := ∀ m, m.reading = false → f m = (a, { m with gs := m.gs ++ l })
theorem wrt_pure {α : Type} (a : α) : Wrt (pureS a) a [] := fun m _ => by simp [pureS]
theorem wrt_bind {α β : Type} {f : St α} {g : α → St β} {a : α} {b : β} {l k : List UInt8} (hf : Wrt f a l) (hg : Wrt (g a) b k) : Wrt (bindS f g) b (l ++ k) := by
  intro m hm
  unfold bindS
  rw [hf m hm]
  simp only
  rw [hg { m with gs := m.gs ++ l } hm]
  simp
theorem wrt_lim (most n : Nat) : Wrt (limS most n) n (num n) := fun m hm => by simp [limS, hm]
theorem wrt_txt (s : ByteArray) : Wrt (txtS s) s (textE s) := fun m hm => by simp [txtS, hm]
theorem wrt_numb {n : Int} (h : 0 ≤ n) : Wrt (numbS n) n (intE n) := by
  have := wrt_bind (wrt_lim 4611686018427387904 n.toNat) (g := fun k : Nat => pureS (k : Int)) (wrt_pure _)
  rw [List.append_nil] at this
  have e : ((n.toNat : Nat) : Int) = n := by omega
  rw [e] at this
  exact this
theorem wrt_sgn (n : Int) : Wrt (sgnS n) n (zigE n) := by
  have := wrt_bind (wrt_lim 4611686018427387904 (zig n).toNat) (g := fun k : Nat => pureS (zag (k : Int))) (wrt_pure _)
  rw [List.append_nil] at this
  have h0 := zig_lo n
  have e : (((zig n).toNat : Nat) : Int) = zig n := by omega
  rw [e, zag_zig] at this
  exact this
theorem wrt_if {α : Type} {f : St α} {a : α} {l : List UInt8} (c : Bool) (h : Wrt f a l) : Wrt (if c then f else pureS a) a (if c then l else []) := by
  cases c with
  | true => exact h
  | false => exact wrt_pure a
theorem wrt_go {α : Type} {f : α → St α} {enc : α → List UInt8} : ∀ (l : List α), (∀ x ∈ l, Wrt (f x) x (enc x)) → Wrt (goS f l) l (l.flatMap enc)
  | [], _ => wrt_pure _
  | x :: l, h => by
    have h1 := wrt_bind (h x (by simp)) (g := fun y => bindS (goS f l) fun ys => pureS (y :: ys)) (wrt_bind (wrt_go l (fun y hy => h y (by simp [hy]))) (g := fun ys => pureS (x :: ys)) (wrt_pure _))
    rw [List.append_nil] at h1
    exact h1
theorem padL_self {α : Type} (z : α) (l : List α) : padL z l l.length = l := by
  apply List.ext_getElem
  · simp [padL]
  · intro i h1 h2
    simp [padL, h2]
theorem wrt_rows {α : Type} {f : α → St α} {enc : α → List UInt8} (most : Nat) (z : α) (l : List α) (h : ∀ x ∈ l, Wrt (f x) x (enc x)) : Wrt (rowsS most z f l) l (rowsE' enc l) := by
  have := wrt_bind (wrt_lim most l.length) (g := fun n => goS f (padL z l n)) (by rw [padL_self]; exact wrt_go l h)
  exact this
theorem wrt_job {U : ByteArray → Bool} {v : Int} {j : JobD} (h : okJob U v j) : Wrt (jobS v j) j (jobB v j) := by
  obtain ⟨h1, h2, h3, h4, h5⟩ := h
  have t4 : Wrt (if decide (1 < v) then numbS j.tries else pureS j.tries) j.tries (if decide (1 < v) then intE j.tries else []) := by
    by_cases hv : decide (1 < v) = true
    · rw [if_pos hv] at h4; rw [if_pos hv, if_pos hv]; exact wrt_numb h4.1
    · rw [if_neg hv, if_neg hv]; exact wrt_pure _
  have := wrt_bind (wrt_txt j.name) (g := fun a => bindS (sgnS j.prio) fun b => bindS (numbS j.need) fun c => bindS (if decide (1 < v) then numbS j.tries else pureS j.tries) fun d => bindS (if decide (2 < v) then txtS j.tag else pureS j.tag) fun e => pureS (⟨a, b, c, d, e⟩ : JobD))
    (wrt_bind (wrt_sgn j.prio) (wrt_bind (wrt_numb h3.1) (wrt_bind t4 (wrt_bind (wrt_if (decide (2 < v)) (wrt_txt j.tag)) (wrt_pure _)))))
  rw [List.append_nil] at this
  exact this
theorem wrt_node {U : ByteArray → Bool} {v : Int} {j : NodeD} (h : okNode U v j) : Wrt (nodeS v j) j (nodeB v j) := by
  have := wrt_bind (wrt_txt j.name) (g := fun a => bindS (numbS j.room) fun b => bindS (if decide (1 < v) then txtS j.zone else pureS j.zone) fun c => pureS (⟨a, b, c⟩ : NodeD))
    (wrt_bind (wrt_numb h.2.1.1) (wrt_bind (wrt_if (decide (1 < v)) (wrt_txt j.zone)) (wrt_pure _)))
  rw [List.append_nil] at this
  exact this
theorem wrt_lease {U : ByteArray → Bool} {j : LeaseD} (h : okLease U j) : Wrt (leaseS j) j (leaseB j) := by
  have := wrt_bind (wrt_txt j.job) (g := fun a => bindS (txtS j.node) fun b => bindS (numbS j.til) fun c => pureS (⟨a, b, c⟩ : LeaseD))
    (wrt_bind (wrt_txt j.node) (wrt_bind (wrt_numb h.2.2.1) (wrt_pure _)))
  rw [List.append_nil] at this
  exact this
theorem wrt_whole {U : ByteArray → Bool} {v : Int} {s : StD} (h : okSt U v s) : Wrt (wholeS v s) s (stB v s) := by
  obtain ⟨h1, h2, h3, h4⟩ := h
  have t1 : Wrt (if decide (2 < v) then numbS s.rev else pureS s.rev) s.rev (if decide (2 < v) then intE s.rev else []) := by
    by_cases hv : decide (2 < v) = true
    · rw [if_pos hv] at h1; rw [if_pos hv, if_pos hv]; exact wrt_numb h1.1
    · rw [if_neg hv, if_neg hv]; exact wrt_pure _
  have := wrt_bind t1 (g := fun a => bindS (rowsS 40 zJob (jobS v) s.jobs) fun b => bindS (rowsS 20 zNode (nodeS v) s.nodes) fun c => bindS (rowsS 40 zLease leaseS s.leases) fun d => pureS (⟨a, b, c, d⟩ : StD))
    (wrt_bind (wrt_rows 40 zJob s.jobs (fun x hx => wrt_job (h2.2 x hx))) (wrt_bind (wrt_rows 20 zNode s.nodes (fun x hx => wrt_node (h3.2 x hx))) (wrt_bind (wrt_rows 40 zLease s.leases (fun x hx => wrt_lease (h4.2 x hx))) (wrt_pure _))))
  rw [List.append_nil] at this
  exact this

/-! ### reading -/
/-- It reads as the reader d does; behind an error nothing is left, and the first one stays. -/
def Rdg {α : Type} (d : Dec α) (f : St α) : Prop := ∀ m, m.reading = true →
  (m.e = 0 → (∀ e, d m.rest.data.toList = .inl e → e ≠ 0 ∧ (f m).2.e = e ∧ (f m).2.rest = ⟨#[]⟩ ∧ (f m).2.reading = true) ∧ (∀ a r, d m.rest.data.toList = .inr (a, r) → f m = (a, { m with rest := ⟨r.toArray⟩ }))) ∧
  (m.e ≠ 0 → m.rest = ⟨#[]⟩ → (f m).2 = m)
theorem rdg_pure {α : Type} (a : α) : Rdg (pureD a) (pureS a) := by
  intro m hm
  refine ⟨fun _ => ⟨fun e he => (by cases he), fun a' r h => ?_⟩, fun _ _ => rfl⟩
  simp only [pureD, Sum.inr.injEq, Prod.mk.injEq] at h
  obtain ⟨rfl, rfl⟩ := h
  rfl
theorem rdg_bind {α β : Type} {d : Dec α} {f : St α} {d' : α → Dec β} {g : α → St β} (hf : Rdg d f) (hg : ∀ a, Rdg (d' a) (g a)) : Rdg (bindD d d') (bindS f g) := by
  intro m hm
  have h1 := hf m hm
  refine ⟨fun he => ?_, fun he hr => ?_⟩
  · have h2 := h1.1 he
    cases hd : d m.rest.data.toList with
    | inl e =>
      have h3 := h2.1 e hd
      rw [bindD_err hd]
      refine ⟨fun e' he' => ?_, fun a r h => (by cases h)⟩
      simp only [Sum.inl.injEq] at he'
      subst he'
      have h4 := (hg (f m).1 (f m).2 h3.2.2.2).2 (by rw [h3.2.1]; exact h3.1) h3.2.2.1
      unfold bindS
      rw [h4]
      exact h3
    | inr x =>
      obtain ⟨a, r⟩ := x
      have h3 := h2.2 a r hd
      rw [bindD_ok hd]
      have h4 := (hg a { m with rest := ⟨r.toArray⟩ } hm).1 he
      unfold bindS
      rw [h3]
      simp only at h4 ⊢
      exact h4
  · have h2 := h1.2 he hr
    unfold bindS
    rw [h2]
    exact (hg (f m).1 m hm).2 he hr
theorem empty_data : (⟨#[]⟩ : ByteArray).data.toList = [] := rfl
theorem adv_stuck {m : M} (he : m.e ≠ 0) (hr : m.rest = ⟨#[]⟩) (k e : Nat) (h : e ≠ 0) : m.adv k e = m := by
  unfold M.adv M.fail
  rw [if_neg h, if_neg he]
  cases m
  simp only at hr
  subst hr
  rfl
theorem adv_err {m : M} (he : m.e = 0) (k e : Nat) (h : e ≠ 0) : (m.adv k e).e = e ∧ (m.adv k e).rest = ⟨#[]⟩ ∧ (m.adv k e).reading = m.reading := by
  unfold M.adv M.fail
  rw [if_neg h, if_pos he]
  exact ⟨rfl, rfl, rfl⟩
theorem drop_bytes (s : ByteArray) (k : Nat) : s.extract k s.size = ⟨(s.data.toList.drop k).toArray⟩ := by
  apply ByteArray.ext
  apply Array.ext'
  show (s.extract k s.size).data.toList = s.data.toList.drop k
  rw [ByteArray.data_extract, Array.toList_extract, List.extract_eq_take_drop, List.take_of_length_le (by simp)]
theorem rdg_lim (most n : Nat) : Rdg (numD most) (limS most n) := by
  intro m hm
  unfold limS
  rw [if_pos hm]
  refine ⟨fun he => ?_, fun he hr => ?_⟩
  · unfold numD
    by_cases h0 : (rd m.rest.data.toList).2.2 ≠ 0
    · have hz := rd_err h0
      rw [if_pos h0, if_neg (by rw [hz.1]; omega)]
      refine ⟨fun e h => ?_, fun a r h => (by cases h)⟩
      simp only [Sum.inl.injEq] at h
      subst h
      have := adv_err he (rd m.rest.data.toList).2.1 _ h0
      exact ⟨h0, this.1, this.2.1, by rw [this.2.2]; exact hm⟩
    · rw [if_neg h0]
      have h0 : (rd m.rest.data.toList).2.2 = 0 := by simpa using h0
      by_cases h1 : most < (rd m.rest.data.toList).1
      · rw [if_pos h1, if_pos h1]
        refine ⟨fun e h => ?_, fun a r h => (by cases h)⟩
        simp only [Sum.inl.injEq] at h
        subst h
        have := adv_err he (rd m.rest.data.toList).2.1 2 (by omega)
        exact ⟨by omega, this.1, this.2.1, by rw [this.2.2]; exact hm⟩
      · rw [if_neg h1, if_neg h1]
        refine ⟨fun e h => (by cases h), fun a r h => ?_⟩
        simp only [Sum.inr.injEq, Prod.mk.injEq] at h
        obtain ⟨rfl, rfl⟩ := h
        rw [h0]
        unfold M.adv
        rw [if_pos rfl, drop_bytes]
  · rw [hr]
    have e0 : rd (⟨#[]⟩ : ByteArray).data.toList = (0, 0, 3) := rfl
    rw [e0]
    simp only [Nat.not_lt_zero, if_false]
    exact adv_stuck he hr 0 3 (by omega)
theorem take_ext (s : ByteArray) (k n : Nat) : s.extract k (k + n) = ⟨((s.data.toList.drop k).take n).toArray⟩ := by
  apply ByteArray.ext
  apply Array.ext'
  simp [ByteArray.data_extract]
theorem size_l (s : ByteArray) : s.data.toList.length = s.size := by rw [Array.length_toList]; rfl
theorem rdg_txt (s : ByteArray) : Rdg (textD V8) (txtS s) := by
  intro m hm
  unfold txtS
  rw [if_pos hm]
  refine ⟨fun he => ?_, fun he hr => ?_⟩
  · obtain ⟨N, k, c, hr⟩ : ∃ N k c, rd m.rest.data.toList = (N, k, c) := ⟨_, _, _, rfl⟩
    unfold textD bindD numD rdT
    rw [hr]
    simp only
    by_cases h0 : c ≠ 0
    · rw [if_pos h0, if_pos h0]
      refine ⟨fun e h => ?_, fun a r h => (by cases h)⟩
      simp only [Sum.inl.injEq] at h
      subst h
      have := adv_err he 0 _ h0
      exact ⟨h0, this.1, this.2.1, by rw [this.2.2]; exact hm⟩
    · rw [if_neg h0, if_neg h0]
      have ho := rd_ok (l := m.rest.data.toList) (by rw [hr]; simpa using h0)
      rw [hr] at ho
      simp only at ho
      rw [size_l] at ho
      by_cases h1 : 16 < N
      · rw [if_pos h1, if_pos h1]
        refine ⟨fun e h => ?_, fun a r h => (by cases h)⟩
        simp only [Sum.inl.injEq] at h
        subst h
        have := adv_err he 0 2 (by omega)
        exact ⟨by omega, this.1, this.2.1, by rw [this.2.2]; exact hm⟩
      · rw [if_neg h1, if_neg h1]
        simp only [List.length_drop, size_l]
        by_cases h2 : m.rest.size < k + N
        · rw [if_pos h2, if_pos (by omega)]
          refine ⟨fun e h => ?_, fun a r h => (by cases h)⟩
          simp only [Sum.inl.injEq] at h
          subst h
          have := adv_err he 0 3 (by omega)
          exact ⟨by omega, this.1, this.2.1, by rw [this.2.2]; exact hm⟩
        · rw [if_neg h2, if_neg (by omega), take_ext]
          by_cases h3 : V8 ⟨((m.rest.data.toList.drop k).take N).toArray⟩ = true
          · have h3' : validD (⟨((m.rest.data.toList.drop k).take N).toArray⟩ : ByteArray).data.toList = true := h3
            rw [if_pos h3, if_pos h3']
            refine ⟨fun e h => (by cases h), fun a r h => ?_⟩
            simp only [Sum.inr.injEq, Prod.mk.injEq] at h
            obtain ⟨rfl, rfl⟩ := h
            unfold M.adv
            rw [if_pos rfl, drop_bytes, List.drop_drop]
          · have h3' : ¬ validD (⟨((m.rest.data.toList.drop k).take N).toArray⟩ : ByteArray).data.toList = true := h3
            rw [if_neg h3, if_neg h3']
            refine ⟨fun e h => ?_, fun a r h => (by cases h)⟩
            simp only [Sum.inl.injEq] at h
            subst h
            have := adv_err he 0 4 (by omega)
            exact ⟨by omega, this.1, this.2.1, by rw [this.2.2]; exact hm⟩
  · rw [hr]
    exact adv_stuck he hr 0 3 (by omega)
theorem rdg_if {α : Type} {d : Dec α} {f : St α} (c : Bool) (z : α) (h : Rdg d f) : Rdg (if c then d else pureD z) (if c then f else pureS z) := by
  cases c with
  | true => exact h
  | false => exact rdg_pure z
theorem rdg_numb (n : Int) : Rdg intD (numbS n) := rdg_bind (rdg_lim _ _) (fun _ => rdg_pure _)
theorem rdg_sgn (n : Int) : Rdg zigD (sgnS n) := rdg_bind (rdg_lim _ _) (fun _ => rdg_pure _)
theorem rdg_job (v : Int) : Rdg (jobR V8 v) (jobS v zJob) :=
  rdg_bind (rdg_txt _) fun _ => rdg_bind (rdg_sgn _) fun _ => rdg_bind (rdg_numb _) fun _ => rdg_bind (rdg_if _ _ (rdg_numb _)) fun _ => rdg_bind (rdg_if _ _ (rdg_txt _)) fun _ => rdg_pure _
theorem rdg_node (v : Int) : Rdg (nodeR V8 v) (nodeS v zNode) :=
  rdg_bind (rdg_txt _) fun _ => rdg_bind (rdg_numb _) fun _ => rdg_bind (rdg_if _ _ (rdg_txt _)) fun _ => rdg_pure _
theorem rdg_lease : Rdg (leaseR V8) (leaseS zLease) :=
  rdg_bind (rdg_txt _) fun _ => rdg_bind (rdg_txt _) fun _ => rdg_bind (rdg_numb _) fun _ => rdg_pure _
theorem rdg_go {α : Type} {d : Dec α} {f : α → St α} (z : α) (h : Rdg d (f z)) : ∀ n, Rdg (repD d n) (goS f (List.replicate n z))
  | 0 => rdg_pure _
  | n + 1 => rdg_bind h fun _ => rdg_bind (rdg_go z h n) fun _ => rdg_pure _
theorem padL_nil {α : Type} (z : α) (n : Nat) : padL z [] n = List.replicate n z := by
  apply List.ext_getElem
  · simp [padL]
  · intro i h1 h2
    simp [padL]
theorem rdg_rows {α : Type} {d : Dec α} {f : α → St α} (most : Nat) (z : α) (h : Rdg d (f z)) : Rdg (rowsD most d) (rowsS most z f []) :=
  rdg_bind (rdg_lim _ _) fun n => by rw [padL_nil]; exact rdg_go z h n
theorem rdg_whole (v : Int) : Rdg (stR V8 v) (wholeS v zeroSt) :=
  rdg_bind (rdg_if _ _ (rdg_numb _)) fun _ => rdg_bind (rdg_rows 40 zJob (rdg_job v)) fun _ => rdg_bind (rdg_rows 20 zNode (rdg_node v)) fun _ => rdg_bind (rdg_rows 40 zLease rdg_lease) fun _ => rdg_pure _
end Go.Proofs.YtiekgafopalfmaaGreatDoor
