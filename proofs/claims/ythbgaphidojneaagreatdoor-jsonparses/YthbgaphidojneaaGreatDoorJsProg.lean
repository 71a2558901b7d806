/- The program's reader of the JSON form as plain functions (no walk): it reads back what was printed. -/
import Derived.Test.YthbgaphidojneaaGreatDoorJsMore
import Derived.Test.YthbgaphidojneaaGreatDoorJsTell
import Derived.Lib.IndexMore
import Derived.Lib.SlTrimSet
import Derived.Lib.AtoiAll
namespace Go.Proofs.YthbgaphidojneaaGreatDoor

/-- Behind the next colon. -/
def findP (l : List UInt8) : List UInt8 := (l.dropWhile (fun c => !(c == 58))).drop 1
theorem index_colon : ∀ l : List UInt8, (Lib.index l [58] = -1 ∧ findP l = []) ∨ (0 ≤ Lib.index l [58] ∧ findP l = l.drop ((Lib.index l [58]).toNat + 1))
  | [] => .inl ⟨rfl, rfl⟩
  | b :: l => by
    unfold Lib.index
    by_cases hb : b = 58
    · subst hb
      right
      rw [if_pos (by simp [List.isPrefixOf])]
      exact ⟨by omega, by simp [findP]⟩
    · have h1 : ([58] : List UInt8).isPrefixOf (b :: l) = false := by simp [List.isPrefixOf, Ne.symm hb]
      have h2 : findP (b :: l) = findP l := by simp [findP, hb]
      rw [h1, h2]
      simp only [Bool.false_eq_true, if_false]
      rcases index_colon l with ⟨h3, h4⟩ | ⟨h3, h4⟩
      · left
        rw [h3]
        exact ⟨rfl, h4⟩
      · right
        have h5 : (Lib.index l [58] == -1) = false := by simp; omega
        rw [h5]
        simp only [Bool.false_eq_true, if_false]
        refine ⟨by omega, ?_⟩
        rw [h4, show (Lib.index l [58] + 1).toNat + 1 = ((Lib.index l [58]).toNat + 1) + 1 by omega]
        simp
theorem cut_find (l : List UInt8) : (Lib.cut l [58]).2.1 = findP l := by
  unfold Lib.cut
  rcases index_colon l with ⟨h1, h2⟩ | ⟨h1, h2⟩
  · rw [if_neg (by omega), h2]
  · rw [if_pos h1, h2]; rfl
theorem find_short (l : List UInt8) : (findP l).length ≤ l.length - 1 := by
  unfold findP
  have := (List.dropWhile_sublist (fun c => !(c == (58 : UInt8))) (l := l)).length_le
  rw [List.length_drop]
  omega
theorem find_at (p m : List UInt8) (h : ∀ c ∈ p, c ≠ 58) : findP (p ++ 58 :: m) = m := by
  induction p with
  | nil => simp [findP]
  | cons c p ih =>
    have hc := h c (List.mem_cons_self ..)
    have := ih (fun x hx => h x (List.mem_cons_of_mem _ hx))
    unfold findP at this ⊢
    simpa [hc] using this
/-- Behind a byte if it is next. -/
def skipP (c : UInt8) (l : List UInt8) : List UInt8 := Lib.trimPrefix l [c]
theorem skip_at (c : UInt8) (m : List UInt8) : skipP c (c :: m) = m := by simp [skipP, Lib.trimPrefix, Lib.hasPrefix, List.isPrefixOf]
theorem skip_not {c d : UInt8} (m : List UInt8) (h : d ≠ c) : skipP c (d :: m) = d :: m := by simp [skipP, Lib.trimPrefix, Lib.hasPrefix, List.isPrefixOf, Ne.symm h]
theorem skip_short (c : UInt8) (l : List UInt8) : (skipP c l).length ≤ l.length := by
  unfold skipP Lib.trimPrefix
  split
  · rw [List.length_drop]; omega
  · exact Nat.le_refl _
/-! ### numbers -/
def numSet : List UInt8 := [45, 48, 49, 50, 51, 52, 53, 54, 55, 56, 57]
theorem numSet_is (c : UInt8) : numSet.contains c = true ↔ (c.toNat = 45 ∨ (48 ≤ c.toNat ∧ c.toNat ≤ 57)) := by
  have : ∀ n : Fin 256, (numSet.contains (UInt8.ofNat n.val) = true ↔ ((UInt8.ofNat n.val).toNat = 45 ∨ (48 ≤ (UInt8.ofNat n.val).toNat ∧ (UInt8.ofNat n.val).toNat ≤ 57))) := by decide +kernel
  have h := this ⟨c.toNat, c.toNat_lt⟩
  simpa using h
def atoiV (ds : List UInt8) : Int := match Lib.atoiAll ds with
  | .ok v => v
  | .syntax => 0
  | .range => Lib.atoiSat ds
theorem digits_of (l cs : List UInt8) : Lib.trimSuffix l (Lib.trimLeftS l cs) = l.takeWhile (cs.contains ·) := by
  unfold Lib.trimSuffix Lib.trimLeftS Lib.hasSuffix
  have h : (l.dropWhile (cs.contains ·)).isSuffixOf l = true := by
    rw [List.isSuffixOf_iff_suffix]
    exact List.dropWhile_suffix _
  rw [if_pos h]
  have e := List.takeWhile_append_dropWhile (p := (cs.contains ·)) (l := l)
  have e2 := congrArg List.length e
  rw [List.length_append] at e2
  have hlen : l.length - (l.dropWhile (cs.contains ·)).length = (l.takeWhile (cs.contains ·)).length := by omega
  rw [hlen]
  have e3 : List.take (l.takeWhile (cs.contains ·)).length (l.takeWhile (cs.contains ·) ++ l.dropWhile (cs.contains ·)) = l.takeWhile (cs.contains ·) := List.take_left' rfl
  rw [e] at e3
  exact e3
theorem takeW {p : UInt8 → Bool} (ds m : List UInt8) (c : UInt8) (h : ∀ x ∈ ds, p x = true) (hc : p c = false) : (ds ++ c :: m).takeWhile p = ds ∧ (ds ++ c :: m).dropWhile p = c :: m := by
  induction ds with
  | nil => simp [hc]
  | cons x ds ih =>
    have hx := h x (List.mem_cons_self ..)
    obtain ⟨h1, h2⟩ := ih (fun y hy => h y (List.mem_cons_of_mem _ hy))
    simp [hx, h1, h2]
theorem parse_digs : ∀ (ds : List UInt8) (acc : Nat), (∀ x ∈ ds, 48 ≤ x.toNat ∧ x.toNat ≤ 57) → valOf acc ds < 1000000000000000000 → Lib.parseUint10 acc ds = .ok (valOf acc ds)
  | [], acc, _, _ => rfl
  | c :: r, acc, hd, hv => by
    have hc := hd c (List.mem_cons_self ..)
    have mono : ∀ (ds : List UInt8) (a : Nat), a ≤ valOf a ds := by
      intro ds
      induction ds with
      | nil => intro a; exact Nat.le_refl _
      | cons x ds ih =>
        intro a
        have := ih (10 * a + (x.toNat - 48))
        unfold valOf at this ⊢
        simp only [List.foldl_cons]
        omega
    have h1 : valOf acc (c :: r) = valOf (10 * acc + (c.toNat - 48)) r := rfl
    have h2 := mono r (10 * acc + (c.toNat - 48))
    rw [h1] at hv ⊢
    unfold Lib.parseUint10
    rw [if_pos hc, if_neg (by omega), if_neg (by omega), show acc * 10 + (c.toNat - 48) = 10 * acc + (c.toNat - 48) by omega]
    exact parse_digs r _ (fun x hx => hd x (List.mem_cons_of_mem _ hx)) hv
theorem atoi_dig {n : Int} (h : small18 n) : Lib.atoiAll (digZ n) = .ok n := by
  unfold small18 at h
  have mag : ∀ k : Nat, k < 1000000000000000000 → Lib.parseMag (digN k) = .ok k := by
    intro k hk
    unfold Lib.parseMag
    have h1 := digN_pos k
    rw [if_neg (by intro e; rw [e] at h1; simp at h1), parse_digs _ 0 (fun x hx => digN_mem k x hx) (by rw [valOf_digN]; exact hk), valOf_digN]
  by_cases hn : n < 0
  · have e : digZ n = 45 :: digN (-n).toNat := by unfold digZ; rw [if_pos hn]
    rw [e]
    unfold Lib.atoiAll
    simp only [show (45 : UInt8).toNat = 45 from rfl, or_true, if_true]
    rw [mag _ (by omega)]
    simp only [not_true, false_and, if_false, true_and]
    rw [if_neg (by omega)]
    congr 1
    omega
  · have e : digZ n = digN n.toNat := by unfold digZ; rw [if_neg hn]
    obtain ⟨x, r, hx, _⟩ := digN_head n.toNat
    have hm := digN_mem n.toNat x (by rw [hx]; simp)
    have h2 := mag n.toNat (by omega)
    rw [e]
    rw [hx] at h2 ⊢
    unfold Lib.atoiAll
    simp only
    rw [if_neg (by omega), h2]
    simp only
    rw [if_neg (by omega), if_neg (by omega), if_neg (by omega)]
    congr 1
    omega
theorem atoiV_bounds (ds : List UInt8) : -9223372036854775808 ≤ atoiV ds ∧ atoiV ds ≤ 9223372036854775807 := by
  unfold atoiV
  cases h : Lib.atoiAll ds with
  | «syntax» => simp
  | range =>
    simp only
    unfold Lib.atoiSat
    split <;> omega
  | ok v =>
    simp only
    unfold Lib.atoiAll at h
    split at h
    · cases h
    · simp only at h
      split at h
      · cases h
      · cases h
      · split at h
        · cases h
        · split at h
          · cases h
          · simp only [Lib.NumEnd.ok.injEq] at h
            rw [← h]
            split <;> omega
def numP (l : List UInt8) : Int × List UInt8 := (atoiV ((findP l).takeWhile (numSet.contains ·)), (findP l).dropWhile (numSet.contains ·))
theorem num_at (p m : List UInt8) (hp : ∀ x ∈ p, x ≠ 58) {n : Int} (hn : small18 n) (c : UInt8) (hc : numSet.contains c = false) : numP (p ++ 58 :: (digZ n ++ c :: m)) = (n, c :: m) := by
  unfold numP
  rw [find_at p _ hp]
  obtain ⟨h1, h2⟩ := takeW (p := (numSet.contains ·)) (digZ n) m c (fun x hx => (numSet_is x).2 (digZ_mem n x hx)) hc
  rw [h1, h2]
  unfold atoiV
  rw [atoi_dig hn]
theorem num_short (l : List UInt8) : (numP l).2.length ≤ l.length - 1 := by
  have h1 := find_short l
  have h2 := (List.dropWhile_sublist (numSet.contains ·) (l := findP l)).length_le
  unfold numP
  simp only
  omega
/-! ### quoted texts -/
def hexD (c : UInt8) : Option Nat := if 48 ≤ c.toNat ∧ c.toNat ≤ 57 then some (c.toNat - 48) else if 97 ≤ (c ||| 32).toNat ∧ (c ||| 32).toNat ≤ 102 then some ((c ||| 32).toNat - 87) else none
/-- What ParseUint(.., 16, 8) answers, whatever its error. -/
def p16 (acc : Nat) : List UInt8 → Nat
  | [] => acc
  | c :: r => match hexD c with
    | none => 0
    | some d => if 255 < acc * 16 + d then 255 else p16 (acc * 16 + d) r
theorem p16_le : ∀ (l : List UInt8) (acc : Nat), acc ≤ 255 → p16 acc l ≤ 255
  | [], acc, h => h
  | c :: r, acc, h => by
    unfold p16
    split
    · omega
    · split
      · omega
      · exact p16_le r _ (by omega)
theorem hexD_hex : ∀ k : Fin 16, hexD (hexB k.val) = some k.val := by decide
theorem p16_hex {a b : Nat} (ha : a < 16) (hb : b < 16) (h : a < 2) : p16 0 [48, 48, hexB a, hexB b] = 16 * a + b := by
  have h1 := hexD_hex ⟨a, ha⟩
  have h2 := hexD_hex ⟨b, hb⟩
  simp only at h1 h2
  have h0 : hexD 48 = some 0 := by decide
  simp only [p16, h0, h1, h2]
  rw [if_neg (by omega), if_neg (by omega), if_neg (by omega), if_neg (by omega)]
  omega
/-- One byte of a quoted text. -/
def charP (l : List UInt8) : UInt8 × List UInt8 :=
  if l.headD 0 = 92 ∧ 6 ≤ l.length ∧ (l.drop 1).headD 0 = 117 then (UInt8.ofNat (p16 0 ((l.drop 2).take 4)), l.drop 6)
  else if l.headD 0 = 92 ∧ 2 ≤ l.length then ((l.drop 1).headD 0, l.drop 2)
  else (l.headD 0, l.drop 1)
theorem char_short {l : List UInt8} (h : l ≠ []) : (charP l).2.length < l.length := by
  have h0 : 0 < l.length := List.length_pos_iff.2 h
  unfold charP
  split
  · simp only [List.length_drop]; omega
  · split
    · simp only [List.length_drop]; omega
    · simp only [List.length_drop]; omega
theorem char_esc (c : UInt8) (m : List UInt8) : charP (escB c ++ m) = (c, m) := by
  by_cases h1 : c = 34 ∨ c = 92
  · have e : escB c = [92, c] := by unfold escB; rw [if_pos h1]
    rw [e]
    have h2 : c ≠ 117 := by rcases h1 with rfl | rfl <;> decide
    unfold charP
    simp [h2]
  · by_cases h3 : c.toNat < 32
    · rw [escB_low h3]
      unfold charP
      have e2 : ∀ m : List UInt8, ([92, 117, 48, 48, hexB (c.toNat / 16), hexB (c.toNat % 16)] ++ m).length = 6 + m.length := by intro m; simp; omega
      rw [if_pos (by rw [e2]; simp)]
      have e3 : (([92, 117, 48, 48, hexB (c.toNat / 16), hexB (c.toNat % 16)] ++ m).drop 2).take 4 = [48, 48, hexB (c.toNat / 16), hexB (c.toNat % 16)] := rfl
      rw [e3, p16_hex (by omega) (by omega) (by omega)]
      have e4 : UInt8.ofNat (16 * (c.toNat / 16) + c.toNat % 16) = c := by
        apply u8_of
        have := c.toNat_lt
        simp
        omega
      rw [e4]
      rfl
    · have e : escB c = [c] := by unfold escB; rw [if_neg h1, if_neg h3]
      rw [e]
      have h2 : c ≠ 92 := fun e => h1 (.inr e)
      unfold charP
      simp [h2]
def chGo : Nat → List UInt8 → List UInt8 → List UInt8 × List UInt8
  | 0, out, l => (out, l)
  | f + 1, out, l => if l = [] ∨ l.headD 0 = 34 then (out, l) else chGo f (out ++ [(charP l).1]) (charP l).2
theorem chGo_more : ∀ (n : Nat) (l : List UInt8) (f g : Nat) (out : List UInt8), l.length ≤ n → n < f → n < g → chGo f out l = chGo g out l := by
  intro n
  induction n with
  | zero =>
    intro l f g out hl hf hg
    obtain rfl : l = [] := List.eq_nil_of_length_eq_zero (by omega)
    cases f with
    | zero => omega
    | succ f =>
      cases g with
      | zero => omega
      | succ g => simp [chGo]
  | succ n ih =>
    intro l f g out hl hf hg
    cases f with
    | zero => omega
    | succ f =>
      cases g with
      | zero => omega
      | succ g =>
        rw [chGo, chGo]
        by_cases h : l = [] ∨ l.headD 0 = 34
        · rw [if_pos h, if_pos h]
        · rw [if_neg h, if_neg h]
          have := char_short (l := l) (fun e => h (.inl e))
          exact ih _ f g _ (by omega) (by omega) (by omega)
/-- The loop over a quoted text, as a walk meets it. -/
def chAt (out l : List UInt8) : List UInt8 × List UInt8 := chGo (l.length + 1) out l
theorem chAt_end (out : List UInt8) {l : List UInt8} (h : l = [] ∨ l.headD 0 = 34) : chAt out l = (out, l) := by unfold chAt; rw [chGo, if_pos h]
theorem chAt_step (out : List UInt8) {l : List UInt8} (h : ¬ (l = [] ∨ l.headD 0 = 34)) : chAt out l = chAt (out ++ [(charP l).1]) (charP l).2 := by
  unfold chAt
  rw [chGo, if_neg h]
  have := char_short (l := l) (fun e => h (.inl e))
  exact chGo_more (charP l).2.length _ _ _ _ (Nat.le_refl _) (by omega) (by omega)
theorem chAt_esc : ∀ (s out m : List UInt8), chAt out (escL s ++ 34 :: m) = (out ++ s, 34 :: m)
  | [], out, m => by
    rw [show escL [] ++ 34 :: m = 34 :: m from rfl, chAt_end out (.inr rfl), List.append_nil]
  | c :: s, out, m => by
    have e : escL (c :: s) ++ 34 :: m = escB c ++ (escL s ++ 34 :: m) := by simp [escL]
    obtain ⟨x, r, hx, hne⟩ := escB_ne c
    have h : ¬ (escL (c :: s) ++ 34 :: m = [] ∨ (escL (c :: s) ++ 34 :: m).headD 0 = 34) := by
      rw [e, hx]
      simp [hne]
    rw [chAt_step out h, e, char_esc, chAt_esc s (out ++ [c]) m]
    simp
theorem chAt_len : ∀ (n : Nat) (out l : List UInt8), l.length ≤ n → (chAt out l).2.length ≤ l.length ∧ (chAt out l).1.length ≤ out.length + l.length := by
  intro n
  induction n with
  | zero =>
    intro out l hl
    obtain rfl : l = [] := List.eq_nil_of_length_eq_zero (by omega)
    rw [chAt_end out (.inl rfl)]
    simp
  | succ n ih =>
    intro out l hl
    by_cases h : l = [] ∨ l.headD 0 = 34
    · rw [chAt_end out h]; simp
    · have h1 := char_short (l := l) (fun e => h (.inl e))
      have h2 := ih (out ++ [(charP l).1]) (charP l).2 (by omega)
      rw [chAt_step out h]
      simp only [List.length_append, List.length_cons, List.length_nil] at h2
      omega
def textP (l : List UInt8) : List UInt8 × List UInt8 := ((chAt [] (skipP 34 (findP l))).1, skipP 34 (chAt [] (skipP 34 (findP l))).2)
theorem text_at (p m : List UInt8) (hp : ∀ x ∈ p, x ≠ 58) (s : List UInt8) : textP (p ++ 58 :: (quoteL s ++ m)) = (s, m) := by
  unfold textP
  rw [find_at p _ hp, show quoteL s ++ m = 34 :: (escL s ++ 34 :: m) by simp [quoteL], skip_at, chAt_esc]
  simp only [List.nil_append]
  rw [skip_at]
theorem text_short (l : List UInt8) : (textP l).2.length ≤ l.length - 1 ∧ (textP l).1.length ≤ l.length := by
  have h1 := find_short l
  have h2 := skip_short 34 (findP l)
  have h3 := chAt_len _ [] (skipP 34 (findP l)) (Nat.le_refl _)
  have h4 := skip_short 34 (chAt [] (skipP 34 (findP l))).2
  unfold textP
  simp only
  simp only [List.length_nil] at h3
  omega
/-! ### rows -/
/-- Reading one after another. -/
def jobQ (l : List UInt8) : JobD × List UInt8 :=
  (⟨baL (textP l).1, (numP (textP l).2).1, (numP (numP (textP l).2).2).1, (numP (numP (numP (textP l).2).2).2).1, baL (textP (numP (numP (numP (textP l).2).2).2).2).1⟩, (textP (numP (numP (numP (textP l).2).2).2).2).2)
def nodeQ (l : List UInt8) : NodeD × List UInt8 := (⟨baL (textP l).1, (numP (textP l).2).1, baL (textP (numP (textP l).2).2).1⟩, (textP (numP (textP l).2).2).2)
def leaseQ (l : List UInt8) : LeaseD × List UInt8 := (⟨baL (textP l).1, baL (textP (textP l).2).1, (numP (textP (textP l).2).2).1⟩, (numP (textP (textP l).2).2).2)
theorem text_at' (p m : List UInt8) (hp : ∀ x ∈ p, x ≠ 58) (s : ByteArray) {l : List UInt8} (h : l = p ++ 58 :: (quoteB s ++ m)) : textP l = (s.data.toList, m) := by rw [h]; exact text_at p m hp _
theorem num_at' (p m : List UInt8) (hp : ∀ x ∈ p, x ≠ 58) {n : Int} (hn : small18 n) (c : UInt8) (hc : numSet.contains c = false) {l : List UInt8} (h : l = p ++ 58 :: (digZ n ++ c :: m)) : numP l = (n, c :: m) := by rw [h]; exact num_at p m hp hn c hc
theorem jobQ_at (j : JobD) (m : List UInt8) (h : small18 j.prio ∧ small18 j.need ∧ small18 j.tries) : jobQ (jobJ j ++ m) = (j, 125 :: m) := by
  have e0 := text_at' [123, 34, 110, 97, 109, 101, 34] ([44, 34, 112, 114, 105, 111, 34] ++ 58 :: (digZ j.prio ++ 44 :: ([34, 110, 101, 101, 100, 34] ++ 58 :: (digZ j.need ++ 44 :: ([34, 116, 114, 105, 101, 115, 34] ++ 58 :: (digZ j.tries ++ 44 :: ([34, 116, 97, 103, 34] ++ 58 :: (quoteB j.tag ++ 125 :: m)))))))) (by decide) j.name (l := jobJ j ++ m) (by simp [jobJ])
  have e1 := num_at' [44, 34, 112, 114, 105, 111, 34] ([34, 110, 101, 101, 100, 34] ++ 58 :: (digZ j.need ++ 44 :: ([34, 116, 114, 105, 101, 115, 34] ++ 58 :: (digZ j.tries ++ 44 :: ([34, 116, 97, 103, 34] ++ 58 :: (quoteB j.tag ++ 125 :: m)))))) (by decide) h.1 44 (by decide) rfl
  have e2 := num_at' [44, 34, 110, 101, 101, 100, 34] ([34, 116, 114, 105, 101, 115, 34] ++ 58 :: (digZ j.tries ++ 44 :: ([34, 116, 97, 103, 34] ++ 58 :: (quoteB j.tag ++ 125 :: m)))) (by decide) h.2.1 44 (by decide) rfl
  have e3 := num_at' [44, 34, 116, 114, 105, 101, 115, 34] ([34, 116, 97, 103, 34] ++ 58 :: (quoteB j.tag ++ 125 :: m)) (by decide) h.2.2 44 (by decide) rfl
  have e4 := text_at' [44, 34, 116, 97, 103, 34] (125 :: m) (by decide) j.tag rfl
  simp only [List.cons_append, List.nil_append] at e0 e1 e2 e3 e4
  unfold jobQ
  simp only [e0, e1, e2, e3, e4]
  rfl
theorem nodeQ_at (n : NodeD) (m : List UInt8) (h : small18 n.room) : nodeQ (nodeJ n ++ m) = (n, 125 :: m) := by
  have e0 := text_at' [123, 34, 110, 97, 109, 101, 34] ([44, 34, 114, 111, 111, 109, 34] ++ 58 :: (digZ n.room ++ 44 :: ([34, 122, 111, 110, 101, 34] ++ 58 :: (quoteB n.zone ++ 125 :: m)))) (by decide) n.name (l := nodeJ n ++ m) (by simp [nodeJ])
  have e1 := num_at' [44, 34, 114, 111, 111, 109, 34] ([34, 122, 111, 110, 101, 34] ++ 58 :: (quoteB n.zone ++ 125 :: m)) (by decide) h 44 (by decide) rfl
  have e2 := text_at' [44, 34, 122, 111, 110, 101, 34] (125 :: m) (by decide) n.zone rfl
  simp only [List.cons_append, List.nil_append] at e0 e1 e2
  unfold nodeQ
  simp only [e0, e1, e2]
  rfl
theorem leaseQ_at (n : LeaseD) (m : List UInt8) (h : small18 n.til) : leaseQ (leaseJ n ++ m) = (n, 125 :: m) := by
  have e0 := text_at' [123, 34, 106, 111, 98, 34] ([44, 34, 110, 111, 100, 101, 34] ++ 58 :: (quoteB n.node ++ ([44, 34, 117, 110, 116, 105, 108, 34] ++ 58 :: (digZ n.til ++ 125 :: m)))) (by decide) n.job (l := leaseJ n ++ m) (by simp [leaseJ])
  have e1 := text_at' [44, 34, 110, 111, 100, 101, 34] ([44, 34, 117, 110, 116, 105, 108, 34] ++ 58 :: (digZ n.til ++ 125 :: m)) (by decide) n.node rfl
  have e2 := num_at' [44, 34, 117, 110, 116, 105, 108, 34] m (by decide) h 125 (by decide) rfl
  simp only [List.cons_append, List.nil_append] at e0 e1 e2
  unfold leaseQ
  simp only [e0, e1, e2]
  rfl
theorem jobQ_short (l : List UInt8) : (jobQ l).2.length ≤ l.length - 1 := by
  have a := (text_short l).1
  have b := num_short (textP l).2
  have c := num_short (numP (textP l).2).2
  have d := num_short (numP (numP (textP l).2).2).2
  have e := (text_short (numP (numP (numP (textP l).2).2).2).2).1
  unfold jobQ
  simp only
  omega
theorem nodeQ_short (l : List UInt8) : (nodeQ l).2.length ≤ l.length - 1 := by
  have a := (text_short l).1
  have b := num_short (textP l).2
  have e := (text_short (numP (textP l).2).2).1
  unfold nodeQ
  simp only
  omega
theorem leaseQ_short (l : List UInt8) : (leaseQ l).2.length ≤ l.length - 1 := by
  have a := (text_short l).1
  have b := (text_short (textP l).2).1
  have e := num_short (textP (textP l).2).2
  unfold leaseQ
  simp only
  omega
/-- A table's rows. -/
def rwGo {α : Type} (d : List UInt8 → α × List UInt8) : Nat → List α → List UInt8 → List α × List UInt8
  | 0, acc, l => (acc, l)
  | f + 1, acc, l => if l.headD 0 = 123 then rwGo d f (acc ++ [(d l).1]) (skipP 44 (skipP 125 (d l).2)) else (acc, l)
def Less {α : Type} (d : List UInt8 → α × List UInt8) : Prop := ∀ l, (d l).2.length ≤ l.length - 1
theorem rw_short {α : Type} {d : List UInt8 → α × List UInt8} (hd : Less d) {l : List UInt8} (h : l.headD 0 = 123) : (skipP 44 (skipP 125 (d l).2)).length < l.length := by
  have h0 : l ≠ [] := by rintro rfl; simp at h
  have h1 : 0 < l.length := List.length_pos_iff.2 h0
  have h2 := hd l
  have h3 := skip_short 125 (d l).2
  have h4 := skip_short 44 (skipP 125 (d l).2)
  omega
theorem rwGo_more {α : Type} {d : List UInt8 → α × List UInt8} (hd : Less d) : ∀ (n : Nat) (l : List UInt8) (f g : Nat) (acc : List α), l.length ≤ n → n < f → n < g → rwGo d f acc l = rwGo d g acc l := by
  intro n
  induction n with
  | zero =>
    intro l f g acc hl hf hg
    obtain rfl : l = [] := List.eq_nil_of_length_eq_zero (by omega)
    cases f with
    | zero => omega
    | succ f =>
      cases g with
      | zero => omega
      | succ g => simp [rwGo]
  | succ n ih =>
    intro l f g acc hl hf hg
    cases f with
    | zero => omega
    | succ f =>
      cases g with
      | zero => omega
      | succ g =>
        rw [rwGo, rwGo]
        by_cases h : l.headD 0 = 123
        · rw [if_pos h, if_pos h]
          have := rw_short hd h
          exact ih _ f g _ (by omega) (by omega) (by omega)
        · rw [if_neg h, if_neg h]
def rwAt {α : Type} (d : List UInt8 → α × List UInt8) (acc : List α) (l : List UInt8) : List α × List UInt8 := rwGo d (l.length + 1) acc l
theorem rwAt_end {α : Type} (d : List UInt8 → α × List UInt8) (acc : List α) {l : List UInt8} (h : ¬ l.headD 0 = 123) : rwAt d acc l = (acc, l) := by unfold rwAt; rw [rwGo, if_neg h]
theorem rwAt_step {α : Type} {d : List UInt8 → α × List UInt8} (hd : Less d) (acc : List α) {l : List UInt8} (h : l.headD 0 = 123) : rwAt d acc l = rwAt d (acc ++ [(d l).1]) (skipP 44 (skipP 125 (d l).2)) := by
  unfold rwAt
  rw [rwGo, if_pos h]
  have := rw_short hd h
  exact rwGo_more hd _ _ _ _ _ (Nat.le_refl _) (by omega) (by omega)
theorem rwAt_len {α : Type} {d : List UInt8 → α × List UInt8} (hd : Less d) : ∀ (n : Nat) (acc : List α) (l : List UInt8), l.length ≤ n → (rwAt d acc l).2.length ≤ l.length ∧ (rwAt d acc l).1.length ≤ acc.length + l.length := by
  intro n
  induction n with
  | zero =>
    intro acc l hl
    obtain rfl : l = [] := List.eq_nil_of_length_eq_zero (by omega)
    rw [rwAt_end d acc (by simp)]
    simp
  | succ n ih =>
    intro acc l hl
    by_cases h : l.headD 0 = 123
    · have h1 := rw_short hd h
      have h2 := ih (acc ++ [(d l).1]) (skipP 44 (skipP 125 (d l).2)) (by omega)
      rw [rwAt_step hd acc h]
      simp only [List.length_append, List.length_cons, List.length_nil] at h2
      omega
    · rw [rwAt_end d acc h]; simp
def rowsQ {α : Type} (d : List UInt8 → α × List UInt8) (l : List UInt8) : List α × List UInt8 := rwAt d [] (skipP 91 (findP l))
theorem rowsQ_at {α : Type} {P : α → Prop} {d : List UInt8 → α × List UInt8} {g : α → List UInt8} (hd : Less d) (h1 : ∀ x m, P x → d (g x ++ m) = (x, 125 :: m)) (h0 : ∀ x, ∃ r, g x = 123 :: r) (p m : List UInt8) (hp : ∀ x ∈ p, x ≠ 58) (xs : List α) (hP : ∀ x ∈ xs, P x) :
    rowsQ d (p ++ 58 :: 91 :: (listL g xs ++ m)) = (xs, 93 :: m) := by
  have hs : ∀ (x : α) (k : List UInt8), (g x ++ k).headD 0 = 123 := by
    intro x k
    obtain ⟨r, hr⟩ := h0 x
    rw [hr]; rfl
  have tail : ∀ (xs : List α) (acc : List α) (m : List UInt8), (∀ x ∈ xs, P x) → rwAt d acc (skipP 44 (tailL g xs ++ m)) = (acc ++ xs, 93 :: m) := by
    intro xs
    induction xs with
    | nil =>
      intro acc m _
      rw [show tailL g [] ++ m = 93 :: m from rfl, skip_not _ (by decide), rwAt_end d acc (by simp), List.append_nil]
    | cons x xs ih =>
      intro acc m hx
      rw [show tailL g (x :: xs) ++ m = 44 :: (g x ++ (tailL g xs ++ m)) by simp [tailL], skip_at, rwAt_step hd acc (hs _ _), h1 x _ (hx x (List.mem_cons_self ..))]
      simp only
      rw [skip_at, ih (acc ++ [x]) m (fun y hy => hx y (List.mem_cons_of_mem _ hy))]
      simp
  unfold rowsQ
  rw [find_at p _ hp, skip_at]
  cases xs with
  | nil => rw [show listL g [] ++ m = 93 :: m from rfl, rwAt_end d [] (by simp)]
  | cons x xs =>
    rw [show listL g (x :: xs) ++ m = g x ++ (tailL g xs ++ m) by simp [listL], rwAt_step hd [] (hs _ _), h1 x _ (hP x (List.mem_cons_self ..))]
    simp only
    rw [skip_at, tail xs ([] ++ [x]) m (fun y hy => hP y (List.mem_cons_of_mem _ hy))]
    simp
theorem rowsQ_len {α : Type} {d : List UInt8 → α × List UInt8} (hd : Less d) (l : List UInt8) : (rowsQ d l).2.length ≤ l.length ∧ (rowsQ d l).1.length ≤ l.length := by
  have h1 := find_short l
  have h2 := skip_short 91 (findP l)
  have h3 := rwAt_len hd _ [] (skipP 91 (findP l)) (Nat.le_refl _)
  simp only [List.length_nil] at h3
  unfold rowsQ
  omega
/-- The whole of a state. -/
def stQ (l : List UInt8) : StD × List UInt8 :=
  (⟨(numP l).1, (rowsQ jobQ (numP l).2).1, (rowsQ nodeQ (rowsQ jobQ (numP l).2).2).1, (rowsQ leaseQ (rowsQ nodeQ (rowsQ jobQ (numP l).2).2).2).1⟩, (rowsQ leaseQ (rowsQ nodeQ (rowsQ jobQ (numP l).2).2).2).2)
theorem stQ_at {U : ByteArray → Bool} {s : StD} (hv : Valid U s) : (stQ (stJ s)).1 = s := by
  have hv0 := hv
  obtain ⟨h1, ⟨n1, n2, n3⟩, ⟨hj, _⟩, ⟨hn, _⟩, ⟨hl, _⟩, _⟩ := hv
  have e0 := num_at' [123, 34, 114, 101, 118, 34] ([34, 106, 111, 98, 115, 34] ++ 58 :: 91 :: (listL jobJ s.jobs ++ ([44, 34, 110, 111, 100, 101, 115, 34] ++ 58 :: 91 :: (listL nodeJ s.nodes ++ ([44, 34, 108, 101, 97, 115, 101, 115, 34] ++ 58 :: 91 :: (listL leaseJ s.leases ++ [125])))))) (by decide) (n := s.rev) ⟨by omega, by omega⟩ 44 (by decide) (l := stJ s) (by simp [stJ])
  have e1 := rowsQ_at (P := fun j : JobD => small18 j.prio ∧ small18 j.need ∧ small18 j.tries) jobQ_short (fun x m h => jobQ_at x m h) (fun x => ⟨_, rfl⟩) [44, 34, 106, 111, 98, 115, 34] ([44, 34, 110, 111, 100, 101, 115, 34] ++ 58 :: 91 :: (listL nodeJ s.nodes ++ ([44, 34, 108, 101, 97, 115, 101, 115, 34] ++ 58 :: 91 :: (listL leaseJ s.leases ++ [125])))) (by decide) s.jobs (fun j hm => by
    have z := (jobE_zero U j).1 (hj j hm)
    exact ⟨⟨by omega, by omega⟩, ⟨by omega, by omega⟩, ⟨by omega, by omega⟩⟩)
  have e2 := rowsQ_at (P := fun j : NodeD => small18 j.room) nodeQ_short (fun x m h => nodeQ_at x m h) (fun x => ⟨_, rfl⟩) [93, 44, 34, 110, 111, 100, 101, 115, 34] ([44, 34, 108, 101, 97, 115, 101, 115, 34] ++ 58 :: 91 :: (listL leaseJ s.leases ++ [125])) (by decide) s.nodes (fun j hm => by
    have z := (nodeE_zero U j).1 (hn j hm)
    exact ⟨by omega, by omega⟩)
  have e3 := rowsQ_at (P := fun j : LeaseD => small18 j.til) leaseQ_short (fun x m h => leaseQ_at x m h) (fun x => ⟨_, rfl⟩) [93, 44, 34, 108, 101, 97, 115, 101, 115, 34] [125] (by decide) s.leases (fun j hm => by
    have z := (leaseE_zero _ _ _).1 (hl j hm)
    exact ⟨by omega, by omega⟩)
  simp only [List.cons_append, List.nil_append] at e0 e1 e2 e3
  unfold stQ
  simp only [e0, e1, e2, e3]
/-- What Parse answers: the state that was read, if it is told again as the text. -/
theorem jpar_prog {U : ByteArray → Bool} {t : List UInt8} (hl : t.length ≤ 60000) (h : ¬ (checkE U (stQ t).1 = 0 ∧ stJ (stQ t).1 = t)) : jparR U t = (zeroSt, 4) := by
  refine jpar_no hl (fun s hc ht => h ?_)
  have e := stQ_at ((check_zero U s).1 hc)
  rw [ht] at e
  rw [e]
  exact ⟨hc, ht⟩
end Go.Proofs.YthbgaphidojneaaGreatDoor
