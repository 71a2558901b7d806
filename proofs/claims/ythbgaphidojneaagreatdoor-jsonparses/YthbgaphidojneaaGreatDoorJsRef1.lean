/- The reference's reading of the JSON form: what is skipped, numbers, quoted texts. -/
import Derived.Test.YthbgaphidojneaaGreatDoorJsMore
import Derived.Test.YthbgaphidojneaaGreatDoorJsRdr
import Derived.Test.YthbgaphidojneaaGreatDoorPkRef
namespace Go.Proofs.YthbgaphidojneaaGreatDoor
open Go.RowKit

/-- A source in memory: what is left of its text. -/
def SxAt (b : Nat) (l : List UInt8) (w : World) : Prop := ObjAt b #[.string (baL l)] 98 w
/-- What is thrown. -/
def thrown : Ending := .panicked [{ v := .iface 95 (.agg #[.int .i64 4]), recovered := false }]
/-- It reads as the reader d does: it throws, or answers, and goes on. -/
def SxPost {α : Type} (d : Dec α) (val : α → Value) (b : Nat) (l : List UInt8) (w : World) (r : Ending) (w' : World) : Prop :=
  w.grownBy w' (some b) ∧ ((r = thrown ∧ ∃ e, d l = .inl e) ∨ (∃ a l', d l = .inr (a, l') ∧ r = .returned (val a) ∧ SxAt b l' w'))
/-- What skip answers. -/
def SkPost (p : List UInt8) (b : Nat) (l : List UInt8) (w : World) (e : Ending) (w' : World) : Prop := ∃ c : Bool, e = .returned (.bool c) ∧ w.grownBy w' (some b) ∧ ((c = true ∧ l.take p.length = p ∧ SxAt b (l.drop p.length) w') ∨ (c = false ∧ l.take p.length ≠ p ∧ SxAt b l w'))
theorem sx_set {b : Nat} {l : List UInt8} {w : World} (h : SxAt b l w) (k : List UInt8) : SxAt b k (w.setCell ⟨b, 0, none⟩ (.string (baL k))) := objAt_set h 0 _
theorem grown_self (w : World) (row : Option Nat) : w.grownBy w row := ⟨rfl, rfl, rfl, Nat.le_refl _, fun _ _ _ => rfl⟩
set_option maxRecDepth 100000 in
set_option maxHeartbeats 2000000 in
theorem sxSkip_is {b : Nat} {l : List UInt8} (p : List UInt8) (w : World) (h : SxAt b l w) :
    Calls Tryz.prog 22 #[.pointer (some ⟨b, 0, none⟩), .string (baL p)] w (SkPost p b l w) := by
  have c0 := objAt_cell h 0 rfl
  have f0 := objAt_free h 0
  have hlt := objAt_lt h
  have HS := Lib.hid h
  have zl := baL_size l
  have zp := baL_size p
  have ecut : (baL l).extract 0 (baL p).size = baL (l.take p.length) := by rw [ba_cut, baL_size]; rfl
  have erest : (baL l).extract (baL p).size (baL l).size = baL (l.drop p.length) := by rw [baL_size p]; exact ba_rest l _
  have hne : l.take p.length ≠ p → baL (l.take p.length) ≠ baL p := fun hn e => hn (baL_inj e)
  have heq : l.take p.length = p → baL (l.take p.length) = baL p := fun e => by rw [e]
  obtain ⟨L, hL⟩ : ∃ L, baL l = L := ⟨_, rfl⟩
  obtain ⟨P, hP⟩ : ∃ P, baL p = P := ⟨_, rfl⟩
  obtain ⟨K, hK⟩ : ∃ K, baL (l.drop p.length) = K := ⟨_, rfl⟩
  obtain ⟨E, hE⟩ : ∃ E, baL (l.take p.length) = E := ⟨_, rfl⟩
  rw [hL] at c0 zl ecut erest
  rw [hP] at zp ecut erest hne heq
  rw [hP]
  rw [hE] at ecut hne heq
  rw [hK] at erest
  have HK := Lib.hid hK
  clear h hL hP hE hK
  by_cases hs : l.length < p.length
  · have hno : l.take p.length ≠ p := by
      intro e
      have := congrArg List.length e
      rw [List.length_take] at this
      omega
    have t1 : (L.size : Int) < (P.size : Int) := by omega
    have HN := Lib.hid hno
    clear hno hs hne heq zl zp ecut erest
    go_enter Tryz.func22, Tryz.ntmps22
    go_wp2
    go_ret
    exact ⟨false, rfl, grown_self _ _, .inr ⟨rfl, HN.out, HS.out⟩⟩
  · have t1 : ¬ (L.size : Int) < (P.size : Int) := by omega
    have t2 : P.size ≤ L.size := by omega
    by_cases he : l.take p.length = p
    · obtain rfl := heq he
      have t3 : (E.toList == E.toList) = true := by simp
      have HN := Lib.hid he
      clear he hs hne heq zl zp
      go_enter Tryz.func22, Tryz.ntmps22
      go_wp2
      go_ret
      exact ⟨true, rfl, grown_set _ b 0 _, .inl ⟨rfl, HN.out, by rw [← HK.out]; exact sx_set HS.out _⟩⟩
    · have t3 := ne_list (hne he)
      have HN := Lib.hid he
      clear he hs hne heq zl zp erest
      go_enter Tryz.func22, Tryz.ntmps22
      go_wp2
      go_ret
      exact ⟨false, rfl, grown_self _ _, .inr ⟨rfl, HN.out, HS.out⟩⟩
set_option maxRecDepth 100000 in
theorem sxMust_is {b : Nat} {l : List UInt8} (p : List UInt8) (w : World) (h : SxAt b l w) :
    Calls Tryz.prog 20 #[.pointer (some ⟨b, 0, none⟩), .string (baL p)] w (SxPost (litD p) (fun _ => .tuple #[]) b l w) := by
  have H := Lib.hid (sxSkip_is p w h)
  obtain ⟨P, hP⟩ : ∃ P, baL p = P := ⟨_, rfl⟩
  rw [hP] at H ⊢
  clear h hP
  go_enter Tryz.func20, Tryz.ntmps20
  go_wp2_with fail
  refine H.out.mono ?_
  rintro e w1 ⟨c, rfl, g1, ⟨rfl, he, o1⟩ | ⟨rfl, he, o1⟩⟩
  · have HD : Hid (litD p l = .inr ((), l.drop p.length)) := by show _ = _; unfold litD; rw [if_pos he]
    clear he
    go_wp2
    go_end0
    exact ⟨g1, .inr ⟨(), _, HD.out, rfl, o1⟩⟩
  · have HD : Hid (litD p l = .inl 4) := by show _ = _; unfold litD; rw [if_neg he]
    clear he
    go_wp2
    exact ⟨rfl, g1, .inl ⟨rfl, _, HD.out⟩⟩
set_option maxRecDepth 100000 in
theorem sxComma_is {b : Nat} {l : List UInt8} (i : Nat) (w : World) (h : SxAt b l w) :
    Calls Tryz.prog 23 #[.pointer (some ⟨b, 0, none⟩), .int .i64 (i : Int)] w (SxPost (if (decide (i = 0)) = true then pureD () else litD [44]) (fun _ => .tuple #[]) b l w) := by
  have H := Lib.hid (sxMust_is [44] w h)
  by_cases h0 : i = 0
  · subst h0
    have HS := Lib.hid h
    clear h H
    go_enter Tryz.func23, Tryz.ntmps23
    go_wp2
    go_end0
    exact ⟨grown_self _ _, .inr ⟨(), l, rfl, rfl, HS.out⟩⟩
  · have t1 : (0 : Int) < (i : Int) := by omega
    have e : decide (i = 0) = false := decide_eq_false h0
    rw [e]
    simp only [Bool.false_eq_true, if_false]
    clear h e h0
    go_enter Tryz.func23, Tryz.ntmps23
    go_wp2_with fail
    refine H.out.mono ?_
    rintro e w1 ⟨g1, ⟨rfl, hd⟩ | ⟨a, l', hd, rfl, o1⟩⟩
    · have HD := Lib.hid hd
      unfold thrown
      clear hd
      go_wp2
      exact ⟨rfl, g1, .inl ⟨rfl, HD.out⟩⟩
    · go_wp2
      go_end0
      exact ⟨g1, .inr ⟨a, l', hd, rfl, o1⟩⟩
theorem digGo_step (f n : Nat) (c : UInt8) (l : List UInt8) (h : 48 ≤ c.toNat ∧ c.toNat ≤ 57) : digGo (f + 1) n (c :: l) = ((digGo f (10 * n + (c.toNat - 48)) l).1, (digGo f (10 * n + (c.toNat - 48)) l).2 + 1) := by
  simp only [digGo]; rw [if_pos h]
theorem digGo_stop (f n : Nat) (l : List UInt8) (h : f = 0 ∨ l = [] ∨ ¬ (48 ≤ (l.headD 0).toNat ∧ (l.headD 0).toNat ≤ 57)) : digGo f n l = (n, 0) := by
  cases f with
  | zero => rfl
  | succ f =>
    cases l with
    | nil => rfl
    | cons c l =>
      rcases h with h | h | h
      · omega
      · cases h
      · simp only [List.headD_cons] at h
        simp only [digGo]; rw [if_neg h]
theorem ba_at (l : List UInt8) (k : Nat) (h : k < (baL l).size) : (baL l)[k] = (l.drop k).headD 0 := by
  have h' : k < l.length := by rw [baL_size] at h; exact h
  have e : l.drop k = l[k] :: l.drop (k + 1) := List.drop_eq_getElem_cons h'
  rw [e]
  rfl
theorem jdrop_at (l : List UInt8) (k : Nat) (h : k < l.length) : l.drop k = (l.drop k).headD 0 :: l.drop (k + 1) := by
  have e : l.drop k = l[k] :: l.drop (k + 1) := List.drop_eq_getElem_cons h
  rw [e]; rfl
/-- How far the digits are read. -/
def DgAt (m : List UInt8) (k n : Nat) : Prop := n < 10 ^ k ∧ digGo 18 0 m = ((digGo (18 - k) n (m.drop k)).1, (digGo (18 - k) n (m.drop k)).2 + k)
theorem dg_start (m : List UInt8) : DgAt m 0 0 := ⟨by decide, rfl⟩
theorem dg_step {m : List UInt8} {k n : Nat} (h : DgAt m k n) (hk : k < m.length) (h18 : k < 18) (hd : 48 ≤ ((m.drop k).headD 0).toNat ∧ ((m.drop k).headD 0).toNat ≤ 57) : DgAt m (k + 1) (10 * n + (((m.drop k).headD 0).toNat - 48)) := by
  refine ⟨?_, ?_⟩
  · have := h.1
    rw [Nat.pow_succ]; omega
  · rw [h.2]
    obtain ⟨f, hf⟩ : ∃ f, 18 - k = f + 1 := ⟨17 - k, by omega⟩
    have hf2 : 18 - (k + 1) = f := by omega
    rw [hf, hf2]
    obtain ⟨c, hc⟩ : ∃ c, (m.drop k).headD 0 = c := ⟨_, rfl⟩
    have e := jdrop_at m k hk
    rw [hc] at e hd ⊢
    rw [e, digGo_step f n c _ hd]
    simp only [Prod.mk.injEq, true_and]
    omega
theorem dg_stop {m : List UInt8} {k n : Nat} (h : DgAt m k n) (hs : 18 - k = 0 ∨ m.drop k = [] ∨ ¬ (48 ≤ ((m.drop k).headD 0).toNat ∧ ((m.drop k).headD 0).toNat ≤ 57)) : digGo 18 0 m = (n, k) := by
  rw [h.2, digGo_stop _ _ _ hs]; simp
theorem dg_small {m : List UInt8} {k n : Nat} (h : DgAt m k n) (hk : k < 18) : n < 100000000000000000 := by
  have h1 := h.1
  have h2 : (10 : Nat) ^ k ≤ 10 ^ 17 := Nat.pow_le_pow_right (by omega) (by omega)
  have e : (10 : Nat) ^ 17 = 100000000000000000 := by decide
  omega
theorem dg_small' {m : List UInt8} {k n : Nat} (h : DgAt m k n) (hk : k ≤ 18) : n < 1000000000000000000 := by
  have h1 := h.1
  have h2 : (10 : Nat) ^ k ≤ 10 ^ 18 := Nat.pow_le_pow_right (by omega) (by omega)
  have e : (10 : Nat) ^ 18 = 1000000000000000000 := by decide
  omega
/-- What is left once the sign is skipped. -/
def signOf (l : List UInt8) : Bool := decide (l.take 1 = [45])
theorem dig_sign (l : List UInt8) (c : Bool) (m : List UInt8) (h : (c = true ∧ l.take 1 = [45] ∧ m = l.drop 1) ∨ (c = false ∧ l.take 1 ≠ [45] ∧ m = l)) : digD l = digFin c m := by
  unfold digD
  rcases h with ⟨rfl, h, rfl⟩ | ⟨rfl, h, rfl⟩
  · rw [if_pos (by cases l with | nil => simp at h | cons a l => simpa using h)]
    simp
  · rw [if_neg (by cases m with | nil => simp | cons a m => simpa using h)]
theorem fin_no {c : Bool} {m : List UInt8} {n : Nat} (h : digGo 18 0 m = (n, 0)) : digFin c m = .inl 4 := by unfold digFin; rw [if_pos (by rw [h])]
theorem fin_yes {c : Bool} {m : List UInt8} {n k : Nat} (h : digGo 18 0 m = (n, k)) (hk : k ≠ 0) : digFin c m = .inr (if c then -(n : Int) else (n : Int), m.drop k) := by unfold digFin; rw [if_neg (by rw [h]; exact hk), h]
set_option maxRecDepth 100000 in
set_option maxHeartbeats 4000000 in
theorem sxDig_is {b : Nat} {l : List UInt8} (hl : l.length ≤ 60000) (w : World) (h : SxAt b l w) :
    Calls Tryz.prog 21 #[.pointer (some ⟨b, 0, none⟩)] w (SxPost digD (.int .i64) b l w) := by
  have H := Lib.hid (sxSkip_is [45] w h)
  have hL := Lib.hid hl
  clear h hl
  go_enter Tryz.func21, Tryz.ntmps21
  go_wp2_with fail
  refine H.out.mono ?_
  rintro e w1 ⟨c, rfl, g1, hc⟩
  obtain ⟨m, hm, o1⟩ : ∃ m, ((c = true ∧ l.take 1 = [45] ∧ m = l.drop 1) ∨ (c = false ∧ l.take 1 ≠ [45] ∧ m = l)) ∧ SxAt b m w1 := by
    rcases hc with ⟨rfl, h1, h2⟩ | ⟨rfl, h1, h2⟩
    · exact ⟨_, .inl ⟨rfl, h1, rfl⟩, h2⟩
    · exact ⟨_, .inr ⟨rfl, h1, rfl⟩, h2⟩
  have HD := Lib.hid (dig_sign l c m hm)
  have hml : m.length ≤ 60000 := by
    have := hL.out
    rcases hm with ⟨_, _, rfl⟩ | ⟨_, _, rfl⟩
    · rw [List.length_drop]; omega
    · exact this
  have c1 := objAt_cell o1 0 rfl
  have f1 := objAt_free o1 0
  have l1 := objAt_lt o1
  have O1 := Lib.hid o1
  have G1 := Lib.hid g1
  have hat : Hid (∀ k (h : k < (baL m).size), (baL m)[k] = (m.drop k).headD 0) := ba_at m
  have zm := baL_size m
  have hrest : Hid (∀ k, (baL m).extract k (baL m).size = baL (m.drop k)) := ba_rest m
  obtain ⟨L, hLm⟩ : ∃ L, baL m = L := ⟨_, rfl⟩
  rw [hLm] at c1 hat zm hrest
  have HZ := Lib.hid zm
  have hsz : L.size ≤ 60000 := by omega
  clear hc hm o1 g1 H hLm zm hml
  cases c
  all_goals
    go_wp2
    go_loop [4, 5] (fun nv kv => ∃ k n : Nat, nv = .int .i64 (n : Int) ∧ kv = .int .i64 (k : Int) ∧ k ≤ 18 ∧ k ≤ L.size ∧ Hid (DgAt m k n)) (fun _ kv => 18 - (intOf kv).toNat)
    case atStart => exact ⟨0, 0, rfl, rfl, by omega, by omega, dg_start m⟩
    case round =>
      obtain ⟨k, n, rfl, rfl, hk, hks, HG⟩ := hrel
      by_cases hd : ∃ h : k < L.size, k < 18 ∧ 48 ≤ L[k].toNat ∧ L[k].toNat ≤ 57
      · obtain ⟨h1, h18, h48, h57⟩ := hd
        have hn := dg_small HG.out h18
        have HN := Lib.hid (dg_step HG.out (by rw [← HZ.out]; exact h1) h18 (by rw [← hat.out k h1]; exact ⟨h48, h57⟩))
        rw [← hat.out k h1] at HN
        have t18 : (k : Int) < 18 := by omega
        have t48 : (48 : Int) ≤ (L[k].toNat : Int) := by omega
        have t57 : (L[k].toNat : Int) ≤ 57 := by omega
        go_wp2
        go_round
        case rel => exact ⟨k + 1, 10 * n + (L[k].toNat - 48), by go_num, by go_num, by omega, by omega, HN.out⟩
        case measure => simp [intOf]; omega
      · have hx : ¬ k < L.size ∨ (k < L.size ∧ ¬ (k : Int) < 18) ∨ (∃ h : k < L.size, (k : Int) < 18 ∧ ¬ (48 : Int) ≤ (L[k].toNat : Int)) ∨ (∃ h : k < L.size, (k : Int) < 18 ∧ (48 : Int) ≤ (L[k].toNat : Int) ∧ ¬ (L[k].toNat : Int) ≤ 57) := by
          by_cases a1 : k < L.size
          · by_cases a2 : (k : Int) < 18
            · by_cases a3 : (48 : Int) ≤ (L[k].toNat : Int)
              · exact .inr (.inr (.inr ⟨a1, a2, a3, fun a4 => hd ⟨a1, by omega, by omega, by omega⟩⟩))
              · exact .inr (.inr (.inl ⟨a1, a2, a3⟩))
            · exact .inr (.inl ⟨a1, a2⟩)
          · exact .inl a1
        have HX : Hid (digGo 18 0 m = (n, k)) := by
          refine dg_stop HG.out ?_
          rcases hx with a | ⟨a, a'⟩ | ⟨a, a2, a3⟩ | ⟨a, a2, a3, a4⟩
          · right; left; rw [List.drop_eq_nil_iff]; have := HZ.out; omega
          · left; omega
          · right; right; rw [← hat.out k a]; omega
          · right; right; rw [← hat.out k a]; omega
        have hn := dg_small' HG.out hk
        clear hd
        by_cases k0 : k = 0
        · subst k0
          have HE := Lib.hid (HD.out.trans (fin_no HX.out))
          rcases hx with a | ⟨a, a'⟩ | ⟨a, a2, a3⟩ | ⟨a, a2, a3, a4⟩
          all_goals
            try omega
          all_goals
            go_wp2
            exact ⟨rfl, G1.out, .inl ⟨rfl, _, HE.out⟩⟩
        · have HE := Lib.hid (HD.out.trans (fin_yes HX.out k0))
          have er := hrest.out k
          have t0 : ¬ (k : Int) = 0 := by omega
          obtain ⟨K, hK⟩ : ∃ K, baL (m.drop k) = K := ⟨_, rfl⟩
          rw [hK] at er
          have HK := Lib.hid hK
          clear hK k0
          rcases hx with a | ⟨a, a'⟩ | ⟨a, a2, a3⟩ | ⟨a, a2, a3, a4⟩
          all_goals
            go_wp2
            go_ret
            exact ⟨jgrown_trans G1.out (grown_set _ b 0 _), .inr ⟨_, _, HE.out, by go_num, by rw [← HK.out]; exact sx_set O1.out _⟩⟩
end Go.Proofs.YthbgaphidojneaaGreatDoor
