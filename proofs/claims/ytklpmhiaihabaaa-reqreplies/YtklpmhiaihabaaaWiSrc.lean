/- The reference's reading of states: a source of bytes, and what is thrown if it can't be read. -/
import Derived.Test.YtklpmhiaihabaaaWiREnc
import Derived.WalkSmall
namespace Go.Proofs.Ytklpmhiaihabaaa
open Go.RowKit

/-- A source in memory: what is left of its bytes. -/
def SrcAt (b : Nat) (l : List UInt8) (w : World) : Prop := ObjAt b #[.string (ba l)] 105 w
/-- What is thrown. -/
def taken (e : Nat) : Ending := .panicked [{ v := .iface 76 (.agg #[.int .i64 (e : Int)]), recovered := false }]
/-- It reads as the reader d does: it throws, or answers, and goes on. -/
def SrcPost {α : Type} (d : Dec α) (val : α → Value) (b : Nat) (l : List UInt8) (w : World) (r : Ending) (w' : World) : Prop :=
  w.grownBy w' (some b) ∧ ((∃ e, d l = .inl e ∧ r = taken e) ∨ (∃ a l', d l = .inr (a, l') ∧ r = .returned (val a) ∧ SrcAt b l' w'))
theorem ba_data (l : List UInt8) : (ba l).data.toList = l := rfl
theorem ba_drop (l : List UInt8) (k : Nat) : (ba l).extract k (ba l).size = ba (l.drop k) := drop_bytes (ba l) k
theorem src_set {b : Nat} {l : List UInt8} {w : World} (h : SrcAt b l w) (k : List UInt8) : SrcAt b k (w.setCell ⟨b, 0, none⟩ (.string (ba k))) := objAt_set h 0 _
theorem grown_refl (w : World) (row : Option Nat) : w.grownBy w row := ⟨rfl, rfl, rfl, Nat.le_refl _, fun _ _ _ => rfl⟩
theorem grown_trans {w w' w2 : World} {row : Option Nat} (h : w.grownBy w' row) (k : w'.grownBy w2 row) : w.grownBy w2 row :=
  ⟨k.os.trans h.os, k.tape.trans h.tape, k.output.trans h.output, Nat.le_trans h.size k.size, fun i hi hr => (k.block i (Nat.lt_of_lt_of_le hi h.size) hr).trans (h.block i hi hr)⟩
theorem grown_fresh {w0 w1 w2 : World} {r row : Option Nat} (h : w0.grownBy w1 r) (k : w1.grownBy w2 row) (hr : ∀ j, row = some j → w0.heap.size ≤ j) : w0.grownBy w2 r :=
  ⟨k.os.trans h.os, k.tape.trans h.tape, k.output.trans h.output, Nat.le_trans h.size k.size, fun i hi hn => (k.block i (Nat.lt_of_lt_of_le hi h.size) (fun e => by have := hr i e.symm; omega)).trans (h.block i hi hn)⟩
theorem grown_store {w0 w : World} {row : Option Nat} {c : Nat} (h : w0.grownBy w row) (hc : w0.heap.size ≤ c) (j : Nat) (u : Value) : w0.grownBy (w.setCell ⟨c, j, none⟩ u) row :=
  grown_fresh h (grown_set w c j u) (fun k hk => by simp only [Option.some.injEq] at hk; omega)
theorem obj_grown {b c : Nat} {vs : Array Value} {t : TypeId} {w w' : World} (h : ObjAt c vs t w) (hg : w.grownBy w' (some b)) (hne : c ≠ b) : ObjAt c vs t w' := by
  have h0 := objAt_lt h
  unfold ObjAt at h ⊢
  rw [hg.block c h0 (by simp; exact hne)]
  exact h
set_option maxRecDepth 100000 in
theorem srcBig_is {b : Nat} {l : List UInt8} (hl : l.length ≤ 140737488355328) (w : World) (h : SrcAt b l w) :
    Calls Try.prog 57 #[.pointer (some ⟨b, 0, none⟩)] w (SrcPost (numD 4611686018427387904) (fun n => .int .u64 (n : Int)) b l w) := by
  have c0 := objAt_cell h 0 rfl
  have f0 := objAt_free h 0
  have hlt := objAt_lt h
  obtain ⟨N, k, c, hr⟩ : ∃ N k c, rd l = (N, k, c) := ⟨_, _, _, rfl⟩
  have HR := Lib.hid (rread_is (ba l) N k c (by rw [ba_data]; exact hr) (by rw [ba_size]; unfold maxLen; omega))
  by_cases h0 : c = 0
  · subst h0
    have ho := rd_ok (l := l) (by rw [hr])
    rw [hr] at ho
    by_cases h1 : 4611686018427387904 < N
    · have hd : numD 4611686018427387904 l = .inl 2 := by unfold numD; rw [hr, if_neg (by simp), if_pos h1]
      have HD := Lib.hid hd
      have h1' : (4611686018427387904 : Int) < (N : Int) := by omega
      clear h hr ho hd h1
      generalize ba l = L at c0 HR
      go_enter Try.func57, Try.ntmps57
      go_wp2_with fail
      refine (HR.out _).mono ?_
      rintro e w1 ⟨rfl, rfl⟩
      go_wp2
      exact ⟨rfl, grown_refl _ _, .inl ⟨2, HD.out, rfl⟩⟩
    · have hd : numD 4611686018427387904 l = .inr (N, l.drop k) := by unfold numD; rw [hr, if_neg (by simp), if_neg h1]
      have HD := Lib.hid hd
      have h1' : (N : Int) ≤ 4611686018427387904 := by omega
      have hs := Lib.hid (src_set h (l.drop k))
      have hk : (k : Int) ≤ ((ba l).size : Int) := by rw [ba_size]; have := ho.2.2.1; simp only at this; omega
      have hdr := ba_drop l k
      clear h hr ho hd h1
      generalize ba l = L at c0 HR hk hdr
      generalize ba (l.drop k) = K at hs hdr
      go_enter Try.func57, Try.ntmps57
      go_wp2_with fail
      refine (HR.out _).mono ?_
      rintro e w1 ⟨rfl, rfl⟩
      go_wp2
      go_ret
      exact ⟨grown_set w b 0 _, .inr ⟨N, l.drop k, HD.out, rfl, hs.out⟩⟩
  · have hd : numD 4611686018427387904 l = .inl c := by unfold numD; rw [hr, if_pos h0]
    have HD := Lib.hid hd
    have h0' : ((c : Int) == 0) = false := by simp; omega
    have h0'' : ((c : Int) != 0) = true := by simp; omega
    clear h hr hd h0
    generalize ba l = L at c0 HR
    go_enter Try.func57, Try.ntmps57
    go_wp2_with fail
    refine (HR.out _).mono ?_
    rintro e w1 ⟨rfl, rfl⟩
    go_wp2
    exact ⟨rfl, grown_refl _ _, .inl ⟨c, HD.out, rfl⟩⟩
set_option maxRecDepth 100000 in
theorem srcNum_is {b : Nat} {l : List UInt8} (hl : l.length ≤ 140737488355328) (w : World) (h : SrcAt b l w) :
    Calls Try.prog 41 #[.pointer (some ⟨b, 0, none⟩)] w (SrcPost intD (fun n => .int .i64 n) b l w) := by
  have HB := Lib.hid (srcBig_is hl w h)
  clear h
  go_enter Try.func41, Try.ntmps41
  go_wp2_with fail
  refine HB.out.mono ?_
  rintro r w1 ⟨g1, ⟨e, he, rfl⟩ | ⟨n, l1, hn, rfl, s1⟩⟩
  · have HE := Lib.hid he
    unfold taken
    go_wp2
    exact ⟨rfl, g1, .inl ⟨e, bindD_err HE.out, rfl⟩⟩
  · have hle : n ≤ 4611686018427387904 := ((numC 4611686018427387904 (by omega)).sound _ _ _ hn).1
    have HN := Lib.hid hn
    have w2 : wrap64 (n : Int) = (n : Int) := by unfold wrap64; omega
    clear hn
    go_wp2
    go_ret
    exact ⟨g1, .inr ⟨(n : Int), l1, by unfold intD; rw [bindD_ok HN.out]; rfl, by first | rfl | simp [w2], s1⟩⟩
set_option maxRecDepth 100000 in
theorem srcText_is {b : Nat} {l : List UInt8} (hl : l.length ≤ 140737488355328) (w : World) (h : SrcAt b l w) :
    Calls Try.prog 44 #[.pointer (some ⟨b, 0, none⟩)] w (SrcPost (textD V8) (fun s => .string s) b l w) := by
  have c0 := objAt_cell h 0 rfl
  have hlt := objAt_lt h
  have HR := Lib.hid (rtextRead_any (ba l) (by rw [ba_size]; omega) w)
  have hx := rdg_txt ⟨#[]⟩ ⟨true, [], ba l, 0⟩ rfl
  have hks := rdT_size (ba l)
  unfold txtS at hx
  simp only [if_true] at hx
  obtain ⟨hx, _⟩ := hx
  obtain ⟨hx1, hx2⟩ := hx trivial
  rw [ba_data] at hx1 hx2
  obtain ⟨T, k, c, hr⟩ : ∃ T k c, rdT (ba l) = (T, k, c) := ⟨_, _, _, rfl⟩
  rw [hr] at HR hks hx1 hx2
  simp only at HR hks hx1 hx2
  cases hd : textD V8 l with
  | inl e =>
    have h1 := hx1 e hd
    have hc : c = e := by
      unfold M.adv at h1
      by_cases h0 : c = 0
      · rw [if_pos h0] at h1; exact absurd h1.2.1.symm h1.1
      · rw [if_neg h0] at h1; exact h1.2.1
    subst hc
    have HD := Lib.hid hd
    have h0' : ((c : Int) != 0) = true := by have := h1.1; simp; omega
    clear h hr hd h1 hx1 hx2 hks
    generalize ba l = L at c0 HR
    go_enter Try.func44, Try.ntmps44
    go_wp2_with fail
    refine HR.out.mono ?_
    rintro e w1 ⟨rfl, b1⟩
    go_wp2
    exact ⟨rfl, grown_of_below b1 _, .inl ⟨c, HD.out, rfl⟩⟩
  | inr x =>
    obtain ⟨t, l1⟩ := x
    have h1 := hx2 t l1 hd
    have hc : c = 0 ∧ T = t ∧ (ba l).extract k (ba l).size = ba l1 := by
      unfold M.adv at h1
      by_cases h0 : c = 0
      · rw [if_pos h0] at h1
        simp only [Prod.mk.injEq, M.mk.injEq, true_and, and_true] at h1
        exact ⟨h0, h1.1, h1.2⟩
      · rw [if_neg h0] at h1
        simp only [Prod.mk.injEq, M.mk.injEq, M.fail, if_true] at h1
        exact absurd h1.2.2.2.2 h0
    obtain ⟨rfl, rfl, hex⟩ := hc
    have HD := Lib.hid hd
    have hk : (k : Int) ≤ ((ba l).size : Int) := by omega
    have HS := Lib.hid h
    clear hr hd h1 hx1 hx2 hks h
    obtain ⟨L, hL⟩ : ∃ L, ba l = L := ⟨_, rfl⟩
    obtain ⟨K, hK⟩ : ∃ K, ba l1 = K := ⟨_, rfl⟩
    have HL := Lib.hid hL
    have HK := Lib.hid hK
    rw [hL] at c0 HR hk hex
    rw [hK] at hex
    clear hL hK c0
    have c0 : w.cell? ⟨b, 0, none⟩ = some (.string L) := by rw [← HL.out]; exact objAt_cell HS.out 0 rfl
    go_enter Try.func44, Try.ntmps44
    go_wp2_with fail
    refine HR.out.mono ?_
    rintro e w1 ⟨rfl, b1⟩
    have o1 := objAt_next HS.out b1
    have S1 := Lib.hid o1
    have c1 : w1.cell? ⟨b, 0, none⟩ = some (.string L) := by rw [← HL.out]; exact objAt_cell o1 0 rfl
    have f1 := objAt_free o1 0
    have hl1 := objAt_lt o1
    clear o1 c0
    go_wp2
    go_ret
    exact ⟨grown_trans (grown_of_below b1 _) (grown_set w1 b 0 _), .inr ⟨T, l1, HD.out, rfl, by rw [← HK.out]; exact src_set S1.out l1⟩⟩
theorem many_dec (most : Nat) (l : List UInt8) : bindD (numD 4611686018427387904) (fun n => if most < n then failD 2 else pureD n) l = numD most l ∨ 4611686018427387904 < most := by
  by_cases hm : 4611686018427387904 < most
  · exact .inr hm
  · left
    unfold bindD numD
    by_cases h0 : (rd l).2.2 ≠ 0
    · rw [if_pos h0, if_pos h0]
    · rw [if_neg h0, if_neg h0]
      by_cases h1 : 4611686018427387904 < (rd l).1
      · rw [if_pos h1, if_pos (by omega)]
      · rw [if_neg h1]
        simp only
        by_cases h2 : most < (rd l).1
        · rw [if_pos h2, if_pos h2]; rfl
        · rw [if_neg h2, if_neg h2]; rfl
end Go.Proofs.Ytklpmhiaihabaaa
