/- Package json's reader: values one after another. -/
import Derived.Test.YthbgaphidojneaaGreatDoorJsUint
import Derived.Test.YthbgaphidojneaaGreatDoorJsRQuote
import Derived.Test.YthbgaphidojneaaGreatDoorPkWi2
import Derived.Test.YthbgaphidojneaaGreatDoorPkSt2
namespace Go.Proofs.YthbgaphidojneaaGreatDoor
open Go.RowKit

/-- A reader in memory: what is left of its text. -/
def RdAt (b : Nat) (l : List UInt8) (w : World) : Prop := ObjAt b #[.string (baL l)] 43 w
/-- The library's variables lie below the reader. -/
def JEnv (b : Nat) (w : World) : Prop := ∀ w', Below b w w' → JTabs w'
theorem jenv_at {b : Nat} {w : World} (h : JEnv b w) : JTabs w := h w (Below.refl _ _)
theorem jgrown_below {b : Nat} {w w' : World} (h : w.grownBy w' (some b)) (hb : b ≤ w.heap.size) : Below b w w' :=
  ⟨h.os, h.tape, h.output, h.size, fun i hi => h.block i (by omega) (by simp; omega)⟩
theorem jenv_next {b : Nat} {w w' : World} (h : JEnv b w) (hg : w.grownBy w' (some b)) (hb : b ≤ w.heap.size) : JEnv b w' := fun w2 h2 => h w2 ((jgrown_below hg hb).trans h2)
theorem jenv_below {b : Nat} {w w' : World} (h : JEnv b w) (hg : Below b w w') : JEnv b w' := fun w2 h2 => h w2 (hg.trans h2)
theorem jgrown_trans {w w' w2 : World} {row : Option Nat} (h : w.grownBy w' row) (k : w'.grownBy w2 row) : w.grownBy w2 row :=
  ⟨k.os.trans h.os, k.tape.trans h.tape, k.output.trans h.output, Nat.le_trans h.size k.size, fun i hi hr => (k.block i (Nat.lt_of_lt_of_le hi h.size) hr).trans (h.block i hi hr)⟩
theorem rd_lt {b : Nat} {l : List UInt8} {w : World} (h : RdAt b l w) : b < w.heap.size := objAt_lt h
theorem rd_set {b : Nat} {l : List UInt8} {w : World} (h : RdAt b l w) (k : List UInt8) : RdAt b k (w.setCell ⟨b, 0, none⟩ (.string (baL k))) := objAt_set h 0 _
/-- What a method of the reader leaves: the rest, and everything else as it was. -/
def RdPost (b : Nat) (l : List UInt8) (v : Value) (w : World) (e : Ending) (w' : World) : Prop := e = .returned v ∧ w.grownBy w' (some b) ∧ RdAt b l w'
set_option maxRecDepth 100000 in
theorem find_is {b : Nat} {l : List UInt8} (hl : l.length ≤ 60000) (w : World) (h : RdAt b l w) (hE : JEnv b w) :
    Calls Tryz.prog 81 #[.pointer (some ⟨b, 0, none⟩)] w (RdPost b (findP l) (.tuple #[]) w) := by
  have HC := Lib.hid (cut_is' l hl w (jenv_at hE))
  have c0 := objAt_cell h 0 rfl
  have HS := Lib.hid h
  obtain ⟨L, hL⟩ : ∃ L, baL l = L := ⟨_, rfl⟩
  obtain ⟨K, hK⟩ : ∃ K, baL (findP l) = K := ⟨_, rfl⟩
  rw [hL] at c0 HC
  rw [hK] at HC
  have HK := Lib.hid hK
  have HL := Lib.hid hL
  clear h hE hL hK
  go_enter Tryz.func81, Tryz.ntmps81
  go_wp2_with fail
  refine HC.out.mono ?_
  rintro e w1 ⟨⟨x, c, rfl⟩, b1⟩
  have o1 := objAt_next HS.out b1
  have S1 := Lib.hid o1
  have c1 : w1.cell? ⟨b, 0, none⟩ = some (.string L) := by rw [← HL.out]; exact objAt_cell o1 0 rfl
  have f1 := objAt_free o1 0
  have hl1 := objAt_lt o1
  clear o1 c0
  go_wp2
  go_end0
  exact ⟨rfl, jgrown_trans (grown_of_below b1 _) (grown_set w1 b 0 _), by rw [← HK.out]; exact rd_set S1.out _⟩
set_option maxRecDepth 100000 in
theorem skip_is {b : Nat} {l : List UInt8} (c : UInt8) (w : World) (h : RdAt b l w) :
    Calls Tryz.prog 85 #[.pointer (some ⟨b, 0, none⟩), .string ⟨#[c]⟩] w (RdPost b (skipP c l) (.tuple #[]) w) := by
  have HC := Lib.hid (trim_is l c w)
  have c0 := objAt_cell h 0 rfl
  have f0 := objAt_free h 0
  have hl0 := objAt_lt h
  have HS := Lib.hid h
  obtain ⟨L, hL⟩ : ∃ L, baL l = L := ⟨_, rfl⟩
  obtain ⟨K, hK⟩ : ∃ K, baL (skipP c l) = K := ⟨_, rfl⟩
  obtain ⟨C, hC⟩ : ∃ C : ByteArray, ⟨#[c]⟩ = C := ⟨_, rfl⟩
  rw [hL] at c0 HC
  rw [hK] at HC
  rw [hC] at HC ⊢
  have HK := Lib.hid hK
  clear h hL hK hC
  go_enter Tryz.func85, Tryz.ntmps85
  go_wp2_with fail
  refine HC.out.mono ?_
  rintro e w1 ⟨rfl, rfl⟩
  go_wp2
  go_end0
  exact ⟨rfl, grown_set _ b 0 _, by rw [← HK.out]; exact rd_set HS.out _⟩
set_option maxRecDepth 100000 in
set_option maxHeartbeats 2000000 in
theorem number_is' {b : Nat} {l : List UInt8} (hl : l.length ≤ 60000) (w : World) (h : RdAt b l w) (hE : JEnv b w) :
    Calls Tryz.prog 52 #[.pointer (some ⟨b, 0, none⟩)] w (RdPost b (numP l).2 (.int .i64 (numP l).1) w) := by
  have HF := Lib.hid (find_is hl w h hE)
  have hbw := rd_lt h
  have hfs := find_short l
  have HE := Lib.hid hE
  unfold numP
  obtain ⟨k, hk⟩ : ∃ k, findP l = k := ⟨_, rfl⟩
  rw [hk] at HF hfs ⊢
  simp only
  have hkl : k.length ≤ 60000 := by omega
  have htl : (k.takeWhile (numSet.contains ·)).length ≤ 60000 := by
    have := (List.takeWhile_sublist (numSet.contains ·) (l := k)).length_le
    omega
  have HL := Lib.hid (left_is' k)
  have HU := Lib.hid (suf_is k hkl)
  have HA := Lib.hid (atoi_is (k.takeWhile (numSet.contains ·)) htl)
  generalize atoiV (k.takeWhile (numSet.contains ·)) = n at HA ⊢
  generalize k.dropWhile (numSet.contains ·) = m at HL HU ⊢
  generalize k.takeWhile (numSet.contains ·) = d at HU HA
  obtain ⟨K, hK⟩ : ∃ K, baL k = K := ⟨_, rfl⟩
  obtain ⟨M, hM⟩ : ∃ M, baL m = M := ⟨_, rfl⟩
  obtain ⟨D, hD⟩ : ∃ D, baL d = D := ⟨_, rfl⟩
  rw [hK, hM] at HL HU
  rw [hD] at HU HA
  have HK := Lib.hid hK
  have HM := Lib.hid hM
  clear h hE hK hM hD hk hl htl hfs
  go_enter Tryz.func52, Tryz.ntmps52
  go_wp2_with fail
  refine HF.out.mono ?_
  rintro e w1 ⟨rfl, g1, o1⟩
  have c1 : w1.cell? ⟨b, 0, none⟩ = some (.string K) := by rw [← HK.out]; exact objAt_cell o1 0 rfl
  have O1 := Lib.hid o1
  have G1 := Lib.hid g1
  clear o1 g1 HF
  go_wp2_with fail
  refine (HL.out _).mono ?_
  rintro e w2 ⟨rfl, b2⟩
  have o2 := objAt_next O1.out b2
  have c2 : w2.cell? ⟨b, 0, none⟩ = some (.string K) := by rw [← HK.out]; exact objAt_cell o2 0 rfl
  have f2 := objAt_free o2 0
  have l2 := objAt_lt o2
  have O2 := Lib.hid o2
  have G2 := Lib.hid (jgrown_trans G1.out (grown_of_below b2 _))
  clear o2 b2 c1
  go_wp2_with fail
  refine (HU.out _).mono ?_
  rintro e w3 ⟨rfl, rfl⟩
  have G3 := Lib.hid (jgrown_trans G2.out (grown_set w3 b 0 (.string M)))
  have O3 : Hid (RdAt b m (w3.setCell ⟨b, 0, none⟩ (.string M))) := by show RdAt _ _ _; rw [← HM.out]; exact rd_set O2.out m
  have hT3 := jenv_at (jenv_next HE.out G3.out (Nat.le_of_lt hbw))
  have HA3 := Lib.hid (HA.out _ hT3)
  clear hT3 HA
  go_wp2_with fail
  refine HA3.out.mono ?_
  rintro e w4 ⟨⟨ev, rfl⟩, b4⟩
  go_wp2
  go_ret
  exact ⟨rfl, jgrown_trans G3.out (grown_of_below b4 _), objAt_next O3.out b4⟩
/-! ### quoted texts -/
theorem ba_cut (l : List UInt8) (i j : Nat) : (baL l).extract i j = baL ((l.drop i).take (j - i)) := by
  apply ByteArray.ext
  apply Array.ext'
  have h1 := Lib.extract_toList (baL l) i j
  rw [toList_data] at h1
  exact h1
theorem ba_rest (l : List UInt8) (k : Nat) : (baL l).extract k (baL l).size = baL (l.drop k) := by
  rw [ba_cut, baL_size, ← List.length_drop, List.take_length]
theorem head_get {l : List UInt8} (h : 0 < l.length) : l.headD 0 = l[0] := by
  cases l with
  | nil => simp at h
  | cons a l => rfl
theorem head_one {l : List UInt8} (h : 1 < l.length) : (l.drop 1).headD 0 = l[1] := by
  match l, h with
  | a :: c :: l, _ => rfl
theorem u8_ne {a b : UInt8} (h : a ≠ b) : ((a.toNat : Int) == (b.toNat : Int)) = false := by
  rw [beq_eq_false_iff_ne]
  intro e
  exact h (u8_of (by omega))
set_option maxRecDepth 100000 in
set_option maxHeartbeats 4000000 in
theorem char_in {b : Nat} {l : List UInt8} {L : ByteArray} (HL : Hid (baL l = L)) (hl : l.length ≤ 60000) (hsz : L.size = l.length) (h0 : 0 < L.size) (e0 : L[0] = l.headD 0) (e1 : ∀ h1 : 1 < L.size, L[1] = (l.drop 1).headD 0)
    (hcut : L.extract 2 6 = baL ((l.drop 2).take 4)) (r1 : L.extract 1 L.size = baL (l.drop 1)) (r2 : L.extract 2 L.size = baL (l.drop 2)) (r6 : L.extract 6 L.size = baL (l.drop 6)) (w : World) (h : RdAt b l w) (hE : JEnv b w) :
    Calls Tryz.prog 119 #[.pointer (some ⟨b, 0, none⟩)] w (RdPost b (charP l).2 (.int .u8 ((charP l).1.toNat : Int)) w) := by
  have hlt := rd_lt h
  have c0 : w.cell? ⟨b, 0, none⟩ = some (.string L) := by rw [← HL.out]; exact objAt_cell h 0 rfl
  have f0 := objAt_free h 0
  have HS := Lib.hid h
  have hz := Lib.hid hsz
  clear h
  by_cases q0 : l.headD 0 = 92
  · have t0 : L[0].toNat = 92 := by rw [e0, q0]; rfl
    by_cases q6 : 6 ≤ l.length
    · have s6 : 6 ≤ L.size := by omega
      have l1 : 1 < L.size := by omega
      have e1' := e1 l1
      by_cases q1 : (l.drop 1).headD 0 = 117
      · have t1 : L[1].toNat = 117 := by rw [e1', q1]; rfl
        have hch : charP l = (UInt8.ofNat (p16 0 ((l.drop 2).take 4)), l.drop 6) := by unfold charP; rw [if_pos ⟨q0, q6, q1⟩]
        rw [hch]
        dsimp only
        have hT4 : (baL ((l.drop 2).take 4)).size = 4 := by rw [baL_size, List.length_take, List.length_drop]; omega
        have HP := Lib.hid (pu_is (baL ((l.drop 2).take 4)) (by omega) (by omega) w (jenv_at hE))
        have hn := p16_le ((l.drop 2).take 4) 0 (by omega)
        rw [baL_data] at HP
        have hv : ((UInt8.ofNat (p16 0 ((l.drop 2).take 4))).toNat : Int) = (p16 0 ((l.drop 2).take 4) : Nat) := by
          simp; omega
        rw [hv]
        generalize p16 0 ((l.drop 2).take 4) = n at HP hn ⊢
        obtain ⟨T, hTT⟩ : ∃ T, baL ((l.drop 2).take 4) = T := ⟨_, rfl⟩
        obtain ⟨K, hK⟩ : ∃ K, baL (l.drop 6) = K := ⟨_, rfl⟩
        rw [hTT] at hcut HP
        rw [hK] at r6
        have HK := Lib.hid hK
        clear e0 e1 e1' r1 r2 hch hv hT4 hTT hK q0 q1 q6 hl hsz hE
        have hn' : (n : Int) ≤ 255 := by omega
        go_enter Tryz.func119, Tryz.ntmps119
        go_wp2_with fail
        refine HP.out.mono ?_
        rintro e w1 ⟨⟨ev, rfl⟩, b1⟩
        have o1 := objAt_next HS.out b1
        have c1 : w1.cell? ⟨b, 0, none⟩ = some (.string L) := by rw [← HL.out]; exact objAt_cell o1 0 rfl
        have f1 := objAt_free o1 0
        have l1' := objAt_lt o1
        have O1 := Lib.hid o1
        clear o1 c0 f0
        go_wp2
        go_ret
        exact ⟨rfl, jgrown_trans (grown_of_below b1 _) (grown_set w1 b 0 _), by rw [← HK.out]; exact rd_set O1.out _⟩
      · have hch : charP l = ((l.drop 1).headD 0, l.drop 2) := by unfold charP; rw [if_neg (fun h => q1 h.2.2), if_pos ⟨q0, by omega⟩]
        have hneq : (l.drop 1).headD 0 ≠ 117 := q1
        rw [hch]
        dsimp only
        obtain ⟨v, hv⟩ : ∃ v, (l.drop 1).headD 0 = v := ⟨_, rfl⟩
        rw [hv] at e1' hneq ⊢
        obtain ⟨K, hK⟩ : ∃ K, baL (l.drop 2) = K := ⟨_, rfl⟩
        rw [hK] at r2
        have HK := Lib.hid hK
        have t2 : L[1].toNat = v.toNat := by rw [e1']
        have d1 : ((v.toNat : Int) == 117) = false := u8_ne (b := 117) hneq
        have s2 : 2 ≤ L.size := by omega
        clear e0 e1 r1 r6 hcut hch hv hK q0 q1 q6 hl hsz hE hneq
        go_enter Tryz.func119, Tryz.ntmps119
        go_wp2
        go_ret
        exact ⟨rfl, grown_set _ b 0 _, by rw [← HK.out]; first | exact rd_set HS.out _ | (rw [← List.drop_one]; exact rd_set HS.out _)⟩
    · have s6 : ¬ 6 ≤ L.size := by omega
      by_cases q2 : 2 ≤ l.length
      · have l1 : 1 < L.size := by omega
        have e1' := e1 l1
        have hch : charP l = ((l.drop 1).headD 0, l.drop 2) := by unfold charP; rw [if_neg (fun h => q6 h.2.1), if_pos ⟨q0, q2⟩]
        have hneq : (l.drop 1).headD 0 = (l.drop 1).headD 0 := rfl
        rw [hch]
        dsimp only
        obtain ⟨v, hv⟩ : ∃ v, (l.drop 1).headD 0 = v := ⟨_, rfl⟩
        rw [hv] at e1' hneq ⊢
        obtain ⟨K, hK⟩ : ∃ K, baL (l.drop 2) = K := ⟨_, rfl⟩
        rw [hK] at r2
        have HK := Lib.hid hK
        have t2 : L[1].toNat = v.toNat := by rw [e1']
        have s2 : 2 ≤ L.size := by omega
        clear e0 e1 r1 r6 hcut hch hv hK q0 q2 q6 hl hsz hE hneq
        go_enter Tryz.func119, Tryz.ntmps119
        go_wp2
        go_ret
        exact ⟨rfl, grown_set _ b 0 _, by rw [← HK.out]; first | exact rd_set HS.out _ | (rw [← List.drop_one]; exact rd_set HS.out _)⟩
      · have s2 : ¬ 2 ≤ L.size := by omega
        have hch : charP l = (l.headD 0, l.drop 1) := by unfold charP; rw [if_neg (fun h => q6 h.2.1), if_neg (fun h => q2 h.2)]
        rw [hch, q0]
        dsimp only
        obtain ⟨K, hK⟩ : ∃ K, baL (l.drop 1) = K := ⟨_, rfl⟩
        rw [hK] at r1
        have HK := Lib.hid hK
        clear e0 e1 r2 r6 hcut hch hK q0 q2 q6 hl hsz hE
        go_enter Tryz.func119, Tryz.ntmps119
        go_wp2
        go_ret
        exact ⟨rfl, grown_set _ b 0 _, by rw [← HK.out]; first | exact rd_set HS.out _ | (rw [← List.drop_one]; exact rd_set HS.out _)⟩
  · have hch : charP l = (l.headD 0, l.drop 1) := by unfold charP; rw [if_neg (fun h => q0 h.1), if_neg (fun h => q0 h.1)]
    rw [hch]
    dsimp only
    obtain ⟨v, hv⟩ : ∃ v, l.headD 0 = v := ⟨_, rfl⟩
    rw [hv] at e0 q0 ⊢
    have d1 : ((v.toNat : Int) == 92) = false := u8_ne (b := 92) q0
    obtain ⟨K, hK⟩ : ∃ K, baL (l.drop 1) = K := ⟨_, rfl⟩
    rw [hK] at r1
    have HK := Lib.hid hK
    have t0 : L[0].toNat = v.toNat := by rw [e0]
    clear e0 e1 r2 r6 hcut hch hv hK q0 hl hsz hE
    go_enter Tryz.func119, Tryz.ntmps119
    go_wp2
    go_ret
    exact ⟨rfl, grown_set _ b 0 _, by rw [← HK.out]; first | exact rd_set HS.out _ | (rw [← List.drop_one]; exact rd_set HS.out _)⟩
theorem char_is {b : Nat} {l : List UInt8} (hne : l ≠ []) (hl : l.length ≤ 60000) (w : World) (h : RdAt b l w) (hE : JEnv b w) :
    Calls Tryz.prog 119 #[.pointer (some ⟨b, 0, none⟩)] w (RdPost b (charP l).2 (.int .u8 ((charP l).1.toNat : Int)) w) := by
  have hp : 0 < l.length := List.length_pos_iff.2 hne
  exact char_in (L := baL l) rfl hl (baL_size l) (by rw [baL_size]; exact hp) (head_get hp).symm (fun h1 => (head_one (by rw [baL_size] at h1; exact h1)).symm) (ba_cut l 2 6) (ba_rest l 1) (ba_rest l 2) (ba_rest l 6) w h hE
def strLen (w : World) (b : Nat) : Nat := match w.cell? ⟨b, 0, none⟩ with
  | some (.string s) => s.size
  | _ => 0
theorem strLen_of {b : Nat} {l : List UInt8} {w : World} (h : RdAt b l w) : strLen w b = l.length := by
  unfold strLen
  rw [objAt_cell h 0 rfl]
  exact baL_size l
theorem rd_keep {b B : Nat} {l : List UInt8} {w w' : World} (h : RdAt b l w) (k : BdKeep B w w') (hne : b ≠ B) : RdAt b l w' := k.2 b _ h (by simp; exact hne) (fun c fz e => by simp at e)
theorem grown_bd {b B : Nat} {w w1 w2 : World} (h : w.grownBy w1 (some b)) (k : BdKeep B w1 w2) (hB : w.heap.size ≤ B) : w.grownBy w2 (some b) :=
  ⟨k.1.os.trans h.os, k.1.tape.trans h.tape, k.1.output.trans h.output, Nat.le_trans h.size k.1.size, fun i hi hr => (k.1.block i (by omega)).trans (h.block i hi hr)⟩
theorem bd_grown {b B : Nat} {l : List UInt8} {w w' : World} (h : BdAt B l w) (hg : w.grownBy w' (some b)) (hb : b < B) : BdAt B l w' := by
  have hlt := bd_lt h
  have key : ∀ p, Lib.BuilderAtF 131 5 B B p (Lib.byteCells l) w → Lib.BuilderAtF 131 5 B B p (Lib.byteCells l) w' := by
    rintro p ⟨h1, v, h2, h3, h4⟩
    refine ⟨h1, v, ?_, h3.kept hg ?_, h4⟩
    · rw [hg.block B hlt (by simp; omega)]; exact h2
    · right
      intro e
      have := (h3.lt b e).1
      omega
  rcases h with h | h
  · exact .inl (key _ h)
  · exact .inr (key _ h)
theorem ba_ne {l : List UInt8} (h : l ≠ []) : (baL l).size ≠ 0 := by rw [baL_size]; simpa using h
set_option maxRecDepth 100000 in
set_option maxHeartbeats 4000000 in
theorem rdText_is {b : Nat} {l : List UInt8} (hl : l.length ≤ 60000) (w : World) (h : RdAt b l w) (hE : JEnv b w) :
    Calls Tryz.prog 87 #[.pointer (some ⟨b, 0, none⟩)] w (RdPost b (textP l).2 (.string (baL (textP l).1)) w) := by
  have HF := Lib.hid (find_is hl w h hE)
  have hbw := rd_lt h
  have HE := Lib.hid hE
  have h1 := find_short l
  have h2 := skip_short 34 (findP l)
  unfold textP
  obtain ⟨k, hk⟩ : ∃ k, skipP 34 (findP l) = k := ⟨_, rfl⟩
  rw [hk] at h2 ⊢
  dsimp only
  have hkl : k.length ≤ 60000 := by omega
  have HSK : Hid (∀ w', RdAt b (findP l) w' → Calls Tryz.prog 85 #[.pointer (some ⟨b, 0, none⟩), .string ⟨#[34]⟩] w' (RdPost b k (.tuple #[]) w')) := by
    intro w' h'
    have := skip_is 34 w' h'
    rwa [hk] at this
  obtain ⟨R, hR⟩ : ∃ R, chAt [] k = R := ⟨_, rfl⟩
  rw [hR]
  obtain ⟨out, m⟩ := R
  dsimp only
  have HR := Lib.hid hR
  have hlen := chAt_len k.length [] k (Nat.le_refl _)
  rw [hR] at hlen
  clear hk h hE h1 h2 hl hR
  go_enter Tryz.func87, Tryz.ntmps87
  go_wp2_with fail
  refine HF.out.mono ?_
  rintro e w1 ⟨rfl, g1, o1⟩
  have HS1 := Lib.hid (HSK.out w1 o1)
  clear HF o1 HSK
  go_wp2_with fail
  refine HS1.out.mono ?_
  rintro e w2 ⟨rfl, g2, o2⟩
  have G2 := Lib.hid (jgrown_trans g1 g2)
  clear g1 g2 HS1
  have hs2 := G2.out.size
  obtain ⟨B, hB⟩ : ∃ B, w2.heap.size = B := ⟨_, rfl⟩
  obtain ⟨W, hW⟩ : ∃ W, w2.alloc (.cells #[.pointer none, .slice none 0 0] 131) = W := ⟨_, rfl⟩
  have n0 := bd_new w2
  have bA := below_one w2 (.cells #[.pointer none, .slice none 0 0] 131)
  rw [hW] at n0 bA
  rw [hB] at n0 hs2
  have O2 := Lib.hid (objAt_next o2 bA)
  have G3 := Lib.hid (jgrown_trans G2.out (grown_of_below bA _))
  have N0 := Lib.hid n0
  have hWB : B < W.heap.size := bd_lt n0
  clear o2 n0 bA G2
  go_wp2
  go_loopw [] (fun wr => ∃ acc r : List UInt8, BdAt B acc wr ∧ Hid (RdAt b r wr) ∧ Hid (w.grownBy wr (some b)) ∧ Hid (chAt acc r = (out, m)) ∧ r.length ≤ 60000 ∧ acc.length + r.length ≤ 60000 ∧ B < wr.heap.size) (fun wr => strLen wr b)
  case atStart => exact ⟨[], k, N0.out, O2, G3, HR, hkl, by simpa using hkl, hWB⟩
  case round =>
    obtain ⟨acc, r, hbd, HO, HG, HC, hr, har, hsz⟩ := hrel
    have hms := strLen_of HO.out
    have hne : b ≠ B := by omega
    by_cases hend : r = [] ∨ r.headD 0 = 34
    · have hfin := HC.out
      rw [chAt_end acc hend] at hfin
      simp only [Prod.mk.injEq] at hfin
      obtain ⟨rfl, rfl⟩ := hfin
      have HSK := Lib.hid (skip_is 34 wr HO.out)
      have HFIN : Hid (∀ w3, wr.grownBy w3 (some b) → RdAt b (skipP 34 r) w3 → Calls Tryz.prog 96 #[.pointer (some ⟨B, 0, none⟩)] w3 (fun e w4 => e = .returned (.string (baL acc)) ∧ w.grownBy w4 (some b) ∧ RdAt b (skipP 34 r) w4)) := by
        intro w3 g3 o3
        refine (bs_is B acc w3 (bd_grown hbd g3 (by omega))).mono ?_
        rintro e w4 ⟨rfl, k4⟩
        exact ⟨rfl, grown_bd (jgrown_trans HG.out g3) k4 hs2, rd_keep o3 k4 hne⟩
      by_cases hr0 : r = []
      · subst hr0
        have c0 : wr.cell? ⟨b, 0, none⟩ = some (.string ⟨#[]⟩) := objAt_cell HO.out 0 rfl
        clear hend hms hbd
        go_wp2_with fail
        refine HSK.out.mono ?_
        rintro e w3 ⟨rfl, g3, o3⟩
        have HF3 := Lib.hid (HFIN.out w3 g3 o3)
        clear g3 o3 HFIN HSK
        go_wp2_with fail
        refine HF3.out.mono ?_
        rintro e w4 ⟨rfl, g4, o4⟩
        go_wp2
        go_ret
        exact ⟨rfl, g4, o4⟩
      · have h34 : r.headD 0 = 34 := by rcases hend with h | h; exact absurd h hr0; exact h
        have hp : 0 < r.length := List.length_pos_iff.2 hr0
        have c0 : wr.cell? ⟨b, 0, none⟩ = some (.string (baL r)) := objAt_cell HO.out 0 rfl
        obtain ⟨L, hL⟩ : ∃ L, baL r = L := ⟨_, rfl⟩
        have hn : L.size ≠ 0 := by rw [← hL]; exact ba_ne hr0
        have h0 : 0 < L.size := by omega
        have e0 : L[0].toNat = 34 := by
          have : ∀ (M : ByteArray) (hM : baL r = M) (h : 0 < M.size), M[0] = r.headD 0 := by rintro M rfl h; exact (head_get hp).symm
          rw [this L hL h0, h34]; rfl
        obtain ⟨m1, m2⟩ := not_empty hn
        rw [hL] at c0
        clear hend hms hbd hL hr0 h34 hp hn
        go_wp2_with fail
        refine HSK.out.mono ?_
        rintro e w3 ⟨rfl, g3, o3⟩
        have HF3 := Lib.hid (HFIN.out w3 g3 o3)
        clear g3 o3 HFIN HSK
        go_wp2_with fail
        refine HF3.out.mono ?_
        rintro e w4 ⟨rfl, g4, o4⟩
        go_wp2
        go_ret
        exact ⟨rfl, g4, o4⟩
    · have hr0 : r ≠ [] := fun e => hend (.inl e)
      have h34 : r.headD 0 ≠ 34 := fun e => hend (.inr e)
      have hp : 0 < r.length := List.length_pos_iff.2 hr0
      have c0 : wr.cell? ⟨b, 0, none⟩ = some (.string (baL r)) := objAt_cell HO.out 0 rfl
      have hsh := char_short hr0
      have hst := chAt_step acc hend
      rw [HC.out] at hst
      have HCH := Lib.hid (char_is hr0 hr wr HO.out (jenv_next HE.out HG.out (Nat.le_of_lt hbw)))
      obtain ⟨L, hL⟩ : ∃ L, baL r = L := ⟨_, rfl⟩
      have hn : L.size ≠ 0 := by rw [← hL]; exact ba_ne hr0
      have h0 : 0 < L.size := by omega
      have e0 : L[0] = r.headD 0 := by
        have : ∀ (M : ByteArray) (hM : baL r = M) (h : 0 < M.size), M[0] = r.headD 0 := by rintro M rfl h; exact (head_get hp).symm
        exact this L hL h0
      have d1 : ((L[0].toNat : Int) == 34) = false := by rw [e0]; exact u8_ne (b := 34) h34
      obtain ⟨m1, m2⟩ := not_empty hn
      rw [hL] at c0
      obtain ⟨Q, hQ⟩ : ∃ Q, charP r = Q := ⟨_, rfl⟩
      rw [hQ] at HCH hst hsh
      obtain ⟨c, r2⟩ := Q
      dsimp only at HCH hst hsh
      have HST := Lib.hid hst
      have HBD := Lib.hid hbd
      clear hend hL hr0 h34 hp hn e0 hst hQ hbd HC
      go_wp2_with fail
      refine HCH.out.mono ?_
      rintro e w3 ⟨rfl, g3, o3⟩
      have HW := Lib.hid (wb_is B acc c w3 (bd_grown HBD.out g3 (by omega)) (by omega))
      have G3 := Lib.hid (jgrown_trans HG.out g3)
      have O3 := Lib.hid o3
      clear g3 o3 HCH
      go_wp2_with fail
      refine HW.out.mono ?_
      rintro e w4 ⟨rfl, hb4, k4⟩
      have o4 := rd_keep O3.out k4 hne
      have hm4 := strLen_of o4
      have hB4 := bd_lt hb4
      have G4 := Lib.hid (grown_bd G3.out k4 hs2)
      have O4 := Lib.hid o4
      clear o4 k4 HW
      go_wp2
      go_roundw
      case rel => exact ⟨acc ++ [c], r2, hb4, O4, G4, HST.out.symm, by omega, by simp only [List.length_append, List.length_cons, List.length_nil]; omega, hB4⟩
      case measure => rw [hms, hm4]; exact hsh
end Go.Proofs.YthbgaphidojneaaGreatDoor
