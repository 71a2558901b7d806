import Derived.Test.YtklpmhiaihabaaaShelf
import Derived.Test.YtklpmhiaihabaaaRows
import Derived.WalkKit
import Derived.Below
import Derived.Shelf.Unicode.ValidAny
import Derived.WalkSpells
import Derived.ProofKit
import Derived.Lib.Hide
import Derived.Lib.ValidLaws
import Derived.Test.YtklpmhiaihabaaaPkNum
import Derived.Test.YtklpmhiaihabaaaPkRef
/- Go's tables for UTF-8 in memory; utf8.ValidString. -/
namespace Go.Proofs.Ytklpmhiaihabaaa
open Go.RowKit Go.Lib

/-- The library's two tables lie as its text lays them. -/
def Tabs (w : World) : Prop := Lib.Utf8Tabs (Try.laysValid_ren.g 3) (Try.laysValid_ren.g 4) w
theorem Tabs.below {w w' : World} (h : Tabs w) (hb : Below w.heap.size w w') : Tabs w' := Utf8Tabs_below h hb
theorem tabs_next : ∀ w w', Tabs w → Below w.heap.size w w' → Tabs w' := fun _ _ h hb => h.below hb
theorem valid_is (s : ByteArray) (hs : s.size ≤ 140737488355328) (w : World) (hT : Tabs w) :
    Calls Try.prog 113 #[.string s] w fun e w' => e = .returned (.bool (validD s.data.toList)) ∧ Below w.heap.size w w' :=
  Any.utf8_ValidString Try.laysValid s w (by omega) hT
end Go.Proofs.Ytklpmhiaihabaaa

namespace Go.Proofs.Ytklpmhiaihabaaa
open Go.RowKit Go.Lib

theorem clone_inner (s : ByteArray) (hs : s.size ≤ 140737488355328) (w : World) :
    Calls Try.prog 116 #[.string s] w fun e w' => e = .returned (.string s) ∧ Below w.heap.size w w' :=
  Any.stringslite_Clone Try.laysClone s w (by omega)
theorem clone_is (s : ByteArray) (hs : s.size ≤ 140737488355328) (w : World) :
    Calls Try.prog 114 #[.string s] w fun e w' => e = .returned (.string s) ∧ Below w.heap.size w w' := by
  have HC := Lib.hid (clone_inner s hs)
  clear hs
  go_enter Try.func114, Try.ntmps114
  go_wp2_with fail
  refine (HC.out _).mono ?_
  rintro e w1 ⟨rfl, hb⟩
  go_wp2
  go_ret
  exact ⟨rfl, hb⟩
end Go.Proofs.Ytklpmhiaihabaaa

/- What is valid UTF-8. -/
namespace Go.Proofs.Ytklpmhiaihabaaa
open Go.RowKit Go.Lib

def V8 (s : ByteArray) : Bool := validD s.data.toList
end Go.Proofs.Ytklpmhiaihabaaa

/- What Text and ReadText answer (no program); what is valid UTF-8. -/
namespace Go.Proofs.Ytklpmhiaihabaaa
open Go.RowKit Go.Lib

/-- What Text answers. -/
def txt (s : ByteArray) : ByteArray × Nat :=
  if 16 < s.size then (⟨#[]⟩, 2) else if validD s.data.toList = true then (numS s.size ++ s, 0) else (⟨#[]⟩, 4)
/-- What ReadText answers. -/
def rdT (s : ByteArray) : ByteArray × Nat × Nat :=
  if (rd s.data.toList).2.2 ≠ 0 then (⟨#[]⟩, 0, (rd s.data.toList).2.2)
  else if 16 < (rd s.data.toList).1 then (⟨#[]⟩, 0, 2)
  else if s.size < (rd s.data.toList).2.1 + (rd s.data.toList).1 then (⟨#[]⟩, 0, 3)
  else if validD (s.extract (rd s.data.toList).2.1 ((rd s.data.toList).2.1 + (rd s.data.toList).1)).data.toList = true then (s.extract (rd s.data.toList).2.1 ((rd s.data.toList).2.1 + (rd s.data.toList).1), (rd s.data.toList).2.1 + (rd s.data.toList).1, 0)
  else (⟨#[]⟩, 0, 4)
end Go.Proofs.Ytklpmhiaihabaaa

namespace Go.Proofs.Ytklpmhiaihabaaa
open Go.RowKit Go.Lib

theorem ret_t2 {p : ByteArray × Nat} {a : ByteArray} {b : Int} (n : Nat) (h : p = (a, n)) (hb : b = n) : Ending.returned (.tuple #[.string a, .int .i64 b]) = .returned (.tuple #[.string p.1, .int .i64 p.2]) := by
  subst h hb; rfl
theorem ret_t3 {p : ByteArray × Nat × Nat} {a : ByteArray} {b c : Int} (n m : Nat) (h : p = (a, n, m)) (hb : b = n) (hc : c = m) : Ending.returned (.tuple #[.string a, .int .i64 b, .int .i64 c]) = .returned (.tuple #[.string p.1, .int .i64 p.2.1, .int .i64 p.2.2]) := by
  subst h hb hc; rfl

set_option maxRecDepth 100000 in
set_option maxHeartbeats 400000 in
theorem text_any (s : ByteArray) (hs : s.size ≤ 140737488355328) (w : World) (hT : Tabs w) :
    Calls Try.prog 109 #[.string s] w fun e w' => e = .returned (.tuple #[.string (txt s).1, .int .i64 (txt s).2]) ∧ Below w.heap.size w w' := by
  obtain ⟨p, hp⟩ : ∃ p, txt s = p := ⟨_, rfl⟩
  rw [hp]
  by_cases h16 : 16 < s.size
  · have HP : Hid (p = (⟨#[]⟩, 2)) := by show _ = _; rw [← hp, txt, if_pos h16]
    clear hp hT
    go_enter Try.func109, Try.ntmps109
    go_wp2
    go_ret2
    exact ⟨ret_t2 2 HP.out rfl, Below.refl _ _⟩
  · have HV := Lib.hid (valid_is s hs w hT)
    by_cases hv : validD s.data.toList = true
    · have HP : Hid (p = (numS s.size ++ s, 0)) := by show _ = _; rw [← hp, txt, if_neg h16, if_pos hv]
      rw [hv] at HV
      have HN := Lib.hid (number_is s.size (by omega))
      have hl : (numS s.size).size ≤ 10 := by rw [numS_size]; exact num_len10 (by omega)
      clear hp hT hv
      generalize numS s.size = t at *
      go_enter Try.func109, Try.ntmps109
      go_wp2_with fail
      refine HV.out.mono ?_
      rintro e w1 ⟨rfl, b1⟩
      go_wp2_with fail
      refine (HN.out _).mono ?_
      rintro e w2 ⟨rfl, b2⟩
      go_wp2
      go_ret2
      exact ⟨ret_t2 0 HP.out rfl, b1.trans (b2.mono b1.size)⟩
    · have hv : validD s.data.toList = false := by simpa using hv
      have HP : Hid (p = (⟨#[]⟩, 4)) := by show _ = _; rw [← hp, txt, if_neg h16, if_neg (by rw [hv]; simp)]
      rw [hv] at HV
      clear hp hT hv
      go_enter Try.func109, Try.ntmps109
      go_wp2_with fail
      refine HV.out.mono ?_
      rintro e w1 ⟨rfl, b1⟩
      go_wp2
      go_ret2
      exact ⟨ret_t2 4 HP.out rfl, b1⟩

set_option maxRecDepth 100000 in
set_option maxHeartbeats 1000000 in
theorem readText_big (s : ByteArray) (hs : s.size ≤ 1152921504606846976) (w : World) (hT : Tabs w) :
    Calls Try.prog 110 #[.string s] w fun e w' => e = .returned (.tuple #[.string (rdT s).1, .int .i64 (rdT s).2.1, .int .i64 (rdT s).2.2]) ∧ Below w.heap.size w w' := by
  obtain ⟨p, hp⟩ : ∃ p, rdT s = p := ⟨_, rfl⟩
  rw [hp]
  unfold rdT at hp
  obtain ⟨N, k, c, hr⟩ : ∃ N k c, rd s.data.toList = (N, k, c) := ⟨_, _, _, rfl⟩
  rw [hr] at hp
  simp only at hp
  have HR := Lib.hid (read_is s N k c hr (by unfold maxLen; omega))
  by_cases hc : c = 0
  · subst hc
    rw [if_neg (by simp)] at hp
    have ho := rd_ok (l := s.data.toList) (by rw [hr])
    rw [hr] at ho
    have hk10 : k ≤ 10 := by have h1 := ho.2.1; have h2 := num_len10 ho.1; simp only at h1 h2; omega
    clear ho hr
    by_cases h16 : 16 < N
    · have HP : Hid (p = (⟨#[]⟩, 0, 2)) := by show _ = _; rw [← hp, if_pos h16]
      clear hp hT
      go_enter Try.func110, Try.ntmps110
      go_wp2_with fail
      refine (HR.out _).mono ?_
      rintro e w1 ⟨rfl, rfl⟩
      go_wp2
      go_ret3
      exact ⟨ret_t3 0 2 HP.out rfl rfl, Below.refl _ _⟩
    · rw [if_neg h16] at hp
      by_cases hl : s.size < k + N
      · have HP : Hid (p = (⟨#[]⟩, 0, 3)) := by show _ = _; rw [← hp, if_pos hl]
        clear hp hT
        go_enter Try.func110, Try.ntmps110
        go_wp2_with fail
        refine (HR.out _).mono ?_
        rintro e w1 ⟨rfl, rfl⟩
        go_wp2
        go_ret3
        exact ⟨ret_t3 0 3 HP.out rfl rfl, Below.refl _ _⟩
      · rw [if_neg hl] at hp
        have hts : (s.extract k (k + N)).size ≤ 140737488355328 := by rw [ByteArray.size_extract]; omega
        have HV := Lib.hid (valid_is (s.extract k (k + N)) hts w hT)
        have HC := Lib.hid (clone_is (s.extract k (k + N)) hts)
        by_cases hv : validD (s.extract k (k + N)).data.toList = true
        · rw [if_pos hv] at hp
          rw [hv] at HV
          have HP := Lib.hid hp.symm
          clear hp hT hv hts
          go_enter Try.func110, Try.ntmps110
          go_wp2_with fail
          refine (HR.out _).mono ?_
          rintro e w1 ⟨rfl, rfl⟩
          go_wp2_with fail
          refine HV.out.mono ?_
          rintro e w1 ⟨rfl, b1⟩
          go_wp2_with fail
          refine (HC.out _).mono ?_
          rintro e w2 ⟨rfl, b2⟩
          go_wp2
          go_ret3
          exact ⟨ret_t3 (k + N) 0 HP.out (by omega) rfl, b1.trans (b2.mono b1.size)⟩
        · rw [if_neg hv] at hp
          have hv : validD (s.extract k (k + N)).data.toList = false := by simpa using hv
          rw [hv] at HV
          have HP := Lib.hid hp.symm
          clear hp hT hv hts
          go_enter Try.func110, Try.ntmps110
          go_wp2_with fail
          refine (HR.out _).mono ?_
          rintro e w1 ⟨rfl, rfl⟩
          go_wp2_with fail
          refine HV.out.mono ?_
          rintro e w1 ⟨rfl, b1⟩
          go_wp2
          go_ret3
          exact ⟨ret_t3 0 4 HP.out rfl rfl, b1⟩
  · have HP : Hid (p = (⟨#[]⟩, 0, c)) := by show _ = _; rw [← hp, if_pos hc]
    have hc' : ((c : Int) != 0) = true := by simp; omega
    clear hp hT hr
    go_enter Try.func110, Try.ntmps110
    go_wp2_with fail
    refine (HR.out _).mono ?_
    rintro e w1 ⟨rfl, rfl⟩
    go_wp2
    go_ret3
    exact ⟨ret_t3 0 c HP.out rfl rfl, Below.refl _ _⟩

theorem readText_any (s : ByteArray) (hs : s.size ≤ 140737488355328) (w : World) (hT : Tabs w) :
    Calls Try.prog 110 #[.string s] w fun e w' => e = .returned (.tuple #[.string (rdT s).1, .int .i64 (rdT s).2.1, .int .i64 (rdT s).2.2]) ∧ Below w.heap.size w w' := readText_big s (by omega) w hT
theorem chrS (n : Nat) (h : n < 128) : (⟨#[UInt8.ofNat n]⟩ : ByteArray) = numS n := by rw [numS, num_lt h]
set_option maxRecDepth 100000 in
set_option maxHeartbeats 400000 in
theorem rtext_any (s : ByteArray) (hs : s.size ≤ 140737488355328) (w : World) :
    Calls Try.prog 55 #[.string s] w fun e w' => e = .returned (.tuple #[.string (txt s).1, .int .i64 (txt s).2]) ∧ Below w.heap.size w w' := by
  obtain ⟨p, hp⟩ : ∃ p, txt s = p := ⟨_, rfl⟩
  rw [hp]
  by_cases h16 : 16 < s.size
  · have HP : Hid (p = (⟨#[]⟩, 2)) := by show _ = _; rw [← hp, txt, if_pos h16]
    clear hp
    go_enter Try.func55, Try.ntmps55
    go_wp2
    go_ret2
    exact ⟨ret_t2 2 HP.out rfl, Below.refl _ _⟩
  · have HV := Lib.hid (isUTF8_is s hs w)
    by_cases hv : validD s.data.toList = true
    · have HP : Hid (p = (numS s.size ++ s, 0)) := by show _ = _; rw [← hp, txt, if_neg h16, if_pos hv]
      rw [hv] at HV
      have hC := chr_nat s.size (by omega)
      rw [chrS s.size (by omega)] at hC
      have HN := Lib.hid hC
      have hl : (numS s.size).size ≤ 10 := by rw [numS_size]; exact num_len10 (by omega)
      clear hp hv hC
      generalize numS s.size = t at *
      go_enter Try.func55, Try.ntmps55
      go_wp2_with fail
      refine HV.out.mono ?_
      rintro e w1 ⟨rfl, rfl⟩
      go_wp2_with fail
      refine (HN.out _).mono ?_
      rintro e w2 ⟨rfl, b2⟩
      go_wp2
      go_ret2
      exact ⟨ret_t2 0 HP.out rfl, b2⟩
    · have hv : validD s.data.toList = false := by simpa using hv
      have HP : Hid (p = (⟨#[]⟩, 4)) := by show _ = _; rw [← hp, txt, if_neg h16, if_neg (by rw [hv]; simp)]
      rw [hv] at HV
      clear hp hv
      go_enter Try.func55, Try.ntmps55
      go_wp2_with fail
      refine HV.out.mono ?_
      rintro e w1 ⟨rfl, rfl⟩
      go_wp2
      go_ret2
      exact ⟨ret_t2 4 HP.out rfl, Below.refl _ _⟩
theorem rread_is (s : ByteArray) (x y z : Nat) (h : rd s.data.toList = (x, y, z)) (hs : s.size ≤ maxLen) (w : World) :
    Calls Try.prog 64 #[.string s] w fun e w' => e = .returned (.tuple #[.int .u64 x, .int .i64 y, .int .i64 z]) ∧ w = w' := by
  have := rread_any s w hs
  rwa [h] at this
set_option maxRecDepth 100000 in
set_option maxHeartbeats 1000000 in
theorem rtextRead_any (s : ByteArray) (hs : s.size ≤ 140737488355328) (w : World) :
    Calls Try.prog 59 #[.string s] w fun e w' => e = .returned (.tuple #[.string (rdT s).1, .int .i64 (rdT s).2.1, .int .i64 (rdT s).2.2]) ∧ Below w.heap.size w w' := by
  obtain ⟨p, hp⟩ : ∃ p, rdT s = p := ⟨_, rfl⟩
  rw [hp]
  unfold rdT at hp
  obtain ⟨N, k, c, hr⟩ : ∃ N k c, rd s.data.toList = (N, k, c) := ⟨_, _, _, rfl⟩
  rw [hr] at hp
  simp only at hp
  have HR := Lib.hid (rread_is s N k c hr (by unfold maxLen; omega))
  by_cases hc : c = 0
  · subst hc
    rw [if_neg (by simp)] at hp
    have ho := rd_ok (l := s.data.toList) (by rw [hr])
    rw [hr] at ho
    have hk10 : k ≤ 10 := by have h1 := ho.2.1; have h2 := num_len10 ho.1; simp only at h1 h2; omega
    clear ho hr
    by_cases h16 : 16 < N
    · have HP : Hid (p = (⟨#[]⟩, 0, 2)) := by show _ = _; rw [← hp, if_pos h16]
      clear hp
      go_enter Try.func59, Try.ntmps59
      go_wp2_with fail
      refine (HR.out _).mono ?_
      rintro e w1 ⟨rfl, rfl⟩
      go_wp2
      go_ret3
      exact ⟨ret_t3 0 2 HP.out rfl rfl, Below.refl _ _⟩
    · rw [if_neg h16] at hp
      by_cases hl : s.size < k + N
      · have HP : Hid (p = (⟨#[]⟩, 0, 3)) := by show _ = _; rw [← hp, if_pos hl]
        clear hp
        go_enter Try.func59, Try.ntmps59
        go_wp2_with fail
        refine (HR.out _).mono ?_
        rintro e w1 ⟨rfl, rfl⟩
        go_wp2
        go_ret3
        exact ⟨ret_t3 0 3 HP.out rfl rfl, Below.refl _ _⟩
      · rw [if_neg hl] at hp
        obtain ⟨T, hx⟩ : ∃ T, (s.extract k s.size).extract 0 N = T := ⟨_, rfl⟩
        have hX : s.extract k (k + N) = T := by rw [← hx, ByteArray.extract_extract]; congr 1; omega
        rw [hX] at hp
        have HS : Hid (T.size = N) := by show _ = _; rw [← hX, ByteArray.size_extract]; omega
        have hTb : T.size ≤ 16 := by have := HS.out; omega
        have HV := Lib.hid (isUTF8_is T (by omega) w)
        clear hX
        by_cases hv : validD T.data.toList = true
        · rw [if_pos hv] at hp
          rw [hv] at HV
          have HP := Lib.hid hp.symm
          clear hp hv
          go_enter Try.func59, Try.ntmps59
          go_wp2_with fail
          refine (HR.out _).mono ?_
          rintro e w1 ⟨rfl, rfl⟩
          go_wp2_with fail
          refine HV.out.mono ?_
          rintro e w1 ⟨rfl, rfl⟩
          go_wp2
          go_ret3
          exact ⟨ret_t3 (k + N) 0 HP.out (by have := HS.out; omega) rfl, Below.refl _ _⟩
        · rw [if_neg hv] at hp
          have hv : validD T.data.toList = false := by simpa using hv
          rw [hv] at HV
          have HP := Lib.hid hp.symm
          clear hp hv
          go_enter Try.func59, Try.ntmps59
          go_wp2_with fail
          refine (HR.out _).mono ?_
          rintro e w1 ⟨rfl, rfl⟩
          go_wp2_with fail
          refine HV.out.mono ?_
          rintro e w1 ⟨rfl, rfl⟩
          go_wp2
          go_ret3
          exact ⟨ret_t3 0 4 HP.out rfl rfl, Below.refl _ _⟩
  · have HP : Hid (p = (⟨#[]⟩, 0, c)) := by show _ = _; rw [← hp, if_pos hc]
    have hc' : ((c : Int) != 0) = true := by simp; omega
    clear hp hr
    go_enter Try.func59, Try.ntmps59
    go_wp2_with fail
    refine (HR.out _).mono ?_
    rintro e w1 ⟨rfl, rfl⟩
    go_wp2
    go_ret3
    exact ⟨ret_t3 0 c HP.out rfl rfl, Below.refl _ _⟩

end Go.Proofs.Ytklpmhiaihabaaa
