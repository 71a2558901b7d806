/- The reference's Quote. -/
import Derived.Test.YthbgaphidojneaaGreatDoorJsQuote
import Derived.Deep.QuietTactic
import Derived.BigQuiet
namespace Go.Proofs.YthbgaphidojneaaGreatDoor
open Go.RowKit

theorem belowN {B : Nat} {w w' : World} (h : Below B w w') (n : Nat) : Below B w (w'.drewN n) := by
  induction n with
  | zero => exact h
  | succ n ih => exact ih.drew
theorem toList_data (s : ByteArray) : s.toList = s.data.toList := by
  obtain ⟨⟨l⟩⟩ := s
  simp
theorem ne_lit {s : ByteArray} {b : UInt8} (h : s ≠ baL [b]) : (s.toList == [b]) = false := by
  rw [beq_eq_false_iff_ne, toList_data]
  intro e
  exact h (ByteArray.ext (Array.ext' e))
theorem ne_list {s t : ByteArray} (h : s ≠ t) : (s.toList == t.toList) = false := by
  rw [beq_eq_false_iff_ne, toList_data, toList_data]
  intro e
  exact h (ByteArray.ext (Array.ext' e))
theorem sub_one (s : ByteArray) (i : Nat) (h : i < s.size) : s.extract i (i + 1) = baL [s[i]] := by
  apply ByteArray.ext
  apply Array.ext'
  have e := Lib.extract_toList s i (i + 1)
  have hl : s.data.toList.length = s.size := by rw [Array.length_toList]; rfl
  have h1 : (s.extract i (i + 1)).data.toList = (s.data.toList.drop i).take (i + 1 - i) := by rw [← e, toList_data]
  rw [h1, List.drop_eq_getElem_cons (by omega), show i + 1 - i = 1 by omega]
  rfl
theorem hexS_cut : ∀ k : Fin 16, (hexS.extract k.val 16).extract 0 1 = baL [hexB k.val] := by decide
theorem hexS_size (k : Nat) (h : k < 16) : (hexS.extract k 16).size = 16 - k := by
  rw [ByteArray.size_extract]; show min 16 16 - k = _; omega
theorem one_ne {a b : UInt8} (h : a ≠ b) : baL [a] ≠ baL [b] := fun e => h (by have := baL_inj e; simpa using this)
set_option maxRecDepth 100000 in
set_option maxHeartbeats 2000000 in
theorem rquote_is (s : ByteArray) (hs : s.size ≤ 20000000000000) (w : World) :
    Calls Tryz.prog 60 #[.string s] w fun e w' => e = .returned (.string (baL (quoteL s.data.toList))) ∧ Below w.heap.size w w' := by
  have hln : s.data.toList.length = s.size := by rw [Array.length_toList]; rfl
  have hE := Lib.hid (esc_len)
  go_enter Tryz.func60, Tryz.ntmps60
  go_wp2
  go_loopw [3, 8] (fun ov iv wr => ∃ (i : Nat) (O : ByteArray), ov = .string O ∧ Hid (baL (34 :: escL (s.data.toList.take i)) = O) ∧ iv = .int .i64 (i : Int) ∧ i ≤ s.size ∧ O.size ≤ 1 + i * 6 ∧ Below w.heap.size w wr) (fun _ iv _ => s.size - (intOf iv).toNat)
  case atStart => exact ⟨0, _, rfl, rfl, rfl, Nat.zero_le _, by decide, Below.refl _ _⟩
  case round =>
    obtain ⟨i, O, rfl, HO, rfl, hi, hOs, hb⟩ := hrel
    by_cases h : i < s.size
    · obtain ⟨c, hc⟩ : ∃ c, s[i] = c := ⟨_, rfl⟩
      have hstep := esc_take s.data.toList i (by omega)
      have hci : s.data.toList[i]'(by omega) = c := hc
      have hx := sub_one s i h
      rw [hc] at hx
      rw [hci] at hstep
      have HST : Hid (∀ E : ByteArray, baL (escB c) = E → baL (34 :: escL (s.data.toList.take (i + 1))) = O ++ E) := by
        intro E hE
        rw [hstep, ← HO.out, ← hE, ← baL_app]; rfl
      clear hstep hci hln hE
      by_cases q1 : c = 34 ∨ c = 92
      · rcases q1 with rfl | rfl
        · have hx' : s.extract i (i + 1) = ⟨#[34]⟩ := hx
          clear hx
          go_wp2
          go_roundw
          case rel => exact ⟨i + 1, _, rfl, HST.out _ rfl, by go_num, by omega, by rw [ByteArray.size_append]; show _ + 2 ≤ _; omega, hb⟩
          case measure => simp [intOf]; omega
        · have hx' : s.extract i (i + 1) = ⟨#[92]⟩ := hx
          clear hx
          go_wp2
          go_roundw
          case rel => exact ⟨i + 1, _, rfl, HST.out _ rfl, by go_num, by omega, by rw [ByteArray.size_append]; show _ + 2 ≤ _; omega, hb⟩
          case measure => simp [intOf]; omega
      · have d1 : baL [c] ≠ ⟨#[34]⟩ := one_ne (fun e => q1 (.inl e))
        have d2 : baL [c] ≠ ⟨#[92]⟩ := one_ne (fun e => q1 (.inr e))
        have hEs : (baL [c]).size = 1 := rfl
        have hbe : baL (escB c) = (if c.toNat < 32 then ⟨#[92, 117, 48, 48]⟩ ++ baL [hexB (c.toNat / 16)] ++ baL [hexB (c.toNat % 16)] else baL [c]) := by
          unfold escB
          rw [if_neg q1]
          by_cases h3 : c.toNat < 32
          · rw [if_pos h3, if_pos h3, show (⟨#[92, 117, 48, 48]⟩ : ByteArray) = baL [92, 117, 48, 48] from rfl, ← baL_app, ← baL_app]; rfl
          · rw [if_neg h3, if_neg h3]
        obtain ⟨E, hEE⟩ : ∃ E, baL [c] = E := ⟨_, rfl⟩
        rw [hEE] at hx d1 d2 hEs hbe
        have t3 : (E.toList == [34]) = false := ne_lit d1
        have t4 : (E.toList == [92]) = false := ne_lit d2
        have t5 : ¬ E.toList = [34] := by simpa using t3
        have t6 : ¬ E.toList = [92] := by simpa using t4
        clear hEE q1
        by_cases q2 : c.toNat < 32
        · rw [if_pos q2] at hbe
          have q2' : (c.toNat : Int) < 32 := by omega
          have x1 := hexS_cut ⟨c.toNat / 16, by omega⟩
          have x2 := hexS_cut ⟨c.toNat % 16, by omega⟩
          have y1 := hexS_size (c.toNat / 16) (by omega)
          have y2 := hexS_size (c.toNat % 16) (by omega)
          simp only at x1 x2
          have X := Lib.hid (And.intro x1 (And.intro x2 (And.intro y1 y2)))
          clear x1 x2 y1 y2
          have HBE := Lib.hid hbe
          clear hbe
          go_wp2_with fail
          obtain ⟨x1, x2, y1, y2⟩ := X.out
          unfold hexS at x1 x2 y1 y2
          obtain ⟨A1, hA1⟩ : ∃ A1, ByteArray.extract ⟨#[48, 49, 50, 51, 52, 53, 54, 55, 56, 57, 97, 98, 99, 100, 101, 102]⟩ (c.toNat / 16) 16 = A1 := ⟨_, rfl⟩
          obtain ⟨A2, hA2⟩ : ∃ A2, ByteArray.extract ⟨#[48, 49, 50, 51, 52, 53, 54, 55, 56, 57, 97, 98, 99, 100, 101, 102]⟩ (c.toNat % 16) 16 = A2 := ⟨_, rfl⟩
          rw [hA1] at x1 y1
          rw [hA2] at x2 y2
          have l1 : 1 ≤ A1.size := by omega
          have l2 : 1 ≤ A2.size := by omega
          obtain ⟨B1, hB1⟩ : ∃ B1, baL [hexB (c.toNat / 16)] = B1 := ⟨_, rfl⟩
          obtain ⟨B2, hB2⟩ : ∃ B2, baL [hexB (c.toNat % 16)] = B2 := ⟨_, rfl⟩
          have s1 : B1.size = 1 := by rw [← hB1]; rfl
          have s2 : B2.size = 1 := by rw [← hB2]; rfl
          rw [hB1] at x1 HBE
          rw [hB2] at x2 HBE
          clear hB1 hB2 y1 y2 X
          obtain ⟨C1, hC1⟩ : ∃ C1, (⟨#[92, 117, 48, 48]⟩ : ByteArray) ++ B1 = C1 := ⟨_, rfl⟩
          have sC : C1.size = 5 := by rw [← hC1, ByteArray.size_append, s1]; rfl
          have o1 : ¬ (9223372036854775807 < 4 + B1.size) := by omega
          have o2 : ¬ (9223372036854775807 < C1.size + B2.size) := by omega
          rw [hC1] at HBE
          go_quiet (fail)
          go_wp2
          go_roundw
          case rel => exact ⟨i + 1, _, rfl, HST.out _ HBE.out, by go_num, by omega, by rw [ByteArray.size_append, ByteArray.size_append]; omega, belowN hb _⟩
          case measure => simp [intOf]; omega
        · rw [if_neg q2] at hbe
          have q2' : ¬ (c.toNat : Int) < 32 := by omega
          go_wp2
          go_roundw
          case rel => exact ⟨i + 1, _, rfl, HST.out _ hbe, by go_num, by omega, by rw [ByteArray.size_append]; omega, hb⟩
          case measure => simp [intOf]; omega
    · obtain rfl : i = s.size := by omega
      have eT : s.data.toList.take s.size = s.data.toList := by rw [← hln]; exact List.take_length
      rw [eT] at HO
      have HR : Hid (baL (quoteL s.data.toList) = O ++ ⟨#[34]⟩) := by
        show _ = _
        rw [← HO.out, show (⟨#[34]⟩ : ByteArray) = baL [34] from rfl, ← baL_app]; rfl
      go_wp2
      go_ret
      exact ⟨congrArg (fun z => Ending.returned (Value.string z)) HR.out.symm, hb⟩
end Go.Proofs.YthbgaphidojneaaGreatDoor
