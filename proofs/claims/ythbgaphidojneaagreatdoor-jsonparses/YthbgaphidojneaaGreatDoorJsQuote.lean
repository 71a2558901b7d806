/- json.Quote: a text between quotation marks, with escapes. -/
import Derived.Test.YthbgaphidojneaaGreatDoorJsLib
namespace Go.Proofs.YthbgaphidojneaaGreatDoor
open Go.RowKit

def hexS : ByteArray := ⟨#[48, 49, 50, 51, 52, 53, 54, 55, 56, 57, 97, 98, 99, 100, 101, 102]⟩
theorem hexS_at : ∀ k : Fin 16, hexS[k.val]'(by have := k.isLt; exact this) = hexB k.val := by decide
theorem esc_take (l : List UInt8) (i : Nat) (h : i < l.length) : escL (l.take (i + 1)) = escL (l.take i) ++ escB l[i] := by
  rw [List.take_succ_eq_append_getElem h, esc_append]
  simp [escL]
theorem esc_len (l : List UInt8) : (escL l).length ≤ l.length * 6 := by
  induction l with
  | nil => simp [escL]
  | cons c l ih =>
    have : (escB c).length ≤ 6 := by
      unfold escB
      split
      · simp
      · split <;> simp
    simp only [escL, List.flatMap_cons, List.length_append, List.length_cons] at ih ⊢
    omega
/-- What lies below the builder, and the builder. -/
def BdSt (l : List UInt8) (w w' : World) : Prop := BdAt w.heap.size l w' ∧ Below w.heap.size w w'
theorem bdSt_new (w : World) : BdSt [] w (w.alloc (.cells #[.pointer none, .slice none 0 0] 131)) := ⟨bd_new w, (Below.refl _ _).alloc (Nat.le_refl _) _⟩
theorem wbS (l : List UInt8) (c : UInt8) (w w' : World) (h : BdSt l w w') (hl : l.length + 1 ≤ 140737488355328) (x : Int) (hx : x = (c.toNat : Int)) :
    Calls Tryz.prog 98 #[.pointer (some ⟨w.heap.size, 0, none⟩), .int .u8 x] w' fun e w2 => e = .returned .nilIface ∧ BdSt (l ++ [c]) w w2 := by
  subst hx
  refine (wb_is w.heap.size l c w' h.1 hl).mono ?_
  rintro e w2 ⟨rfl, h1, h2⟩
  exact ⟨rfl, h1, h.2.trans h2.1⟩
theorem wsS (l : List UInt8) (s : ByteArray) (w w' : World) (h : BdSt l w w') (hl : l.length + s.size ≤ 140737488355328) :
    Calls Tryz.prog 95 #[.pointer (some ⟨w.heap.size, 0, none⟩), .string s] w' fun e w2 => e = .returned (.tuple #[.int .i64 s.size, .nilIface]) ∧ BdSt (l ++ s.data.toList) w w2 := by
  refine (ws_is w.heap.size l s w' h.1 hl).mono ?_
  rintro e w2 ⟨rfl, h1, h2⟩
  exact ⟨rfl, h1, h.2.trans h2.1⟩
theorem bsS (l : List UInt8) (w w' : World) (h : BdSt l w w') :
    Calls Tryz.prog 96 #[.pointer (some ⟨w.heap.size, 0, none⟩)] w' fun e w2 => e = .returned (.string (baL l)) ∧ Below w.heap.size w w2 := by
  refine (bs_is w.heap.size l w' h.1).mono ?_
  rintro e w2 ⟨rfl, h2⟩
  exact ⟨rfl, h.2.trans h2.1⟩
set_option maxRecDepth 100000 in
set_option maxHeartbeats 2000000 in
theorem quote_is (s : ByteArray) (hs : s.size ≤ 20000000000000) (w : World) :
    Calls Tryz.prog 66 #[.string s] w fun e w' => e = .returned (.string (baL (quoteL s.data.toList))) ∧ Below w.heap.size w w' := by
  have hln : s.data.toList.length = s.size := by rw [Array.length_toList]; rfl
  have H0 := Lib.hid (wbS [] 34 w _ (bdSt_new w) (by simp) 34 rfl)
  have hE := Lib.hid (esc_len)
  go_enter Tryz.func66, Tryz.ntmps66
  go_wp2_with fail
  refine H0.out.mono ?_
  rintro e w1 ⟨rfl, h1⟩
  go_wp2
  go_loopw [9] (fun iv wr => ∃ i : Nat, iv = .int .i64 (i : Int) ∧ i ≤ s.size ∧ BdSt (34 :: escL (s.data.toList.take i)) w wr) (fun iv _ => s.size - (intOf iv).toNat)
  case atStart => exact ⟨0, rfl, Nat.zero_le _, h1⟩
  case round =>
    obtain ⟨i, rfl, hi, hb⟩ := hrel
    clear H0 h1
    have hl6 := hE.out (s.data.toList.take i)
    rw [List.length_take] at hl6
    by_cases h : i < s.size
    · obtain ⟨c, hc⟩ : ∃ c, s[i] = c := ⟨_, rfl⟩
      have hstep := esc_take s.data.toList i (by omega)
      have hci : s.data.toList[i]'(by omega) = c := hc
      rw [hci] at hstep
      have HST := Lib.hid hstep
      clear hstep hci
      have hc256 : (c.toNat : Int) < 256 := by have := c.toNat_lt; omega
      obtain ⟨L, hL⟩ : ∃ L, escL (s.data.toList.take i) = L := ⟨_, rfl⟩
      rw [hL] at hb hl6 HST
      have hL6 : L.length ≤ 140737488355300 := by omega
      clear hL
      by_cases q1 : c = 34 ∨ c = 92
      · rcases q1 with rfl | rfl
        · have he : escB 34 = [92, 34] := by decide
          have HB := Lib.hid (wbS (34 :: L) 92 w wr hb (by simp only [List.length_cons]; omega) 92 rfl)
          rw [he] at HST
          have t1 : (s[i].toNat : Int) = 34 := by rw [hc]; rfl
          clear he hb hc256 hc
          go_wp2_with fail
          refine HB.out.mono ?_
          rintro e w2 ⟨rfl, h2⟩
          have HC := Lib.hid (wbS _ 34 w w2 h2 (by simp only [List.length_cons, List.length_append, List.length_nil]; omega) 34 rfl)
          clear h2 HB
          go_wp2_with fail
          refine HC.out.mono ?_
          rintro e w3 ⟨rfl, h3⟩
          go_wp2
          go_roundw
          case rel => exact ⟨i + 1, by go_num, by omega, by rw [HST.out]; simpa using h3⟩
          case measure => simp [intOf]; omega
        · have he : escB 92 = [92, 92] := by decide
          have HB := Lib.hid (wbS (34 :: L) 92 w wr hb (by simp only [List.length_cons]; omega) 92 rfl)
          rw [he] at HST
          have t1 : (s[i].toNat : Int) = 92 := by rw [hc]; rfl
          clear he hb hc256 hc
          go_wp2_with fail
          refine HB.out.mono ?_
          rintro e w2 ⟨rfl, h2⟩
          have HC := Lib.hid (wbS _ 92 w w2 h2 (by simp only [List.length_cons, List.length_append, List.length_nil]; omega) 92 rfl)
          clear h2 HB
          go_wp2_with fail
          refine HC.out.mono ?_
          rintro e w3 ⟨rfl, h3⟩
          go_wp2
          go_roundw
          case rel => exact ⟨i + 1, by go_num, by omega, by rw [HST.out]; simpa using h3⟩
          case measure => simp [intOf]; omega
      · have d1 : ((c.toNat : Int) == 34) = false := by
          simp only [beq_eq_false_iff_ne, ne_eq]
          intro e
          exact q1 (.inl (u8_of (by simpa using (by omega : c.toNat = 34))))
        have d2 : ((c.toNat : Int) == 92) = false := by
          simp only [beq_eq_false_iff_ne, ne_eq]
          intro e
          exact q1 (.inr (u8_of (by simpa using (by omega : c.toNat = 92))))
        by_cases q2 : c.toNat < 32
        · have he : escB c = [92, 117, 48, 48] ++ [hexB (c.toNat / 16)] ++ [hexB (c.toNat % 16)] := by unfold escB; rw [if_neg q1, if_pos q2]; rfl
          rw [he] at HST
          have HB := Lib.hid (wsS (34 :: L) ⟨#[92, 117, 48, 48]⟩ w wr hb (by simp only [List.length_cons]; show _ + 4 ≤ _; omega))
          have q2' : (c.toNat : Int) < 32 := by omega
          clear he q1 hb
          go_wp2_with fail
          refine HB.out.mono ?_
          rintro e w2 ⟨rfl, h2⟩
          clear HB
          have x1 := hexS_at ⟨c.toNat / 16, by omega⟩
          have x2 := hexS_at ⟨c.toNat % 16, by omega⟩
          have X1 := Lib.hid (congrArg (fun z : UInt8 => (z.toNat : Int)) x1)
          have X2 := Lib.hid (congrArg (fun z : UInt8 => (z.toNat : Int)) x2)
          clear x1 x2
          go_wp2_with fail
          refine (wbS _ (hexB (c.toNat / 16)) w w2 h2 (by simp only [List.length_cons, List.length_append, List.length_nil]; omega) _ X1.out).mono ?_
          rintro e w3 ⟨rfl, h3⟩
          go_wp2_with fail
          refine (wbS _ (hexB (c.toNat % 16)) w w3 h3 (by simp only [List.length_cons, List.length_append, List.length_nil]; omega) _ X2.out).mono ?_
          rintro e w4 ⟨rfl, h4⟩
          go_wp2
          go_roundw
          case rel => exact ⟨i + 1, by go_num, by omega, by rw [HST.out]; simpa using h4⟩
          case measure => simp [intOf]; omega
        · have he : escB c = [c] := by unfold escB; rw [if_neg q1, if_neg q2]
          rw [he] at HST
          have HB := Lib.hid (wbS (34 :: L) c w wr hb (by simp only [List.length_cons]; omega) (c.toNat : Int) rfl)
          have q2' : ¬ (c.toNat : Int) < 32 := by omega
          clear he q1 hb
          go_wp2_with fail
          refine HB.out.mono ?_
          rintro e w2 ⟨rfl, h2⟩
          go_wp2
          go_roundw
          case rel => exact ⟨i + 1, by go_num, by omega, by rw [HST.out]; simpa using h2⟩
          case measure => simp [intOf]; omega
    · obtain rfl : i = s.size := by omega
      have eT : s.data.toList.take s.size = s.data.toList := by rw [← hln]; exact List.take_length
      rw [eT] at hb hl6
      have HB := Lib.hid (wbS (34 :: escL s.data.toList) 34 w wr hb (by simp only [List.length_cons]; omega) 34 rfl)
      clear hb
      go_wp2_with fail
      refine HB.out.mono ?_
      rintro e w2 ⟨rfl, h2⟩
      have HC := Lib.hid (bsS _ w w2 h2)
      clear h2 HB
      go_wp2_with fail
      refine HC.out.mono ?_
      rintro e w3 ⟨rfl, h3⟩
      go_wp2
      go_ret
      exact ⟨rfl, h3⟩
end Go.Proofs.YthbgaphidojneaaGreatDoor
