/- strconv.ParseUint(.., 16, 8), whatever its error; Cut, Atoi and the trimming functions, as package json calls them. -/
import Derived.Test.YthbgaphidojneaaGreatDoorJsEnv
import Derived.Test.YthbgaphidojneaaGreatDoorJsProg
import Derived.Shelf.Strconv.AtoiAll
import Derived.Shelf.Strconv.ToError
import Derived.Shelf.Strconv.ToErrorRange
import Derived.Shelf.Strconv.Lower
import Derived.Shelf.Strings.Cut
import Derived.Shelf.Strings.Prefix
import Derived.Shelf.Strings.SlTrimAscii
import Derived.Lib.ConvBytes
import Derived.Lib.AtoiErrMem
namespace Go.Proofs.YthbgaphidojneaaGreatDoor
open Go.RowKit

theorem belowN' (w : World) (n : Nat) : Below w.heap.size w (w.drewN n) := by
  induction n with
  | zero => exact Below.refl _ _
  | succ n ih => exact ih.drew
theorem lower_bits : ∀ n : Fin 256, bits .or .u8 (n.val : Int) 32 = (((UInt8.ofNat n.val) ||| 32).toNat : Int) := by decide +kernel
theorem lower_of (c : UInt8) : bits .or .u8 (c.toNat : Int) 32 = ((c ||| 32).toNat : Int) := by
  have h := lower_bits ⟨c.toNat, c.toNat_lt⟩
  simpa using h
theorem lower_is (c : UInt8) (w : World) : Calls Tryz.prog 175 #[.int .u8 (c.toNat : Int)] w fun e w' => e = .returned (.int .u8 ((c ||| 32).toNat : Int)) ∧ w' = w := by
  have h := Any.internal_strconv_lower Tryz.layLower (c.toNat : Int) w
  rw [lower_of] at h
  exact h
/-- How a digit is told: what comes of the byte c behind acc. -/
theorem p16_cons (acc : Nat) (c : UInt8) (r : List UInt8) : p16 acc (c :: r) = match hexD c with
    | none => 0
    | some d => if 255 < acc * 16 + d then 255 else p16 (acc * 16 + d) r := rfl
def PuEnd (t : ByteArray) (w : World) (e : Ending) (w' : World) : Prop := (∃ ev, e = .returned (.tuple #[.int .u64 (p16 0 t.data.toList : Nat), ev]) ∧ (ev = .nilIface ∨ ev = .iface 176 (.int .i64 2) ∨ ev = .iface 176 (.int .i64 1))) ∧ w' = Lib.bytesWorld w 5 t
set_option maxRecDepth 100000 in
set_option maxHeartbeats 8000000 in
theorem pu_in (t : ByteArray) (hne : t.size ≠ 0) (hmax : t.size ≤ 1000) (w : World) :
    Calls Tryz.prog 163 #[.string t, .int .i64 16, .int .i64 8] w (PuEnd t w) := by
  have hemp : t.toList.isEmpty = false := by
    rw [← decide_eq_emptyBytes]
    exact decide_eq_false (fun h => hne (by rw [h]; rfl))
  have hcv := Lib.run_convert_string_bytes (P := Tryz.prog) w 9 82 5 t (u := .string) Tryz.underlying9 Tryz.underlying82 Tryz.underlying5
  have hB : ∀ j, j < t.size → (Lib.bytesWorld w 5 t).cell? ⟨w.heap.size, j, none⟩ = some (.int .u8 (t.data.toList.getD j 0).toNat) := fun j hj => Lib.bytesWorld_cell w 5 t j hj
  have hend : ∀ (n : Nat) (ev : Value), n = p16 0 t.data.toList → (ev = .nilIface ∨ ev = .iface 176 (.int .i64 2) ∨ ev = .iface 176 (.int .i64 1)) → PuEnd t w (.returned (.tuple #[.int .u64 (n : Int), ev])) (Lib.bytesWorld w 5 t) := fun n ev h1 h2 => ⟨⟨ev, by rw [h1], h2⟩, rfl⟩
  obtain ⟨W1, hW1⟩ : ∃ W1, W1 = Lib.bytesWorld w 5 t := ⟨_, rfl⟩
  rw [← hW1] at hcv hB hend
  obtain ⟨bs, hL⟩ : ∃ bs, bs = t.data.toList := ⟨_, rfl⟩
  have hLn : bs.length = t.size := by rw [hL, Lib.size_eq]
  rw [← hL] at hB hend
  clear hL hW1
  have hmv : IntKind.u64.wrap (IntKind.u64.wrap 256 - 1) = 255 := by
    rw [IntKind.wrap_u64, IntKind.wrap_u64]
    decide
  have HE := Lib.hid hend
  clear hend
  go_enter Tryz.func163, Tryz.ntmps163
  go_wp2
  go_loop [12, 13, 101] (fun vu vn vi => ∃ (k acc : Nat) (a : Int), vu = .bool false ∧ vn = .int .u64 a ∧ vi = .int .i64 (k : Int) ∧ k ≤ t.size ∧ Hid (a = (acc : Int) ∧ acc ≤ 255 ∧ p16 0 bs = p16 acc (bs.drop k)))
    (fun _ _ vi => t.size - (intOf vi).toNat)
  case atStart => exact ⟨0, 0, 0, rfl, rfl, rfl, by omega, rfl, by omega, rfl⟩
  case round =>
    obtain ⟨k, acc, a, rfl, rfl, rfl, hk, hh⟩ := hrel
    obtain ⟨ha, hacc, hdec⟩ := hh.out
    clear hh
    have a0 : 0 ≤ a := by omega
    have a1 : a ≤ 255 := by omega
    by_cases hkn : k < t.size
    · have hc := hB k hkn
      have hdrop : bs.drop k = bs[k]'(by omega) :: bs.drop (k + 1) := List.drop_eq_getElem_cons (by omega)
      have hget : bs.getD k 0 = bs[k]'(by omega) := by simp [List.getD, List.getElem?_eq_getElem (show k < bs.length by omega)]
      rw [hdrop, p16_cons] at hdec
      rw [hget] at hc
      generalize bs[k]'(by omega) = c at hc hdec
      have hc256 : (c.toNat : Int) < 256 := by have := c.toNat_lt; omega
      clear hB hdrop hget
      by_cases hdig : 48 ≤ c.toNat ∧ c.toNat ≤ 57
      · have hx : hexD c = some (c.toNat - 48) := by unfold hexD; rw [if_pos hdig]
        obtain ⟨hd0, hd1⟩ := hdig
        have hd0' : (48 : Int) ≤ (c.toNat : Int) := by omega
        have hd1' : (c.toNat : Int) ≤ 57 := by omega
        rw [hx] at hdec
        simp only at hdec
        by_cases hov : 255 < acc * 16 + (c.toNat - 48)
        · rw [if_pos hov] at hdec
          have iov : 255 < a * 16 + ((c.toNat : Int) - 48) := by omega
          have HF := Lib.hid (HE.out 255 (.iface 176 (.int .i64 1)) hdec.symm (.inr (.inr rfl)))
          clear hacc hov ha hdec hx
          go_wp2
          go_ret2
          exact HF.out
        · rw [if_neg hov] at hdec
          have HN : Hid (a * 16 + ((c.toNat : Int) - 48) = ((acc * 16 + (c.toNat - 48) : Nat) : Int) ∧ acc * 16 + (c.toNat - 48) ≤ 255 ∧ p16 0 bs = p16 (acc * 16 + (c.toNat - 48)) (bs.drop (k + 1))) := ⟨by omega, by omega, hdec⟩
          have iov : a * 16 + ((c.toNat : Int) - 48) ≤ 255 := by omega
          clear hacc hov hdec ha hx
          go_wp2
          refine ⟨⟨k + 1, acc * 16 + (c.toNat - 48), a * 16 + ((c.toNat : Int) - 48), rfl, (by first | rfl | (congr 1; omega)), (by first | rfl | (congr 1; omega)), by omega, HN⟩, by simp [intOf]; omega⟩
      · by_cases hc95 : c = 95
        · subst hc95
          have HL : Hid (∀ w : World, Calls Tryz.prog 175 #[.int .u8 95] w fun e w' => e = .returned (.int .u8 127) ∧ w' = w) := fun w => lower_is 95 w
          have hc' : W1.cell? ⟨w.heap.size, k, none⟩ = some (.int .u8 95) := hc
          rw [show hexD 95 = none by decide] at hdec
          simp only at hdec
          have HF := Lib.hid (HE.out 0 (.iface 176 (.int .i64 2)) hdec.symm (.inr (.inl rfl)))
          clear hacc ha hdec hc hdig hc256
          go_wp2_with (go_at_call 175; refine (HL.out _).mono ?_; rintro e w' ⟨rfl, rfl⟩)
          all_goals go_ret2
          all_goals exact HF.out
        have HL := Lib.hid (lower_is c)
        obtain ⟨d, hd⟩ : ∃ d : Nat, (c ||| 32).toNat = d := ⟨_, rfl⟩
        have hd256 : d < 256 := by rw [← hd]; exact (c ||| 32).toNat_lt
        have hnd : ¬ ((48 : Int) ≤ (c.toNat : Int) ∧ (c.toNat : Int) ≤ 57) := by omega
        have hx : hexD c = if 97 ≤ d ∧ d ≤ 102 then some (d - 87) else none := by unfold hexD; rw [if_neg hdig, hd]
        rw [hd] at HL
        rw [hx] at hdec
        clear hx hd hdig
        have h5 : ((c.toNat : Int) == 95) = false := by
          rw [beq_eq_false_iff_ne]
          intro e
          exact hc95 (u8_of (by show c.toNat = 95; omega))
        clear hc95
        by_cases hlo : d < 97
        · have g1 : ¬ (97 : Int) ≤ (d : Int) := by omega
          rw [if_neg (by omega)] at hdec
          have HF := Lib.hid (HE.out 0 (.iface 176 (.int .i64 2)) hdec.symm (.inr (.inl rfl)))
          clear hacc ha hdec hd256
          go_wp2_with (go_at_call 175; refine (HL.out _).mono ?_; rintro e w' ⟨rfl, rfl⟩)
          all_goals go_ret2
          all_goals exact HF.out
        by_cases hhi : 122 < d
        · have g1 : (97 : Int) ≤ (d : Int) := by omega
          have g2 : ¬ (d : Int) ≤ 122 := by omega
          rw [if_neg (by omega)] at hdec
          have HF := Lib.hid (HE.out 0 (.iface 176 (.int .i64 2)) hdec.symm (.inr (.inl rfl)))
          clear hacc ha hdec hd256
          go_wp2_with (go_at_call 175; refine (HL.out _).mono ?_; rintro e w' ⟨rfl, rfl⟩)
          all_goals go_ret2
          all_goals exact HF.out
        have g1 : (97 : Int) ≤ (d : Int) := by omega
        have g2 : (d : Int) ≤ 122 := by omega
        by_cases h16 : 102 < d
        · have g3 : (16 : Int) ≤ (d : Int) - 97 + 10 := by omega
          rw [if_neg (by omega)] at hdec
          have HF := Lib.hid (HE.out 0 (.iface 176 (.int .i64 2)) hdec.symm (.inr (.inl rfl)))
          clear hacc ha hdec hd256
          go_wp2_with (go_at_call 175; refine (HL.out _).mono ?_; rintro e w' ⟨rfl, rfl⟩)
          all_goals go_ret2
          all_goals exact HF.out
        have g3 : ¬ (16 : Int) ≤ (d : Int) - 97 + 10 := by omega
        rw [if_pos (by omega)] at hdec
        simp only at hdec
        by_cases hov : 255 < acc * 16 + (d - 87)
        · rw [if_pos hov] at hdec
          have iov : 255 < a * 16 + ((d : Int) - 97 + 10) := by omega
          have HF := Lib.hid (HE.out 255 (.iface 176 (.int .i64 1)) hdec.symm (.inr (.inr rfl)))
          clear hacc hov ha hdec hd256
          go_wp2_with (go_at_call 175; refine (HL.out _).mono ?_; rintro e w' ⟨rfl, rfl⟩)
          all_goals go_ret2
          all_goals exact HF.out
        · rw [if_neg hov] at hdec
          have HN : Hid (a * 16 + ((d : Int) - 97 + 10) = ((acc * 16 + (d - 87) : Nat) : Int) ∧ acc * 16 + (d - 87) ≤ 255 ∧ p16 0 bs = p16 (acc * 16 + (d - 87)) (bs.drop (k + 1))) := ⟨by omega, by omega, hdec⟩
          have iov : a * 16 + ((d : Int) - 97 + 10) ≤ 255 := by omega
          clear hacc hov hdec ha hd256
          go_wp2_with (go_at_call 175; refine (HL.out _).mono ?_; rintro e w' ⟨rfl, rfl⟩)
          all_goals refine ⟨⟨k + 1, acc * 16 + (d - 87), a * 16 + ((d : Int) - 97 + 10), rfl, (by first | rfl | (congr 1; omega)), (by first | rfl | (congr 1; omega)), by omega, HN⟩, by simp [intOf]; omega⟩
    · have hkk : k = t.size := by omega
      subst hkk
      have hF : p16 0 bs = acc := by rw [hdec, List.drop_eq_nil_of_le (by omega)]; rfl
      subst ha
      have HF := Lib.hid (HE.out acc .nilIface hF.symm (.inl rfl))
      clear hacc hF a0 a1 hdec
      go_wp2
      go_ret2
      exact HF.out
theorem bytes_below (w : World) (t : ByteArray) : Below w.heap.size w (Lib.bytesWorld w 5 t) := Lib.bytesWorld_below _ _ _
set_option maxRecDepth 100000 in
set_option maxHeartbeats 2000000 in
theorem pu_is (t : ByteArray) (hne : t.size ≠ 0) (hmax : t.size ≤ 1000) (w : World) (hT : JTabs w) :
    Calls Tryz.prog 149 #[.string t, .int .i64 16, .int .i64 8] w fun e w' => (∃ ev, e = .returned (.tuple #[.int .u64 (p16 0 t.data.toList : Nat), ev])) ∧ Below w.heap.size w w' := by
  have hI := pu_in t hne hmax w
  unfold PuEnd at hI
  obtain ⟨n, hn⟩ : ∃ n, p16 0 t.data.toList = n := ⟨_, rfl⟩
  rw [hn] at hI ⊢
  have HI := Lib.hid hI
  clear hI hn
  have bW := bytes_below w t
  have hT1 := hT.below bW
  obtain ⟨se, sp, hs⟩ := hT1.syn
  obtain ⟨re, rp, hr⟩ := hT1.rng
  have HS := Lib.hid (Any.strconv_toError_syntax Tryz.layToError ⟨#[80, 97, 114, 115, 101, 85, 105, 110, 116]⟩ t 16 8 _ (Lib.bytesWorld w 5 t) (by omega) hs (.inr ⟨_, _, rfl⟩))
  have HR := Lib.hid (Any.strconv_toError_range Tryz.layToError ⟨#[80, 97, 114, 115, 101, 85, 105, 110, 116]⟩ t 16 8 _ (Lib.bytesWorld w 5 t) (by omega) hr (.inr ⟨_, _, rfl⟩))
  have BW := Lib.hid bW
  clear hT hT1 hs hr bW hne hmax
  go_enter Tryz.func149, Tryz.ntmps149
  go_wp2_with fail
  refine HI.out.mono ?_
  rintro e w1 ⟨⟨ev, rfl, hev⟩, rfl⟩
  rcases hev with rfl | rfl | rfl
  · go_wp2
    go_ret2
    exact ⟨⟨_, rfl⟩, BW.out⟩
  · go_wp2_with fail
    refine HS.out.mono ?_
    rintro e w2 ⟨N, rfl, _, _, b2⟩
    go_wp2
    go_ret2
    exact ⟨⟨_, rfl⟩, BW.out.trans (b2.mono BW.out.size)⟩
  · go_wp2_with fail
    refine HR.out.mono ?_
    rintro e w2 ⟨N, rfl, _, _, b2⟩
    go_wp2
    go_ret2
    exact ⟨⟨_, rfl⟩, BW.out.trans (b2.mono BW.out.size)⟩
/-! ### Cut, the trimming functions, Atoi -/
theorem cut_is' (l : List UInt8) (hl : l.length ≤ 60000) (w : World) (hT : JTabs w) :
    Calls Tryz.prog 109 #[.string (baL l), .string ⟨#[58]⟩] w fun e w' => (∃ x c, e = .returned (.tuple #[.string x, .string (baL (findP l)), .bool c])) ∧ Below w.heap.size w w' := by
  obtain ⟨m, hm⟩ := hT.most
  refine (Any.strings_Cut { Tryz.layCut with } (baL l) ⟨#[58]⟩ m w (by rw [baL_size]; omega) hm).mono ?_
  rintro e w' ⟨rfl, n, rfl⟩
  exact ⟨⟨⟨(Lib.cut l [58]).1.toArray⟩, (Lib.cut l [58]).2.2, by rw [← cut_find]; rfl⟩, belowN' w n⟩
theorem trim_is (l : List UInt8) (c : UInt8) (w : World) :
    Calls Tryz.prog 117 #[.string (baL l), .string ⟨#[c]⟩] w fun e w' => e = .returned (.string (baL (skipP c l))) ∧ w' = w := Any.strings_TrimPrefix Tryz.layTrimPrefix (baL l) ⟨#[c]⟩ w
theorem has_is (l : List UInt8) (w : World) :
    Calls Tryz.prog 86 #[.string (baL l), .string ⟨#[123]⟩] w fun e w' => e = .returned (.bool (l.headD 0 == 123)) ∧ w' = w := by
  have h : Lib.hasPrefix l [123] = (l.headD 0 == 123) := by
    cases l with
    | nil => rfl
    | cons x l =>
      show ((123 == x) && true) = (x == 123)
      rw [Bool.and_true, Bool.eq_iff_iff, beq_iff_eq, beq_iff_eq]
      exact eq_comm
  rw [← h]
  exact Any.strings_HasPrefix Tryz.layHasPrefix (baL l) ⟨#[123]⟩ w
theorem left_is' (l : List UInt8) (w : World) :
    Calls Tryz.prog 82 #[.string (baL l), .string ⟨#[45, 48, 49, 50, 51, 52, 53, 54, 55, 56, 57]⟩] w fun e w' => e = .returned (.string (baL (l.dropWhile (numSet.contains ·)))) ∧ Below w.heap.size w w' := by
  refine (Any.strings_TrimLeft_laid Tryz.layTrimLeft (by kernel_rfl) (baL l) ⟨#[45, 48, 49, 50, 51, 52, 53, 54, 55, 56, 57]⟩ w (by decide) ?_).mono ?_
  · intro j b hj
    have : ∀ b ∈ numSet, b.toNat < 128 := by decide
    exact this b (List.mem_of_getElem? hj)
  · rintro e w' ⟨rfl, h⟩
    exact ⟨rfl, h⟩
theorem suf_is (l : List UInt8) (hl : l.length ≤ 60000) (w : World) :
    Calls Tryz.prog 83 #[.string (baL l), .string (baL (l.dropWhile (numSet.contains ·)))] w fun e w' => e = .returned (.string (baL (l.takeWhile (numSet.contains ·)))) ∧ w' = w := by
  refine (Any.strings_TrimSuffix Tryz.layTrimSuffix (baL l) (baL (l.dropWhile (numSet.contains ·))) w (by rw [baL_size]; omega)).mono ?_
  rintro e w' ⟨rfl, rfl⟩
  refine ⟨?_, rfl⟩
  rw [← digits_of l numSet]; rfl
theorem atoi_is (l : List UInt8) (hl : l.length ≤ 60000) (w : World) (hT : JTabs w) :
    Calls Tryz.prog 84 #[.string (baL l)] w fun e w' => (∃ ev, e = .returned (.tuple #[.int .i64 (atoiV l), ev])) ∧ Below w.heap.size w w' := by
  obtain ⟨se, sp, hs⟩ := hT.syn
  obtain ⟨re, rp, hr⟩ := hT.rng
  have hsz : (baL l).size ≤ 60000 := by rw [baL_size]; exact hl
  cases h : Lib.atoiAll l with
  | ok v =>
    have hv : atoiV l = v := by unfold atoiV; rw [h]
    rw [hv]
    refine (Any.strconv_Atoi_ok Tryz.layAtoi (baL l) (by omega) v h w).mono ?_
    rintro e w' ⟨rfl, hw⟩
    refine ⟨⟨_, rfl⟩, ?_⟩
    rcases hw with rfl | ⟨t, rfl⟩
    · exact Below.refl _ _
    · exact Lib.bytesWorld_below _ _ _
  | «syntax» =>
    have hv : atoiV l = 0 := by unfold atoiV; rw [h]
    rw [hv]
    refine (Any.strconv_Atoi_syntax Tryz.layAtoi (baL l) (by omega) h _ w hs (.inr ⟨_, _, rfl⟩)).mono ?_
    rintro e w' ⟨N, rfl, _, _, hb⟩
    exact ⟨⟨_, rfl⟩, hb⟩
  | range =>
    have hv : atoiV l = Lib.atoiSat l := by unfold atoiV; rw [h]
    rw [hv]
    refine (Any.strconv_Atoi_range Tryz.layAtoi (baL l) (by omega) h _ w hr (.inr ⟨_, _, rfl⟩)).mono ?_
    rintro e w' ⟨N, rfl, _, _, hb⟩
    exact ⟨⟨_, rfl⟩, hb⟩
end Go.Proofs.YthbgaphidojneaaGreatDoor
