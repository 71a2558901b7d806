import Derived.Test.YtdbopgmckndmeaaDoorOwn
import Derived.Test.YtdbopgmckndmeaaDoorPlain
namespace Go.Proofs.YtdbopgmckndmeaaDoor
open Go.RowKit

theorem or_byte (m : Nat) : bits BinOp.or IntKind.u8 ((m : Int) % 256) 128 = ((UInt8.ofNat (m % 128 + 128)).toNat : Int) := by
  rw [or128_u8 _ (by omega) (by omega)]
  have : (UInt8.ofNat (m % 128 + 128)).toNat = m % 128 + 128 := by simp; omega
  rw [this]; omega
theorem low_byte (m : Nat) (h : m < 128) : (m : Int) = ((UInt8.ofNat m).toNat : Int) := by
  have : (UInt8.ofNat m).toNat = m := by simp; omega
  rw [this]

set_option maxRecDepth 100000 in
set_option maxHeartbeats 1000000 in
theorem number_any (N : Nat) (hN : N < 18446744073709551616) (w : World) :
    Calls Tryd.prog 76 #[.int .u64 N] w fun e w' => e = .returned (.string ⟨(num N).toArray⟩) ∧ Below w.heap.size w w' := by
  obtain ⟨i0, hi, hz0, hz1, hz2⟩ := info_parts Tryd.infoByte
  have HN := Lib.hid (num_len10 hN)
  clear hN
  have Hi := Lib.hid hi
  have Hz0 := Lib.hid hz0
  have Hz1 := Lib.hid hz1
  have Hz2 := Lib.hid hz2
  clear hi hz0 hz1 hz2
  go_enter Tryd.func76, Tryd.ntmps76
  go_wp2
  go_loopw [0, 3] (fun nv v wr => ∃ (m : Nat) (gs : List UInt8), nv = .int .u64 m ∧ wr.ownsRow w.heap.size 5 1 v gs.length (byteCells gs) ∧ Below w.heap.size w wr ∧ Hid (num N = gs ++ num m)) (fun nv _ _ => (intOf nv).toNat)
  case atStart => exact ⟨N, [], rfl, World.ownsRow_nil _ _ _ _, Below.refl _ _, rfl⟩
  case round =>
    obtain ⟨m, gs, rfl, hown, hbel, H⟩ := hrel
    by_cases hm : (128 : Int) ≤ (m : Int)
    · obtain ⟨b, hb⟩ : ∃ b, b = UInt8.ofNat (m % 128 + 128) := ⟨_, rfl⟩
      have hbit : bits BinOp.or IntKind.u8 ((m : Int) % 256) 128 = (b.toNat : Int) := by rw [hb]; exact or_byte m
      have HM : Hid (num N = (gs ++ [b]) ++ num (m / 128) ∧ gs.length + 1 ≤ 10) := by
        have h1 := H.out
        rw [num_ge (n := m) (by omega), ← hb] at h1
        have h2 := congrArg List.length h1
        have h3 := HN.out
        simp only [List.length_append, List.length_cons] at h2
        exact ⟨by rw [h1]; simp, by omega⟩
      clear hb H HN
      go_wp2_with (at_builtin; refine wpList_append_own _ rfl _ _ 47 rfl w.heap.size 5 i0 (.int .u8 0) 1 1 Tryd.underlying47 Hi.out Hz0.out Hz1.out Hz2.out rfl (by decide) _ _ _ rfl (hown.alloc _) ⟨wr.heap.size, 0, none⟩ 1 1 (byteCells [b]) rfl rfl ?c1 ?c2 ?c3 ?c4 ?c5 ?_)
      case c1 => exact fun j u hj => by first | exact one_new _ _ _ j u hj | exact hj
      case c2 => exact one_cell _
      case c3 => have := HM.out.2; unfold maxLen; omega
      case c4 => have := HM.out.2; omega
      case c5 => have := hbel.size; simp; omega
      · intro v' w1 hown' hgrow _
        have hb1 := grown_below hbel (Nat.le_refl _) hown hgrow
        clear hown hgrow hbel hbit
        go_wp2
        go_roundw
        case rel => exact ⟨m / 128, gs ++ [b], by go_num, by rw [byteCells_append]; simpa using hown', hb1, HM.out.1⟩
        case measure => simp [intOf]; omega
    · obtain ⟨b, hb⟩ : ∃ b, b = UInt8.ofNat m := ⟨_, rfl⟩
      have hbit : (m : Int) = (b.toNat : Int) := by rw [hb]; exact low_byte m (by omega)
      have HM : Hid (num N = gs ++ [b] ∧ gs.length + 1 ≤ 10) := by
        have h1 := H.out
        rw [num_lt (n := m) (by omega), ← hb] at h1
        have h2 := congrArg List.length h1
        have h3 := HN.out
        simp only [List.length_append, List.length_cons] at h2
        exact ⟨by rw [h1], by omega⟩
      clear hb H HN
      go_wp2_with (at_builtin; refine wpList_append_own _ rfl _ _ 47 rfl w.heap.size 5 i0 (.int .u8 0) 1 1 Tryd.underlying47 Hi.out Hz0.out Hz1.out Hz2.out rfl (by decide) _ _ _ rfl (hown.alloc _) ⟨wr.heap.size, 0, none⟩ 1 1 (byteCells [b]) rfl rfl ?d1 ?d2 ?d3 ?d4 ?d5 ?_)
      case d1 => exact fun j u hj => by first | exact one_new _ _ _ j u hj | exact hj
      case d2 => exact one_cell _
      case d3 => have := HM.out.2; unfold maxLen; omega
      case d4 => have := HM.out.2; omega
      case d5 => have := hbel.size; simp; omega
      · intro v' w1 hown' hgrow _
        have hb1 := Lib.hid (grown_below hbel (Nat.le_refl _) hown hgrow)
        rw [← byteCells_append] at hown'
        obtain ⟨g, cap, hv⟩ := own_shape hown' (by simp [byteCells])
        rw [hv] at hown' ⊢
        have hcv := run_string_own (gs ++ [b]) (by simp) hown'
        clear hown hgrow hbel hbit hv hown'
        go_wp2
        go_ret
        exact ⟨by rw [HM.out.1]; rfl, hb1.out⟩
end Go.Proofs.YtdbopgmckndmeaaDoor
