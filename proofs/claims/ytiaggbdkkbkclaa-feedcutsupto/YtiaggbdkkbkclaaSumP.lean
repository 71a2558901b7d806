import Derived.Test.YtiaggbdkkbkclaaSumT
namespace Go.Proofs.Ytiaggbdkkbkclaa
open Go.RowKit

theorem xor_u8 (x : Nat) (c : UInt8) : bits BinOp.xor IntKind.u8 ((x : Int) % 256) (c.toNat : Int) = ((x % 256 ^^^ c.toNat : Nat) : Int) := by
  have := u8_xor_nat (x % 256) c.toNat (by omega) (byte_lt c)
  rw [← this]; rfl
theorem xor_u32 (v x : Nat) (hv : v < 4294967296) (hx : x < 4294967296) : bits BinOp.xor IntKind.u32 (v : Int) ((x : Int) / 256) = ((v ^^^ x / 256 : Nat) : Int) := by
  have := u32_xor_nat v (x / 256) hv (by omega)
  rw [← this]; rfl
theorem not_u32 (x : Nat) (hx : x < 4294967296) : bits BinOp.xor IntKind.u32 IntKind.u32.max (x : Int) = ((x ^^^ 4294967295 : Nat) : Int) := by
  have := u32_xor_nat 4294967295 x (by omega) hx
  rw [Nat.xor_comm] at this
  rw [← this]; rfl
theorem take_snoc (s : ByteArray) (k : Nat) (h : k < s.size) : s.data.toList.take (k + 1) = s.data.toList.take k ++ [s[k]] := by
  rw [List.take_succ_eq_append_getElem (by simpa using h)]; rfl
theorem crc_snoc (s : ByteArray) (k x : Nat) (h : k < s.size) (hx : crc (s.data.toList.take k) 4294967295 = x) : crc (s.data.toList.take (k + 1)) 4294967295 = sh8 (x ^^^ s[k].toNat) := by
  rw [take_snoc s k h, crc_append, hx]; rfl

set_option maxRecDepth 100000 in
set_option maxHeartbeats 400000 in
theorem sum_is (s : ByteArray) (hs : s.size ≤ maxLen) (w : World) :
    Calls Try.prog 31 #[.string s] w fun e w' => e = .returned (.int .u32 (sum s.data.toList : Nat)) ∧ Below w.heap.size w w' := by
  unfold maxLen at hs
  have hz := run_zeroTab
  go_enter Try.func31, Try.ntmps31
  go_wp2_with fail
  refine (byteSums_is _).mono ?_
  rintro e w1 ⟨rfl, hb1⟩
  have hbel : Below w.heap.size w (w1.alloc (.cells (tab 0) 64)) := hb1.alloc hb1.size _
  go_wp2_with (refine wpList_store_row rfl 64 _ _ rfl w1.heap.size (tab 256) rfl rfl 64 (tab 0) (heap_alloc_new _ _) (Try.infoTab 256) (by rw [tab_size, tab_size]) (tab_all 256) ?_)
  clear hz
  go_loopw [4, 9] (fun r i wr => ∃ k x : Nat, k ≤ s.size ∧ i = .int .i64 k ∧ r = .int .u32 x ∧ wr.heap[w1.heap.size]? = some (.cells (tab 256) 64 (0, 0)) ∧ Below w.heap.size w wr ∧ Hid (x < 4294967296 ∧ crc (s.data.toList.take k) 4294967295 = x)) (fun _ i _ => s.size - (intOf i).toNat)
  case atStart => exact ⟨0, 4294967295, by omega, rfl, rfl, setRow_heap _ _ _ _ _ _ (heap_alloc_new _ _), below_setRow hbel hb1.size _, by decide, rfl⟩
  case round =>
    obtain ⟨k, x, hk, rfl, rfl, h1, hbr, H⟩ := hrel
    clear hbel hb1
    by_cases hlt : k < s.size
    · obtain ⟨d, hd⟩ : ∃ d, d = x % 256 ^^^ s[k].toNat := ⟨_, rfl⟩
      have hd8 : d < 256 := by rw [hd]; exact Nat.xor_lt_two_pow (n := 8) (by omega) (byte_lt _)
      have hx8 : bits BinOp.xor IntKind.u8 ((x : Int) % 256) (s[k].toNat : Int) = (d : Int) := by rw [hd]; exact xor_u8 _ _
      obtain ⟨v, hv⟩ : ∃ v, v = sh8 d := ⟨_, rfl⟩
      have hc : wr.cell? ⟨w1.heap.size, d, none⟩ = some (.int .u32 (v : Int)) := by
        rw [cell_of_row _ _ _ _ _ _ h1, tab_at 256 d hd8, if_pos hd8, hv]
      obtain ⟨y, hy⟩ : ∃ y, y = v ^^^ x / 256 := ⟨_, rfl⟩
      have hx32 : bits BinOp.xor IntKind.u32 (v : Int) ((x : Int) / 256) = (y : Int) := by
        rw [hy]; exact xor_u32 _ _ (by rw [hv]; exact sh8_lt (by omega)) H.out.1
      have H2 : Hid (y < 4294967296 ∧ crc (s.data.toList.take (k + 1)) 4294967295 = y) := by
        have e : y = sh8 (x ^^^ s[k].toNat) := by rw [hy, hv, hd]; exact (sh8_table _ _).symm
        have h2 := crc_snoc s k x hlt H.out.2
        rw [e]; exact ⟨sh8_lt (xor_byte_lt H.out.1 _), h2⟩
      have H1 := Lib.hid h1
      clear hd hv hy h1 H
      go_wp2
      go_roundw
      case rel => exact ⟨k + 1, y, by omega, by go_num, rfl, H1.out, hbr, H2⟩
      case measure => simp [intOf]; omega
    · obtain rfl : k = s.size := by omega
      have hn := not_u32 x H.out.1
      have HS : Hid (x ^^^ 4294967295 = sum s.data.toList) := by
        have h2 := H.out.2
        rw [List.take_of_length_le (by simp)] at h2
        show _ = _
        rw [sum, h2]
      clear H h1
      generalize x ^^^ 4294967295 = z at *
      go_wp2
      go_ret
      exact ⟨by rw [← HS.out]; rfl, hbr⟩
end Go.Proofs.Ytiaggbdkkbkclaa
