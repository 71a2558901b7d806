import Derived.Test.YtiaggbdkkbkclaaNumUse
import Derived.Test.YtiaggbdkkbkclaaSumUse
import Derived.Test.YtiaggbdkkbkclaaFrPlain
import Derived.Test.YtiaggbdkkbkclaaCells
import Derived.Deep.RegionHeld3
namespace Go.Proofs.Ytiaggbdkkbkclaa
open Go.RowKit

theorem isVersion_yes (v : Int) (h : 1 ≤ v ∧ v ≤ 3) (w : World) :
    Calls Try.prog 21 #[.int .i64 v] w fun e w' => e = .returned (.bool true) ∧ w = w' := by
  have h1 := h.1
  have h2 : decide (v ≤ 3) = true := by simp; omega
  go_enter Try.func21, Try.ntmps21
  go_wp2
  go_ret
  exact ⟨rfl, rfl⟩
theorem isVersion_no (v : Int) (h : ¬ (1 ≤ v ∧ v ≤ 3)) (w : World) :
    Calls Try.prog 21 #[.int .i64 v] w fun e w' => e = .returned (.bool false) ∧ w = w' := by
  by_cases h1 : 1 ≤ v
  · have h2 : decide (v ≤ 3) = false := by simp; omega
    go_enter Try.func21, Try.ntmps21
    go_wp2
    go_ret
    exact ⟨rfl, rfl⟩
  · have h2 : decide (1 ≤ v) = false := by simp; omega
    go_enter Try.func21, Try.ntmps21
    go_wp2
    go_ret
    exact ⟨rfl, rfl⟩
theorem isKind_yes (v : Int) (h : 1 ≤ v ∧ v ≤ 4) (w : World) :
    Calls Try.prog 22 #[.int .i64 v] w fun e w' => e = .returned (.bool true) ∧ w = w' := by
  have h1 := h.1
  have h2 : decide (v ≤ 4) = true := by simp; omega
  go_enter Try.func22, Try.ntmps22
  go_wp2
  go_ret
  exact ⟨rfl, rfl⟩
theorem isKind_no (v : Int) (h : ¬ (1 ≤ v ∧ v ≤ 4)) (w : World) :
    Calls Try.prog 22 #[.int .i64 v] w fun e w' => e = .returned (.bool false) ∧ w = w' := by
  by_cases h1 : 1 ≤ v
  · have h2 : decide (v ≤ 4) = false := by simp; omega
    go_enter Try.func22, Try.ntmps22
    go_wp2
    go_ret
    exact ⟨rfl, rfl⟩
  · have h2 : decide (1 ≤ v) = false := by simp; omega
    go_enter Try.func22, Try.ntmps22
    go_wp2
    go_ret
    exact ⟨rfl, rfl⟩

/-- The string of a checksum's four bytes. -/
def sumS (s : ByteArray) : ByteArray := ⟨(sum4 s.data.toList).toArray⟩
theorem sumS_size (s : ByteArray) : (sumS s).size = 4 := rfl
theorem sumS_data (s : ByteArray) : (sumS s).data.toList = sum4 s.data.toList := by simp [sumS]
theorem run_string_four (wx : World) (a b c d : UInt8) : (convert 52 9 (.slice (some ⟨wx.heap.size, 0, none⟩) 4 4)).run Try.prog (wx.alloc (.cells #[.int .u8 (a.toNat : Int), .int .u8 (b.toNat : Int), .int .u8 (c.toNat : Int), .int .u8 (d.toNat : Int)] 5)) = .ok (.string ⟨#[a, b, c, d]⟩) (wx.alloc (.cells #[.int .u8 (a.toNat : Int), .int .u8 (b.toNat : Int), .int .u8 (c.toNat : Int), .int .u8 (d.toNat : Int)] 5)) :=
  run_string_own (base := wx.heap.size) [a, b, c, d] rfl (World.ownsRow_lit wx #[.int .u8 (a.toNat : Int), .int .u8 (b.toNat : Int), .int .u8 (c.toNat : Int), .int .u8 (d.toNat : Int)] 4 (Nat.le_refl _) (by decide) rfl)
theorem run_string_sum (x : Nat) (hx : x < 4294967296) (wx : World) : (convert 52 9 (.slice (some ⟨wx.heap.size, 0, none⟩) 4 4)).run Try.prog (wx.alloc (.cells #[.int .u8 ((x : Int) / 16777216), .int .u8 ((x : Int) / 65536 % 256), .int .u8 ((x : Int) / 256 % 256), .int .u8 ((x : Int) % 256)] 5)) = .ok (.string ⟨(be4 x).toArray⟩) (wx.alloc (.cells #[.int .u8 ((x : Int) / 16777216), .int .u8 ((x : Int) / 65536 % 256), .int .u8 ((x : Int) / 256 % 256), .int .u8 ((x : Int) % 256)] 5)) := by
  have h := run_string_four wx (UInt8.ofNat (x / 16777216)) (UInt8.ofNat (x / 65536)) (UInt8.ofNat (x / 256)) (UInt8.ofNat x)
  have e1 : ((UInt8.ofNat (x / 16777216)).toNat : Int) = (x : Int) / 16777216 := by simp; omega
  have e2 : ((UInt8.ofNat (x / 65536)).toNat : Int) = (x : Int) / 65536 % 256 := by simp
  have e3 : ((UInt8.ofNat (x / 256)).toNat : Int) = (x : Int) / 256 % 256 := by simp
  have e4 : ((UInt8.ofNat x).toNat : Int) = (x : Int) % 256 := by simp
  rw [e1, e2, e3, e4] at h
  exact h
set_option maxRecDepth 100000 in
set_option maxHeartbeats 400000 in
theorem sumBytes_is (s : ByteArray) (hs : s.size ≤ maxLen) (w : World) :
    Calls Try.prog 24 #[.string s] w fun e w' => e = .returned (.string (sumS s)) ∧ Below w.heap.size w w' := by
  have HS := Lib.hid (sum_is s hs w)
  have hx := sum_lt s.data.toList
  obtain ⟨t, ht⟩ : ∃ t, sumS s = t := ⟨_, rfl⟩
  rw [ht]
  unfold sumS sum4 at ht
  generalize sum s.data.toList = x at *
  have hcv := run_string_sum x hx
  rw [ht] at hcv
  clear ht
  go_enter Try.func24, Try.ntmps24
  go_wp2_with fail
  refine HS.out.mono ?_
  rintro e w1 ⟨rfl, b1⟩
  go_wp2
  go_ret
  exact ⟨rfl, b1.alloc b1.size _⟩

/-- What Encode answers. -/
def encB (v k : Nat) (p : ByteArray) : ByteArray := ⟨(encL v k p.data.toList).toArray⟩
def bodyB (v k : Nat) (p : ByteArray) : ByteArray := ⟨(bodyL v k p.data.toList).toArray⟩
theorem encB_data (v k : Nat) (p : ByteArray) : (encB v k p).data.toList = encL v k p.data.toList := by simp [encB]
theorem bodyB_data (v k : Nat) (p : ByteArray) : (bodyB v k p).data.toList = bodyL v k p.data.toList := by simp [bodyB]
theorem bytes_of {a b : ByteArray} (h : a.data.toList = b.data.toList) : a = b := WideShapes.bytes_inj h
theorem size_data (s : ByteArray) : s.data.toList.length = s.size := by simp
theorem encB_size (v k : Nat) (p : ByteArray) : (encB v k p).size = 8 + (num p.size).length + p.size := by
  rw [← size_data, encB_data, encL_length, size_data]
theorem bodyB_size (v k : Nat) (p : ByteArray) : (bodyB v k p).size = 4 + (num p.size).length + p.size := by
  rw [← size_data, bodyB_data, bodyL_length, size_data]
theorem bodyB_is (v k : Nat) (p : ByteArray) : ⟨#[66, 75]⟩ ++ ⟨#[UInt8.ofNat v, UInt8.ofNat k]⟩ ++ numS p.size ++ p = bodyB v k p := by
  apply bytes_of
  rw [bodyB_data, app_data, app_data, app_data, numS_data, bodyL, size_data]; simp
theorem encB_is (v k : Nat) (p : ByteArray) : bodyB v k p ++ sumS (bodyB v k p) = encB v k p := by
  apply bytes_of
  rw [encB_data, app_data, sumS_data, bodyB_data, encL]
def encOK (v k : Int) : Bool := decide (1 ≤ v) && decide (v ≤ 3) && decide (1 ≤ k) && decide (k ≤ 4)
def enc (v k : Int) (p : ByteArray) : ByteArray × Nat :=
  if encOK v k = false then (⟨#[]⟩, 1) else if 6000 < p.size then (⟨#[]⟩, 2) else (encB v.toNat k.toNat p, 0)
theorem run_string_two (wx : World) (a b : Nat) (ha : a < 256) (hb : b < 256) : (convert 52 9 (.slice (some ⟨wx.heap.size, 0, none⟩) 2 2)).run Try.prog (wx.alloc (.cells #[.int .u8 (a : Int), .int .u8 (b : Int)] 5)) = .ok (.string ⟨#[UInt8.ofNat a, UInt8.ofNat b]⟩) (wx.alloc (.cells #[.int .u8 (a : Int), .int .u8 (b : Int)] 5)) := by
  have h := run_string_own (w := wx.alloc (.cells #[.int .u8 ((UInt8.ofNat a).toNat : Int), .int .u8 ((UInt8.ofNat b).toNat : Int)] 5)) (base := wx.heap.size) (n := 2) (cap := 2) [UInt8.ofNat a, UInt8.ofNat b] rfl (World.ownsRow_lit wx #[.int .u8 ((UInt8.ofNat a).toNat : Int), .int .u8 ((UInt8.ofNat b).toNat : Int)] 2 (Nat.le_refl _) (by decide) rfl)
  rw [byte_of ha, byte_of hb] at h
  exact h
theorem cell_two_new (w : World) (x y z : Value) (t : TypeId) (o : Obj) : ((w.alloc (.cells #[x, y, z] t)).alloc o).cell? ⟨w.heap.size, 2, none⟩ = some z := by go_simp
theorem kept_cell {w W0 w2 : World} {v : Value} {j : Nat} (hc : W0.cell? ⟨w.heap.size, j, none⟩ = some v) (hb : Below w.heap.size w W0) (hlt : w.heap.size < W0.heap.size) (b2 : Below W0.drew.heap.size W0.drew w2) : w2.cell? ⟨w.heap.size, j, none⟩ = some v ∧ Below w.heap.size w w2 ∧ w.heap.size < w2.heap.size := by
  have hs := b2.size
  refine ⟨?_, hb.drew.trans (b2.mono (Nat.le_of_lt hlt)), Nat.lt_of_lt_of_le hlt hs⟩
  rw [b2.cell (p := ⟨w.heap.size, j, none⟩) hlt]; exact hc
theorem ret_s2 {p : ByteArray × Nat} {a : ByteArray} {b : Int} (n : Nat) (h : p = (a, n)) (hb : b = n) : Ending.returned (.tuple #[.string a, .int .i64 b]) = .returned (.tuple #[.string p.1, .int .i64 p.2]) := by
  subst h hb; rfl

set_option maxRecDepth 100000 in
set_option maxHeartbeats 1000000 in
theorem encode_any (v k : Int) (p : ByteArray) (hp : p.size ≤ 140737488355328) (w : World) :
    Calls Try.prog 16 #[.agg #[.int .i64 v, .int .i64 k, .string p]] w fun e w' => e = .returned (.tuple #[.string (enc v k p).1, .int .i64 (enc v k p).2]) ∧ Below w.heap.size w w' := by
  obtain ⟨r, hr⟩ : ∃ r, enc v k p = r := ⟨_, rfl⟩
  rw [hr]
  unfold enc at hr
  by_cases hv : 1 ≤ v ∧ v ≤ 3
  · by_cases hk : 1 ≤ k ∧ k ≤ 4
    · rw [if_neg (by simp [encOK, hv, hk])] at hr
      by_cases h6 : 6000 < p.size
      · rw [if_pos h6] at hr
        have HR := Lib.hid hr.symm
        have H1 := Lib.hid (isVersion_yes v hv)
        have H2 := Lib.hid (isKind_yes k hk)
        clear hr hv hk
        go_enter Try.func16, Try.ntmps16
        go_wp2_with fail
        refine (H1.out _).mono ?_
        rintro e w1 ⟨rfl, rfl⟩
        go_wp2_with fail
        refine (H2.out _).mono ?_
        rintro e w1 ⟨rfl, rfl⟩
        go_wp2
        go_ret2
        exact ⟨ret_s2 2 HR.out rfl, (Below.refl _ _).alloc (Nat.le_refl _) _⟩
      · rw [if_neg h6] at hr
        obtain ⟨a, rfl⟩ := Int.eq_ofNat_of_zero_le (show 0 ≤ v by omega)
        obtain ⟨b, rfl⟩ := Int.eq_ofNat_of_zero_le (show 0 ≤ k by omega)
        rw [Int.toNat_natCast, Int.toNat_natCast] at hr
        have HR := Lib.hid hr.symm
        have H1 := Lib.hid (isVersion_yes a hv)
        have H2 := Lib.hid (isKind_yes b hk)
        have ha : a < 256 := by omega
        have hb : b < 256 := by omega
        have hcv := run_string_two (w.alloc (.cells #[.int .i64 (a : Int), .int .i64 (b : Int), .string p] 33)) a b ha hb
        rw [World.size_alloc] at hcv
        obtain ⟨W0, hW0⟩ : ∃ W0, (w.alloc (.cells #[.int .i64 (a : Int), .int .i64 (b : Int), .string p] 33)).alloc (.cells #[.int .u8 (a : Int), .int .u8 (b : Int)] 5) = W0 := ⟨_, rfl⟩
        rw [hW0] at hcv
        have hc : W0.cell? ⟨w.heap.size, 2, none⟩ = some (.string p) := by rw [← hW0]; exact cell_two_new _ _ _ _ _ _
        have hb0 : Below w.heap.size w W0 := by rw [← hW0]; exact ((Below.refl _ _).alloc (Nat.le_refl _) _).alloc (by simp) _
        have hlt : w.heap.size < W0.heap.size := by rw [← hW0]; simp; omega
        have HN := Lib.hid (number_is p.size (by omega))
        have hn10 : (numS p.size).size ≤ 10 := by rw [numS_size]; exact num_len10 (by omega)
        have hB := bodyB_is a b p
        have hE := encB_is a b p
        have HS := Lib.hid (sumBytes_is (bodyB a b p) (by rw [bodyB_size, ← numS_size]; unfold maxLen; omega))
        have hBs : (bodyB a b p).size ≤ 7000 := by rw [bodyB_size, ← numS_size]; omega
        have hSs := sumS_size (bodyB a b p)
        generalize bodyB a b p = B at *
        generalize sumS B = S4 at *
        generalize encB a b p = E at *
        generalize numS p.size = N at *
        obtain ⟨T, hT⟩ : ∃ T, (⟨#[UInt8.ofNat a, UInt8.ofNat b]⟩ : ByteArray) = T := ⟨_, rfl⟩
        have hTs : T.size ≤ 2 := by rw [← hT]; exact Nat.le_refl 2
        rw [hT] at hB hcv
        obtain ⟨D, hD⟩ : ∃ D, (⟨#[66, 75]⟩ : ByteArray) ++ T = D := ⟨_, rfl⟩
        have hDs : D.size ≤ 4 := by rw [← hD, ByteArray.size_append]; have : (⟨#[66, 75]⟩ : ByteArray).size = 2 := rfl; omega
        rw [hD] at hB
        obtain ⟨M, hM⟩ : ∃ M, D ++ N = M := ⟨_, rfl⟩
        have hMs : M.size ≤ 14 := by rw [← hM, ByteArray.size_append]; omega
        rw [hM] at hB
        clear hr hv hk hT
        go_enter Try.func16, Try.ntmps16
        go_wp2_with fail
        refine (H1.out _).mono ?_
        rintro e w1 ⟨rfl, rfl⟩
        go_wp2_with fail
        refine (H2.out _).mono ?_
        rintro e w1 ⟨rfl, rfl⟩
        go_wp2_with fail
        clear hW0 hcv
        have hwp : IntKind.u64.wrap (p.size : Int) = (p.size : Int) := IntWalk.u64_in _ (by omega)
        have q1 : ¬ (9223372036854775807 < D.size + N.size) := by omega
        have q2 : ¬ (9223372036854775807 < M.size + p.size) := by omega
        go_region_held3 (fun w' => w'.cell? ⟨w.heap.size, 2, none⟩ = some (.string p) ∧ Below w.heap.size w w' ∧ w.heap.size < w'.heap.size) (first | exact ⟨hc, hb0, hlt⟩ | exact ⟨hc, hb0.drew, hlt⟩ | assumption)
          (first | (go_at_call 23; (with_reducible refine (HN.out _).mono ?_); rintro e w2 ⟨rfl, b2⟩; have hk2 := kept_cell hc hb0 hlt b2; clear b2))
        rename_i w2 hk2
        clear q1 q2 hwp
        go_wp2_with fail
        refine (HS.out _).mono ?_
        rintro e w3 ⟨rfl, b3⟩
        go_wp2
        go_ret2
        exact ⟨ret_s2 0 HR.out rfl, hk2.2.1.trans (b3.mono (Nat.le_of_lt hk2.2.2))⟩
    · rw [if_pos (by simp only [encOK, Bool.and_eq_false_iff, decide_eq_false_iff_not]; omega)] at hr
      have HR := Lib.hid hr.symm
      have H1 := Lib.hid (isVersion_yes v hv)
      have H2 := Lib.hid (isKind_no k hk)
      clear hr hv hk
      go_enter Try.func16, Try.ntmps16
      go_wp2_with fail
      refine (H1.out _).mono ?_
      rintro e w1 ⟨rfl, rfl⟩
      go_wp2_with fail
      refine (H2.out _).mono ?_
      rintro e w1 ⟨rfl, rfl⟩
      go_wp2
      go_ret2
      exact ⟨ret_s2 1 HR.out rfl, (Below.refl _ _).alloc (Nat.le_refl _) _⟩
  · rw [if_pos (by simp only [encOK, Bool.and_eq_false_iff, decide_eq_false_iff_not]; omega)] at hr
    have HR := Lib.hid hr.symm
    have H1 := Lib.hid (isVersion_no v hv)
    clear hr hv
    go_enter Try.func16, Try.ntmps16
    go_wp2_with fail
    refine (H1.out _).mono ?_
    rintro e w1 ⟨rfl, rfl⟩
    go_wp2
    go_ret2
    exact ⟨ret_s2 1 HR.out rfl, (Below.refl _ _).alloc (Nat.le_refl _) _⟩
end Go.Proofs.Ytiaggbdkkbkclaa
