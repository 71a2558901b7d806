import Derived.Test.YtiaggbdkkbkclaaFrHead
import Derived.Test.YtiaggbdkkbkclaaClone
import Derived.RegionTactic
import Derived.BigRegion
namespace Go.Proofs.Ytiaggbdkkbkclaa
open Go.RowKit

theorem fail_is (c : Int) (w : World) :
    Calls Try.prog 32 #[.int .i64 c] w fun e w' => e = .returned (.tuple #[.agg #[.int .i64 0, .int .i64 0, .string ⟨#[]⟩], .int .i64 0, .int .i64 c]) ∧ Below w.heap.size w w' := by
  go_enter Try.func32, Try.ntmps32
  go_wp2
  exact bodyPost_ret (v := .tuple #[.agg #[.int .i64 0, .int .i64 0, .string ⟨#[]⟩], .int .i64 0, .int .i64 c]) (by simp [results, Try.results32, go_sem]) rfl ⟨rfl, (Below.refl _ _).alloc (Nat.le_refl _) _⟩
theorem drop_data (s : ByteArray) (k : Nat) : (s.extract k s.size).data.toList = s.data.toList.drop k := by
  rw [ByteArray.data_extract, Array.toList_extract, List.extract_eq_take_drop, List.take_of_length_le (by simp)]

set_option maxRecDepth 100000 in
set_option maxHeartbeats 1000000 in
theorem decode_head (s : ByteArray) (hs : s.size ≤ 1152921504606846976) (h : headE s.data.toList ≠ 0) (w : World) :
    Calls Try.prog 25 #[.string s] w fun e w' => e = .returned (.tuple #[.agg #[.int .i64 0, .int .i64 0, .string ⟨#[]⟩], .int .i64 0, .int .i64 (headE s.data.toList : Nat)]) ∧ Below w.heap.size w w' := by
  have HH := Lib.hid (checkHead_any s (by unfold maxLen; omega))
  generalize headE s.data.toList = c at *
  have hc : ((c : Int) != 0) = true := by simp; omega
  clear h
  go_enter Try.func25, Try.ntmps25
  go_wp2_with fail
  refine (HH.out _).mono ?_
  rintro e w1 ⟨rfl, b1⟩
  have o1 := own3_next (own3_new _ _ _ _ _) b1
  clear b1
  go_wp2_with fail
  refine (fail_is _ _).mono ?_
  rintro e w2 ⟨rfl, b2⟩
  have o2 := own3_next o1 b2
  clear b2 o1
  have o3 := own3_set o2 (.int .i64 0) (.int .i64 0) (.string ⟨#[]⟩)
  obtain ⟨⟨⟨k0, k1, k2⟩, hb, hlt⟩, f0, f1, f2⟩ := o2
  go_wp2
  obtain ⟨⟨⟨q0, q1, q2⟩, hb3, _⟩, _⟩ := o3
  unfold set3 at q0 q1 q2 hb3
  exact bodyPost_ret (v := .tuple #[.agg #[.int .i64 0, .int .i64 0, .string ⟨#[]⟩], .int .i64 0, .int .i64 (c : Int)]) (by simp [results, Try.results25, go_sem, q0, q1, q2]) rfl ⟨rfl, hb3⟩
theorem head_size {l : List UInt8} (h : headE l = 0) : 4 ≤ l.length := by
  obtain ⟨c, d, r, rfl, _⟩ := headE_zero h
  simp
theorem checkHead_ok (s : ByteArray) (hs : s.size ≤ maxLen) (h : headE s.data.toList = 0) (w : World) :
    Calls Try.prog 33 #[.string s] w fun e w' => e = .returned (.int .i64 0) ∧ Below w.heap.size w w' := by
  have := checkHead_any s hs w
  rwa [h] at this

set_option maxRecDepth 100000 in
set_option maxHeartbeats 1000000 in
theorem decode_read (s : ByteArray) (hs : s.size ≤ 1152921504606846976) (h : headE s.data.toList = 0) (N m c : Nat) (hr : rd (s.data.toList.drop 4) = (N, m, c)) (hc : c ≠ 0) (w : World) :
    Calls Try.prog 25 #[.string s] w fun e w' => e = .returned (.tuple #[.agg #[.int .i64 0, .int .i64 0, .string ⟨#[]⟩], .int .i64 0, .int .i64 (c : Int)]) ∧ Below w.heap.size w w' := by
  have HH := Lib.hid (checkHead_ok s (by unfold maxLen; omega) h)
  have h4 : 4 ≤ s.size := by rw [← size_data]; exact head_size h
  rw [← drop_data] at hr
  obtain ⟨T, hT⟩ : ∃ T, s.extract 4 s.size = T := ⟨_, rfl⟩
  rw [hT] at hr
  have hTs : T.size ≤ 1152921504606846976 := by rw [← hT, ByteArray.size_extract]; omega
  have HD := Lib.hid (read_is T N m c hr (by unfold maxLen; omega))
  have hc' : ((c : Int) != 0) = true := by simp; omega
  clear h hr hc
  go_enter Try.func25, Try.ntmps25
  go_wp2_with fail
  refine (HH.out _).mono ?_
  rintro e w1 ⟨rfl, b1⟩
  have o1 := own3_next (own3_new _ _ _ _ _) b1
  clear b1
  go_wp2_with fail
  refine (HD.out _).mono ?_
  rintro e w0 ⟨rfl, rfl⟩
  go_wp2_with fail
  refine (fail_is _ _).mono ?_
  rintro e w2 ⟨rfl, b2⟩
  have o2 := own3_next o1 b2
  clear b2 o1
  have o3 := own3_set o2 (.int .i64 0) (.int .i64 0) (.string ⟨#[]⟩)
  obtain ⟨⟨⟨k0, k1, k2⟩, hb, hlt⟩, f0, f1, f2⟩ := o2
  go_wp2
  obtain ⟨⟨⟨q0, q1, q2⟩, hb3, _⟩, _⟩ := o3
  unfold set3 at q0 q1 q2 hb3
  exact bodyPost_ret (v := .tuple #[.agg #[.int .i64 0, .int .i64 0, .string ⟨#[]⟩], .int .i64 0, .int .i64 (c : Int)]) (by simp [results, Try.results25, go_sem, q0, q1, q2]) rfl ⟨rfl, hb3⟩

set_option maxRecDepth 100000 in
set_option maxHeartbeats 1000000 in
theorem decode_large (s : ByteArray) (hs : s.size ≤ 1152921504606846976) (h : headE s.data.toList = 0) (N m : Nat) (hr : rd (s.data.toList.drop 4) = (N, m, 0)) (hN : 6000 < N) (w : World) :
    Calls Try.prog 25 #[.string s] w fun e w' => e = .returned (.tuple #[.agg #[.int .i64 0, .int .i64 0, .string ⟨#[]⟩], .int .i64 0, .int .i64 2]) ∧ Below w.heap.size w w' := by
  have HH := Lib.hid (checkHead_ok s (by unfold maxLen; omega) h)
  have h4 : 4 ≤ s.size := by rw [← size_data]; exact head_size h
  rw [← drop_data] at hr
  obtain ⟨T, hT⟩ : ∃ T, s.extract 4 s.size = T := ⟨_, rfl⟩
  rw [hT] at hr
  have hTs : T.size ≤ 1152921504606846976 := by rw [← hT, ByteArray.size_extract]; omega
  have HD := Lib.hid (read_is T N m 0 hr (by unfold maxLen; omega))
  clear h hr
  go_enter Try.func25, Try.ntmps25
  go_wp2_with fail
  refine (HH.out _).mono ?_
  rintro e w1 ⟨rfl, b1⟩
  have o1 := own3_next (own3_new _ _ _ _ _) b1
  clear b1
  go_wp2_with fail
  refine (HD.out _).mono ?_
  rintro e w0 ⟨rfl, rfl⟩
  go_wp2_with fail
  refine (fail_is _ _).mono ?_
  rintro e w2 ⟨rfl, b2⟩
  have o2 := own3_next o1 b2
  clear b2 o1
  have o3 := own3_set o2 (.int .i64 0) (.int .i64 0) (.string ⟨#[]⟩)
  obtain ⟨⟨⟨k0, k1, k2⟩, hb, hlt⟩, f0, f1, f2⟩ := o2
  go_wp2
  obtain ⟨⟨⟨q0, q1, q2⟩, hb3, _⟩, _⟩ := o3
  unfold set3 at q0 q1 q2 hb3
  exact bodyPost_ret (v := .tuple #[.agg #[.int .i64 0, .int .i64 0, .string ⟨#[]⟩], .int .i64 0, .int .i64 2]) (by simp [results, Try.results25, go_sem, q0, q1, q2]) rfl ⟨rfl, hb3⟩

set_option maxRecDepth 100000 in
set_option maxHeartbeats 1000000 in
theorem decode_few (s : ByteArray) (hs : s.size ≤ 1152921504606846976) (h : headE s.data.toList = 0) (N m : Nat) (hr : rd (s.data.toList.drop 4) = (N, m, 0)) (hN : ¬ 6000 < N) (hm : m ≤ 10) (hl : s.size < 8 + m + N) (w : World) :
    Calls Try.prog 25 #[.string s] w fun e w' => e = .returned (.tuple #[.agg #[.int .i64 0, .int .i64 0, .string ⟨#[]⟩], .int .i64 0, .int .i64 3]) ∧ Below w.heap.size w w' := by
  have HH := Lib.hid (checkHead_ok s (by unfold maxLen; omega) h)
  have h4 : 4 ≤ s.size := by rw [← size_data]; exact head_size h
  rw [← drop_data] at hr
  obtain ⟨T, hT⟩ : ∃ T, s.extract 4 s.size = T := ⟨_, rfl⟩
  rw [hT] at hr
  have hTs : T.size ≤ 1152921504606846976 := by rw [← hT, ByteArray.size_extract]; omega
  have HD := Lib.hid (read_is T N m 0 hr (by unfold maxLen; omega))
  clear h hr
  go_enter Try.func25, Try.ntmps25
  go_wp2_with fail
  refine (HH.out _).mono ?_
  rintro e w1 ⟨rfl, b1⟩
  have o1 := own3_next (own3_new _ _ _ _ _) b1
  clear b1
  go_wp2_with fail
  refine (HD.out _).mono ?_
  rintro e w0 ⟨rfl, rfl⟩
  go_wp2_with fail
  refine (fail_is _ _).mono ?_
  rintro e w2 ⟨rfl, b2⟩
  have o2 := own3_next o1 b2
  clear b2 o1
  have o3 := own3_set o2 (.int .i64 0) (.int .i64 0) (.string ⟨#[]⟩)
  obtain ⟨⟨⟨k0, k1, k2⟩, hb, hlt⟩, f0, f1, f2⟩ := o2
  go_wp2
  obtain ⟨⟨⟨q0, q1, q2⟩, hb3, _⟩, _⟩ := o3
  unfold set3 at q0 q1 q2 hb3
  exact bodyPost_ret (v := .tuple #[.agg #[.int .i64 0, .int .i64 0, .string ⟨#[]⟩], .int .i64 0, .int .i64 3]) (by simp [results, Try.results25, go_sem, q0, q1, q2]) rfl ⟨rfl, hb3⟩

theorem ne_lists {a b : ByteArray} (h : a ≠ b) : (a.toList == b.toList) = false := by
  rw [ByteArray.toList_eq, ByteArray.toList_eq]
  have : ¬ a.data.toList = b.data.toList := fun e => h (bytes_of e)
  simpa using this
theorem eq_lists (a : ByteArray) : (a.toList == a.toList) = true := by simp
set_option maxRecDepth 100000 in
set_option maxHeartbeats 1000000 in
theorem decode_sum (s : ByteArray) (hs : s.size ≤ 1152921504606846976) (h : headE s.data.toList = 0) (N m E : Nat) (hr : rd (s.data.toList.drop 4) = (N, m, 0)) (hN : ¬ 6000 < N) (hm : m ≤ 10) (hE : 4 + m + N = E) (hl : E + 4 ≤ s.size)
    (hne : s.extract E (E + 4) ≠ sumS (s.extract 0 E)) (w : World) :
    Calls Try.prog 25 #[.string s] w fun e w' => e = .returned (.tuple #[.agg #[.int .i64 0, .int .i64 0, .string ⟨#[]⟩], .int .i64 0, .int .i64 5]) ∧ Below w.heap.size w w' := by
  have HH := Lib.hid (checkHead_ok s (by unfold maxLen; omega) h)
  have h4 : 4 ≤ s.size := by rw [← size_data]; exact head_size h
  rw [← drop_data] at hr
  obtain ⟨T, hT⟩ : ∃ T, s.extract 4 s.size = T := ⟨_, rfl⟩
  rw [hT] at hr
  have hTs : T.size ≤ 1152921504606846976 := by rw [← hT, ByteArray.size_extract]; omega
  have HD := Lib.hid (read_is T N m 0 hr (by unfold maxLen; omega))
  obtain ⟨U, hU⟩ : ∃ U, s.extract 0 E = U := ⟨_, rfl⟩
  obtain ⟨V, hV⟩ : ∃ V, s.extract E (E + 4) = V := ⟨_, rfl⟩
  rw [hU, hV] at hne
  have HS := Lib.hid (sumBytes_is U (by rw [← hU, ByteArray.size_extract]; unfold maxLen; omega))
  generalize sumS U = S4 at *
  have hq := ne_lists hne
  have hE1 : (E : Int) ≤ 6014 := by omega
  have hE4 : (4 : Int) ≤ (E : Int) := by omega
  have hEs : (E : Int) + 4 ≤ (s.size : Int) := by omega
  have hEi : 4 + (m : Int) + (N : Int) = (E : Int) := by omega
  clear h hr hne hE hl
  go_enter Try.func25, Try.ntmps25
  go_wp2_with fail
  refine (HH.out _).mono ?_
  rintro e w1 ⟨rfl, b1⟩
  have o1 := own3_next (own3_new _ _ _ _ _) b1
  clear b1
  go_wp2_with fail
  refine (HD.out _).mono ?_
  rintro e w0 ⟨rfl, rfl⟩
  go_wp2_with fail
  clear hEi hT
  have r1 : (0 : Int) ≤ (E : Int) + 4 := by omega
  have r2 : (E : Int) ≤ (E : Int) + 4 := by omega
  have r3 : (E : Int) ≤ (s.size : Int) := by omega
  have r5 : IntKind.i64.wrap ((E : Int) + 4) = (E : Int) + 4 := IntWalk.i64_in _ (by omega)
  have r4 : ((E : Int) + 4).toNat = E + 4 := by omega
  go_region_held3 (fun w' => Own3 w.heap.size (.int .i64 0) (.int .i64 0) (.string ⟨#[]⟩) w w') (first | exact o1 | exact o1.drew | assumption)
    (first | (go_at_call 24; (with_reducible refine (HS.out _).mono ?_); rintro e w2 ⟨rfl, b2⟩; have o2 := own3_next o1.drew b2; clear b2))
  rename_i w2 o2
  clear r1 r2 r3 r4 r5 o1
  go_wp2_with fail
  refine (fail_is _ _).mono ?_
  rintro e w3 ⟨rfl, b3⟩
  have o4 := own3_next o2 b3
  clear b3 o2
  have o3 := own3_set o4 (.int .i64 0) (.int .i64 0) (.string ⟨#[]⟩)
  obtain ⟨⟨⟨k0, k1, k2⟩, hb, hlt⟩, f0, f1, f2⟩ := o4
  go_wp2
  obtain ⟨⟨⟨q0, q1, q2⟩, hb3, _⟩, _⟩ := o3
  unfold set3 at q0 q1 q2 hb3
  exact bodyPost_ret (v := .tuple #[.agg #[.int .i64 0, .int .i64 0, .string ⟨#[]⟩], .int .i64 0, .int .i64 5]) (by simp [results, Try.results25, go_sem, q0, q1, q2]) rfl ⟨rfl, hb3⟩

set_option maxRecDepth 100000 in
set_option maxHeartbeats 1000000 in
theorem decode_good (s : ByteArray) (hs : s.size ≤ 1152921504606846976) (h : headE s.data.toList = 0) (N m E : Nat) (hr : rd (s.data.toList.drop 4) = (N, m, 0)) (hN : ¬ 6000 < N) (hm : m ≤ 10) (hE : 4 + m + N = E) (hl : E + 4 ≤ s.size)
    (hne : s.extract E (E + 4) = sumS (s.extract 0 E)) (p : ByteArray) (hp : s.extract (4 + m) E = p) (v k : Nat) (hv : s.data.toList.getD 2 0 = UInt8.ofNat v) (hk : s.data.toList.getD 3 0 = UInt8.ofNat k) (hv2 : v < 256) (hk2 : k < 256) (w : World) :
    Calls Try.prog 25 #[.string s] w fun e w' => e = .returned (.tuple #[.agg #[.int .i64 (v : Int), .int .i64 (k : Int), .string p], .int .i64 ((E : Int) + 4), .int .i64 0]) ∧ Below w.heap.size w w' := by
  have HH := Lib.hid (checkHead_ok s (by unfold maxLen; omega) h)
  have h4 : 4 ≤ s.size := by rw [← size_data]; exact head_size h
  rw [← drop_data] at hr
  obtain ⟨T, hT⟩ : ∃ T, s.extract 4 s.size = T := ⟨_, rfl⟩
  rw [hT] at hr
  have hTs : T.size ≤ 1152921504606846976 := by rw [← hT, ByteArray.size_extract]; omega
  have HD := Lib.hid (read_is T N m 0 hr (by unfold maxLen; omega))
  obtain ⟨U, hU⟩ : ∃ U, s.extract 0 E = U := ⟨_, rfl⟩
  obtain ⟨V, hV⟩ : ∃ V, s.extract E (E + 4) = V := ⟨_, rfl⟩
  rw [hU, hV] at hne
  have HS := Lib.hid (sumBytes_is U (by rw [← hU, ByteArray.size_extract]; unfold maxLen; omega))
  rw [← hne] at HS
  have HC := Lib.hid (clone_is p (by rw [← hp, ByteArray.size_extract]; omega))
  have hq := eq_lists V
  have hE1 : (E : Int) ≤ 6014 := by omega
  have hE4 : (4 : Int) + (m : Int) ≤ (E : Int) := by omega
  have hEs : (E : Int) + 4 ≤ (s.size : Int) := by omega
  have hEi : 4 + (m : Int) + (N : Int) = (E : Int) := by omega
  have s2 : 2 < s.size := by omega
  have s3 : 3 < s.size := by omega
  have hv' : (s[2].toNat : Int) = (v : Int) := by
    have : s[2] = UInt8.ofNat v := by rw [← hv]; simp [List.getD, s2]; rfl
    rw [this, byte_of hv2]
  have hk' : (s[3].toNat : Int) = (k : Int) := by
    have : s[3] = UInt8.ofNat k := by rw [← hk]; simp [List.getD, s3]; rfl
    rw [this, byte_of hk2]
  clear h hr hne hE hl hv hk
  go_enter Try.func25, Try.ntmps25
  go_wp2_with fail
  refine (HH.out _).mono ?_
  rintro e w1 ⟨rfl, b1⟩
  have o1 := own3_next (own3_new _ _ _ _ _) b1
  clear b1
  go_wp2_with fail
  refine (HD.out _).mono ?_
  rintro e w0 ⟨rfl, rfl⟩
  go_wp2_with fail
  clear hEi hT
  have r1 : (0 : Int) ≤ (E : Int) + 4 := by omega
  have r2 : (E : Int) ≤ (E : Int) + 4 := by omega
  have r3 : (E : Int) ≤ (s.size : Int) := by omega
  have r5 : IntKind.i64.wrap ((E : Int) + 4) = (E : Int) + 4 := IntWalk.i64_in _ (by omega)
  have r4 : ((E : Int) + 4).toNat = E + 4 := by omega
  go_region_held3 (fun w' => Own3 w.heap.size (.int .i64 0) (.int .i64 0) (.string ⟨#[]⟩) w w') (first | exact o1 | exact o1.drew | assumption)
    (first | (go_at_call 24; (with_reducible refine (HS.out _).mono ?_); rintro e w2 ⟨rfl, b2⟩; have o2 := own3_next o1.drew b2; clear b2))
  rename_i w2 o2
  clear r1 r2 r3 r4 r5 o1
  go_wp2_with fail
  refine (HC.out _).mono ?_
  rintro e w3 ⟨rfl, b3⟩
  have o4 := own3_next o2 b3
  clear b3 o2
  go_wp2_with fail
  have o3 := own3_set o4 (.int .i64 (v : Int)) (.int .i64 (k : Int)) (.string p)
  obtain ⟨⟨⟨k0, k1, k2⟩, hb, hlt⟩, f0, f1, f2⟩ := o4
  have i2 : (2 : Int) < (s.size : Int) := by omega
  have i3 : (3 : Int) < (s.size : Int) := by omega
  have r5 : IntKind.i64.wrap ((E : Int) + 4) = (E : Int) + 4 := IntWalk.i64_in _ (by omega)
  go_region
  clear r5
  go_wp2
  obtain ⟨⟨⟨q0, q1, q2⟩, hb3, _⟩, _⟩ := o3.drew
  unfold set3 at q0 q1 q2 hb3
  exact bodyPost_ret (v := .tuple #[.agg #[.int .i64 (v : Int), .int .i64 (k : Int), .string p], .int .i64 ((E : Int) + 4), .int .i64 0]) (by simp [results, Try.results25, go_sem, q0, q1, q2]) rfl ⟨rfl, hb3⟩

theorem ext_data (s : ByteArray) (i k : Nat) : (s.extract i k).data.toList = (s.data.toList.take k).drop i := by
  simp [ByteArray.data_extract, List.drop_take]
theorem empty_of {p : ByteArray} (h : [] = p.data.toList) : p = ⟨#[]⟩ := bytes_of h.symm
/-- Decode, by what it answers. -/
theorem decode_is (s : ByteArray) (hs : s.size ≤ 1152921504606846976) (v k : Nat) (p : ByteArray) (n c : Nat) (h : decL s.data.toList = (v, k, p.data.toList, n, c)) (w : World) :
    Calls Try.prog 25 #[.string s] w fun e w' => e = .returned (.tuple #[.agg #[.int .i64 (v : Int), .int .i64 (k : Int), .string p], .int .i64 (n : Int), .int .i64 (c : Int)]) ∧ Below w.heap.size w w' := by
  unfold decL at h
  by_cases h1 : headE s.data.toList ≠ 0
  · rw [if_pos h1] at h
    simp only [Prod.mk.injEq] at h
    obtain ⟨rfl, rfl, hp, rfl, rfl⟩ := h
    obtain rfl := empty_of hp
    exact decode_head s hs h1 w
  rw [if_neg h1] at h
  have h1 : headE s.data.toList = 0 := by simpa using h1
  obtain ⟨N, m, c', hr⟩ : ∃ N m c', rd (s.data.toList.drop 4) = (N, m, c') := ⟨_, _, _, rfl⟩
  rw [hr] at h
  simp only at h
  by_cases h2 : c' ≠ 0
  · rw [if_pos h2] at h
    simp only [Prod.mk.injEq] at h
    obtain ⟨rfl, rfl, hp, rfl, rfl⟩ := h
    obtain rfl := empty_of hp
    exact decode_read s hs h1 N m c' hr h2 w
  rw [if_neg h2] at h
  have h2 : c' = 0 := by simpa using h2
  subst h2
  have hm : m ≤ 10 := by
    have ho := rd_ok (l := s.data.toList.drop 4) (by rw [hr])
    rw [hr] at ho
    have h1 := ho.2.1
    have h2 := num_len10 ho.1
    simp only at h1 h2; omega
  by_cases h3 : 6000 < N
  · rw [if_pos h3] at h
    simp only [Prod.mk.injEq] at h
    obtain ⟨rfl, rfl, hp, rfl, rfl⟩ := h
    obtain rfl := empty_of hp
    exact decode_large s hs h1 N m hr h3 w
  rw [if_neg h3, size_data] at h
  by_cases h4 : s.size < 8 + m + N
  · rw [if_pos h4] at h
    simp only [Prod.mk.injEq] at h
    obtain ⟨rfl, rfl, hp, rfl, rfl⟩ := h
    obtain rfl := empty_of hp
    exact decode_few s hs h1 N m hr h3 hm h4 w
  rw [if_neg h4] at h
  obtain ⟨E, hE⟩ : ∃ E, 4 + m + N = E := ⟨_, rfl⟩
  rw [hE] at h
  have e1 : (s.extract E (E + 4)).data.toList = (s.data.toList.drop E).take 4 := by
    rw [ext_data, List.drop_take]; congr 1; omega
  have e2 : (sumS (s.extract 0 E)).data.toList = sum4 (s.data.toList.take E) := by
    rw [sumS_data, ext_data]; rfl
  by_cases h5 : (s.data.toList.drop E).take 4 ≠ sum4 (s.data.toList.take E)
  · rw [if_pos h5] at h
    simp only [Prod.mk.injEq] at h
    obtain ⟨rfl, rfl, hp, rfl, rfl⟩ := h
    obtain rfl := empty_of hp
    exact decode_sum s hs h1 N m E hr h3 hm hE (by omega) (fun hh => h5 (by rw [← e1, ← e2, hh])) w
  rw [if_neg h5] at h
  have h5 : (s.data.toList.drop E).take 4 = sum4 (s.data.toList.take E) := by simpa using h5
  simp only [Prod.mk.injEq] at h
  obtain ⟨rfl, rfl, hp, rfl, rfl⟩ := h
  have hp2 : s.extract (4 + m) E = p := by
    apply bytes_of
    rw [← hp, ext_data, List.drop_take]; congr 1; omega
  have := decode_good s hs h1 N m E hr h3 hm hE (by omega) (bytes_of (by rw [e1, e2, h5])) p hp2 _ _ (UInt8.ofNat_toNat).symm (UInt8.ofNat_toNat).symm (UInt8.toNat_lt _) (UInt8.toNat_lt _) w
  rw [show ((8 + m + N : Nat) : Int) = (E : Int) + 4 from by omega]
  exact this
end Go.Proofs.Ytiaggbdkkbkclaa
