import Derived.Test.YtiaggbdkkbkclaaFrRef
import Derived.Test.YtiaggbdkkbkclaaFrUse
import Derived.Test.YtiaggbdkkbkclaaRRead
namespace Go.Proofs.Ytiaggbdkkbkclaa
open Go.RowKit

theorem rfail_is (c : Int) (w : World) :
    Calls Try.prog 27 #[.int .i64 c] w fun e w' => e = .returned (.tuple #[.agg #[.int .i64 0, .int .i64 0, .string ⟨#[]⟩], .int .i64 0, .int .i64 c]) ∧ Below w.heap.size w w' := by
  go_enter Try.func27, Try.ntmps27
  go_wp2
  exact bodyPost_ret (v := .tuple #[.agg #[.int .i64 0, .int .i64 0, .string ⟨#[]⟩], .int .i64 0, .int .i64 c]) (by simp [results, Try.results27, go_sem]) rfl ⟨rfl, (Below.refl _ _).alloc (Nat.le_refl _) _⟩
/-- The result's block behind a second one. -/
theorem own3_two (w : World) (x y z : Value) (t : TypeId) (o : Obj) : Own3 w.heap.size x y z w ((w.alloc (.cells #[x, y, z] t)).alloc o) := own3_next (own3_new w x y z t) (below_new _ o)
/-- What the head's cases say. -/
theorem head_cases (s : ByteArray) :
    (s.size = 0 ∧ headE s.data.toList = 3) ∨
    (∃ _ : 0 < s.size, s[0].toNat ≠ 66 ∧ headE s.data.toList = 4) ∨
    (∃ _ : 0 < s.size, s[0].toNat = 66 ∧ s.size = 1 ∧ headE s.data.toList = 3) ∨
    (∃ _ : 1 < s.size, s[0].toNat = 66 ∧ s[1].toNat ≠ 75 ∧ headE s.data.toList = 4) ∨
    (∃ _ : 1 < s.size, s[0].toNat = 66 ∧ s[1].toNat = 75 ∧ s.size = 2 ∧ headE s.data.toList = 3) ∨
    (∃ _ : 2 < s.size, s[0].toNat = 66 ∧ s[1].toNat = 75 ∧ ¬ (1 ≤ s[2].toNat ∧ s[2].toNat ≤ 3) ∧ headE s.data.toList = 1) ∨
    (∃ _ : 2 < s.size, s[0].toNat = 66 ∧ s[1].toNat = 75 ∧ (1 ≤ s[2].toNat ∧ s[2].toNat ≤ 3) ∧ s.size = 3 ∧ headE s.data.toList = 3) ∨
    (∃ _ : 3 < s.size, s[0].toNat = 66 ∧ s[1].toNat = 75 ∧ (1 ≤ s[2].toNat ∧ s[2].toNat ≤ 3) ∧ ¬ (1 ≤ s[3].toNat ∧ s[3].toNat ≤ 4) ∧ headE s.data.toList = 1) ∨
    (∃ _ : 3 < s.size, s[0].toNat = 66 ∧ s[1].toNat = 75 ∧ (1 ≤ s[2].toNat ∧ s[2].toNat ≤ 3) ∧ (1 ≤ s[3].toNat ∧ s[3].toNat ≤ 4) ∧ headE s.data.toList = 0) := by
  by_cases h0 : 0 < s.size
  · have e0 := hd_0 h0 rfl
    by_cases c0 : s[0].toNat ≠ 66
    · rw [if_pos c0] at e0; exact .inr (.inl ⟨h0, c0, e0⟩)
    rw [if_neg c0] at e0
    have c0 : s[0].toNat = 66 := by omega
    by_cases h1 : 1 < s.size
    · have e1 := hd_1 h1 e0
      by_cases c1 : s[1].toNat ≠ 75
      · rw [if_pos c1] at e1; exact .inr (.inr (.inr (.inl ⟨h1, c0, c1, e1⟩)))
      rw [if_neg c1] at e1
      have c1 : s[1].toNat = 75 := by omega
      by_cases h2 : 2 < s.size
      · have e2 := hd_2 h2 e1
        by_cases c2 : ¬ (1 ≤ s[2].toNat ∧ s[2].toNat ≤ 3)
        · rw [if_pos c2] at e2; exact .inr (.inr (.inr (.inr (.inr (.inl ⟨h2, c0, c1, c2, e2⟩)))))
        rw [if_neg c2] at e2
        have c2 : 1 ≤ s[2].toNat ∧ s[2].toNat ≤ 3 := by omega
        by_cases h3 : 3 < s.size
        · have e3 := hd_3 h3 e2
          by_cases c3 : ¬ (1 ≤ s[3].toNat ∧ s[3].toNat ≤ 4)
          · rw [if_pos c3] at e3; exact .inr (.inr (.inr (.inr (.inr (.inr (.inr (.inl ⟨h3, c0, c1, c2, c3, e3⟩)))))))
          rw [if_neg c3] at e3
          exact .inr (.inr (.inr (.inr (.inr (.inr (.inr (.inr ⟨h3, c0, c1, c2, by omega, e3⟩)))))))
        · exact .inr (.inr (.inr (.inr (.inr (.inr (.inl ⟨h2, c0, c1, c2, by omega, hd_short h3 (by omega) e2⟩))))))
      · exact .inr (.inr (.inr (.inr (.inl ⟨h1, c0, c1, by omega, hd_short h2 (by omega) e1⟩))))
    · exact .inr (.inr (.inl ⟨h0, c0, by omega, hd_short h1 (by omega) e0⟩))
  · exact .inl ⟨by omega, hd_short (k := 0) h0 (by omega) rfl⟩

set_option maxRecDepth 100000 in
set_option maxHeartbeats 2000000 in
theorem rdecode_head (s : ByteArray) (hs : s.size ≤ 281474976710656) (c : Nat) (hc : headE s.data.toList = c) (hne : c ≠ 0) (w : World) :
    Calls Try.prog 19 #[.string s] w fun e w' => e = .returned (.tuple #[.agg #[.int .i64 0, .int .i64 0, .string ⟨#[]⟩], .int .i64 0, .int .i64 (c : Int)]) ∧ Below w.heap.size w w' := by
  rcases head_cases s with ⟨h0, he⟩ | ⟨h0, c0, he⟩ | ⟨h0, c0, h1, he⟩ | ⟨h1, c0, c1, he⟩ | ⟨h1, c0, c1, h2, he⟩ | ⟨h2, c0, c1, c2, he⟩ | ⟨h2, c0, c1, c2, h3, he⟩ | ⟨h3, c0, c1, c2, c3, he⟩ | ⟨h3, c0, c1, c2, c3, he⟩
  · obtain rfl : c = 3 := hc.symm.trans he
    have z0 : (s.size : Int) ≤ 0 := by omega
    clear hc he hne h0
    go_enter Try.func19, Try.ntmps19
    go_wp2_with fail
    refine (rfail_is _ _).mono ?_
    rintro e w2 ⟨rfl, b2⟩
    have o2 := own3_next (own3_two _ _ _ _ _ _) b2
    clear b2
    have o3 := own3_set o2 (.int .i64 0) (.int .i64 0) (.string ⟨#[]⟩)
    obtain ⟨⟨⟨k0, k1, k2⟩, hb, hlt⟩, f0, f1, f2⟩ := o2
    go_wp2
    obtain ⟨⟨⟨q0, q1, q2⟩, hb3, _⟩, _⟩ := o3
    unfold set3 at q0 q1 q2 hb3
    exact bodyPost_ret (v := .tuple #[.agg #[.int .i64 0, .int .i64 0, .string ⟨#[]⟩], .int .i64 0, .int .i64 3]) (by simp [results, Try.results19, go_sem, q0, q1, q2]) rfl ⟨rfl, hb3⟩
  · obtain rfl : c = 4 := hc.symm.trans he
    have e0 : ((s[0].toNat : Int) != 66) = true := by simp; omega
    clear hc he hne c0
    go_enter Try.func19, Try.ntmps19
    go_wp2_with fail
    refine (rfail_is _ _).mono ?_
    rintro e w2 ⟨rfl, b2⟩
    have o2 := own3_next (own3_two _ _ _ _ _ _) b2
    clear b2
    have o3 := own3_set o2 (.int .i64 0) (.int .i64 0) (.string ⟨#[]⟩)
    obtain ⟨⟨⟨k0, k1, k2⟩, hb, hlt⟩, f0, f1, f2⟩ := o2
    go_wp2
    obtain ⟨⟨⟨q0, q1, q2⟩, hb3, _⟩, _⟩ := o3
    unfold set3 at q0 q1 q2 hb3
    exact bodyPost_ret (v := .tuple #[.agg #[.int .i64 0, .int .i64 0, .string ⟨#[]⟩], .int .i64 0, .int .i64 4]) (by simp [results, Try.results19, go_sem, q0, q1, q2]) rfl ⟨rfl, hb3⟩
  · obtain rfl : c = 3 := hc.symm.trans he
    have e0 : ((s[0].toNat : Int) != 66) = false := by simp; omega
    have e0' : ((s[0].toNat : Int) == 66) = true := by simp; omega
    have z1 : (s.size : Int) ≤ 1 := by omega
    clear hc he hne c0 h1
    go_enter Try.func19, Try.ntmps19
    go_wp2_with fail
    refine (rfail_is _ _).mono ?_
    rintro e w2 ⟨rfl, b2⟩
    have o2 := own3_next (own3_two _ _ _ _ _ _) b2
    clear b2
    have o3 := own3_set o2 (.int .i64 0) (.int .i64 0) (.string ⟨#[]⟩)
    obtain ⟨⟨⟨k0, k1, k2⟩, hb, hlt⟩, f0, f1, f2⟩ := o2
    go_wp2
    obtain ⟨⟨⟨q0, q1, q2⟩, hb3, _⟩, _⟩ := o3
    unfold set3 at q0 q1 q2 hb3
    exact bodyPost_ret (v := .tuple #[.agg #[.int .i64 0, .int .i64 0, .string ⟨#[]⟩], .int .i64 0, .int .i64 3]) (by simp [results, Try.results19, go_sem, q0, q1, q2]) rfl ⟨rfl, hb3⟩
  · obtain rfl : c = 4 := hc.symm.trans he
    have e0 : ((s[0].toNat : Int) != 66) = false := by simp; omega
    have e0' : ((s[0].toNat : Int) == 66) = true := by simp; omega
    have e1 : ((s[1].toNat : Int) != 75) = true := by simp; omega
    have z0 : 0 < s.size := by omega
    clear hc he hne c0 c1
    go_enter Try.func19, Try.ntmps19
    go_wp2_with fail
    refine (rfail_is _ _).mono ?_
    rintro e w2 ⟨rfl, b2⟩
    have o2 := own3_next (own3_two _ _ _ _ _ _) b2
    clear b2
    have o3 := own3_set o2 (.int .i64 0) (.int .i64 0) (.string ⟨#[]⟩)
    obtain ⟨⟨⟨k0, k1, k2⟩, hb, hlt⟩, f0, f1, f2⟩ := o2
    go_wp2
    obtain ⟨⟨⟨q0, q1, q2⟩, hb3, _⟩, _⟩ := o3
    unfold set3 at q0 q1 q2 hb3
    exact bodyPost_ret (v := .tuple #[.agg #[.int .i64 0, .int .i64 0, .string ⟨#[]⟩], .int .i64 0, .int .i64 4]) (by simp [results, Try.results19, go_sem, q0, q1, q2]) rfl ⟨rfl, hb3⟩
  · obtain rfl : c = 3 := hc.symm.trans he
    have z0 : 0 < s.size := by omega
    have z2 : (s.size : Int) ≤ 2 := by omega
    clear h2
    have e0 : ((s[0].toNat : Int) != 66) = false := by simp; omega
    have e0' : ((s[0].toNat : Int) == 66) = true := by simp; omega
    have e1 : ((s[1].toNat : Int) != 75) = false := by simp; omega
    clear hc he hne c0 c1
    go_enter Try.func19, Try.ntmps19
    go_wp2_with fail
    refine (rfail_is _ _).mono ?_
    rintro e w2 ⟨rfl, b2⟩
    have o2 := own3_next (own3_two _ _ _ _ _ _) b2
    clear b2
    have o3 := own3_set o2 (.int .i64 0) (.int .i64 0) (.string ⟨#[]⟩)
    obtain ⟨⟨⟨k0, k1, k2⟩, hb, hlt⟩, f0, f1, f2⟩ := o2
    go_wp2
    obtain ⟨⟨⟨q0, q1, q2⟩, hb3, _⟩, _⟩ := o3
    unfold set3 at q0 q1 q2 hb3
    exact bodyPost_ret (v := .tuple #[.agg #[.int .i64 0, .int .i64 0, .string ⟨#[]⟩], .int .i64 0, .int .i64 3]) (by simp [results, Try.results19, go_sem, q0, q1, q2]) rfl ⟨rfl, hb3⟩
  · obtain rfl : c = 1 := hc.symm.trans he
    have e0 : ((s[0].toNat : Int) != 66) = false := by simp; omega
    have e0' : ((s[0].toNat : Int) == 66) = true := by simp; omega
    have e1 : ((s[1].toNat : Int) != 75) = false := by simp; omega
    have z0 : 0 < s.size := by omega
    have z1 : 1 < s.size := by omega
    have z9 : (s[2].toNat : Int) < 256 := by have := s[2].toNat_lt; omega
    have H1 := Lib.hid (outside_yes (s[2].toNat : Int) 1 3 (by omega))
    clear hc he hne c0 c1 c2
    go_enter Try.func19, Try.ntmps19
    go_wp2_with fail
    refine (H1.out _).mono ?_
    rintro e w1 ⟨rfl, rfl⟩
    go_wp2_with fail
    refine (rfail_is _ _).mono ?_
    rintro e w2 ⟨rfl, b2⟩
    have o2 := own3_next (own3_two _ _ _ _ _ _) b2
    clear b2
    have o3 := own3_set o2 (.int .i64 0) (.int .i64 0) (.string ⟨#[]⟩)
    obtain ⟨⟨⟨k0, k1, k2⟩, hb, hlt⟩, f0, f1, f2⟩ := o2
    go_wp2
    obtain ⟨⟨⟨q0, q1, q2⟩, hb3, _⟩, _⟩ := o3
    unfold set3 at q0 q1 q2 hb3
    exact bodyPost_ret (v := .tuple #[.agg #[.int .i64 0, .int .i64 0, .string ⟨#[]⟩], .int .i64 0, .int .i64 1]) (by simp [results, Try.results19, go_sem, q0, q1, q2]) rfl ⟨rfl, hb3⟩
  · obtain rfl : c = 3 := hc.symm.trans he
    have z0 : 0 < s.size := by omega
    have z1 : 1 < s.size := by omega
    have z3 : (s.size : Int) ≤ 3 := by omega
    clear h3
    have e0 : ((s[0].toNat : Int) != 66) = false := by simp; omega
    have e0' : ((s[0].toNat : Int) == 66) = true := by simp; omega
    have e1 : ((s[1].toNat : Int) != 75) = false := by simp; omega
    have z9 : (s[2].toNat : Int) < 256 := by have := s[2].toNat_lt; omega
    have H1 := Lib.hid (outside_no (s[2].toNat : Int) 1 3 (by omega))
    clear hc he hne c0 c1 c2
    go_enter Try.func19, Try.ntmps19
    go_wp2_with fail
    refine (H1.out _).mono ?_
    rintro e w1 ⟨rfl, rfl⟩
    go_wp2_with fail
    refine (rfail_is _ _).mono ?_
    rintro e w2 ⟨rfl, b2⟩
    have o2 := own3_next (own3_two _ _ _ _ _ _) b2
    clear b2
    have o3 := own3_set o2 (.int .i64 0) (.int .i64 0) (.string ⟨#[]⟩)
    obtain ⟨⟨⟨k0, k1, k2⟩, hb, hlt⟩, f0, f1, f2⟩ := o2
    go_wp2
    obtain ⟨⟨⟨q0, q1, q2⟩, hb3, _⟩, _⟩ := o3
    unfold set3 at q0 q1 q2 hb3
    exact bodyPost_ret (v := .tuple #[.agg #[.int .i64 0, .int .i64 0, .string ⟨#[]⟩], .int .i64 0, .int .i64 3]) (by simp [results, Try.results19, go_sem, q0, q1, q2]) rfl ⟨rfl, hb3⟩
  · obtain rfl : c = 1 := hc.symm.trans he
    have e0 : ((s[0].toNat : Int) != 66) = false := by simp; omega
    have e0' : ((s[0].toNat : Int) == 66) = true := by simp; omega
    have e1 : ((s[1].toNat : Int) != 75) = false := by simp; omega
    have z0 : 0 < s.size := by omega
    have z1 : 1 < s.size := by omega
    have z2 : 2 < s.size := by omega
    have z9 : (s[2].toNat : Int) < 256 := by have := s[2].toNat_lt; omega
    have z8 : (s[3].toNat : Int) < 256 := by have := s[3].toNat_lt; omega
    have H1 := Lib.hid (outside_no (s[2].toNat : Int) 1 3 (by omega))
    have H2 := Lib.hid (outside_yes (s[3].toNat : Int) 1 4 (by omega))
    clear hc he hne c0 c1 c2 c3
    go_enter Try.func19, Try.ntmps19
    go_wp2_with fail
    refine (H1.out _).mono ?_
    rintro e w1 ⟨rfl, rfl⟩
    go_wp2_with fail
    refine (H2.out _).mono ?_
    rintro e w1 ⟨rfl, rfl⟩
    go_wp2_with fail
    refine (rfail_is _ _).mono ?_
    rintro e w2 ⟨rfl, b2⟩
    have o2 := own3_next (own3_two _ _ _ _ _ _) b2
    clear b2
    have o3 := own3_set o2 (.int .i64 0) (.int .i64 0) (.string ⟨#[]⟩)
    obtain ⟨⟨⟨k0, k1, k2⟩, hb, hlt⟩, f0, f1, f2⟩ := o2
    go_wp2
    obtain ⟨⟨⟨q0, q1, q2⟩, hb3, _⟩, _⟩ := o3
    unfold set3 at q0 q1 q2 hb3
    exact bodyPost_ret (v := .tuple #[.agg #[.int .i64 0, .int .i64 0, .string ⟨#[]⟩], .int .i64 0, .int .i64 1]) (by simp [results, Try.results19, go_sem, q0, q1, q2]) rfl ⟨rfl, hb3⟩
  · exact absurd (hc.symm.trans he) hne
theorem rread_at (s : ByteArray) (x y z : Nat) (h : rd s.data.toList = (x, y, z)) (hs : s.size ≤ maxLen) (w : World) :
    Calls Try.prog 29 #[.string s] w fun e w' => e = .returned (.tuple #[.int .u64 x, .int .i64 y, .int .i64 z]) ∧ w = w' := by
  have := rread_any s w hs
  rwa [h] at this
/-- The four first bytes of a string whose head is right. -/
theorem head_good {s : ByteArray} (h : headE s.data.toList = 0) : ∃ _ : 3 < s.size, s[0].toNat = 66 ∧ s[1].toNat = 75 ∧ (1 ≤ s[2].toNat ∧ s[2].toNat ≤ 3) ∧ (1 ≤ s[3].toNat ∧ s[3].toNat ≤ 4) := by
  rcases head_cases s with ⟨h0, he⟩ | ⟨h0, c0, he⟩ | ⟨h0, c0, h1, he⟩ | ⟨h1, c0, c1, he⟩ | ⟨h1, c0, c1, h2, he⟩ | ⟨h2, c0, c1, c2, he⟩ | ⟨h2, c0, c1, c2, h3, he⟩ | ⟨h3, c0, c1, c2, c3, he⟩ | ⟨h3, c0, c1, c2, c3, he⟩
  · omega
  · omega
  · omega
  · omega
  · omega
  · omega
  · omega
  · omega
  · exact ⟨h3, c0, c1, c2, c3⟩

set_option maxRecDepth 100000 in
set_option maxHeartbeats 2000000 in
theorem rdecode_err (s : ByteArray) (hs : s.size ≤ 281474976710656) (h : headE s.data.toList = 0) (N m c c' : Nat) (hr : rd (s.data.toList.drop 4) = (N, m, c')) (hc : (c' ≠ 0 ∧ c = c') ∨ (c' = 0 ∧ 6000 < N ∧ c = 2) ∨ (c' = 0 ∧ ¬ 6000 < N ∧ m ≤ 10 ∧ s.size < 8 + m + N ∧ c = 3)) (w : World) :
    Calls Try.prog 19 #[.string s] w fun e w' => e = .returned (.tuple #[.agg #[.int .i64 0, .int .i64 0, .string ⟨#[]⟩], .int .i64 0, .int .i64 (c : Int)]) ∧ Below w.heap.size w w' := by
  obtain ⟨h3, c0, c1, c2, c3⟩ := head_good h
  rw [← drop_data] at hr
  obtain ⟨T, hT⟩ : ∃ T, s.extract 4 s.size = T := ⟨_, rfl⟩
  rw [hT] at hr
  have hTs : T.size ≤ 281474976710656 := by rw [← hT, ByteArray.size_extract]; omega
  have HD := Lib.hid (rread_at T N m c' hr (by unfold maxLen; omega))
  have z0 : 0 < s.size := by omega
  have z1 : 1 < s.size := by omega
  have z2 : 2 < s.size := by omega
  have e0 : ((s[0].toNat : Int) != 66) = false := by simp; omega
  have e0' : ((s[0].toNat : Int) == 66) = true := by simp; omega
  have e1 : ((s[1].toNat : Int) != 75) = false := by simp; omega
  have z9 : (s[2].toNat : Int) < 256 := by have := s[2].toNat_lt; omega
  have z8 : (s[3].toNat : Int) < 256 := by have := s[3].toNat_lt; omega
  have H1 := Lib.hid (outside_no (s[2].toNat : Int) 1 3 (by omega))
  have H2 := Lib.hid (outside_no (s[3].toNat : Int) 1 4 (by omega))
  clear h hr c0 c1 c2 c3
  rcases hc with ⟨hc, rfl⟩ | ⟨rfl, hN, rfl⟩ | ⟨rfl, hN, hm, hl, rfl⟩
  · have hc' : ((c : Int) != 0) = true := by simp; omega
    clear hc
    go_enter Try.func19, Try.ntmps19
    go_wp2_with fail
    refine (H1.out _).mono ?_
    rintro e w1 ⟨rfl, rfl⟩
    go_wp2_with fail
    refine (H2.out _).mono ?_
    rintro e w1 ⟨rfl, rfl⟩
    go_wp2_with fail
    refine (HD.out _).mono ?_
    rintro e w1 ⟨rfl, rfl⟩
    go_wp2_with fail
    refine (rfail_is _ _).mono ?_
    rintro e w2 ⟨rfl, b2⟩
    have o2 := own3_next (own3_two _ _ _ _ _ _) b2
    clear b2
    have o3 := own3_set o2 (.int .i64 0) (.int .i64 0) (.string ⟨#[]⟩)
    obtain ⟨⟨⟨k0, k1, k2⟩, hb, hlt⟩, f0, f1, f2⟩ := o2
    go_wp2
    obtain ⟨⟨⟨q0, q1, q2⟩, hb3, _⟩, _⟩ := o3
    unfold set3 at q0 q1 q2 hb3
    exact bodyPost_ret (v := .tuple #[.agg #[.int .i64 0, .int .i64 0, .string ⟨#[]⟩], .int .i64 0, .int .i64 (c : Int)]) (by simp [results, Try.results19, go_sem, q0, q1, q2]) rfl ⟨rfl, hb3⟩
  · go_enter Try.func19, Try.ntmps19
    go_wp2_with fail
    refine (H1.out _).mono ?_
    rintro e w1 ⟨rfl, rfl⟩
    go_wp2_with fail
    refine (H2.out _).mono ?_
    rintro e w1 ⟨rfl, rfl⟩
    go_wp2_with fail
    refine (HD.out _).mono ?_
    rintro e w1 ⟨rfl, rfl⟩
    go_wp2_with fail
    refine (rfail_is _ _).mono ?_
    rintro e w2 ⟨rfl, b2⟩
    have o2 := own3_next (own3_two _ _ _ _ _ _) b2
    clear b2
    have o3 := own3_set o2 (.int .i64 0) (.int .i64 0) (.string ⟨#[]⟩)
    obtain ⟨⟨⟨k0, k1, k2⟩, hb, hlt⟩, f0, f1, f2⟩ := o2
    go_wp2
    obtain ⟨⟨⟨q0, q1, q2⟩, hb3, _⟩, _⟩ := o3
    unfold set3 at q0 q1 q2 hb3
    exact bodyPost_ret (v := .tuple #[.agg #[.int .i64 0, .int .i64 0, .string ⟨#[]⟩], .int .i64 0, .int .i64 2]) (by simp [results, Try.results19, go_sem, q0, q1, q2]) rfl ⟨rfl, hb3⟩
  · go_enter Try.func19, Try.ntmps19
    go_wp2_with fail
    refine (H1.out _).mono ?_
    rintro e w1 ⟨rfl, rfl⟩
    go_wp2_with fail
    refine (H2.out _).mono ?_
    rintro e w1 ⟨rfl, rfl⟩
    go_wp2_with fail
    refine (HD.out _).mono ?_
    rintro e w1 ⟨rfl, rfl⟩
    go_wp2_with fail
    refine (rfail_is _ _).mono ?_
    rintro e w2 ⟨rfl, b2⟩
    have o2 := own3_next (own3_two _ _ _ _ _ _) b2
    clear b2
    have o3 := own3_set o2 (.int .i64 0) (.int .i64 0) (.string ⟨#[]⟩)
    obtain ⟨⟨⟨k0, k1, k2⟩, hb, hlt⟩, f0, f1, f2⟩ := o2
    go_wp2
    obtain ⟨⟨⟨q0, q1, q2⟩, hb3, _⟩, _⟩ := o3
    unfold set3 at q0 q1 q2 hb3
    exact bodyPost_ret (v := .tuple #[.agg #[.int .i64 0, .int .i64 0, .string ⟨#[]⟩], .int .i64 0, .int .i64 3]) (by simp [results, Try.results19, go_sem, q0, q1, q2]) rfl ⟨rfl, hb3⟩
end Go.Proofs.Ytiaggbdkkbkclaa
