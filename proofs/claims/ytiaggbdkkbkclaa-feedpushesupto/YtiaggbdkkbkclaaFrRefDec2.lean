import Derived.Test.YtiaggbdkkbkclaaFrRefDec
namespace Go.Proofs.Ytiaggbdkkbkclaa
open Go.RowKit

/-- The two blocks of the reference's decoding: the result's, and the frame's that it fills. -/
theorem own3_other {b b' j : Nat} {x y z u : Value} {w w2 : World} (o : Own3 b x y z w w2) (hb' : b < b') : Own3 b x y z w (w2.setCell ⟨b', j, none⟩ u) := by
  obtain ⟨⟨⟨k0, k1, k2⟩, hb, hlt⟩, f0, f1, f2⟩ := o
  have hne : ¬ b' = b := by omega
  have hne2 : ¬ b = b' := by omega
  refine ⟨⟨⟨?_, ?_, ?_⟩, hb.setCell (Nat.le_of_lt hb') _, ?_⟩, ?_, ?_, ?_⟩
  · go_simp
  · go_simp
  · go_simp
  · go_simp
  · go_simp
  · go_simp
  · go_simp
set_option maxRecDepth 100000 in
set_option maxHeartbeats 2000000 in
theorem rdecode_last (s : ByteArray) (hs : s.size ≤ 281474976710656) (h : headE s.data.toList = 0) (N m E : Nat) (hr : rd (s.data.toList.drop 4) = (N, m, 0)) (hN : ¬ 6000 < N) (hm : m ≤ 10) (hE : 4 + m + N = E) (hl : E + 4 ≤ s.size) (w : World) :
    (s.extract E (E + 4) ≠ sumS (s.extract 0 E) → Calls Try.prog 19 #[.string s] w fun e w' => e = .returned (.tuple #[.agg #[.int .i64 0, .int .i64 0, .string ⟨#[]⟩], .int .i64 0, .int .i64 5]) ∧ Below w.heap.size w w') ∧
    (s.extract E (E + 4) = sumS (s.extract 0 E) → ∀ (p : ByteArray) (v k : Nat), s.extract (4 + m) E = p → s.data.toList.getD 2 0 = UInt8.ofNat v → s.data.toList.getD 3 0 = UInt8.ofNat k → v < 256 → k < 256 →
      Calls Try.prog 19 #[.string s] w fun e w' => e = .returned (.tuple #[.agg #[.int .i64 (v : Int), .int .i64 (k : Int), .string p], .int .i64 ((E : Int) + 4), .int .i64 0]) ∧ Below w.heap.size w w') := by
  obtain ⟨h3, c0, c1, c2, c3⟩ := head_good h
  rw [← drop_data] at hr
  obtain ⟨T, hT⟩ : ∃ T, s.extract 4 s.size = T := ⟨_, rfl⟩
  rw [hT] at hr
  have hTs : T.size ≤ 281474976710656 := by rw [← hT, ByteArray.size_extract]; omega
  have HD := Lib.hid (rread_at T N m 0 hr (by unfold maxLen; omega))
  have z0 : 0 < s.size := by omega
  have z1 : 1 < s.size := by omega
  have z2 : 2 < s.size := by omega
  have e0 : ((s[0].toNat : Int) != 66) = false := by simp; omega
  have e0' : ((s[0].toNat : Int) == 66) = true := by simp; omega
  have e1 : ((s[1].toNat : Int) != 75) = false := by simp; omega
  have z9 : (s[2].toNat : Int) < 256 := by have := s[2].toNat_lt; omega
  have z8 : (s[3].toNat : Int) < 256 := by have := s[3].toNat_lt; omega
  have H1 := Lib.hid (outside_no (s[2].toNat : Int) 1 3 (by omega))
  have H2 := Lib.hid (outside_no (s[3].toNat : Int) 1 4 (by omega))
  obtain ⟨U, hU⟩ : ∃ U, s.extract 0 E = U := ⟨_, rfl⟩
  obtain ⟨V, hV⟩ : ∃ V, s.extract E (E + 4) = V := ⟨_, rfl⟩
  rw [hU, hV]
  have HS := Lib.hid (sumText_is U (by rw [← hU, ByteArray.size_extract]; unfold maxLen; omega))
  obtain ⟨A, hA⟩ : ∃ A, A = E + 4 := ⟨_, rfl⟩
  rw [← hA] at hV
  have hAi : 4 + (m : Int) + (N : Int) + 4 = (A : Int) := by omega
  have hAE : (A : Int) - 4 = (E : Int) := by omega
  have hAs : (A : Int) ≤ (s.size : Int) := by omega
  have hA1 : (A : Int) ≤ 6018 := by omega
  have hE1 : (E : Int) ≤ (A : Int) := by omega
  have hE4 : 4 + (m : Int) ≤ (E : Int) := by omega
  have hEs : (E : Int) ≤ (s.size : Int) := by omega
  have hA4 : (E : Int) + 4 = (A : Int) := by omega
  constructor
  · intro hne
    have hq := ne_lists (fun h : sumS U = V => hne h.symm)
    generalize sumS U = S4 at *
    clear h hr c0 c1 c2 c3 hne hE hl hA hA4
    go_enter Try.func19, Try.ntmps19
    go_wp2_with fail
    refine (H1.out _).mono ?_
    rintro e w1 ⟨rfl, rfl⟩
    go_wp2_with fail
    refine (H2.out _).mono ?_
    rintro e w1 ⟨rfl, rfl⟩
    go_wp2_with fail
    refine (HD.out _).mono ?_
    rintro e w1 ⟨rfl, rfl⟩
    go_wp2_with fail
    clear hAi hT
    have o1 := own3_two w (.int .i64 0) (.int .i64 0) (.string ⟨#[]⟩) 33 (.cells #[.int .i64 (s[2].toNat : Int), .int .i64 (s[3].toNat : Int), .string ⟨#[]⟩] 33)
    have r5 : IntKind.i64.wrap (E : Int) = (E : Int) := IntWalk.i64_in _ (by omega)
    generalize (w.alloc (.cells #[.int .i64 0, .int .i64 0, .string ⟨#[]⟩] 33)).alloc (.cells #[.int .i64 (s[2].toNat : Int), .int .i64 (s[3].toNat : Int), .string ⟨#[]⟩] 33) = W at *
    go_region_held3 (fun w' => Own3 w.heap.size (.int .i64 0) (.int .i64 0) (.string ⟨#[]⟩) w w') (first | exact o1 | exact o1.drew | assumption)
      (first | (go_at_call 30; (with_reducible refine (HS.out _).mono ?_); rintro e w2 ⟨rfl, b2⟩; have o2 := own3_next o1.drew b2; clear b2))
    rename_i w2 o2
    clear r5 o1
    go_wp2_with fail
    refine (rfail_is _ _).mono ?_
    rintro e w3 ⟨rfl, b3⟩
    have o4 := own3_next o2 b3
    clear b3 o2
    have o3 := own3_set o4 (.int .i64 0) (.int .i64 0) (.string ⟨#[]⟩)
    obtain ⟨⟨⟨k0, k1, k2⟩, hb, hlt⟩, f0, f1, f2⟩ := o4
    go_wp2
    obtain ⟨⟨⟨q0, q1, q2⟩, hb3, _⟩, _⟩ := o3
    unfold set3 at q0 q1 q2 hb3
    exact bodyPost_ret (v := .tuple #[.agg #[.int .i64 0, .int .i64 0, .string ⟨#[]⟩], .int .i64 0, .int .i64 5]) (by simp [results, Try.results19, go_sem, q0, q1, q2]) rfl ⟨rfl, hb3⟩
  · intro hne p v k hp hv hk hv2 hk2
    have hv' : (s[2].toNat : Int) = (v : Int) := by
      have : s[2] = UInt8.ofNat v := by rw [← hv]; simp [List.getD, z2]; rfl
      rw [this, byte_of hv2]
    have hk' : (s[3].toNat : Int) = (k : Int) := by
      have : s[3] = UInt8.ofNat k := by rw [← hk]; simp [List.getD, h3]; rfl
      rw [this, byte_of hk2]
    have hq := eq_lists V
    rw [← hne] at HS
    rw [hA4]
    rw [hv'] at H1
    rw [hk'] at H2
    have z6 : (v : Int) < 256 := by omega
    have z7 : (k : Int) < 256 := by omega
    clear h hr c0 c1 c2 c3 hne hE hl hA hA4 hv hk z8 z9
    go_enter Try.func19, Try.ntmps19
    go_wp2_with fail
    refine (H1.out _).mono ?_
    rintro e w1 ⟨rfl, rfl⟩
    go_wp2_with fail
    refine (H2.out _).mono ?_
    rintro e w1 ⟨rfl, rfl⟩
    go_wp2_with fail
    refine (HD.out _).mono ?_
    rintro e w1 ⟨rfl, rfl⟩
    go_wp2_with fail
    clear hAi hT
    have o1 := own3_two w (.int .i64 0) (.int .i64 0) (.string ⟨#[]⟩) 33 (.cells #[.int .i64 (v : Int), .int .i64 (k : Int), .string ⟨#[]⟩] 33)
    have p1 := own3_new (w.alloc (.cells #[.int .i64 0, .int .i64 0, .string ⟨#[]⟩] 33)) (.int .i64 (v : Int)) (.int .i64 (k : Int)) (.string ⟨#[]⟩) 33
    rw [World.size_alloc] at p1
    have r5 : IntKind.i64.wrap (E : Int) = (E : Int) := IntWalk.i64_in _ (by omega)
    generalize w.alloc (.cells #[.int .i64 0, .int .i64 0, .string ⟨#[]⟩] 33) = W0 at *
    generalize W0.alloc (.cells #[.int .i64 (v : Int), .int .i64 (k : Int), .string ⟨#[]⟩] 33) = W at *
    go_region_held3 (fun w' => Own3 w.heap.size (.int .i64 0) (.int .i64 0) (.string ⟨#[]⟩) w w' ∧ Own3 (w.heap.size + 1) (.int .i64 (v : Int)) (.int .i64 (k : Int)) (.string ⟨#[]⟩) W0 w') (first | exact ⟨o1, p1⟩ | exact ⟨o1.drew, p1.drew⟩ | assumption)
      (first | (go_at_call 30; (with_reducible refine (HS.out _).mono ?_); rintro e w2 ⟨rfl, b2⟩; have o2 := And.intro (own3_next o1.drew b2) (own3_next p1.drew b2); clear b2))
    rename_i w2 o2
    clear r5 o1 p1
    obtain ⟨o2, p2⟩ := o2
    have o3 := own3_set (own3_other (j := 2) (u := .string p) o2 (Nat.lt_succ_self _)) (.int .i64 (v : Int)) (.int .i64 (k : Int)) (.string p)
    obtain ⟨⟨⟨k0, k1, k2⟩, hb, hlt⟩, f0, f1, f2⟩ := o2
    obtain ⟨⟨⟨j0, j1, j2⟩, _, _⟩, g0, g1, g2⟩ := p2
    go_wp2_with fail
    obtain ⟨⟨⟨q0, q1, q2⟩, hb3, _⟩, _⟩ := o3
    unfold set3 at q0 q1 q2 hb3
    exact bodyPost_ret (v := .tuple #[.agg #[.int .i64 (v : Int), .int .i64 (k : Int), .string p], .int .i64 (A : Int), .int .i64 0]) (by simp [results, Try.results19, go_sem, q0, q1, q2]) rfl ⟨rfl, hb3⟩

/-- The reference's decoding, by what it answers. -/
theorem rdecode_is (s : ByteArray) (hs : s.size ≤ 281474976710656) (v k : Nat) (p : ByteArray) (n c : Nat) (h : decL s.data.toList = (v, k, p.data.toList, n, c)) (w : World) :
    Calls Try.prog 19 #[.string s] w fun e w' => e = .returned (.tuple #[.agg #[.int .i64 (v : Int), .int .i64 (k : Int), .string p], .int .i64 (n : Int), .int .i64 (c : Int)]) ∧ Below w.heap.size w w' := by
  unfold decL at h
  by_cases h1 : headE s.data.toList ≠ 0
  · rw [if_pos h1] at h
    simp only [Prod.mk.injEq] at h
    obtain ⟨rfl, rfl, hp, rfl, hc⟩ := h
    obtain rfl := empty_of hp
    exact rdecode_head s hs c hc (by rw [← hc]; exact h1) w
  rw [if_neg h1] at h
  have h1 : headE s.data.toList = 0 := by simpa using h1
  obtain ⟨N, m, c', hr⟩ : ∃ N m c', rd (s.data.toList.drop 4) = (N, m, c') := ⟨_, _, _, rfl⟩
  rw [hr] at h
  simp only at h
  by_cases h2 : c' ≠ 0
  · rw [if_pos h2] at h
    simp only [Prod.mk.injEq] at h
    obtain ⟨rfl, rfl, hp, rfl, rfl⟩ := h
    obtain rfl := empty_of hp
    exact rdecode_err s hs h1 N m c' c' hr (.inl ⟨h2, rfl⟩) w
  rw [if_neg h2] at h
  have h2 : c' = 0 := by simpa using h2
  subst h2
  have hm : m ≤ 10 := by
    have ho := rd_ok (l := s.data.toList.drop 4) (by rw [hr])
    rw [hr] at ho
    have h1 := ho.2.1
    have h2 := num_len10 ho.1
    simp only at h1 h2; omega
  by_cases h3 : 6000 < N
  · rw [if_pos h3] at h
    simp only [Prod.mk.injEq] at h
    obtain ⟨rfl, rfl, hp, rfl, rfl⟩ := h
    obtain rfl := empty_of hp
    exact rdecode_err s hs h1 N m 2 0 hr (.inr (.inl ⟨rfl, h3, rfl⟩)) w
  rw [if_neg h3, size_data] at h
  by_cases h4 : s.size < 8 + m + N
  · rw [if_pos h4] at h
    simp only [Prod.mk.injEq] at h
    obtain ⟨rfl, rfl, hp, rfl, rfl⟩ := h
    obtain rfl := empty_of hp
    exact rdecode_err s hs h1 N m 3 0 hr (.inr (.inr ⟨rfl, h3, hm, h4, rfl⟩)) w
  rw [if_neg h4] at h
  obtain ⟨E, hE⟩ : ∃ E, 4 + m + N = E := ⟨_, rfl⟩
  rw [hE] at h
  have e1 : (s.extract E (E + 4)).data.toList = (s.data.toList.drop E).take 4 := by
    rw [ext_data, List.drop_take]; congr 1; omega
  have e2 : (sumS (s.extract 0 E)).data.toList = sum4 (s.data.toList.take E) := by
    rw [sumS_data, ext_data]; rfl
  have hlast := rdecode_last s hs h1 N m E hr h3 hm hE (by omega) w
  by_cases h5 : (s.data.toList.drop E).take 4 ≠ sum4 (s.data.toList.take E)
  · rw [if_pos h5] at h
    simp only [Prod.mk.injEq] at h
    obtain ⟨rfl, rfl, hp, rfl, rfl⟩ := h
    obtain rfl := empty_of hp
    exact hlast.1 (fun hh => h5 (by rw [← e1, ← e2, hh]))
  rw [if_neg h5] at h
  have h5 : (s.data.toList.drop E).take 4 = sum4 (s.data.toList.take E) := by simpa using h5
  simp only [Prod.mk.injEq] at h
  obtain ⟨rfl, rfl, hp, rfl, rfl⟩ := h
  have hp2 : s.extract (4 + m) E = p := by
    apply bytes_of
    rw [← hp, ext_data, List.drop_take]; congr 1; omega
  have := hlast.2 (bytes_of (by rw [e1, e2, h5])) p _ _ hp2 (UInt8.ofNat_toNat).symm (UInt8.ofNat_toNat).symm (UInt8.toNat_lt _) (UInt8.toNat_lt _)
  rw [show ((8 + m + N : Nat) : Int) = (E : Int) + 4 from by omega]
  exact this
end Go.Proofs.Ytiaggbdkkbkclaa
