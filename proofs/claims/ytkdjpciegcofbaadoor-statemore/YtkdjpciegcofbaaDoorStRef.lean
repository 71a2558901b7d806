/- The reference: names and notes, a job and a node by themselves, where a row of a name stands. -/
import Derived.Test.YtkdjpciegcofbaaDoorStChk
import Derived.Test.YtkdjpciegcofbaaDoorRUtf
namespace Go.Proofs.YtkdjpciegcofbaaDoor
open Go.RowKit Go.Lib

theorem outside_is (n lo hi : Int) (w : World) :
    Calls Tryd.prog 39 #[.int .i64 n, .int .i64 lo, .int .i64 hi] w fun e w' => e = .returned (.bool (!inR n lo hi)) ∧ w = w' := by
  unfold inR
  by_cases h : lo ≤ n
  · by_cases h2 : n ≤ hi
    · have h1 : decide (n < lo) = false := by simp; omega
      have h3 : decide (hi < n) = false := by simp; omega
      rw [decide_eq_true h, decide_eq_true h2]
      go_enter Tryd.func39, Tryd.ntmps39
      go_wp2
      go_ret
      exact ⟨rfl, rfl⟩
    · have h1 : decide (n < lo) = false := by simp; omega
      have h3 : decide (hi < n) = true := by simp; omega
      rw [decide_eq_true h, decide_eq_false h2]
      clear h2
      go_enter Tryd.func39, Tryd.ntmps39
      go_wp2
      go_ret
      exact ⟨rfl, rfl⟩
  · have h1 : decide (n < lo) = true := by simp; omega
    rw [decide_eq_false h]
    clear h
    go_enter Tryd.func39, Tryd.ntmps39
    go_wp2
    go_ret
    exact ⟨by simp, rfl⟩
theorem risNote_is (s : ByteArray) (w : World) : Calls Tryd.prog 48 #[.string s] w fun e w' => e = .returned (.bool (isNote V8 s)) ∧ w = w' := by
  by_cases h : s.size ≤ 16
  · have HV := Lib.hid (isUTF8_is s (by omega) w)
    rw [note_yes h]
    change Hid (Calls _ _ _ _ fun e w' => e = .returned (.bool (V8 s)) ∧ _) at HV
    generalize V8 s = c at *
    go_enter Tryd.func48, Tryd.ntmps48
    go_wp2_with fail
    refine HV.out.mono ?_
    rintro e w1 ⟨rfl, rfl⟩
    go_wp2
    go_ret
    exact ⟨rfl, rfl⟩
  · rw [note_no h]
    go_enter Tryd.func48, Tryd.ntmps48
    go_wp2
    go_ret
    exact ⟨rfl, rfl⟩
theorem risName_is (s : ByteArray) (w : World) : Calls Tryd.prog 47 #[.string s] w fun e w' => e = .returned (.bool (isName V8 s)) ∧ w = w' := by
  by_cases h : s.size ≠ 0
  · have HV := Lib.hid (risNote_is s w)
    rw [name_yes h]
    generalize isNote V8 s = c at *
    obtain ⟨h1, h2⟩ := not_empty h
    clear h
    go_enter Tryd.func47, Tryd.ntmps47
    go_wp2_with fail
    refine HV.out.mono ?_
    rintro e w1 ⟨rfl, rfl⟩
    go_wp2
    go_ret
    exact ⟨rfl, rfl⟩
  · rw [name_no h]
    obtain rfl := empty_size h
    go_enter Tryd.func47, Tryd.ntmps47
    go_wp2
    go_ret
    exact ⟨rfl, rfl⟩
set_option maxRecDepth 100000 in
set_option maxHeartbeats 1000000 in
theorem rjobCheck_is (x : JobD) (w : World) : Calls Tryd.prog 51 #[.agg #[.string x.name, .int .i64 x.prio, .int .i64 x.need, .int .i64 x.tries, .string x.tag]] w fun e w' => e = .returned (.int .i64 (jobE V8 x : Nat)) ∧ Below w.heap.size w w' := by
  obtain ⟨c1, h1⟩ : ∃ c, isName V8 x.name = c := ⟨_, rfl⟩
  obtain ⟨c2, h2⟩ : ∃ c, isNote V8 x.tag = c := ⟨_, rfl⟩
  have H1 := Lib.hid (risName_is x.name)
  have H2 := Lib.hid (risNote_is x.tag)
  rw [h1] at H1
  rw [h2] at H2
  obtain ⟨d0, g0⟩ : ∃ d, inR x.prio (-1000) 1000 = d := ⟨_, rfl⟩
  have G0 := Lib.hid (outside_is x.prio (-1000) 1000)
  rw [g0] at G0
  obtain ⟨d1, g1⟩ : ∃ d, inR x.need (0) 1000000 = d := ⟨_, rfl⟩
  have G1 := Lib.hid (outside_is x.need (0) 1000000)
  rw [g1] at G1
  obtain ⟨d2, g2⟩ : ∃ d, inR x.tries (0) 100 = d := ⟨_, rfl⟩
  have G2 := Lib.hid (outside_is x.tries (0) 100)
  rw [g2] at G2
  have HE : Hid (jobE V8 x = if (c1 && c2) = true then (if (d0 && d1 && d2) = true then 0 else 1) else 4) := by show _ = _; rw [jobE, h1, h2, g0, g1, g2]
  obtain ⟨R, hR⟩ : ∃ R, jobE V8 x = R := ⟨_, rfl⟩
  rw [hR] at HE ⊢
  clear h1 h2 hR g0 g1 g2
  cases c1 with
  | false =>
    go_enter Tryd.func51, Tryd.ntmps51
    go_wp2_with fail
    refine (H1.out _).mono ?_
    rintro e w1 ⟨rfl, rfl⟩
    go_wp2
    go_ret
    exact ⟨by rw [HE.out]; rfl, below_one _ _⟩
  | true =>
    cases c2 with
    | false =>
      go_enter Tryd.func51, Tryd.ntmps51
      go_wp2_with fail
      refine (H1.out _).mono ?_
      rintro e w1 ⟨rfl, rfl⟩
      go_wp2_with fail
      refine (H2.out _).mono ?_
      rintro e w1 ⟨rfl, rfl⟩
      go_wp2
      go_ret
      exact ⟨by rw [HE.out]; rfl, below_one _ _⟩
    | true =>
      cases d0 with
      | false =>
        go_enter Tryd.func51, Tryd.ntmps51
        go_wp2_with fail
        refine (H1.out _).mono ?_
        rintro e w1 ⟨rfl, rfl⟩
        go_wp2_with fail
        refine (H2.out _).mono ?_
        rintro e w1 ⟨rfl, rfl⟩
        go_wp2_with fail
        refine (G0.out _).mono ?_
        rintro e w1 ⟨rfl, rfl⟩
        go_wp2
        go_ret
        exact ⟨by rw [HE.out]; rfl, below_one _ _⟩
      | true =>
        cases d1 with
        | false =>
          go_enter Tryd.func51, Tryd.ntmps51
          go_wp2_with fail
          refine (H1.out _).mono ?_
          rintro e w1 ⟨rfl, rfl⟩
          go_wp2_with fail
          refine (H2.out _).mono ?_
          rintro e w1 ⟨rfl, rfl⟩
          go_wp2_with fail
          refine (G0.out _).mono ?_
          rintro e w1 ⟨rfl, rfl⟩
          go_wp2_with fail
          refine (G1.out _).mono ?_
          rintro e w1 ⟨rfl, rfl⟩
          go_wp2
          go_ret
          exact ⟨by rw [HE.out]; rfl, below_one _ _⟩
        | true =>
          cases d2 with
          | false =>
            go_enter Tryd.func51, Tryd.ntmps51
            go_wp2_with fail
            refine (H1.out _).mono ?_
            rintro e w1 ⟨rfl, rfl⟩
            go_wp2_with fail
            refine (H2.out _).mono ?_
            rintro e w1 ⟨rfl, rfl⟩
            go_wp2_with fail
            refine (G0.out _).mono ?_
            rintro e w1 ⟨rfl, rfl⟩
            go_wp2_with fail
            refine (G1.out _).mono ?_
            rintro e w1 ⟨rfl, rfl⟩
            go_wp2_with fail
            refine (G2.out _).mono ?_
            rintro e w1 ⟨rfl, rfl⟩
            go_wp2
            go_ret
            exact ⟨by rw [HE.out]; rfl, below_one _ _⟩
          | true =>
            go_enter Tryd.func51, Tryd.ntmps51
            go_wp2_with fail
            refine (H1.out _).mono ?_
            rintro e w1 ⟨rfl, rfl⟩
            go_wp2_with fail
            refine (H2.out _).mono ?_
            rintro e w1 ⟨rfl, rfl⟩
            go_wp2_with fail
            refine (G0.out _).mono ?_
            rintro e w1 ⟨rfl, rfl⟩
            go_wp2_with fail
            refine (G1.out _).mono ?_
            rintro e w1 ⟨rfl, rfl⟩
            go_wp2_with fail
            refine (G2.out _).mono ?_
            rintro e w1 ⟨rfl, rfl⟩
            go_wp2
            go_ret
            exact ⟨by rw [HE.out]; rfl, below_one _ _⟩
set_option maxRecDepth 100000 in
set_option maxHeartbeats 1000000 in
theorem rnodeCheck_is (x : NodeD) (w : World) : Calls Tryd.prog 26 #[.agg #[.string x.name, .int .i64 x.room, .string x.zone]] w fun e w' => e = .returned (.int .i64 (nodeE V8 x : Nat)) ∧ Below w.heap.size w w' := by
  obtain ⟨c1, h1⟩ : ∃ c, isName V8 x.name = c := ⟨_, rfl⟩
  obtain ⟨c2, h2⟩ : ∃ c, isNote V8 x.zone = c := ⟨_, rfl⟩
  have H1 := Lib.hid (risName_is x.name)
  have H2 := Lib.hid (risNote_is x.zone)
  rw [h1] at H1
  rw [h2] at H2
  obtain ⟨d0, g0⟩ : ∃ d, inR x.room (0) 1000000 = d := ⟨_, rfl⟩
  have G0 := Lib.hid (outside_is x.room (0) 1000000)
  rw [g0] at G0
  have HE : Hid (nodeE V8 x = if (c1 && c2) = true then (if (d0) = true then 0 else 1) else 4) := by show _ = _; rw [nodeE, h1, h2, g0]
  obtain ⟨R, hR⟩ : ∃ R, nodeE V8 x = R := ⟨_, rfl⟩
  rw [hR] at HE ⊢
  clear h1 h2 hR g0
  cases c1 with
  | false =>
    go_enter Tryd.func26, Tryd.ntmps26
    go_wp2_with fail
    refine (H1.out _).mono ?_
    rintro e w1 ⟨rfl, rfl⟩
    go_wp2
    go_ret
    exact ⟨by rw [HE.out]; rfl, below_one _ _⟩
  | true =>
    cases c2 with
    | false =>
      go_enter Tryd.func26, Tryd.ntmps26
      go_wp2_with fail
      refine (H1.out _).mono ?_
      rintro e w1 ⟨rfl, rfl⟩
      go_wp2_with fail
      refine (H2.out _).mono ?_
      rintro e w1 ⟨rfl, rfl⟩
      go_wp2
      go_ret
      exact ⟨by rw [HE.out]; rfl, below_one _ _⟩
    | true =>
      cases d0 with
      | false =>
        go_enter Tryd.func26, Tryd.ntmps26
        go_wp2_with fail
        refine (H1.out _).mono ?_
        rintro e w1 ⟨rfl, rfl⟩
        go_wp2_with fail
        refine (H2.out _).mono ?_
        rintro e w1 ⟨rfl, rfl⟩
        go_wp2_with fail
        refine (G0.out _).mono ?_
        rintro e w1 ⟨rfl, rfl⟩
        go_wp2
        go_ret
        exact ⟨by rw [HE.out]; rfl, below_one _ _⟩
      | true =>
        go_enter Tryd.func26, Tryd.ntmps26
        go_wp2_with fail
        refine (H1.out _).mono ?_
        rintro e w1 ⟨rfl, rfl⟩
        go_wp2_with fail
        refine (H2.out _).mono ?_
        rintro e w1 ⟨rfl, rfl⟩
        go_wp2_with fail
        refine (G0.out _).mono ?_
        rintro e w1 ⟨rfl, rfl⟩
        go_wp2
        go_ret
        exact ⟨by rw [HE.out]; rfl, below_one _ _⟩
end Go.Proofs.YtkdjpciegcofbaaDoor
