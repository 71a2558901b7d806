/- What a name and a note are, a job and a node by themselves: the program's words for it. -/
import Derived.Test.YtdbopgmckndmeaaDoorTabs8
import Derived.Test.YtdbopgmckndmeaaDoorV8
import Derived.Test.YtdbopgmckndmeaaDoorStBox
namespace Go.Proofs.YtdbopgmckndmeaaDoor
open Go.RowKit Go.Lib

theorem note_no {s : ByteArray} (h : ¬ s.size ≤ 16) : isNote V8 s = false := by unfold isNote; rw [decide_eq_false h]; rfl
theorem note_yes {s : ByteArray} (h : s.size ≤ 16) : isNote V8 s = V8 s := by unfold isNote; rw [decide_eq_true h]; rfl
theorem name_yes {s : ByteArray} (h : s.size ≠ 0) : isName V8 s = isNote V8 s := by unfold isName; rw [decide_eq_true h]; rfl
theorem name_no {s : ByteArray} (h : ¬ s.size ≠ 0) : isName V8 s = false := by unfold isName; rw [decide_eq_false h]; rfl
theorem empty_size {s : ByteArray} (h : ¬ s.size ≠ 0) : s = ⟨#[]⟩ := by
  have h : s.size = 0 := by simpa using h
  cases s with
  | mk d =>
    have : d.size = 0 := h
    rw [Array.eq_empty_of_size_eq_zero this]
theorem not_empty {s : ByteArray} (h : s.size ≠ 0) : s.toList.isEmpty = false ∧ ¬ s.toList = [] := by
  have : ¬ s.toList = [] := by
    intro e
    have e2 := congrArg List.length e
    rw [ByteArray.toList_eq] at e2
    exact h (by simpa using e2)
  exact ⟨by simpa using this, this⟩
theorem isNote_is (s : ByteArray) (w : World) (hT : Tabs w) : Calls Tryd.prog 103 #[.string s] w fun e w' => e = .returned (.bool (isNote V8 s)) ∧ Below w.heap.size w w' := by
  by_cases h : s.size ≤ 16
  · have HV := Lib.hid (valid_is s (by omega) w hT)
    rw [note_yes h]
    change Hid (Calls _ _ _ _ fun e w' => e = .returned (.bool (V8 s)) ∧ _) at HV
    generalize V8 s = c at *
    clear hT
    go_enter Tryd.func103, Tryd.ntmps103
    go_wp2_with fail
    refine HV.out.mono ?_
    rintro e w1 ⟨rfl, b1⟩
    go_wp2
    go_ret
    exact ⟨rfl, b1⟩
  · rw [note_no h]
    clear hT
    go_enter Tryd.func103, Tryd.ntmps103
    go_wp2
    go_ret
    exact ⟨rfl, Below.refl _ _⟩
theorem isName_is (s : ByteArray) (w : World) (hT : Tabs w) : Calls Tryd.prog 102 #[.string s] w fun e w' => e = .returned (.bool (isName V8 s)) ∧ Below w.heap.size w w' := by
  by_cases h : s.size ≠ 0
  · have HV := Lib.hid (isNote_is s w hT)
    rw [name_yes h]
    generalize isNote V8 s = c at *
    obtain ⟨h1, h2⟩ := not_empty h
    clear hT h
    go_enter Tryd.func102, Tryd.ntmps102
    go_wp2_with fail
    refine HV.out.mono ?_
    rintro e w1 ⟨rfl, b1⟩
    go_wp2
    go_ret
    exact ⟨rfl, b1⟩
  · rw [name_no h]
    obtain rfl := empty_size h
    clear hT
    go_enter Tryd.func102, Tryd.ntmps102
    go_wp2
    go_ret
    exact ⟨rfl, Below.refl _ _⟩
set_option maxRecDepth 100000 in
set_option maxHeartbeats 1000000 in
theorem checkJob_is (x : JobD) (w : World) (hT : Tabs w) : Calls Tryd.prog 64 #[.agg #[.string x.name, .int .i64 x.prio, .int .i64 x.need, .int .i64 x.tries, .string x.tag]] w fun e w' => e = .returned (.int .i64 (jobE V8 x : Nat)) ∧ Below w.heap.size w w' := by
  have H1 := Lib.hid (isName_is x.name (w.alloc (.cells #[.string x.name, .int .i64 x.prio, .int .i64 x.need, .int .i64 x.tries, .string x.tag] 64)) (hT.below (below_one _ _)))
  have HN := Lib.hid isNote_is
  have HT := Lib.hid (hT.below (below_one w (.cells #[.string x.name, .int .i64 x.prio, .int .i64 x.need, .int .i64 x.tries, .string x.tag] 64)))
  obtain ⟨c1, h1⟩ : ∃ c, isName V8 x.name = c := ⟨_, rfl⟩
  obtain ⟨c2, h2⟩ : ∃ c, isNote V8 x.tag = c := ⟨_, rfl⟩
  obtain ⟨d0, g0⟩ : ∃ d, inR x.prio (-1000) 1000 = d := ⟨_, rfl⟩
  have G0 := Lib.hid (within_is x.prio (-1000) 1000)
  rw [g0] at G0
  obtain ⟨d1, g1⟩ : ∃ d, inR x.need (0) 1000000 = d := ⟨_, rfl⟩
  have G1 := Lib.hid (within_is x.need (0) 1000000)
  rw [g1] at G1
  obtain ⟨d2, g2⟩ : ∃ d, inR x.tries (0) 100 = d := ⟨_, rfl⟩
  have G2 := Lib.hid (within_is x.tries (0) 100)
  rw [g2] at G2
  have HE : Hid (jobE V8 x = if (c1 && c2) = true then (if (d0 && d1 && d2) = true then 0 else 1) else 4) := by show _ = _; rw [jobE, h1, h2, g0, g1, g2]
  obtain ⟨R, hR⟩ : ∃ R, jobE V8 x = R := ⟨_, rfl⟩
  rw [hR] at HE ⊢
  rw [h1] at H1
  have H2 : Hid (isNote V8 x.tag = c2) := h2
  clear hT h1 h2 hR g0 g1 g2
  cases c1 with
  | false =>
    go_enter Tryd.func64, Tryd.ntmps64
    go_wp2_with fail
    refine H1.out.mono ?_
    rintro e w1 ⟨rfl, b1⟩
    go_wp2
    go_ret
    exact ⟨by rw [HE.out]; rfl, below_trans (below_one _ _) b1 (by simp)⟩
  | true =>
    cases c2 with
    | false =>
      go_enter Tryd.func64, Tryd.ntmps64
      go_wp2_with fail
      refine H1.out.mono ?_
      rintro e w1 ⟨rfl, b1⟩
      have bx := box_next (box_new5 w (.string x.name) (.int .i64 x.prio) (.int .i64 x.need) (.int .i64 x.tries) (.string x.tag) 64) b1
      have HT1 := HT.out.below b1
      have hb1 := below_trans (below_one _ _) b1 (by simp)
      clear b1
      have k0 := bx.1 0 _ rfl
      have k1 := bx.1 1 _ rfl
      have k2 := bx.1 2 _ rfl
      have k3 := bx.1 3 _ rfl
      have k4 := bx.1 4 _ rfl
      go_wp2_with fail
      refine (HN.out x.tag w1 HT1).mono ?_
      rintro e w2 ⟨rfl, b2⟩
      rw [H2.out]
      have bx2 := box_next bx b2
      have hb2 := below_trans hb1 b2 hb1.size
      clear b2 bx k0 k1 k2 k3 k4
      have k0 := bx2.1 0 _ rfl
      have k1 := bx2.1 1 _ rfl
      have k2 := bx2.1 2 _ rfl
      have k3 := bx2.1 3 _ rfl
      have k4 := bx2.1 4 _ rfl
      go_wp2
      go_ret
      exact ⟨by rw [HE.out]; rfl, hb2⟩
    | true =>
      cases d0 with
      | false =>
        go_enter Tryd.func64, Tryd.ntmps64
        go_wp2_with fail
        refine H1.out.mono ?_
        rintro e w1 ⟨rfl, b1⟩
        have bx := box_next (box_new5 w (.string x.name) (.int .i64 x.prio) (.int .i64 x.need) (.int .i64 x.tries) (.string x.tag) 64) b1
        have HT1 := HT.out.below b1
        have hb1 := below_trans (below_one _ _) b1 (by simp)
        clear b1
        have k0 := bx.1 0 _ rfl
        have k1 := bx.1 1 _ rfl
        have k2 := bx.1 2 _ rfl
        have k3 := bx.1 3 _ rfl
        have k4 := bx.1 4 _ rfl
        go_wp2_with fail
        refine (HN.out x.tag w1 HT1).mono ?_
        rintro e w2 ⟨rfl, b2⟩
        rw [H2.out]
        have bx2 := box_next bx b2
        have hb2 := below_trans hb1 b2 hb1.size
        clear b2 bx k0 k1 k2 k3 k4
        have k0 := bx2.1 0 _ rfl
        have k1 := bx2.1 1 _ rfl
        have k2 := bx2.1 2 _ rfl
        have k3 := bx2.1 3 _ rfl
        have k4 := bx2.1 4 _ rfl
        go_wp2_with fail
        refine (G0.out _).mono ?_
        rintro e w3 ⟨rfl, rfl⟩
        go_wp2
        go_ret
        exact ⟨by rw [HE.out]; rfl, hb2⟩
      | true =>
        cases d1 with
        | false =>
          go_enter Tryd.func64, Tryd.ntmps64
          go_wp2_with fail
          refine H1.out.mono ?_
          rintro e w1 ⟨rfl, b1⟩
          have bx := box_next (box_new5 w (.string x.name) (.int .i64 x.prio) (.int .i64 x.need) (.int .i64 x.tries) (.string x.tag) 64) b1
          have HT1 := HT.out.below b1
          have hb1 := below_trans (below_one _ _) b1 (by simp)
          clear b1
          have k0 := bx.1 0 _ rfl
          have k1 := bx.1 1 _ rfl
          have k2 := bx.1 2 _ rfl
          have k3 := bx.1 3 _ rfl
          have k4 := bx.1 4 _ rfl
          go_wp2_with fail
          refine (HN.out x.tag w1 HT1).mono ?_
          rintro e w2 ⟨rfl, b2⟩
          rw [H2.out]
          have bx2 := box_next bx b2
          have hb2 := below_trans hb1 b2 hb1.size
          clear b2 bx k0 k1 k2 k3 k4
          have k0 := bx2.1 0 _ rfl
          have k1 := bx2.1 1 _ rfl
          have k2 := bx2.1 2 _ rfl
          have k3 := bx2.1 3 _ rfl
          have k4 := bx2.1 4 _ rfl
          go_wp2_with fail
          refine (G0.out _).mono ?_
          rintro e w3 ⟨rfl, rfl⟩
          go_wp2_with fail
          refine (G1.out _).mono ?_
          rintro e w3 ⟨rfl, rfl⟩
          go_wp2
          go_ret
          exact ⟨by rw [HE.out]; rfl, hb2⟩
        | true =>
          cases d2 with
          | false =>
            go_enter Tryd.func64, Tryd.ntmps64
            go_wp2_with fail
            refine H1.out.mono ?_
            rintro e w1 ⟨rfl, b1⟩
            have bx := box_next (box_new5 w (.string x.name) (.int .i64 x.prio) (.int .i64 x.need) (.int .i64 x.tries) (.string x.tag) 64) b1
            have HT1 := HT.out.below b1
            have hb1 := below_trans (below_one _ _) b1 (by simp)
            clear b1
            have k0 := bx.1 0 _ rfl
            have k1 := bx.1 1 _ rfl
            have k2 := bx.1 2 _ rfl
            have k3 := bx.1 3 _ rfl
            have k4 := bx.1 4 _ rfl
            go_wp2_with fail
            refine (HN.out x.tag w1 HT1).mono ?_
            rintro e w2 ⟨rfl, b2⟩
            rw [H2.out]
            have bx2 := box_next bx b2
            have hb2 := below_trans hb1 b2 hb1.size
            clear b2 bx k0 k1 k2 k3 k4
            have k0 := bx2.1 0 _ rfl
            have k1 := bx2.1 1 _ rfl
            have k2 := bx2.1 2 _ rfl
            have k3 := bx2.1 3 _ rfl
            have k4 := bx2.1 4 _ rfl
            go_wp2_with fail
            refine (G0.out _).mono ?_
            rintro e w3 ⟨rfl, rfl⟩
            go_wp2_with fail
            refine (G1.out _).mono ?_
            rintro e w3 ⟨rfl, rfl⟩
            go_wp2_with fail
            refine (G2.out _).mono ?_
            rintro e w3 ⟨rfl, rfl⟩
            go_wp2
            go_ret
            exact ⟨by rw [HE.out]; rfl, hb2⟩
          | true =>
            go_enter Tryd.func64, Tryd.ntmps64
            go_wp2_with fail
            refine H1.out.mono ?_
            rintro e w1 ⟨rfl, b1⟩
            have bx := box_next (box_new5 w (.string x.name) (.int .i64 x.prio) (.int .i64 x.need) (.int .i64 x.tries) (.string x.tag) 64) b1
            have HT1 := HT.out.below b1
            have hb1 := below_trans (below_one _ _) b1 (by simp)
            clear b1
            have k0 := bx.1 0 _ rfl
            have k1 := bx.1 1 _ rfl
            have k2 := bx.1 2 _ rfl
            have k3 := bx.1 3 _ rfl
            have k4 := bx.1 4 _ rfl
            go_wp2_with fail
            refine (HN.out x.tag w1 HT1).mono ?_
            rintro e w2 ⟨rfl, b2⟩
            rw [H2.out]
            have bx2 := box_next bx b2
            have hb2 := below_trans hb1 b2 hb1.size
            clear b2 bx k0 k1 k2 k3 k4
            have k0 := bx2.1 0 _ rfl
            have k1 := bx2.1 1 _ rfl
            have k2 := bx2.1 2 _ rfl
            have k3 := bx2.1 3 _ rfl
            have k4 := bx2.1 4 _ rfl
            go_wp2_with fail
            refine (G0.out _).mono ?_
            rintro e w3 ⟨rfl, rfl⟩
            go_wp2_with fail
            refine (G1.out _).mono ?_
            rintro e w3 ⟨rfl, rfl⟩
            go_wp2_with fail
            refine (G2.out _).mono ?_
            rintro e w3 ⟨rfl, rfl⟩
            go_wp2
            go_ret
            exact ⟨by rw [HE.out]; rfl, hb2⟩
set_option maxRecDepth 100000 in
set_option maxHeartbeats 1000000 in
theorem checkNode_is (x : NodeD) (w : World) (hT : Tabs w) : Calls Tryd.prog 67 #[.agg #[.string x.name, .int .i64 x.room, .string x.zone]] w fun e w' => e = .returned (.int .i64 (nodeE V8 x : Nat)) ∧ Below w.heap.size w w' := by
  have H1 := Lib.hid (isName_is x.name (w.alloc (.cells #[.string x.name, .int .i64 x.room, .string x.zone] 67)) (hT.below (below_one _ _)))
  have HN := Lib.hid isNote_is
  have HT := Lib.hid (hT.below (below_one w (.cells #[.string x.name, .int .i64 x.room, .string x.zone] 67)))
  obtain ⟨c1, h1⟩ : ∃ c, isName V8 x.name = c := ⟨_, rfl⟩
  obtain ⟨c2, h2⟩ : ∃ c, isNote V8 x.zone = c := ⟨_, rfl⟩
  obtain ⟨d0, g0⟩ : ∃ d, inR x.room (0) 1000000 = d := ⟨_, rfl⟩
  have G0 := Lib.hid (within_is x.room (0) 1000000)
  rw [g0] at G0
  have HE : Hid (nodeE V8 x = if (c1 && c2) = true then (if (d0) = true then 0 else 1) else 4) := by show _ = _; rw [nodeE, h1, h2, g0]
  obtain ⟨R, hR⟩ : ∃ R, nodeE V8 x = R := ⟨_, rfl⟩
  rw [hR] at HE ⊢
  rw [h1] at H1
  have H2 : Hid (isNote V8 x.zone = c2) := h2
  clear hT h1 h2 hR g0
  cases c1 with
  | false =>
    go_enter Tryd.func67, Tryd.ntmps67
    go_wp2_with fail
    refine H1.out.mono ?_
    rintro e w1 ⟨rfl, b1⟩
    go_wp2
    go_ret
    exact ⟨by rw [HE.out]; rfl, below_trans (below_one _ _) b1 (by simp)⟩
  | true =>
    cases c2 with
    | false =>
      go_enter Tryd.func67, Tryd.ntmps67
      go_wp2_with fail
      refine H1.out.mono ?_
      rintro e w1 ⟨rfl, b1⟩
      have bx := box_next (box_new3 w (.string x.name) (.int .i64 x.room) (.string x.zone) 67) b1
      have HT1 := HT.out.below b1
      have hb1 := below_trans (below_one _ _) b1 (by simp)
      clear b1
      have k0 := bx.1 0 _ rfl
      have k1 := bx.1 1 _ rfl
      have k2 := bx.1 2 _ rfl
      go_wp2_with fail
      refine (HN.out x.zone w1 HT1).mono ?_
      rintro e w2 ⟨rfl, b2⟩
      rw [H2.out]
      have bx2 := box_next bx b2
      have hb2 := below_trans hb1 b2 hb1.size
      clear b2 bx k0 k1 k2
      have k0 := bx2.1 0 _ rfl
      have k1 := bx2.1 1 _ rfl
      have k2 := bx2.1 2 _ rfl
      go_wp2
      go_ret
      exact ⟨by rw [HE.out]; rfl, hb2⟩
    | true =>
      cases d0 with
      | false =>
        go_enter Tryd.func67, Tryd.ntmps67
        go_wp2_with fail
        refine H1.out.mono ?_
        rintro e w1 ⟨rfl, b1⟩
        have bx := box_next (box_new3 w (.string x.name) (.int .i64 x.room) (.string x.zone) 67) b1
        have HT1 := HT.out.below b1
        have hb1 := below_trans (below_one _ _) b1 (by simp)
        clear b1
        have k0 := bx.1 0 _ rfl
        have k1 := bx.1 1 _ rfl
        have k2 := bx.1 2 _ rfl
        go_wp2_with fail
        refine (HN.out x.zone w1 HT1).mono ?_
        rintro e w2 ⟨rfl, b2⟩
        rw [H2.out]
        have bx2 := box_next bx b2
        have hb2 := below_trans hb1 b2 hb1.size
        clear b2 bx k0 k1 k2
        have k0 := bx2.1 0 _ rfl
        have k1 := bx2.1 1 _ rfl
        have k2 := bx2.1 2 _ rfl
        go_wp2_with fail
        refine (G0.out _).mono ?_
        rintro e w3 ⟨rfl, rfl⟩
        go_wp2
        go_ret
        exact ⟨by rw [HE.out]; rfl, hb2⟩
      | true =>
        go_enter Tryd.func67, Tryd.ntmps67
        go_wp2_with fail
        refine H1.out.mono ?_
        rintro e w1 ⟨rfl, b1⟩
        have bx := box_next (box_new3 w (.string x.name) (.int .i64 x.room) (.string x.zone) 67) b1
        have HT1 := HT.out.below b1
        have hb1 := below_trans (below_one _ _) b1 (by simp)
        clear b1
        have k0 := bx.1 0 _ rfl
        have k1 := bx.1 1 _ rfl
        have k2 := bx.1 2 _ rfl
        go_wp2_with fail
        refine (HN.out x.zone w1 HT1).mono ?_
        rintro e w2 ⟨rfl, b2⟩
        rw [H2.out]
        have bx2 := box_next bx b2
        have hb2 := below_trans hb1 b2 hb1.size
        clear b2 bx k0 k1 k2
        have k0 := bx2.1 0 _ rfl
        have k1 := bx2.1 1 _ rfl
        have k2 := bx2.1 2 _ rfl
        go_wp2_with fail
        refine (G0.out _).mono ?_
        rintro e w3 ⟨rfl, rfl⟩
        go_wp2
        go_ret
        exact ⟨by rw [HE.out]; rfl, hb2⟩
end Go.Proofs.YtdbopgmckndmeaaDoor
