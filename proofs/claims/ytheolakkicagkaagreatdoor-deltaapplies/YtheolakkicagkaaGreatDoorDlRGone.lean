/- The reference's DeltaCheck. -/
import Derived.Test.YtheolakkicagkaaGreatDoorPkDl2
import Derived.Test.YtheolakkicagkaaGreatDoorPkStR
namespace Go.Proofs.YtheolakkicagkaaGreatDoor
open Go.RowKit

set_option maxRecDepth 100000 in
set_option maxHeartbeats 1000000 in
theorem rleaseCheck_is (x : LeaseD) (w : World) : Calls Tryz.prog 67 #[.agg #[.string x.job, .string x.node, .int .i64 x.til]] w fun e w' => e = .returned (.int .i64 (leaseCE V8 x : Nat)) ∧ Below w.heap.size w w' := by
  have bW := below_one w (.cells #[.string x.job, .string x.node, .int .i64 x.til] 50)
  have H1 := Lib.hid (risName_is x.job)
  have H2 := Lib.hid (risName_is x.node)
  have H3 := Lib.hid (outside_is x.til 0 1099511627776)
  obtain ⟨c1, h1⟩ : ∃ c, isName V8 x.job = c := ⟨_, rfl⟩
  obtain ⟨c2, h2⟩ : ∃ c, isName V8 x.node = c := ⟨_, rfl⟩
  obtain ⟨d0, g0⟩ : ∃ d, inR x.til 0 1099511627776 = d := ⟨_, rfl⟩
  have HE : Hid (leaseCE V8 x = if (c1 && c2) = true then (if d0 = true then 0 else 1) else 4) := by show _ = _; rw [leaseCE, h1, h2, g0]
  obtain ⟨R, hR⟩ : ∃ R, leaseCE V8 x = R := ⟨_, rfl⟩
  rw [hR] at HE ⊢
  rw [h1] at H1
  rw [h2] at H2
  rw [g0] at H3
  clear h1 h2 hR g0
  cases c1 with
  | false =>
    go_enter Tryz.func67, Tryz.ntmps67
    go_wp2_with fail
    refine (H1.out _).mono ?_
    rintro e w1 ⟨rfl, rfl⟩
    go_wp2
    go_ret
    exact ⟨by rw [HE.out]; rfl, bW⟩
  | true =>
    go_enter Tryz.func67, Tryz.ntmps67
    go_wp2_with fail
    refine (H1.out _).mono ?_
    rintro e w1 ⟨rfl, rfl⟩
    go_wp2_with fail
    refine (H2.out _).mono ?_
    rintro e w1 ⟨rfl, rfl⟩
    cases c2 with
    | false =>
      go_wp2
      go_ret
      exact ⟨by rw [HE.out]; rfl, bW⟩
    | true =>
      go_wp2_with fail
      refine (H3.out _).mono ?_
      rintro e w1 ⟨rfl, rfl⟩
      cases d0 with
      | false =>
        go_wp2
        go_ret
        exact ⟨by rw [HE.out]; rfl, bW⟩
      | true =>
        go_wp2
        go_ret
        exact ⟨by rw [HE.out]; rfl, bW⟩

set_option maxRecDepth 100000 in
set_option maxHeartbeats 4000000 in
theorem rgoneJob_is (H : Nat) (T : World → Prop) (hTn : ∀ w w', T w → Below w.heap.size w w' → T w') (has : ByteArray → Bool) (HC : ∀ s w, T w → Calls Tryz.prog 69 #[.string s, .pointer (some ⟨H, 0, none⟩)] w fun e w' => e = .returned (.bool (has s)) ∧ Below w.heap.size w w')
    (gs : List ByteArray) (ga : Option Addr) (gc : Nat) (hgl : gs.length ≤ 40) (w : World) (hT : T w) (hs : NmsAt w ga gs) :
    Calls Tryz.prog 68 #[.slice ga gs.length gc, .func (.func 69) #[] #[.pointer (some ⟨H, 0, none⟩)]] w fun e w' => e = .returned (.int .i64 (goneE V8 has none gs : Nat)) ∧ Below w.heap.size w w' := by
  obtain ⟨R, hR⟩ : ∃ R, goneE V8 has none gs = R := ⟨_, rfl⟩
  rw [hR]
  have HR0 : Hid (goneE V8 has (prevK id gs 0) (gs.drop 0) = R) := hR
  have HS := Lib.hid hs
  have HTn := Lib.hid hTn
  have HCl := Lib.hid HC
  have HT0 := Lib.hid hT
  clear hR hs hTn HC hT
  go_enter Tryz.func68, Tryz.ntmps68
  go_wp2
  go_loopw [9] (fun iv wr => ∃ (i : Nat), iv = .int .i64 (i : Int) ∧ i ≤ gs.length ∧ Below w.heap.size w wr ∧ T wr ∧ Hid (goneE V8 has (prevK id gs i) (gs.drop i) = R)) (fun iv _ => gs.length - (intOf iv).toNat)
  case atStart => exact ⟨0, rfl, Nat.zero_le _, Below.refl _ _, HT0.out, HR0⟩
  case round =>
    clear HR0 HT0
    obtain ⟨i, rfl, hi, hbr, hT, HR⟩ := hrel
    by_cases h : (i : Int) < (gs.length : Int)
    · have hil : i < gs.length := by omega
      obtain ⟨a, rfl, hal, k0⟩ := nmsAt_next HS.out hbr i hil
      obtain ⟨s, hsi⟩ : ∃ s, gs[i] = s := ⟨_, rfl⟩
      rw [hsi] at k0
      have HN := Lib.hid (risName_is s wr)
      have HCs := Lib.hid (HCl.out s wr hT)
      have HT := Lib.hid hT
      have HBR := Lib.hid hbr
      have Hsi := Lib.hid hsi
      obtain ⟨c, hc⟩ : ∃ c, isName V8 s = c := ⟨_, rfl⟩
      rw [hc] at HN
      have Hc := Lib.hid hc
      obtain ⟨d, hd⟩ : ∃ d, has s = d := ⟨_, rfl⟩
      rw [hd] at HCs
      have Hd := Lib.hid hd
      clear hsi hc hT hd
      go_wp2_with fail
      refine HN.out.mono ?_
      rintro e w1 ⟨rfl, rfl⟩
      clear HN
      cases c with
      | false =>
        have HE := Lib.hid (gone_name hil HR.out (by rw [Hsi.out]; exact Hc.out))
        go_wp2
        go_ret
        exact ⟨by rw [HE.out]; rfl, hbr⟩
      | true =>
        by_cases hi0 : i = 0
        · subst hi0
          have HB0 := Lib.hid (bad_zero gs s)
          go_wp2_with fail
          refine HCs.out.mono ?_
          rintro e w1 ⟨rfl, b1⟩
          have B1 := below_trans HBR.out b1 HBR.out.size
          have T1 := HTn.out _ _ HT.out b1
          cases d with
          | true =>
            have HE := Lib.hid (gone_has hil HR.out (by rw [Hsi.out]; exact Hc.out) (by rw [Hsi.out]; exact HB0.out) (by rw [Hsi.out]; exact Hd.out))
            go_wp2
            go_ret
            exact ⟨by rw [HE.out]; rfl, B1⟩
          | false =>
            have HE := Lib.hid (gone_on hil HR.out (by rw [Hsi.out]; exact Hc.out) (by rw [Hsi.out]; exact HB0.out) (by rw [Hsi.out]; exact Hd.out))
            go_wp2
            go_roundw
            case rel => exact ⟨0 + 1, by simp, by omega, B1, T1, HE⟩
            case measure => simp [intOf]; omega
        · obtain ⟨m, rfl⟩ : ∃ m, i = m + 1 := ⟨i - 1, by omega⟩
          have hml : m < gs.length := by omega
          obtain ⟨a', ea, _, p0⟩ := nmsAt_next HS.out hbr m hml
          obtain rfl : a = a' := by simpa using ea
          obtain ⟨q, hq⟩ : ∃ q, gs[m] = q := ⟨_, rfl⟩
          rw [hq] at p0
          have Hq := Lib.hid hq
          have e1 : (m : Int) + 1 - 1 = (m : Int) := by omega
          clear hq ea
          by_cases hlt : lt q s
          · obtain ⟨l1, l2⟩ := above_lists hlt
            have l3 : Op.bytesLess q.toList s.toList = true := by rw [less_toList]; simpa using hlt
            have HB0 := Lib.hid (bad_lt hml (x := s) (by rw [Hq.out]; exact hlt))
            clear hlt
            go_wp2_with fail
            refine HCs.out.mono ?_
            rintro e w1 ⟨rfl, b1⟩
            have B1 := below_trans HBR.out b1 HBR.out.size
            have T1 := HTn.out _ _ HT.out b1
            cases d with
            | true =>
              have HE := Lib.hid (gone_has hil HR.out (by rw [Hsi.out]; exact Hc.out) (by rw [Hsi.out]; exact HB0.out) (by rw [Hsi.out]; exact Hd.out))
              go_wp2
              go_ret
              exact ⟨by rw [HE.out]; rfl, B1⟩
            | false =>
              have HE := Lib.hid (gone_on hil HR.out (by rw [Hsi.out]; exact Hc.out) (by rw [Hsi.out]; exact HB0.out) (by rw [Hsi.out]; exact Hd.out))
              go_wp2
              go_roundw
              case rel => exact ⟨m + 1 + 1, by simp, by omega, B1, T1, HE⟩
              case measure => simp [intOf]; omega
          · have HE := Lib.hid (gone_bad hil HR.out (by rw [Hsi.out]; exact Hc.out) (by rw [Hq.out, Hsi.out]; exact hlt))
            have l3 : Op.bytesLess q.toList s.toList = false := by rw [less_toList]; simpa using hlt
            clear hlt
            go_wp2
            go_ret
            exact ⟨by rw [HE.out]; rfl, hbr⟩
    · obtain rfl : i = gs.length := by omega
      have HE : Hid (0 = R) := by have := HR.out; rw [List.drop_length] at this; exact this
      clear hT
      go_wp2
      go_ret
      exact ⟨by rw [← HE.out]; rfl, hbr⟩
set_option maxRecDepth 100000 in
theorem rhasJob_is (H : Nat) (M : DlM) (d : DelD) (hlen : d.jobs.length ≤ 40) (s : ByteArray) (w : World) (hO : ObjAt H (dlC M d) 29 w) (hx : JobsAt w M.aj d.jobs) :
    Calls Tryz.prog 69 #[.string s, .pointer (some ⟨H, 0, none⟩)] w fun e w' => e = .returned (.bool (hasJob d.jobs s)) ∧ Below w.heap.size w w' := by
  have HA := Lib.hid (jobAt_is d.jobs M.aj M.cj (by omega) s w hx)
  have c0 := objAt_cell hO 2 rfl
  have hl := objAt_lt hO
  clear hO hx
  go_enter Tryz.func69, Tryz.ntmps69
  go_wp2_with fail
  refine HA.out.mono ?_
  rintro e w1 ⟨r, rfl, hr, b1⟩
  have hh := (at_job hr).1
  by_cases h0 : 0 ≤ r
  · have HE : Hid (hasJob d.jobs s = true) := by show _ = _; rw [hh]; simpa using h0
    clear hr hh
    go_wp2
    go_ret
    exact ⟨by rw [HE.out]; first | (simp; done) | simp [h0], b1⟩
  · have HE : Hid (hasJob d.jobs s = false) := by show _ = _; rw [hh]; simpa using h0
    clear hr hh
    go_wp2
    go_ret
    exact ⟨by rw [HE.out]; first | (simp; done) | simp [h0], b1⟩

set_option maxRecDepth 100000 in
set_option maxHeartbeats 4000000 in
theorem rgoneNode_is (H : Nat) (T : World → Prop) (hTn : ∀ w w', T w → Below w.heap.size w w' → T w') (has : ByteArray → Bool) (HC : ∀ s w, T w → Calls Tryz.prog 70 #[.string s, .pointer (some ⟨H, 0, none⟩)] w fun e w' => e = .returned (.bool (has s)) ∧ Below w.heap.size w w')
    (gs : List ByteArray) (ga : Option Addr) (gc : Nat) (hgl : gs.length ≤ 40) (w : World) (hT : T w) (hs : NmsAt w ga gs) :
    Calls Tryz.prog 68 #[.slice ga gs.length gc, .func (.func 70) #[] #[.pointer (some ⟨H, 0, none⟩)]] w fun e w' => e = .returned (.int .i64 (goneE V8 has none gs : Nat)) ∧ Below w.heap.size w w' := by
  obtain ⟨R, hR⟩ : ∃ R, goneE V8 has none gs = R := ⟨_, rfl⟩
  rw [hR]
  have HR0 : Hid (goneE V8 has (prevK id gs 0) (gs.drop 0) = R) := hR
  have HS := Lib.hid hs
  have HTn := Lib.hid hTn
  have HCl := Lib.hid HC
  have HT0 := Lib.hid hT
  clear hR hs hTn HC hT
  go_enter Tryz.func68, Tryz.ntmps68
  go_wp2
  go_loopw [9] (fun iv wr => ∃ (i : Nat), iv = .int .i64 (i : Int) ∧ i ≤ gs.length ∧ Below w.heap.size w wr ∧ T wr ∧ Hid (goneE V8 has (prevK id gs i) (gs.drop i) = R)) (fun iv _ => gs.length - (intOf iv).toNat)
  case atStart => exact ⟨0, rfl, Nat.zero_le _, Below.refl _ _, HT0.out, HR0⟩
  case round =>
    clear HR0 HT0
    obtain ⟨i, rfl, hi, hbr, hT, HR⟩ := hrel
    by_cases h : (i : Int) < (gs.length : Int)
    · have hil : i < gs.length := by omega
      obtain ⟨a, rfl, hal, k0⟩ := nmsAt_next HS.out hbr i hil
      obtain ⟨s, hsi⟩ : ∃ s, gs[i] = s := ⟨_, rfl⟩
      rw [hsi] at k0
      have HN := Lib.hid (risName_is s wr)
      have HCs := Lib.hid (HCl.out s wr hT)
      have HT := Lib.hid hT
      have HBR := Lib.hid hbr
      have Hsi := Lib.hid hsi
      obtain ⟨c, hc⟩ : ∃ c, isName V8 s = c := ⟨_, rfl⟩
      rw [hc] at HN
      have Hc := Lib.hid hc
      obtain ⟨d, hd⟩ : ∃ d, has s = d := ⟨_, rfl⟩
      rw [hd] at HCs
      have Hd := Lib.hid hd
      clear hsi hc hT hd
      go_wp2_with fail
      refine HN.out.mono ?_
      rintro e w1 ⟨rfl, rfl⟩
      clear HN
      cases c with
      | false =>
        have HE := Lib.hid (gone_name hil HR.out (by rw [Hsi.out]; exact Hc.out))
        go_wp2
        go_ret
        exact ⟨by rw [HE.out]; rfl, hbr⟩
      | true =>
        by_cases hi0 : i = 0
        · subst hi0
          have HB0 := Lib.hid (bad_zero gs s)
          go_wp2_with fail
          refine HCs.out.mono ?_
          rintro e w1 ⟨rfl, b1⟩
          have B1 := below_trans HBR.out b1 HBR.out.size
          have T1 := HTn.out _ _ HT.out b1
          cases d with
          | true =>
            have HE := Lib.hid (gone_has hil HR.out (by rw [Hsi.out]; exact Hc.out) (by rw [Hsi.out]; exact HB0.out) (by rw [Hsi.out]; exact Hd.out))
            go_wp2
            go_ret
            exact ⟨by rw [HE.out]; rfl, B1⟩
          | false =>
            have HE := Lib.hid (gone_on hil HR.out (by rw [Hsi.out]; exact Hc.out) (by rw [Hsi.out]; exact HB0.out) (by rw [Hsi.out]; exact Hd.out))
            go_wp2
            go_roundw
            case rel => exact ⟨0 + 1, by simp, by omega, B1, T1, HE⟩
            case measure => simp [intOf]; omega
        · obtain ⟨m, rfl⟩ : ∃ m, i = m + 1 := ⟨i - 1, by omega⟩
          have hml : m < gs.length := by omega
          obtain ⟨a', ea, _, p0⟩ := nmsAt_next HS.out hbr m hml
          obtain rfl : a = a' := by simpa using ea
          obtain ⟨q, hq⟩ : ∃ q, gs[m] = q := ⟨_, rfl⟩
          rw [hq] at p0
          have Hq := Lib.hid hq
          have e1 : (m : Int) + 1 - 1 = (m : Int) := by omega
          clear hq ea
          by_cases hlt : lt q s
          · obtain ⟨l1, l2⟩ := above_lists hlt
            have l3 : Op.bytesLess q.toList s.toList = true := by rw [less_toList]; simpa using hlt
            have HB0 := Lib.hid (bad_lt hml (x := s) (by rw [Hq.out]; exact hlt))
            clear hlt
            go_wp2_with fail
            refine HCs.out.mono ?_
            rintro e w1 ⟨rfl, b1⟩
            have B1 := below_trans HBR.out b1 HBR.out.size
            have T1 := HTn.out _ _ HT.out b1
            cases d with
            | true =>
              have HE := Lib.hid (gone_has hil HR.out (by rw [Hsi.out]; exact Hc.out) (by rw [Hsi.out]; exact HB0.out) (by rw [Hsi.out]; exact Hd.out))
              go_wp2
              go_ret
              exact ⟨by rw [HE.out]; rfl, B1⟩
            | false =>
              have HE := Lib.hid (gone_on hil HR.out (by rw [Hsi.out]; exact Hc.out) (by rw [Hsi.out]; exact HB0.out) (by rw [Hsi.out]; exact Hd.out))
              go_wp2
              go_roundw
              case rel => exact ⟨m + 1 + 1, by simp, by omega, B1, T1, HE⟩
              case measure => simp [intOf]; omega
          · have HE := Lib.hid (gone_bad hil HR.out (by rw [Hsi.out]; exact Hc.out) (by rw [Hq.out, Hsi.out]; exact hlt))
            have l3 : Op.bytesLess q.toList s.toList = false := by rw [less_toList]; simpa using hlt
            clear hlt
            go_wp2
            go_ret
            exact ⟨by rw [HE.out]; rfl, hbr⟩
    · obtain rfl : i = gs.length := by omega
      have HE : Hid (0 = R) := by have := HR.out; rw [List.drop_length] at this; exact this
      clear hT
      go_wp2
      go_ret
      exact ⟨by rw [← HE.out]; rfl, hbr⟩
set_option maxRecDepth 100000 in
theorem rhasNode_is (H : Nat) (M : DlM) (d : DelD) (hlen : d.nodes.length ≤ 40) (s : ByteArray) (w : World) (hO : ObjAt H (dlC M d) 29 w) (hx : NodesAt w M.an d.nodes) :
    Calls Tryz.prog 70 #[.string s, .pointer (some ⟨H, 0, none⟩)] w fun e w' => e = .returned (.bool (hasNode d.nodes s)) ∧ Below w.heap.size w w' := by
  have HA := Lib.hid (nodeAt_is d.nodes M.an M.cn (by omega) s w hx)
  have c0 := objAt_cell hO 3 rfl
  have hl := objAt_lt hO
  clear hO hx
  go_enter Tryz.func70, Tryz.ntmps70
  go_wp2_with fail
  refine HA.out.mono ?_
  rintro e w1 ⟨r, rfl, hr, b1⟩
  have hh := at_node hr
  by_cases h0 : 0 ≤ r
  · have HE : Hid (hasNode d.nodes s = true) := by show _ = _; rw [hh]; simpa using h0
    clear hr hh
    go_wp2
    go_ret
    exact ⟨by rw [HE.out]; first | (simp; done) | simp [h0], b1⟩
  · have HE : Hid (hasNode d.nodes s = false) := by show _ = _; rw [hh]; simpa using h0
    clear hr hh
    go_wp2
    go_ret
    exact ⟨by rw [HE.out]; first | (simp; done) | simp [h0], b1⟩

set_option maxRecDepth 100000 in
set_option maxHeartbeats 4000000 in
theorem rgoneLease_is (H : Nat) (T : World → Prop) (hTn : ∀ w w', T w → Below w.heap.size w w' → T w') (has : ByteArray → Bool) (HC : ∀ s w, T w → Calls Tryz.prog 71 #[.string s, .pointer (some ⟨H, 0, none⟩)] w fun e w' => e = .returned (.bool (has s)) ∧ Below w.heap.size w w')
    (gs : List ByteArray) (ga : Option Addr) (gc : Nat) (hgl : gs.length ≤ 40) (w : World) (hT : T w) (hs : NmsAt w ga gs) :
    Calls Tryz.prog 68 #[.slice ga gs.length gc, .func (.func 71) #[] #[.pointer (some ⟨H, 0, none⟩)]] w fun e w' => e = .returned (.int .i64 (goneE V8 has none gs : Nat)) ∧ Below w.heap.size w w' := by
  obtain ⟨R, hR⟩ : ∃ R, goneE V8 has none gs = R := ⟨_, rfl⟩
  rw [hR]
  have HR0 : Hid (goneE V8 has (prevK id gs 0) (gs.drop 0) = R) := hR
  have HS := Lib.hid hs
  have HTn := Lib.hid hTn
  have HCl := Lib.hid HC
  have HT0 := Lib.hid hT
  clear hR hs hTn HC hT
  go_enter Tryz.func68, Tryz.ntmps68
  go_wp2
  go_loopw [9] (fun iv wr => ∃ (i : Nat), iv = .int .i64 (i : Int) ∧ i ≤ gs.length ∧ Below w.heap.size w wr ∧ T wr ∧ Hid (goneE V8 has (prevK id gs i) (gs.drop i) = R)) (fun iv _ => gs.length - (intOf iv).toNat)
  case atStart => exact ⟨0, rfl, Nat.zero_le _, Below.refl _ _, HT0.out, HR0⟩
  case round =>
    clear HR0 HT0
    obtain ⟨i, rfl, hi, hbr, hT, HR⟩ := hrel
    by_cases h : (i : Int) < (gs.length : Int)
    · have hil : i < gs.length := by omega
      obtain ⟨a, rfl, hal, k0⟩ := nmsAt_next HS.out hbr i hil
      obtain ⟨s, hsi⟩ : ∃ s, gs[i] = s := ⟨_, rfl⟩
      rw [hsi] at k0
      have HN := Lib.hid (risName_is s wr)
      have HCs := Lib.hid (HCl.out s wr hT)
      have HT := Lib.hid hT
      have HBR := Lib.hid hbr
      have Hsi := Lib.hid hsi
      obtain ⟨c, hc⟩ : ∃ c, isName V8 s = c := ⟨_, rfl⟩
      rw [hc] at HN
      have Hc := Lib.hid hc
      obtain ⟨d, hd⟩ : ∃ d, has s = d := ⟨_, rfl⟩
      rw [hd] at HCs
      have Hd := Lib.hid hd
      clear hsi hc hT hd
      go_wp2_with fail
      refine HN.out.mono ?_
      rintro e w1 ⟨rfl, rfl⟩
      clear HN
      cases c with
      | false =>
        have HE := Lib.hid (gone_name hil HR.out (by rw [Hsi.out]; exact Hc.out))
        go_wp2
        go_ret
        exact ⟨by rw [HE.out]; rfl, hbr⟩
      | true =>
        by_cases hi0 : i = 0
        · subst hi0
          have HB0 := Lib.hid (bad_zero gs s)
          go_wp2_with fail
          refine HCs.out.mono ?_
          rintro e w1 ⟨rfl, b1⟩
          have B1 := below_trans HBR.out b1 HBR.out.size
          have T1 := HTn.out _ _ HT.out b1
          cases d with
          | true =>
            have HE := Lib.hid (gone_has hil HR.out (by rw [Hsi.out]; exact Hc.out) (by rw [Hsi.out]; exact HB0.out) (by rw [Hsi.out]; exact Hd.out))
            go_wp2
            go_ret
            exact ⟨by rw [HE.out]; rfl, B1⟩
          | false =>
            have HE := Lib.hid (gone_on hil HR.out (by rw [Hsi.out]; exact Hc.out) (by rw [Hsi.out]; exact HB0.out) (by rw [Hsi.out]; exact Hd.out))
            go_wp2
            go_roundw
            case rel => exact ⟨0 + 1, by simp, by omega, B1, T1, HE⟩
            case measure => simp [intOf]; omega
        · obtain ⟨m, rfl⟩ : ∃ m, i = m + 1 := ⟨i - 1, by omega⟩
          have hml : m < gs.length := by omega
          obtain ⟨a', ea, _, p0⟩ := nmsAt_next HS.out hbr m hml
          obtain rfl : a = a' := by simpa using ea
          obtain ⟨q, hq⟩ : ∃ q, gs[m] = q := ⟨_, rfl⟩
          rw [hq] at p0
          have Hq := Lib.hid hq
          have e1 : (m : Int) + 1 - 1 = (m : Int) := by omega
          clear hq ea
          by_cases hlt : lt q s
          · obtain ⟨l1, l2⟩ := above_lists hlt
            have l3 : Op.bytesLess q.toList s.toList = true := by rw [less_toList]; simpa using hlt
            have HB0 := Lib.hid (bad_lt hml (x := s) (by rw [Hq.out]; exact hlt))
            clear hlt
            go_wp2_with fail
            refine HCs.out.mono ?_
            rintro e w1 ⟨rfl, b1⟩
            have B1 := below_trans HBR.out b1 HBR.out.size
            have T1 := HTn.out _ _ HT.out b1
            cases d with
            | true =>
              have HE := Lib.hid (gone_has hil HR.out (by rw [Hsi.out]; exact Hc.out) (by rw [Hsi.out]; exact HB0.out) (by rw [Hsi.out]; exact Hd.out))
              go_wp2
              go_ret
              exact ⟨by rw [HE.out]; rfl, B1⟩
            | false =>
              have HE := Lib.hid (gone_on hil HR.out (by rw [Hsi.out]; exact Hc.out) (by rw [Hsi.out]; exact HB0.out) (by rw [Hsi.out]; exact Hd.out))
              go_wp2
              go_roundw
              case rel => exact ⟨m + 1 + 1, by simp, by omega, B1, T1, HE⟩
              case measure => simp [intOf]; omega
          · have HE := Lib.hid (gone_bad hil HR.out (by rw [Hsi.out]; exact Hc.out) (by rw [Hq.out, Hsi.out]; exact hlt))
            have l3 : Op.bytesLess q.toList s.toList = false := by rw [less_toList]; simpa using hlt
            clear hlt
            go_wp2
            go_ret
            exact ⟨by rw [HE.out]; rfl, hbr⟩
    · obtain rfl : i = gs.length := by omega
      have HE : Hid (0 = R) := by have := HR.out; rw [List.drop_length] at this; exact this
      clear hT
      go_wp2
      go_ret
      exact ⟨by rw [← HE.out]; rfl, hbr⟩
set_option maxRecDepth 100000 in
theorem rhasLease_is (H : Nat) (M : DlM) (d : DelD) (hlen : d.leases.length ≤ 40) (s : ByteArray) (w : World) (hO : ObjAt H (dlC M d) 29 w) (hx : LeasesAt w M.al d.leases) :
    Calls Tryz.prog 71 #[.string s, .pointer (some ⟨H, 0, none⟩)] w fun e w' => e = .returned (.bool (hasLease d.leases s)) ∧ Below w.heap.size w w' := by
  have HA := Lib.hid (leaseAt_is d.leases M.al M.cl (by omega) s w hx)
  have c0 := objAt_cell hO 4 rfl
  have hl := objAt_lt hO
  clear hO hx
  go_enter Tryz.func71, Tryz.ntmps71
  go_wp2_with fail
  refine HA.out.mono ?_
  rintro e w1 ⟨r, rfl, hr, b1⟩
  have hh := at_lease hr
  by_cases h0 : 0 ≤ r
  · have HE : Hid (hasLease d.leases s = true) := by show _ = _; rw [hh]; simpa using h0
    clear hr hh
    go_wp2
    go_ret
    exact ⟨by rw [HE.out]; first | (simp; done) | simp [h0], b1⟩
  · have HE : Hid (hasLease d.leases s = false) := by show _ = _; rw [hh]; simpa using h0
    clear hr hh
    go_wp2
    go_ret
    exact ⟨by rw [HE.out]; first | (simp; done) | simp [h0], b1⟩
end Go.Proofs.YtheolakkicagkaaGreatDoor
