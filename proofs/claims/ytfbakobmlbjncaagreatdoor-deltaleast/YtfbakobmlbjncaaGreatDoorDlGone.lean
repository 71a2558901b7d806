/- Package delta: names that are gone. -/
import Derived.Test.YtfbakobmlbjncaaGreatDoorDlTab
namespace Go.Proofs.YtfbakobmlbjncaaGreatDoor
open Go.RowKit

def zeroL : LeaseD := ⟨⟨#[]⟩, ⟨#[]⟩, 0⟩
theorem zeroLease (w : World) : (zeroValue 47).run Tryz.prog w = .ok (leaseV zeroL) w := by kernel_rfl
theorem tabF_lease (V : LeaseD → Value) (l : List LeaseD) (s : ByteArray) : (tabF (·.job) V l s).isSome = hasLease l s := by
  unfold tabF hasLease; rw [Option.isSome_map]; exact lastD_isSome _ _ _
theorem tabF_pick {α : Type} (key : α → ByteArray) (V : α → Value) (l : List α) (s : ByteArray) (z : α) : ∃ y, (tabF key V l s).getD (V z) = V y := by
  unfold tabF
  cases lastD key l s with
  | none => exact ⟨z, rfl⟩
  | some y => exact ⟨y, rfl⟩
theorem gone_name {U has : ByteArray → Bool} {l : List ByteArray} {i R : Nat} (h : i < l.length) (H : goneE U has (prevK id l i) (l.drop i) = R) (hn : isName U l[i] = false) : R = 4 := by
  rw [goneE_step U has l i h, hn] at H
  exact H.symm
theorem gone_bad {U has : ByteArray → Bool} {l : List ByteArray} {i R : Nat} (h : i + 1 < l.length) (H : goneE U has (prevK id l (i + 1)) (l.drop (i + 1)) = R) (hn : isName U l[i + 1] = true) (hb : ¬ lt l[i] l[i + 1]) : R = 8 := by
  rw [goneE_step U has l (i + 1) h, hn, badO_later id l i (by omega)] at H
  simp only [id_eq, hb, decide_false, Bool.not_false, if_true] at H
  exact H.symm
theorem gone_has {U has : ByteArray → Bool} {l : List ByteArray} {i R : Nat} (h : i < l.length) (H : goneE U has (prevK id l i) (l.drop i) = R) (hn : isName U l[i] = true) (hb : badO (prevK id l i) l[i] = false) (hh : has l[i] = true) : R = 7 := by
  rw [goneE_step U has l i h, hn, hb, hh] at H
  exact H.symm
theorem gone_on {U has : ByteArray → Bool} {l : List ByteArray} {i R : Nat} (h : i < l.length) (H : goneE U has (prevK id l i) (l.drop i) = R) (hn : isName U l[i] = true) (hb : badO (prevK id l i) l[i] = false) (hh : has l[i] = false) : goneE U has (prevK id l (i + 1)) (l.drop (i + 1)) = R := by
  rw [goneE_step U has l i h, hn, hb, hh] at H
  exact H
theorem bad_zero (l : List ByteArray) (x : ByteArray) : badO (prevK id l 0) x = false := rfl
theorem bad_lt {l : List ByteArray} {i : Nat} (h : i < l.length) {x : ByteArray} (hl : lt l[i] x) : badO (prevK id l (i + 1)) x = false := by
  rw [badO_later id l i h]
  simp [hl]

set_option maxRecDepth 100000 in
set_option maxHeartbeats 4000000 in
theorem checkGoneJob_is (gs : List ByteArray) (xs : List JobD) (ga ad : Option Addr) (gc cap : Nat) (hgl : gs.length ≤ 40) (hlen : xs.length ≤ 40) (hw : ∀ x ∈ xs, x.name.size ≤ maxLen) (hgw : ∀ x ∈ gs, x.size ≤ maxLen) (w : World) (hT : Tabs w) (hs : NmsAt w ga gs) (hx : JobsAt w ad xs) :
    Calls Tryz.prog 45 #[.slice ga gs.length gc, .slice ad xs.length cap, .func (.func 31) #[] #[]] w fun e w' => e = .returned (.int .i64 (goneE V8 (hasJob xs) none gs : Nat)) ∧ Below w.heap.size w w' := by
  obtain ⟨R, hR⟩ : ∃ R, goneE V8 (hasJob xs) none gs = R := ⟨_, rfl⟩
  rw [hR]
  have HR0 : Hid (goneE V8 (hasJob xs) (prevK id gs 0) (gs.drop 0) = R) := hR
  have HB := Lib.hid (byKeyJob_is xs ad cap hlen hw w hx)
  have HS := Lib.hid hs
  have HT := Lib.hid hT
  have HG := Lib.hid hgw
  clear hR hs hT hgw hx hw
  go_enter Tryz.func45, Tryz.ntmps45
  go_wp2_with fail
  refine HB.out.mono ?_
  rintro e w0 ⟨rfl, M0, b0⟩
  have MM := Lib.hid M0
  have BB := Lib.hid b0
  clear M0 b0 HB
  go_wp2
  go_loopw [17] (fun iv wr => ∃ (i : Nat), iv = .int .i64 (i : Int) ∧ i ≤ gs.length ∧ Below w.heap.size w wr ∧ MapAt wr w.heap.size xs.length (tabF (·.name) jobV xs) ∧ Hid (goneE V8 (hasJob xs) (prevK id gs i) (gs.drop i) = R)) (fun iv _ => gs.length - (intOf iv).toNat)
  case atStart => exact ⟨0, rfl, Nat.zero_le _, BB.out, MM.out, HR0⟩
  case round =>
    clear BB MM HR0
    obtain ⟨i, rfl, hi, hbr, hM, HR⟩ := hrel
    by_cases h : (i : Int) < (gs.length : Int)
    · have hil : i < gs.length := by omega
      obtain ⟨a, rfl, hal, k0⟩ := nmsAt_next HS.out hbr i hil
      obtain ⟨s, hsi⟩ : ∃ s, gs[i] = s := ⟨_, rfl⟩
      rw [hsi] at k0
      have hws : s.size ≤ maxLen := HG.out s (by rw [← hsi]; exact List.getElem_mem _)
      have HN := Lib.hid (isName_is s wr (HT.out.below hbr))
      have HM := Lib.hid hM
      have HBR := Lib.hid hbr
      have Hsi := Lib.hid hsi
      obtain ⟨c, hc⟩ : ∃ c, isName V8 s = c := ⟨_, rfl⟩
      rw [hc] at HN
      have Hc := Lib.hid hc
      clear hM hsi hc
      go_wp2_with fail
      refine HN.out.mono ?_
      rintro e w1 ⟨rfl, b1⟩
      have B1 := below_trans HBR.out b1 HBR.out.size
      have M1 := mapAt_below HM.out b1
      have s1 := B1.size
      clear HN HM
      cases c with
      | false =>
        have HE := Lib.hid (gone_name hil HR.out (by rw [Hsi.out]; exact Hc.out))
        clear M1
        go_wp2
        go_ret
        exact ⟨by rw [HE.out]; rfl, B1⟩
      | true =>
        obtain ⟨y, hy⟩ := tabF_pick (·.name) jobV xs s zeroJ
        obtain ⟨d, hd⟩ : ∃ d, hasJob xs s = d := ⟨_, rfl⟩
        have Y1 : Hid ((tabF (·.name) jobV xs s).isSome = d) := by show _ = _; rw [tabF_job]; exact hd
        have Z1 : Hid ((tabF (·.name) jobV xs s).getD (jobV zeroJ) = .agg #[.string y.name, .int .i64 y.prio, .int .i64 y.need, .int .i64 y.tries, .string y.tag]) := hy
        have Hd := Lib.hid hd
        have bA := below_one w1 (.cells #[.string y.name, .int .i64 y.prio, .int .i64 y.need, .int .i64 y.tries, .string y.tag] 41)
        have B2 := Lib.hid (below_trans B1 bA s1)
        have M2 := Lib.hid (mapAt_below M1 bA)
        clear hy hd bA
        by_cases hi0 : i = 0
        · subst hi0
          have HB0 := Lib.hid (bad_zero gs s)
          cases d with
          | true =>
            have HE := Lib.hid (gone_has hil HR.out (by rw [Hsi.out]; exact Hc.out) (by rw [Hsi.out]; exact HB0.out) (by rw [Hsi.out]; exact Hd.out))
            go_wp2_with (at_lookup; refine wpList_look_ok _ rfl _ _ 105 rfl 41 Tryz.underlying105 (zeroJob _) _ _ _ rfl M1 s rfl hws _ _ Z1.out Y1.out ?_)
            go_ret
            exact ⟨by rw [HE.out]; rfl, B2.out⟩
          | false =>
            have HE := Lib.hid (gone_on hil HR.out (by rw [Hsi.out]; exact Hc.out) (by rw [Hsi.out]; exact HB0.out) (by rw [Hsi.out]; exact Hd.out))
            go_wp2_with (at_lookup; refine wpList_look_ok _ rfl _ _ 105 rfl 41 Tryz.underlying105 (zeroJob _) _ _ _ rfl M1 s rfl hws _ _ Z1.out Y1.out ?_)
            go_roundw
            case rel => exact ⟨0 + 1, by simp, by omega, B2.out, M2.out, HE⟩
            case measure => simp [intOf]; omega
        · obtain ⟨m, rfl⟩ : ∃ m, i = m + 1 := ⟨i - 1, by omega⟩
          have hml : m < gs.length := by omega
          obtain ⟨a', ea, _, p0⟩ := nmsAt_next HS.out B1 m hml
          obtain rfl : a = a' := by simpa using ea
          have hal1 : a.block < w1.heap.size := by have := b1.size; omega
          obtain ⟨q, hq⟩ : ∃ q, gs[m] = q := ⟨_, rfl⟩
          rw [hq] at p0
          have Hq := Lib.hid hq
          have e1 : (m : Int) + 1 - 1 = (m : Int) := by omega
          clear hq ea
          by_cases hlt : lt q s
          · obtain ⟨l1, l2⟩ := above_lists hlt
            have HB0 := Lib.hid (bad_lt hml (x := s) (by rw [Hq.out]; exact hlt))
            clear hlt
            cases d with
            | true =>
              have HE := Lib.hid (gone_has hil HR.out (by rw [Hsi.out]; exact Hc.out) (by rw [Hsi.out]; exact HB0.out) (by rw [Hsi.out]; exact Hd.out))
              go_wp2_with (at_lookup; refine wpList_look_ok _ rfl _ _ 105 rfl 41 Tryz.underlying105 (zeroJob _) _ _ _ rfl M1 s rfl hws _ _ Z1.out Y1.out ?_)
              go_ret
              exact ⟨by rw [HE.out]; rfl, B2.out⟩
            | false =>
              have HE := Lib.hid (gone_on hil HR.out (by rw [Hsi.out]; exact Hc.out) (by rw [Hsi.out]; exact HB0.out) (by rw [Hsi.out]; exact Hd.out))
              go_wp2_with (at_lookup; refine wpList_look_ok _ rfl _ _ 105 rfl 41 Tryz.underlying105 (zeroJob _) _ _ _ rfl M1 s rfl hws _ _ Z1.out Y1.out ?_)
              go_roundw
              case rel => exact ⟨m + 1 + 1, by simp, by omega, B2.out, M2.out, HE⟩
              case measure => simp [intOf]; omega
          · have HE := Lib.hid (gone_bad hil HR.out (by rw [Hsi.out]; exact Hc.out) (by rw [Hq.out, Hsi.out]; exact hlt))
            rcases below_lists hlt with ⟨l1, l2⟩ | ⟨l1, l2⟩
            all_goals
              clear hlt M1
              go_wp2
              go_ret
              exact ⟨by rw [HE.out]; rfl, B1⟩
    · obtain rfl : i = gs.length := by omega
      have HE : Hid (0 = R) := by have := HR.out; rw [List.drop_length] at this; exact this
      clear hM
      go_wp2
      go_ret
      exact ⟨by rw [← HE.out]; rfl, hbr⟩

set_option maxRecDepth 100000 in
set_option maxHeartbeats 4000000 in
theorem checkGoneNode_is (gs : List ByteArray) (xs : List NodeD) (ga ad : Option Addr) (gc cap : Nat) (hgl : gs.length ≤ 40) (hlen : xs.length ≤ 40) (hw : ∀ x ∈ xs, x.name.size ≤ maxLen) (hgw : ∀ x ∈ gs, x.size ≤ maxLen) (w : World) (hT : Tabs w) (hs : NmsAt w ga gs) (hx : NodesAt w ad xs) :
    Calls Tryz.prog 46 #[.slice ga gs.length gc, .slice ad xs.length cap, .func (.func 33) #[] #[]] w fun e w' => e = .returned (.int .i64 (goneE V8 (hasNode xs) none gs : Nat)) ∧ Below w.heap.size w w' := by
  obtain ⟨R, hR⟩ : ∃ R, goneE V8 (hasNode xs) none gs = R := ⟨_, rfl⟩
  rw [hR]
  have HR0 : Hid (goneE V8 (hasNode xs) (prevK id gs 0) (gs.drop 0) = R) := hR
  have HB := Lib.hid (byKeyNode_is xs ad cap hlen hw w hx)
  have HS := Lib.hid hs
  have HT := Lib.hid hT
  have HG := Lib.hid hgw
  clear hR hs hT hgw hx hw
  go_enter Tryz.func46, Tryz.ntmps46
  go_wp2_with fail
  refine HB.out.mono ?_
  rintro e w0 ⟨rfl, M0, b0⟩
  have MM := Lib.hid M0
  have BB := Lib.hid b0
  clear M0 b0 HB
  go_wp2
  go_loopw [17] (fun iv wr => ∃ (i : Nat), iv = .int .i64 (i : Int) ∧ i ≤ gs.length ∧ Below w.heap.size w wr ∧ MapAt wr w.heap.size xs.length (tabF (·.name) nodeV xs) ∧ Hid (goneE V8 (hasNode xs) (prevK id gs i) (gs.drop i) = R)) (fun iv _ => gs.length - (intOf iv).toNat)
  case atStart => exact ⟨0, rfl, Nat.zero_le _, BB.out, MM.out, HR0⟩
  case round =>
    clear BB MM HR0
    obtain ⟨i, rfl, hi, hbr, hM, HR⟩ := hrel
    by_cases h : (i : Int) < (gs.length : Int)
    · have hil : i < gs.length := by omega
      obtain ⟨a, rfl, hal, k0⟩ := nmsAt_next HS.out hbr i hil
      obtain ⟨s, hsi⟩ : ∃ s, gs[i] = s := ⟨_, rfl⟩
      rw [hsi] at k0
      have hws : s.size ≤ maxLen := HG.out s (by rw [← hsi]; exact List.getElem_mem _)
      have HN := Lib.hid (isName_is s wr (HT.out.below hbr))
      have HM := Lib.hid hM
      have HBR := Lib.hid hbr
      have Hsi := Lib.hid hsi
      obtain ⟨c, hc⟩ : ∃ c, isName V8 s = c := ⟨_, rfl⟩
      rw [hc] at HN
      have Hc := Lib.hid hc
      clear hM hsi hc
      go_wp2_with fail
      refine HN.out.mono ?_
      rintro e w1 ⟨rfl, b1⟩
      have B1 := below_trans HBR.out b1 HBR.out.size
      have M1 := mapAt_below HM.out b1
      have s1 := B1.size
      clear HN HM
      cases c with
      | false =>
        have HE := Lib.hid (gone_name hil HR.out (by rw [Hsi.out]; exact Hc.out))
        clear M1
        go_wp2
        go_ret
        exact ⟨by rw [HE.out]; rfl, B1⟩
      | true =>
        obtain ⟨y, hy⟩ := tabF_pick (·.name) nodeV xs s zeroN
        obtain ⟨d, hd⟩ : ∃ d, hasNode xs s = d := ⟨_, rfl⟩
        have Y1 : Hid ((tabF (·.name) nodeV xs s).isSome = d) := by show _ = _; rw [tabF_node]; exact hd
        have Z1 : Hid ((tabF (·.name) nodeV xs s).getD (nodeV zeroN) = .agg #[.string y.name, .int .i64 y.room, .string y.zone]) := hy
        have Hd := Lib.hid hd
        have bA := below_one w1 (.cells #[.string y.name, .int .i64 y.room, .string y.zone] 44)
        have B2 := Lib.hid (below_trans B1 bA s1)
        have M2 := Lib.hid (mapAt_below M1 bA)
        clear hy hd bA
        by_cases hi0 : i = 0
        · subst hi0
          have HB0 := Lib.hid (bad_zero gs s)
          cases d with
          | true =>
            have HE := Lib.hid (gone_has hil HR.out (by rw [Hsi.out]; exact Hc.out) (by rw [Hsi.out]; exact HB0.out) (by rw [Hsi.out]; exact Hd.out))
            go_wp2_with (at_lookup; refine wpList_look_ok _ rfl _ _ 106 rfl 44 Tryz.underlying106 (zeroNode _) _ _ _ rfl M1 s rfl hws _ _ Z1.out Y1.out ?_)
            go_ret
            exact ⟨by rw [HE.out]; rfl, B2.out⟩
          | false =>
            have HE := Lib.hid (gone_on hil HR.out (by rw [Hsi.out]; exact Hc.out) (by rw [Hsi.out]; exact HB0.out) (by rw [Hsi.out]; exact Hd.out))
            go_wp2_with (at_lookup; refine wpList_look_ok _ rfl _ _ 106 rfl 44 Tryz.underlying106 (zeroNode _) _ _ _ rfl M1 s rfl hws _ _ Z1.out Y1.out ?_)
            go_roundw
            case rel => exact ⟨0 + 1, by simp, by omega, B2.out, M2.out, HE⟩
            case measure => simp [intOf]; omega
        · obtain ⟨m, rfl⟩ : ∃ m, i = m + 1 := ⟨i - 1, by omega⟩
          have hml : m < gs.length := by omega
          obtain ⟨a', ea, _, p0⟩ := nmsAt_next HS.out B1 m hml
          obtain rfl : a = a' := by simpa using ea
          have hal1 : a.block < w1.heap.size := by have := b1.size; omega
          obtain ⟨q, hq⟩ : ∃ q, gs[m] = q := ⟨_, rfl⟩
          rw [hq] at p0
          have Hq := Lib.hid hq
          have e1 : (m : Int) + 1 - 1 = (m : Int) := by omega
          clear hq ea
          by_cases hlt : lt q s
          · obtain ⟨l1, l2⟩ := above_lists hlt
            have HB0 := Lib.hid (bad_lt hml (x := s) (by rw [Hq.out]; exact hlt))
            clear hlt
            cases d with
            | true =>
              have HE := Lib.hid (gone_has hil HR.out (by rw [Hsi.out]; exact Hc.out) (by rw [Hsi.out]; exact HB0.out) (by rw [Hsi.out]; exact Hd.out))
              go_wp2_with (at_lookup; refine wpList_look_ok _ rfl _ _ 106 rfl 44 Tryz.underlying106 (zeroNode _) _ _ _ rfl M1 s rfl hws _ _ Z1.out Y1.out ?_)
              go_ret
              exact ⟨by rw [HE.out]; rfl, B2.out⟩
            | false =>
              have HE := Lib.hid (gone_on hil HR.out (by rw [Hsi.out]; exact Hc.out) (by rw [Hsi.out]; exact HB0.out) (by rw [Hsi.out]; exact Hd.out))
              go_wp2_with (at_lookup; refine wpList_look_ok _ rfl _ _ 106 rfl 44 Tryz.underlying106 (zeroNode _) _ _ _ rfl M1 s rfl hws _ _ Z1.out Y1.out ?_)
              go_roundw
              case rel => exact ⟨m + 1 + 1, by simp, by omega, B2.out, M2.out, HE⟩
              case measure => simp [intOf]; omega
          · have HE := Lib.hid (gone_bad hil HR.out (by rw [Hsi.out]; exact Hc.out) (by rw [Hq.out, Hsi.out]; exact hlt))
            rcases below_lists hlt with ⟨l1, l2⟩ | ⟨l1, l2⟩
            all_goals
              clear hlt M1
              go_wp2
              go_ret
              exact ⟨by rw [HE.out]; rfl, B1⟩
    · obtain rfl : i = gs.length := by omega
      have HE : Hid (0 = R) := by have := HR.out; rw [List.drop_length] at this; exact this
      clear hM
      go_wp2
      go_ret
      exact ⟨by rw [← HE.out]; rfl, hbr⟩

set_option maxRecDepth 100000 in
set_option maxHeartbeats 4000000 in
theorem checkGoneLease_is (gs : List ByteArray) (xs : List LeaseD) (ga ad : Option Addr) (gc cap : Nat) (hgl : gs.length ≤ 40) (hlen : xs.length ≤ 40) (hw : ∀ x ∈ xs, x.job.size ≤ maxLen) (hgw : ∀ x ∈ gs, x.size ≤ maxLen) (w : World) (hT : Tabs w) (hs : NmsAt w ga gs) (hx : LeasesAt w ad xs) :
    Calls Tryz.prog 47 #[.slice ga gs.length gc, .slice ad xs.length cap, .func (.func 35) #[] #[]] w fun e w' => e = .returned (.int .i64 (goneE V8 (hasLease xs) none gs : Nat)) ∧ Below w.heap.size w w' := by
  obtain ⟨R, hR⟩ : ∃ R, goneE V8 (hasLease xs) none gs = R := ⟨_, rfl⟩
  rw [hR]
  have HR0 : Hid (goneE V8 (hasLease xs) (prevK id gs 0) (gs.drop 0) = R) := hR
  have HB := Lib.hid (byKeyLease_is xs ad cap hlen hw w hx)
  have HS := Lib.hid hs
  have HT := Lib.hid hT
  have HG := Lib.hid hgw
  clear hR hs hT hgw hx hw
  go_enter Tryz.func47, Tryz.ntmps47
  go_wp2_with fail
  refine HB.out.mono ?_
  rintro e w0 ⟨rfl, M0, b0⟩
  have MM := Lib.hid M0
  have BB := Lib.hid b0
  clear M0 b0 HB
  go_wp2
  go_loopw [17] (fun iv wr => ∃ (i : Nat), iv = .int .i64 (i : Int) ∧ i ≤ gs.length ∧ Below w.heap.size w wr ∧ MapAt wr w.heap.size xs.length (tabF (·.job) leaseV xs) ∧ Hid (goneE V8 (hasLease xs) (prevK id gs i) (gs.drop i) = R)) (fun iv _ => gs.length - (intOf iv).toNat)
  case atStart => exact ⟨0, rfl, Nat.zero_le _, BB.out, MM.out, HR0⟩
  case round =>
    clear BB MM HR0
    obtain ⟨i, rfl, hi, hbr, hM, HR⟩ := hrel
    by_cases h : (i : Int) < (gs.length : Int)
    · have hil : i < gs.length := by omega
      obtain ⟨a, rfl, hal, k0⟩ := nmsAt_next HS.out hbr i hil
      obtain ⟨s, hsi⟩ : ∃ s, gs[i] = s := ⟨_, rfl⟩
      rw [hsi] at k0
      have hws : s.size ≤ maxLen := HG.out s (by rw [← hsi]; exact List.getElem_mem _)
      have HN := Lib.hid (isName_is s wr (HT.out.below hbr))
      have HM := Lib.hid hM
      have HBR := Lib.hid hbr
      have Hsi := Lib.hid hsi
      obtain ⟨c, hc⟩ : ∃ c, isName V8 s = c := ⟨_, rfl⟩
      rw [hc] at HN
      have Hc := Lib.hid hc
      clear hM hsi hc
      go_wp2_with fail
      refine HN.out.mono ?_
      rintro e w1 ⟨rfl, b1⟩
      have B1 := below_trans HBR.out b1 HBR.out.size
      have M1 := mapAt_below HM.out b1
      have s1 := B1.size
      clear HN HM
      cases c with
      | false =>
        have HE := Lib.hid (gone_name hil HR.out (by rw [Hsi.out]; exact Hc.out))
        clear M1
        go_wp2
        go_ret
        exact ⟨by rw [HE.out]; rfl, B1⟩
      | true =>
        obtain ⟨y, hy⟩ := tabF_pick (·.job) leaseV xs s zeroL
        obtain ⟨d, hd⟩ : ∃ d, hasLease xs s = d := ⟨_, rfl⟩
        have Y1 : Hid ((tabF (·.job) leaseV xs s).isSome = d) := by show _ = _; rw [tabF_lease]; exact hd
        have Z1 : Hid ((tabF (·.job) leaseV xs s).getD (leaseV zeroL) = .agg #[.string y.job, .string y.node, .int .i64 y.til]) := hy
        have Hd := Lib.hid hd
        have bA := below_one w1 (.cells #[.string y.job, .string y.node, .int .i64 y.til] 47)
        have B2 := Lib.hid (below_trans B1 bA s1)
        have M2 := Lib.hid (mapAt_below M1 bA)
        clear hy hd bA
        by_cases hi0 : i = 0
        · subst hi0
          have HB0 := Lib.hid (bad_zero gs s)
          cases d with
          | true =>
            have HE := Lib.hid (gone_has hil HR.out (by rw [Hsi.out]; exact Hc.out) (by rw [Hsi.out]; exact HB0.out) (by rw [Hsi.out]; exact Hd.out))
            go_wp2_with (at_lookup; refine wpList_look_ok _ rfl _ _ 128 rfl 47 Tryz.underlying128 (zeroLease _) _ _ _ rfl M1 s rfl hws _ _ Z1.out Y1.out ?_)
            go_ret
            exact ⟨by rw [HE.out]; rfl, B2.out⟩
          | false =>
            have HE := Lib.hid (gone_on hil HR.out (by rw [Hsi.out]; exact Hc.out) (by rw [Hsi.out]; exact HB0.out) (by rw [Hsi.out]; exact Hd.out))
            go_wp2_with (at_lookup; refine wpList_look_ok _ rfl _ _ 128 rfl 47 Tryz.underlying128 (zeroLease _) _ _ _ rfl M1 s rfl hws _ _ Z1.out Y1.out ?_)
            go_roundw
            case rel => exact ⟨0 + 1, by simp, by omega, B2.out, M2.out, HE⟩
            case measure => simp [intOf]; omega
        · obtain ⟨m, rfl⟩ : ∃ m, i = m + 1 := ⟨i - 1, by omega⟩
          have hml : m < gs.length := by omega
          obtain ⟨a', ea, _, p0⟩ := nmsAt_next HS.out B1 m hml
          obtain rfl : a = a' := by simpa using ea
          have hal1 : a.block < w1.heap.size := by have := b1.size; omega
          obtain ⟨q, hq⟩ : ∃ q, gs[m] = q := ⟨_, rfl⟩
          rw [hq] at p0
          have Hq := Lib.hid hq
          have e1 : (m : Int) + 1 - 1 = (m : Int) := by omega
          clear hq ea
          by_cases hlt : lt q s
          · obtain ⟨l1, l2⟩ := above_lists hlt
            have HB0 := Lib.hid (bad_lt hml (x := s) (by rw [Hq.out]; exact hlt))
            clear hlt
            cases d with
            | true =>
              have HE := Lib.hid (gone_has hil HR.out (by rw [Hsi.out]; exact Hc.out) (by rw [Hsi.out]; exact HB0.out) (by rw [Hsi.out]; exact Hd.out))
              go_wp2_with (at_lookup; refine wpList_look_ok _ rfl _ _ 128 rfl 47 Tryz.underlying128 (zeroLease _) _ _ _ rfl M1 s rfl hws _ _ Z1.out Y1.out ?_)
              go_ret
              exact ⟨by rw [HE.out]; rfl, B2.out⟩
            | false =>
              have HE := Lib.hid (gone_on hil HR.out (by rw [Hsi.out]; exact Hc.out) (by rw [Hsi.out]; exact HB0.out) (by rw [Hsi.out]; exact Hd.out))
              go_wp2_with (at_lookup; refine wpList_look_ok _ rfl _ _ 128 rfl 47 Tryz.underlying128 (zeroLease _) _ _ _ rfl M1 s rfl hws _ _ Z1.out Y1.out ?_)
              go_roundw
              case rel => exact ⟨m + 1 + 1, by simp, by omega, B2.out, M2.out, HE⟩
              case measure => simp [intOf]; omega
          · have HE := Lib.hid (gone_bad hil HR.out (by rw [Hsi.out]; exact Hc.out) (by rw [Hq.out, Hsi.out]; exact hlt))
            rcases below_lists hlt with ⟨l1, l2⟩ | ⟨l1, l2⟩
            all_goals
              clear hlt M1
              go_wp2
              go_ret
              exact ⟨by rw [HE.out]; rfl, B1⟩
    · obtain rfl : i = gs.length := by omega
      have HE : Hid (0 = R) := by have := HR.out; rw [List.drop_length] at this; exact this
      clear hM
      go_wp2
      go_ret
      exact ⟨by rw [← HE.out]; rfl, hbr⟩
end Go.Proofs.YtfbakobmlbjncaaGreatDoor
