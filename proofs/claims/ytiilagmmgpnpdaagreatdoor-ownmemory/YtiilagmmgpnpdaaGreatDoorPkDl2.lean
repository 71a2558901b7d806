import Derived.Test.YtiilagmmgpnpdaaGreatDoorPkDl1
import Derived.Test.YtiilagmmgpnpdaaGreatDoorPkSt1
import Derived.Test.YtiilagmmgpnpdaaGreatDoorPkSt2
import Derived.Test.YtiilagmmgpnpdaaGreatDoorPkWi2
import Derived.Deep.RegionLaw
import Derived.Deep.RegionHeld3
/- Package delta: tables of rows by their keys, and names that are gone. -/
namespace Go.Proofs.YtiilagmmgpnpdaaGreatDoor
open Go.RowKit

theorem below_drawn {w w1 : World} (b1 : Below w.drew.heap.size w.drew w1) : Below w.heap.size w w1 := (Below.refl w.heap.size w).drew.trans b1
theorem put_run {w : World} {b n : Nat} {f : ByteArray → Option Value} {t e : TypeId} (ht : Tryz.prog.underlying t = some (.map 9 e)) (hown : MapAt w b n f) (hn : n < maxLen) (s : ByteArray) (hs : s.size ≤ maxLen) (u : Value) :
    ∃ w', (Instr.mapUpdate t (.map (some b)) (.string s) u).run Tryz.prog w = .ok () w' ∧ MapAt w' b (n + 1) (putF f s u) ∧ w.grownBy w' (some b) := by
  obtain ⟨D, h1, h2⟩ := hown
  obtain ⟨w', hrun, r1, r2⟩ := h1.update strKeyed ht hn (strKey hs) (d := .held u) (ps := []) rfl
  exact ⟨w', hrun, ⟨_, r1, putF_at h1.isMap h2 s u⟩, r2⟩
theorem goneE_step (U : ByteArray → Bool) (has : ByteArray → Bool) (l : List ByteArray) (i : Nat) (h : i < l.length) :
    goneE U has (prevK id l i) (l.drop i) = if isName U l[i] then (if badO (prevK id l i) l[i] then 8 else if has l[i] then 7 else goneE U has (prevK id l (i + 1)) (l.drop (i + 1))) else 4 := by
  rw [List.drop_eq_getElem_cons h, goneE, prevK_succ id l i h]
  rfl
theorem jobKey_is (x : JobD) (w : World) : Calls Tryz.prog 49 #[.agg #[.string x.name, .int .i64 x.prio, .int .i64 x.need, .int .i64 x.tries, .string x.tag]] w fun e w' => e = .returned (.string x.name) ∧ Below w.heap.size w w' := jobName_is x w
theorem nodeKey_is (x : NodeD) (w : World) : Calls Tryz.prog 51 #[.agg #[.string x.name, .int .i64 x.room, .string x.zone]] w fun e w' => e = .returned (.string x.name) ∧ Below w.heap.size w w' := nodeName_is x w
theorem leaseKey_is (x : LeaseD) (w : World) : Calls Tryz.prog 53 #[.agg #[.string x.job, .string x.node, .int .i64 x.til]] w fun e w' => e = .returned (.string x.job) ∧ Below w.heap.size w w' := leaseJob_is x w

set_option maxRecDepth 100000 in
set_option maxHeartbeats 4000000 in
theorem byKeyJob_is (xs : List JobD) (ad : Option Addr) (cap : Nat) (hlen : xs.length ≤ 40) (hw : ∀ x ∈ xs, x.name.size ≤ maxLen) (w : World) (hx : JobsAt w ad xs) :
    Calls Tryz.prog 96 #[.slice ad xs.length cap, .func (.func 49) #[] #[]] w fun e w' => e = .returned (.map (some w.heap.size)) ∧ MapAt w' w.heap.size xs.length (tabF (·.name) jobV xs) ∧ Below w.heap.size w w' := by
  have hmm := @run_makeMap Tryz.prog
  have HX := Lib.hid hx
  have HW := Lib.hid hw
  clear hx hw
  go_enter Tryz.func96, Tryz.ntmps96
  go_wp2
  clear hmm
  go_loopw [11] (fun iv wr => ∃ (i : Nat), iv = .int .i64 (i : Int) ∧ i ≤ xs.length ∧ Below w.heap.size w wr ∧ MapAt wr w.heap.size i (tabF (·.name) jobV (xs.take i))) (fun iv _ => xs.length - (intOf iv).toNat)
  case atStart => exact ⟨0, rfl, Nat.zero_le _, below_one _ _, mapAt_ext (mapAt_made w) (fun s => rfl)⟩
  case round =>
    obtain ⟨i, rfl, hi, hbr, hM⟩ := hrel
    by_cases h : (i : Int) < (xs.length : Int)
    · have hil : i < xs.length := by omega
      obtain ⟨a, rfl, hal, k0, k1, k2, k3, k4⟩ := jobsAt_next HX.out hbr i hil
      obtain ⟨x, hxi⟩ : ∃ x, xs[i] = x := ⟨_, rfl⟩
      rw [hxi] at k0 k1 k2 k3 k4
      have hwx : x.name.size ≤ maxLen := HW.out x (by rw [← hxi]; exact List.getElem_mem _)
      have Hxi := Lib.hid hxi
      have bA := below_one wr (.cells #[.string x.name, .int .i64 x.prio, .int .i64 x.need, .int .i64 x.tries, .string x.tag] 38)
      have oB := objAt_new wr #[.string x.name, .int .i64 x.prio, .int .i64 x.need, .int .i64 x.tries, .string x.tag] 38
      have M0 := Lib.hid (mapAt_below hM bA)
      have BR := Lib.hid (below_trans hbr bA hbr.size)
      have OB := Lib.hid oB
      have hbs := hbr.size
      have c0 := objAt_cell oB 0 rfl
      have c1 := objAt_cell oB 1 rfl
      have c2 := objAt_cell oB 2 rfl
      have c3 := objAt_cell oB 3 rfl
      have c4 := objAt_cell oB 4 rfl
      have cl := objAt_lt oB
      clear hxi oB bA hM
      go_upto_region 5 with fail
      go_region_law (first
        | (go_simp; go_at_call 49; refine (jobKey_is x _).mono ?_; rintro e w1 ⟨rfl, b1'⟩; have b1 := below_drawn b1'; have B1 := Lib.hid (below_trans BR.out b1 BR.out.size); have O1 := objAt_next OB.out b1; have M1 := mapAt_below M0.out b1; have d0 := objAt_cell O1 0 rfl; have d1 := objAt_cell O1 1 rfl; have d2 := objAt_cell O1 2 rfl; have d3 := objAt_cell O1 3 rfl; have d4 := objAt_cell O1 4 rfl; have dl := objAt_lt O1; obtain ⟨w2, hrun, M2', hg2'⟩ := put_run Tryz.underlying103 M1 (by unfold maxLen; omega) x.name hwx (.agg #[.string x.name, .int .i64 x.prio, .int .i64 x.need, .int .i64 x.tries, .string x.tag]); have M2 := Lib.hid M2'; have hg2 := Lib.hid hg2'; clear O1 M2' hg2'))
      all_goals
        have hb2 := grownB_below B1.out hg2.out B1.out.size (Nat.le_refl _)
        have M3 : MapAt w2 w.heap.size (i + 1) (tabF (·.name) jobV (xs.take (i + 1))) := mapAt_ext M2.out (fun s => by have := tabF_step (·.name) jobV xs i hil s; rw [Hxi.out] at this; exact this)
        clear M2 hg2 M1 B1 M0 BR OB hrun
        go_wp2
        go_roundw
        case rel => exact ⟨i + 1, by simp, by omega, hb2, M3⟩
        case measure => simp [intOf]; omega
    · obtain rfl : i = xs.length := by omega
      rw [List.take_length] at hM
      go_wp2
      go_ret
      exact ⟨rfl, hM, hbr⟩

set_option maxRecDepth 100000 in
set_option maxHeartbeats 4000000 in
theorem byKeyNode_is (xs : List NodeD) (ad : Option Addr) (cap : Nat) (hlen : xs.length ≤ 40) (hw : ∀ x ∈ xs, x.name.size ≤ maxLen) (w : World) (hx : NodesAt w ad xs) :
    Calls Tryz.prog 98 #[.slice ad xs.length cap, .func (.func 51) #[] #[]] w fun e w' => e = .returned (.map (some w.heap.size)) ∧ MapAt w' w.heap.size xs.length (tabF (·.name) nodeV xs) ∧ Below w.heap.size w w' := by
  have hmm := @run_makeMap Tryz.prog
  have HX := Lib.hid hx
  have HW := Lib.hid hw
  clear hx hw
  go_enter Tryz.func98, Tryz.ntmps98
  go_wp2
  clear hmm
  go_loopw [11] (fun iv wr => ∃ (i : Nat), iv = .int .i64 (i : Int) ∧ i ≤ xs.length ∧ Below w.heap.size w wr ∧ MapAt wr w.heap.size i (tabF (·.name) nodeV (xs.take i))) (fun iv _ => xs.length - (intOf iv).toNat)
  case atStart => exact ⟨0, rfl, Nat.zero_le _, below_one _ _, mapAt_ext (mapAt_made w) (fun s => rfl)⟩
  case round =>
    obtain ⟨i, rfl, hi, hbr, hM⟩ := hrel
    by_cases h : (i : Int) < (xs.length : Int)
    · have hil : i < xs.length := by omega
      obtain ⟨a, rfl, hal, k0, k1, k2⟩ := nodesAt_next HX.out hbr i hil
      obtain ⟨x, hxi⟩ : ∃ x, xs[i] = x := ⟨_, rfl⟩
      rw [hxi] at k0 k1 k2
      have hwx : x.name.size ≤ maxLen := HW.out x (by rw [← hxi]; exact List.getElem_mem _)
      have Hxi := Lib.hid hxi
      have bA := below_one wr (.cells #[.string x.name, .int .i64 x.room, .string x.zone] 40)
      have oB := objAt_new wr #[.string x.name, .int .i64 x.room, .string x.zone] 40
      have M0 := Lib.hid (mapAt_below hM bA)
      have BR := Lib.hid (below_trans hbr bA hbr.size)
      have OB := Lib.hid oB
      have hbs := hbr.size
      have c0 := objAt_cell oB 0 rfl
      have c1 := objAt_cell oB 1 rfl
      have c2 := objAt_cell oB 2 rfl
      have cl := objAt_lt oB
      clear hxi oB bA hM
      go_upto_region 5 with fail
      go_region_law (first
        | (go_simp; go_at_call 51; refine (nodeKey_is x _).mono ?_; rintro e w1 ⟨rfl, b1'⟩; have b1 := below_drawn b1'; have B1 := Lib.hid (below_trans BR.out b1 BR.out.size); have O1 := objAt_next OB.out b1; have M1 := mapAt_below M0.out b1; have d0 := objAt_cell O1 0 rfl; have d1 := objAt_cell O1 1 rfl; have d2 := objAt_cell O1 2 rfl; have dl := objAt_lt O1; obtain ⟨w2, hrun, M2', hg2'⟩ := put_run Tryz.underlying104 M1 (by unfold maxLen; omega) x.name hwx (.agg #[.string x.name, .int .i64 x.room, .string x.zone]); have M2 := Lib.hid M2'; have hg2 := Lib.hid hg2'; clear O1 M2' hg2'))
      all_goals
        have hb2 := grownB_below B1.out hg2.out B1.out.size (Nat.le_refl _)
        have M3 : MapAt w2 w.heap.size (i + 1) (tabF (·.name) nodeV (xs.take (i + 1))) := mapAt_ext M2.out (fun s => by have := tabF_step (·.name) nodeV xs i hil s; rw [Hxi.out] at this; exact this)
        clear M2 hg2 M1 B1 M0 BR OB hrun
        go_wp2
        go_roundw
        case rel => exact ⟨i + 1, by simp, by omega, hb2, M3⟩
        case measure => simp [intOf]; omega
    · obtain rfl : i = xs.length := by omega
      rw [List.take_length] at hM
      go_wp2
      go_ret
      exact ⟨rfl, hM, hbr⟩

set_option maxRecDepth 100000 in
set_option maxHeartbeats 4000000 in
theorem byKeyLease_is (xs : List LeaseD) (ad : Option Addr) (cap : Nat) (hlen : xs.length ≤ 40) (hw : ∀ x ∈ xs, x.job.size ≤ maxLen) (w : World) (hx : LeasesAt w ad xs) :
    Calls Tryz.prog 100 #[.slice ad xs.length cap, .func (.func 53) #[] #[]] w fun e w' => e = .returned (.map (some w.heap.size)) ∧ MapAt w' w.heap.size xs.length (tabF (·.job) leaseV xs) ∧ Below w.heap.size w w' := by
  have hmm := @run_makeMap Tryz.prog
  have HX := Lib.hid hx
  have HW := Lib.hid hw
  clear hx hw
  go_enter Tryz.func100, Tryz.ntmps100
  go_wp2
  clear hmm
  go_loopw [11] (fun iv wr => ∃ (i : Nat), iv = .int .i64 (i : Int) ∧ i ≤ xs.length ∧ Below w.heap.size w wr ∧ MapAt wr w.heap.size i (tabF (·.job) leaseV (xs.take i))) (fun iv _ => xs.length - (intOf iv).toNat)
  case atStart => exact ⟨0, rfl, Nat.zero_le _, below_one _ _, mapAt_ext (mapAt_made w) (fun s => rfl)⟩
  case round =>
    obtain ⟨i, rfl, hi, hbr, hM⟩ := hrel
    by_cases h : (i : Int) < (xs.length : Int)
    · have hil : i < xs.length := by omega
      obtain ⟨a, rfl, hal, k0, k1, k2⟩ := leasesAt_next HX.out hbr i hil
      obtain ⟨x, hxi⟩ : ∃ x, xs[i] = x := ⟨_, rfl⟩
      rw [hxi] at k0 k1 k2
      have hwx : x.job.size ≤ maxLen := HW.out x (by rw [← hxi]; exact List.getElem_mem _)
      have Hxi := Lib.hid hxi
      have bA := below_one wr (.cells #[.string x.job, .string x.node, .int .i64 x.til] 42)
      have oB := objAt_new wr #[.string x.job, .string x.node, .int .i64 x.til] 42
      have M0 := Lib.hid (mapAt_below hM bA)
      have BR := Lib.hid (below_trans hbr bA hbr.size)
      have OB := Lib.hid oB
      have hbs := hbr.size
      have c0 := objAt_cell oB 0 rfl
      have c1 := objAt_cell oB 1 rfl
      have c2 := objAt_cell oB 2 rfl
      have cl := objAt_lt oB
      clear hxi oB bA hM
      go_upto_region 5 with fail
      go_region_law (first
        | (go_simp; go_at_call 53; refine (leaseKey_is x _).mono ?_; rintro e w1 ⟨rfl, b1'⟩; have b1 := below_drawn b1'; have B1 := Lib.hid (below_trans BR.out b1 BR.out.size); have O1 := objAt_next OB.out b1; have M1 := mapAt_below M0.out b1; have d0 := objAt_cell O1 0 rfl; have d1 := objAt_cell O1 1 rfl; have d2 := objAt_cell O1 2 rfl; have dl := objAt_lt O1; obtain ⟨w2, hrun, M2', hg2'⟩ := put_run Tryz.underlying141 M1 (by unfold maxLen; omega) x.job hwx (.agg #[.string x.job, .string x.node, .int .i64 x.til]); have M2 := Lib.hid M2'; have hg2 := Lib.hid hg2'; clear O1 M2' hg2'))
      all_goals
        have hb2 := grownB_below B1.out hg2.out B1.out.size (Nat.le_refl _)
        have M3 : MapAt w2 w.heap.size (i + 1) (tabF (·.job) leaseV (xs.take (i + 1))) := mapAt_ext M2.out (fun s => by have := tabF_step (·.job) leaseV xs i hil s; rw [Hxi.out] at this; exact this)
        clear M2 hg2 M1 B1 M0 BR OB hrun
        go_wp2
        go_roundw
        case rel => exact ⟨i + 1, by simp, by omega, hb2, M3⟩
        case measure => simp [intOf]; omega
    · obtain rfl : i = xs.length := by omega
      rw [List.take_length] at hM
      go_wp2
      go_ret
      exact ⟨rfl, hM, hbr⟩
end Go.Proofs.YtiilagmmgpnpdaaGreatDoor

/- Package delta: names that are gone. -/
namespace Go.Proofs.YtiilagmmgpnpdaaGreatDoor
open Go.RowKit

def zeroL : LeaseD := ⟨⟨#[]⟩, ⟨#[]⟩, 0⟩
theorem zeroLease (w : World) : (zeroValue 42).run Tryz.prog w = .ok (leaseV zeroL) w := by kernel_rfl
theorem tabF_lease (V : LeaseD → Value) (l : List LeaseD) (s : ByteArray) : (tabF (·.job) V l s).isSome = hasLease l s := by
  unfold tabF hasLease; rw [Option.isSome_map]; exact lastD_isSome _ _ _
theorem tabF_pick {α : Type} (key : α → ByteArray) (V : α → Value) (l : List α) (s : ByteArray) (z : α) : ∃ y, (tabF key V l s).getD (V z) = V y := by
  unfold tabF
  cases lastD key l s with
  | none => exact ⟨z, rfl⟩
  | some y => exact ⟨y, rfl⟩
theorem gone_name {U has : ByteArray → Bool} {l : List ByteArray} {i R : Nat} (h : i < l.length) (H : goneE U has (prevK id l i) (l.drop i) = R) (hn : isName U l[i] = false) : R = 4 := by
  rw [goneE_step U has l i h, hn] at H
  exact H.symm
theorem gone_bad {U has : ByteArray → Bool} {l : List ByteArray} {i R : Nat} (h : i + 1 < l.length) (H : goneE U has (prevK id l (i + 1)) (l.drop (i + 1)) = R) (hn : isName U l[i + 1] = true) (hb : ¬ lt l[i] l[i + 1]) : R = 8 := by
  rw [goneE_step U has l (i + 1) h, hn, badO_later id l i (by omega)] at H
  simp only [id_eq, hb, decide_false, Bool.not_false, if_true] at H
  exact H.symm
theorem gone_has {U has : ByteArray → Bool} {l : List ByteArray} {i R : Nat} (h : i < l.length) (H : goneE U has (prevK id l i) (l.drop i) = R) (hn : isName U l[i] = true) (hb : badO (prevK id l i) l[i] = false) (hh : has l[i] = true) : R = 7 := by
  rw [goneE_step U has l i h, hn, hb, hh] at H
  exact H.symm
theorem gone_on {U has : ByteArray → Bool} {l : List ByteArray} {i R : Nat} (h : i < l.length) (H : goneE U has (prevK id l i) (l.drop i) = R) (hn : isName U l[i] = true) (hb : badO (prevK id l i) l[i] = false) (hh : has l[i] = false) : goneE U has (prevK id l (i + 1)) (l.drop (i + 1)) = R := by
  rw [goneE_step U has l i h, hn, hb, hh] at H
  exact H
theorem bad_zero (l : List ByteArray) (x : ByteArray) : badO (prevK id l 0) x = false := rfl
theorem bad_lt {l : List ByteArray} {i : Nat} (h : i < l.length) {x : ByteArray} (hl : lt l[i] x) : badO (prevK id l (i + 1)) x = false := by
  rw [badO_later id l i h]
  simp [hl]

set_option maxRecDepth 100000 in
set_option maxHeartbeats 4000000 in
theorem checkGoneJob_is (gs : List ByteArray) (xs : List JobD) (ga ad : Option Addr) (gc cap : Nat) (hgl : gs.length ≤ 40) (hlen : xs.length ≤ 40) (hw : ∀ x ∈ xs, x.name.size ≤ maxLen) (hgw : ∀ x ∈ gs, x.size ≤ maxLen) (w : World) (hT : Tabs w) (hs : NmsAt w ga gs) (hx : JobsAt w ad xs) :
    Calls Tryz.prog 93 #[.slice ga gs.length gc, .slice ad xs.length cap, .func (.func 49) #[] #[]] w fun e w' => e = .returned (.int .i64 (goneE V8 (hasJob xs) none gs : Nat)) ∧ Below w.heap.size w w' := by
  obtain ⟨R, hR⟩ : ∃ R, goneE V8 (hasJob xs) none gs = R := ⟨_, rfl⟩
  rw [hR]
  have HR0 : Hid (goneE V8 (hasJob xs) (prevK id gs 0) (gs.drop 0) = R) := hR
  have HB := Lib.hid (byKeyJob_is xs ad cap hlen hw w hx)
  have HS := Lib.hid hs
  have HT := Lib.hid hT
  have HG := Lib.hid hgw
  clear hR hs hT hgw hx hw
  go_enter Tryz.func93, Tryz.ntmps93
  go_wp2_with fail
  refine HB.out.mono ?_
  rintro e w0 ⟨rfl, M0, b0⟩
  have MM := Lib.hid M0
  have BB := Lib.hid b0
  clear M0 b0 HB
  go_wp2
  go_loopw [17] (fun iv wr => ∃ (i : Nat), iv = .int .i64 (i : Int) ∧ i ≤ gs.length ∧ Below w.heap.size w wr ∧ MapAt wr w.heap.size xs.length (tabF (·.name) jobV xs) ∧ Hid (goneE V8 (hasJob xs) (prevK id gs i) (gs.drop i) = R)) (fun iv _ => gs.length - (intOf iv).toNat)
  case atStart => exact ⟨0, rfl, Nat.zero_le _, BB.out, MM.out, HR0⟩
  case round =>
    clear BB MM HR0
    obtain ⟨i, rfl, hi, hbr, hM, HR⟩ := hrel
    by_cases h : (i : Int) < (gs.length : Int)
    · have hil : i < gs.length := by omega
      obtain ⟨a, rfl, hal, k0⟩ := nmsAt_next HS.out hbr i hil
      obtain ⟨s, hsi⟩ : ∃ s, gs[i] = s := ⟨_, rfl⟩
      rw [hsi] at k0
      have hws : s.size ≤ maxLen := HG.out s (by rw [← hsi]; exact List.getElem_mem _)
      have HN := Lib.hid (isName_is s wr (HT.out.below hbr))
      have HM := Lib.hid hM
      have HBR := Lib.hid hbr
      have Hsi := Lib.hid hsi
      obtain ⟨c, hc⟩ : ∃ c, isName V8 s = c := ⟨_, rfl⟩
      rw [hc] at HN
      have Hc := Lib.hid hc
      clear hM hsi hc
      go_wp2_with fail
      refine HN.out.mono ?_
      rintro e w1 ⟨rfl, b1⟩
      have B1 := below_trans HBR.out b1 HBR.out.size
      have M1 := mapAt_below HM.out b1
      have s1 := B1.size
      clear HN HM
      cases c with
      | false =>
        have HE := Lib.hid (gone_name hil HR.out (by rw [Hsi.out]; exact Hc.out))
        clear M1
        go_wp2
        go_ret
        exact ⟨by rw [HE.out]; rfl, B1⟩
      | true =>
        obtain ⟨y, hy⟩ := tabF_pick (·.name) jobV xs s zeroJ
        obtain ⟨d, hd⟩ : ∃ d, hasJob xs s = d := ⟨_, rfl⟩
        have Y1 : Hid ((tabF (·.name) jobV xs s).isSome = d) := by show _ = _; rw [tabF_job]; exact hd
        have Z1 : Hid ((tabF (·.name) jobV xs s).getD (jobV zeroJ) = .agg #[.string y.name, .int .i64 y.prio, .int .i64 y.need, .int .i64 y.tries, .string y.tag]) := hy
        have Hd := Lib.hid hd
        have bA := below_one w1 (.cells #[.string y.name, .int .i64 y.prio, .int .i64 y.need, .int .i64 y.tries, .string y.tag] 38)
        have B2 := Lib.hid (below_trans B1 bA s1)
        have M2 := Lib.hid (mapAt_below M1 bA)
        clear hy hd bA
        by_cases hi0 : i = 0
        · subst hi0
          have HB0 := Lib.hid (bad_zero gs s)
          cases d with
          | true =>
            have HE := Lib.hid (gone_has hil HR.out (by rw [Hsi.out]; exact Hc.out) (by rw [Hsi.out]; exact HB0.out) (by rw [Hsi.out]; exact Hd.out))
            go_wp2_with (at_lookup; refine wpList_look_ok _ rfl _ _ 103 rfl 38 Tryz.underlying103 (zeroJob _) _ _ _ rfl M1 s rfl hws _ _ Z1.out Y1.out ?_)
            go_ret
            exact ⟨by rw [HE.out]; rfl, B2.out⟩
          | false =>
            have HE := Lib.hid (gone_on hil HR.out (by rw [Hsi.out]; exact Hc.out) (by rw [Hsi.out]; exact HB0.out) (by rw [Hsi.out]; exact Hd.out))
            go_wp2_with (at_lookup; refine wpList_look_ok _ rfl _ _ 103 rfl 38 Tryz.underlying103 (zeroJob _) _ _ _ rfl M1 s rfl hws _ _ Z1.out Y1.out ?_)
            go_roundw
            case rel => exact ⟨0 + 1, by simp, by omega, B2.out, M2.out, HE⟩
            case measure => simp [intOf]; omega
        · obtain ⟨m, rfl⟩ : ∃ m, i = m + 1 := ⟨i - 1, by omega⟩
          have hml : m < gs.length := by omega
          obtain ⟨a', ea, _, p0⟩ := nmsAt_next HS.out B1 m hml
          obtain rfl : a = a' := by simpa using ea
          have hal1 : a.block < w1.heap.size := by have := b1.size; omega
          obtain ⟨q, hq⟩ : ∃ q, gs[m] = q := ⟨_, rfl⟩
          rw [hq] at p0
          have Hq := Lib.hid hq
          have e1 : (m : Int) + 1 - 1 = (m : Int) := by omega
          clear hq ea
          by_cases hlt : lt q s
          · obtain ⟨l1, l2⟩ := above_lists hlt
            have HB0 := Lib.hid (bad_lt hml (x := s) (by rw [Hq.out]; exact hlt))
            clear hlt
            cases d with
            | true =>
              have HE := Lib.hid (gone_has hil HR.out (by rw [Hsi.out]; exact Hc.out) (by rw [Hsi.out]; exact HB0.out) (by rw [Hsi.out]; exact Hd.out))
              go_wp2_with (at_lookup; refine wpList_look_ok _ rfl _ _ 103 rfl 38 Tryz.underlying103 (zeroJob _) _ _ _ rfl M1 s rfl hws _ _ Z1.out Y1.out ?_)
              go_ret
              exact ⟨by rw [HE.out]; rfl, B2.out⟩
            | false =>
              have HE := Lib.hid (gone_on hil HR.out (by rw [Hsi.out]; exact Hc.out) (by rw [Hsi.out]; exact HB0.out) (by rw [Hsi.out]; exact Hd.out))
              go_wp2_with (at_lookup; refine wpList_look_ok _ rfl _ _ 103 rfl 38 Tryz.underlying103 (zeroJob _) _ _ _ rfl M1 s rfl hws _ _ Z1.out Y1.out ?_)
              go_roundw
              case rel => exact ⟨m + 1 + 1, by simp, by omega, B2.out, M2.out, HE⟩
              case measure => simp [intOf]; omega
          · have HE := Lib.hid (gone_bad hil HR.out (by rw [Hsi.out]; exact Hc.out) (by rw [Hq.out, Hsi.out]; exact hlt))
            rcases below_lists hlt with ⟨l1, l2⟩ | ⟨l1, l2⟩
            all_goals
              clear hlt M1
              go_wp2
              go_ret
              exact ⟨by rw [HE.out]; rfl, B1⟩
    · obtain rfl : i = gs.length := by omega
      have HE : Hid (0 = R) := by have := HR.out; rw [List.drop_length] at this; exact this
      clear hM
      go_wp2
      go_ret
      exact ⟨by rw [← HE.out]; rfl, hbr⟩

set_option maxRecDepth 100000 in
set_option maxHeartbeats 4000000 in
theorem checkGoneNode_is (gs : List ByteArray) (xs : List NodeD) (ga ad : Option Addr) (gc cap : Nat) (hgl : gs.length ≤ 40) (hlen : xs.length ≤ 40) (hw : ∀ x ∈ xs, x.name.size ≤ maxLen) (hgw : ∀ x ∈ gs, x.size ≤ maxLen) (w : World) (hT : Tabs w) (hs : NmsAt w ga gs) (hx : NodesAt w ad xs) :
    Calls Tryz.prog 94 #[.slice ga gs.length gc, .slice ad xs.length cap, .func (.func 51) #[] #[]] w fun e w' => e = .returned (.int .i64 (goneE V8 (hasNode xs) none gs : Nat)) ∧ Below w.heap.size w w' := by
  obtain ⟨R, hR⟩ : ∃ R, goneE V8 (hasNode xs) none gs = R := ⟨_, rfl⟩
  rw [hR]
  have HR0 : Hid (goneE V8 (hasNode xs) (prevK id gs 0) (gs.drop 0) = R) := hR
  have HB := Lib.hid (byKeyNode_is xs ad cap hlen hw w hx)
  have HS := Lib.hid hs
  have HT := Lib.hid hT
  have HG := Lib.hid hgw
  clear hR hs hT hgw hx hw
  go_enter Tryz.func94, Tryz.ntmps94
  go_wp2_with fail
  refine HB.out.mono ?_
  rintro e w0 ⟨rfl, M0, b0⟩
  have MM := Lib.hid M0
  have BB := Lib.hid b0
  clear M0 b0 HB
  go_wp2
  go_loopw [17] (fun iv wr => ∃ (i : Nat), iv = .int .i64 (i : Int) ∧ i ≤ gs.length ∧ Below w.heap.size w wr ∧ MapAt wr w.heap.size xs.length (tabF (·.name) nodeV xs) ∧ Hid (goneE V8 (hasNode xs) (prevK id gs i) (gs.drop i) = R)) (fun iv _ => gs.length - (intOf iv).toNat)
  case atStart => exact ⟨0, rfl, Nat.zero_le _, BB.out, MM.out, HR0⟩
  case round =>
    clear BB MM HR0
    obtain ⟨i, rfl, hi, hbr, hM, HR⟩ := hrel
    by_cases h : (i : Int) < (gs.length : Int)
    · have hil : i < gs.length := by omega
      obtain ⟨a, rfl, hal, k0⟩ := nmsAt_next HS.out hbr i hil
      obtain ⟨s, hsi⟩ : ∃ s, gs[i] = s := ⟨_, rfl⟩
      rw [hsi] at k0
      have hws : s.size ≤ maxLen := HG.out s (by rw [← hsi]; exact List.getElem_mem _)
      have HN := Lib.hid (isName_is s wr (HT.out.below hbr))
      have HM := Lib.hid hM
      have HBR := Lib.hid hbr
      have Hsi := Lib.hid hsi
      obtain ⟨c, hc⟩ : ∃ c, isName V8 s = c := ⟨_, rfl⟩
      rw [hc] at HN
      have Hc := Lib.hid hc
      clear hM hsi hc
      go_wp2_with fail
      refine HN.out.mono ?_
      rintro e w1 ⟨rfl, b1⟩
      have B1 := below_trans HBR.out b1 HBR.out.size
      have M1 := mapAt_below HM.out b1
      have s1 := B1.size
      clear HN HM
      cases c with
      | false =>
        have HE := Lib.hid (gone_name hil HR.out (by rw [Hsi.out]; exact Hc.out))
        clear M1
        go_wp2
        go_ret
        exact ⟨by rw [HE.out]; rfl, B1⟩
      | true =>
        obtain ⟨y, hy⟩ := tabF_pick (·.name) nodeV xs s zeroN
        obtain ⟨d, hd⟩ : ∃ d, hasNode xs s = d := ⟨_, rfl⟩
        have Y1 : Hid ((tabF (·.name) nodeV xs s).isSome = d) := by show _ = _; rw [tabF_node]; exact hd
        have Z1 : Hid ((tabF (·.name) nodeV xs s).getD (nodeV zeroN) = .agg #[.string y.name, .int .i64 y.room, .string y.zone]) := hy
        have Hd := Lib.hid hd
        have bA := below_one w1 (.cells #[.string y.name, .int .i64 y.room, .string y.zone] 40)
        have B2 := Lib.hid (below_trans B1 bA s1)
        have M2 := Lib.hid (mapAt_below M1 bA)
        clear hy hd bA
        by_cases hi0 : i = 0
        · subst hi0
          have HB0 := Lib.hid (bad_zero gs s)
          cases d with
          | true =>
            have HE := Lib.hid (gone_has hil HR.out (by rw [Hsi.out]; exact Hc.out) (by rw [Hsi.out]; exact HB0.out) (by rw [Hsi.out]; exact Hd.out))
            go_wp2_with (at_lookup; refine wpList_look_ok _ rfl _ _ 104 rfl 40 Tryz.underlying104 (zeroNode _) _ _ _ rfl M1 s rfl hws _ _ Z1.out Y1.out ?_)
            go_ret
            exact ⟨by rw [HE.out]; rfl, B2.out⟩
          | false =>
            have HE := Lib.hid (gone_on hil HR.out (by rw [Hsi.out]; exact Hc.out) (by rw [Hsi.out]; exact HB0.out) (by rw [Hsi.out]; exact Hd.out))
            go_wp2_with (at_lookup; refine wpList_look_ok _ rfl _ _ 104 rfl 40 Tryz.underlying104 (zeroNode _) _ _ _ rfl M1 s rfl hws _ _ Z1.out Y1.out ?_)
            go_roundw
            case rel => exact ⟨0 + 1, by simp, by omega, B2.out, M2.out, HE⟩
            case measure => simp [intOf]; omega
        · obtain ⟨m, rfl⟩ : ∃ m, i = m + 1 := ⟨i - 1, by omega⟩
          have hml : m < gs.length := by omega
          obtain ⟨a', ea, _, p0⟩ := nmsAt_next HS.out B1 m hml
          obtain rfl : a = a' := by simpa using ea
          have hal1 : a.block < w1.heap.size := by have := b1.size; omega
          obtain ⟨q, hq⟩ : ∃ q, gs[m] = q := ⟨_, rfl⟩
          rw [hq] at p0
          have Hq := Lib.hid hq
          have e1 : (m : Int) + 1 - 1 = (m : Int) := by omega
          clear hq ea
          by_cases hlt : lt q s
          · obtain ⟨l1, l2⟩ := above_lists hlt
            have HB0 := Lib.hid (bad_lt hml (x := s) (by rw [Hq.out]; exact hlt))
            clear hlt
            cases d with
            | true =>
              have HE := Lib.hid (gone_has hil HR.out (by rw [Hsi.out]; exact Hc.out) (by rw [Hsi.out]; exact HB0.out) (by rw [Hsi.out]; exact Hd.out))
              go_wp2_with (at_lookup; refine wpList_look_ok _ rfl _ _ 104 rfl 40 Tryz.underlying104 (zeroNode _) _ _ _ rfl M1 s rfl hws _ _ Z1.out Y1.out ?_)
              go_ret
              exact ⟨by rw [HE.out]; rfl, B2.out⟩
            | false =>
              have HE := Lib.hid (gone_on hil HR.out (by rw [Hsi.out]; exact Hc.out) (by rw [Hsi.out]; exact HB0.out) (by rw [Hsi.out]; exact Hd.out))
              go_wp2_with (at_lookup; refine wpList_look_ok _ rfl _ _ 104 rfl 40 Tryz.underlying104 (zeroNode _) _ _ _ rfl M1 s rfl hws _ _ Z1.out Y1.out ?_)
              go_roundw
              case rel => exact ⟨m + 1 + 1, by simp, by omega, B2.out, M2.out, HE⟩
              case measure => simp [intOf]; omega
          · have HE := Lib.hid (gone_bad hil HR.out (by rw [Hsi.out]; exact Hc.out) (by rw [Hq.out, Hsi.out]; exact hlt))
            rcases below_lists hlt with ⟨l1, l2⟩ | ⟨l1, l2⟩
            all_goals
              clear hlt M1
              go_wp2
              go_ret
              exact ⟨by rw [HE.out]; rfl, B1⟩
    · obtain rfl : i = gs.length := by omega
      have HE : Hid (0 = R) := by have := HR.out; rw [List.drop_length] at this; exact this
      clear hM
      go_wp2
      go_ret
      exact ⟨by rw [← HE.out]; rfl, hbr⟩

set_option maxRecDepth 100000 in
set_option maxHeartbeats 4000000 in
theorem checkGoneLease_is (gs : List ByteArray) (xs : List LeaseD) (ga ad : Option Addr) (gc cap : Nat) (hgl : gs.length ≤ 40) (hlen : xs.length ≤ 40) (hw : ∀ x ∈ xs, x.job.size ≤ maxLen) (hgw : ∀ x ∈ gs, x.size ≤ maxLen) (w : World) (hT : Tabs w) (hs : NmsAt w ga gs) (hx : LeasesAt w ad xs) :
    Calls Tryz.prog 95 #[.slice ga gs.length gc, .slice ad xs.length cap, .func (.func 53) #[] #[]] w fun e w' => e = .returned (.int .i64 (goneE V8 (hasLease xs) none gs : Nat)) ∧ Below w.heap.size w w' := by
  obtain ⟨R, hR⟩ : ∃ R, goneE V8 (hasLease xs) none gs = R := ⟨_, rfl⟩
  rw [hR]
  have HR0 : Hid (goneE V8 (hasLease xs) (prevK id gs 0) (gs.drop 0) = R) := hR
  have HB := Lib.hid (byKeyLease_is xs ad cap hlen hw w hx)
  have HS := Lib.hid hs
  have HT := Lib.hid hT
  have HG := Lib.hid hgw
  clear hR hs hT hgw hx hw
  go_enter Tryz.func95, Tryz.ntmps95
  go_wp2_with fail
  refine HB.out.mono ?_
  rintro e w0 ⟨rfl, M0, b0⟩
  have MM := Lib.hid M0
  have BB := Lib.hid b0
  clear M0 b0 HB
  go_wp2
  go_loopw [17] (fun iv wr => ∃ (i : Nat), iv = .int .i64 (i : Int) ∧ i ≤ gs.length ∧ Below w.heap.size w wr ∧ MapAt wr w.heap.size xs.length (tabF (·.job) leaseV xs) ∧ Hid (goneE V8 (hasLease xs) (prevK id gs i) (gs.drop i) = R)) (fun iv _ => gs.length - (intOf iv).toNat)
  case atStart => exact ⟨0, rfl, Nat.zero_le _, BB.out, MM.out, HR0⟩
  case round =>
    clear BB MM HR0
    obtain ⟨i, rfl, hi, hbr, hM, HR⟩ := hrel
    by_cases h : (i : Int) < (gs.length : Int)
    · have hil : i < gs.length := by omega
      obtain ⟨a, rfl, hal, k0⟩ := nmsAt_next HS.out hbr i hil
      obtain ⟨s, hsi⟩ : ∃ s, gs[i] = s := ⟨_, rfl⟩
      rw [hsi] at k0
      have hws : s.size ≤ maxLen := HG.out s (by rw [← hsi]; exact List.getElem_mem _)
      have HN := Lib.hid (isName_is s wr (HT.out.below hbr))
      have HM := Lib.hid hM
      have HBR := Lib.hid hbr
      have Hsi := Lib.hid hsi
      obtain ⟨c, hc⟩ : ∃ c, isName V8 s = c := ⟨_, rfl⟩
      rw [hc] at HN
      have Hc := Lib.hid hc
      clear hM hsi hc
      go_wp2_with fail
      refine HN.out.mono ?_
      rintro e w1 ⟨rfl, b1⟩
      have B1 := below_trans HBR.out b1 HBR.out.size
      have M1 := mapAt_below HM.out b1
      have s1 := B1.size
      clear HN HM
      cases c with
      | false =>
        have HE := Lib.hid (gone_name hil HR.out (by rw [Hsi.out]; exact Hc.out))
        clear M1
        go_wp2
        go_ret
        exact ⟨by rw [HE.out]; rfl, B1⟩
      | true =>
        obtain ⟨y, hy⟩ := tabF_pick (·.job) leaseV xs s zeroL
        obtain ⟨d, hd⟩ : ∃ d, hasLease xs s = d := ⟨_, rfl⟩
        have Y1 : Hid ((tabF (·.job) leaseV xs s).isSome = d) := by show _ = _; rw [tabF_lease]; exact hd
        have Z1 : Hid ((tabF (·.job) leaseV xs s).getD (leaseV zeroL) = .agg #[.string y.job, .string y.node, .int .i64 y.til]) := hy
        have Hd := Lib.hid hd
        have bA := below_one w1 (.cells #[.string y.job, .string y.node, .int .i64 y.til] 42)
        have B2 := Lib.hid (below_trans B1 bA s1)
        have M2 := Lib.hid (mapAt_below M1 bA)
        clear hy hd bA
        by_cases hi0 : i = 0
        · subst hi0
          have HB0 := Lib.hid (bad_zero gs s)
          cases d with
          | true =>
            have HE := Lib.hid (gone_has hil HR.out (by rw [Hsi.out]; exact Hc.out) (by rw [Hsi.out]; exact HB0.out) (by rw [Hsi.out]; exact Hd.out))
            go_wp2_with (at_lookup; refine wpList_look_ok _ rfl _ _ 141 rfl 42 Tryz.underlying141 (zeroLease _) _ _ _ rfl M1 s rfl hws _ _ Z1.out Y1.out ?_)
            go_ret
            exact ⟨by rw [HE.out]; rfl, B2.out⟩
          | false =>
            have HE := Lib.hid (gone_on hil HR.out (by rw [Hsi.out]; exact Hc.out) (by rw [Hsi.out]; exact HB0.out) (by rw [Hsi.out]; exact Hd.out))
            go_wp2_with (at_lookup; refine wpList_look_ok _ rfl _ _ 141 rfl 42 Tryz.underlying141 (zeroLease _) _ _ _ rfl M1 s rfl hws _ _ Z1.out Y1.out ?_)
            go_roundw
            case rel => exact ⟨0 + 1, by simp, by omega, B2.out, M2.out, HE⟩
            case measure => simp [intOf]; omega
        · obtain ⟨m, rfl⟩ : ∃ m, i = m + 1 := ⟨i - 1, by omega⟩
          have hml : m < gs.length := by omega
          obtain ⟨a', ea, _, p0⟩ := nmsAt_next HS.out B1 m hml
          obtain rfl : a = a' := by simpa using ea
          have hal1 : a.block < w1.heap.size := by have := b1.size; omega
          obtain ⟨q, hq⟩ : ∃ q, gs[m] = q := ⟨_, rfl⟩
          rw [hq] at p0
          have Hq := Lib.hid hq
          have e1 : (m : Int) + 1 - 1 = (m : Int) := by omega
          clear hq ea
          by_cases hlt : lt q s
          · obtain ⟨l1, l2⟩ := above_lists hlt
            have HB0 := Lib.hid (bad_lt hml (x := s) (by rw [Hq.out]; exact hlt))
            clear hlt
            cases d with
            | true =>
              have HE := Lib.hid (gone_has hil HR.out (by rw [Hsi.out]; exact Hc.out) (by rw [Hsi.out]; exact HB0.out) (by rw [Hsi.out]; exact Hd.out))
              go_wp2_with (at_lookup; refine wpList_look_ok _ rfl _ _ 141 rfl 42 Tryz.underlying141 (zeroLease _) _ _ _ rfl M1 s rfl hws _ _ Z1.out Y1.out ?_)
              go_ret
              exact ⟨by rw [HE.out]; rfl, B2.out⟩
            | false =>
              have HE := Lib.hid (gone_on hil HR.out (by rw [Hsi.out]; exact Hc.out) (by rw [Hsi.out]; exact HB0.out) (by rw [Hsi.out]; exact Hd.out))
              go_wp2_with (at_lookup; refine wpList_look_ok _ rfl _ _ 141 rfl 42 Tryz.underlying141 (zeroLease _) _ _ _ rfl M1 s rfl hws _ _ Z1.out Y1.out ?_)
              go_roundw
              case rel => exact ⟨m + 1 + 1, by simp, by omega, B2.out, M2.out, HE⟩
              case measure => simp [intOf]; omega
          · have HE := Lib.hid (gone_bad hil HR.out (by rw [Hsi.out]; exact Hc.out) (by rw [Hq.out, Hsi.out]; exact hlt))
            rcases below_lists hlt with ⟨l1, l2⟩ | ⟨l1, l2⟩
            all_goals
              clear hlt M1
              go_wp2
              go_ret
              exact ⟨by rw [HE.out]; rfl, B1⟩
    · obtain rfl : i = gs.length := by omega
      have HE : Hid (0 = R) := by have := HR.out; rw [List.drop_length] at this; exact this
      clear hM
      go_wp2
      go_ret
      exact ⟨by rw [← HE.out]; rfl, hbr⟩
end Go.Proofs.YtiilagmmgpnpdaaGreatDoor

/- state.CheckRows at leases that are checked by themselves. -/
namespace Go.Proofs.YtiilagmmgpnpdaaGreatDoor
open Go.RowKit

theorem rowS_leaseC {b : Nat} {p : Addr} {x y : LeaseD} {w w1 w2 : World} (b2 : Below w1.heap.size w1 w2) (h : ((w1.cell? ⟨b, 0, none⟩ = some (.string x.job) ∧ w1.cell? ⟨b, 1, none⟩ = some (.string x.node) ∧ w1.cell? ⟨b, 2, none⟩ = some (.int .i64 x.til)) ∧ (w1.cell? p = some (.string y.job) ∧ w1.cell? ⟨p.block, p.off + 1, none⟩ = some (.string y.node) ∧ w1.cell? ⟨p.block, p.off + 2, none⟩ = some (.int .i64 y.til))) ∧ (b < w1.heap.size ∧ p.block < w1.heap.size) ∧ Below w.heap.size w w1) : ((w2.cell? ⟨b, 0, none⟩ = some (.string x.job) ∧ w2.cell? ⟨b, 1, none⟩ = some (.string x.node) ∧ w2.cell? ⟨b, 2, none⟩ = some (.int .i64 x.til)) ∧ (w2.cell? p = some (.string y.job) ∧ w2.cell? ⟨p.block, p.off + 1, none⟩ = some (.string y.node) ∧ w2.cell? ⟨p.block, p.off + 2, none⟩ = some (.int .i64 y.til))) ∧ (b < w2.heap.size ∧ p.block < w2.heap.size) ∧ Below w.heap.size w w2 := by
  obtain ⟨⟨⟨c0, c1, c2⟩, ⟨p0, p1, p2⟩⟩, ⟨h1, h2⟩, h3⟩ := h
  have hs := b2.size
  exact ⟨⟨⟨by rw [b2.cell (p := ⟨b, 0, none⟩) h1]; exact c0, by rw [b2.cell (p := ⟨b, 1, none⟩) h1]; exact c1, by rw [b2.cell (p := ⟨b, 2, none⟩) h1]; exact c2⟩, ⟨by rw [b2.cell h2]; exact p0, by rw [b2.cell (p := ⟨p.block, p.off + 1, none⟩) h2]; exact p1, by rw [b2.cell (p := ⟨p.block, p.off + 2, none⟩) h2]; exact p2⟩⟩, ⟨by omega, by omega⟩, below_trans h3 b2 h3.size⟩
set_option maxRecDepth 100000 in
set_option maxHeartbeats 4000000 in
theorem checkRows_leaseC (T : World → Prop) (hTn : ∀ w w', T w → Below w.heap.size w w' → T w') (E : LeaseD → Nat) (xs : List LeaseD)
    (HC : ∀ x ∈ xs, ∀ w, T w → Calls Tryz.prog 92 #[.agg #[.string x.job, .string x.node, .int .i64 x.til]] w fun e w' => e = .returned (.int .i64 (E x : Nat)) ∧ Below w.heap.size w w')
    (ad : Option Addr) (cap : Nat) (hlen : xs.length ≤ 40) (w : World) (hT : T w) (hx : LeasesAt w ad xs) :
    Calls Tryz.prog 60 #[.slice ad xs.length cap, .func (.func 92) #[] #[], .func (.func 53) #[] #[]] w fun e w' => e = .returned (.int .i64 (rowsE E (·.job) none xs : Nat)) ∧ Below w.heap.size w w' := by
  obtain ⟨R, hR⟩ : ∃ R, rowsE E (·.job) none xs = R := ⟨_, rfl⟩
  rw [hR]
  have HR0 : Hid (rowsE E (·.job) (prevK (·.job) xs 0) (xs.drop 0) = R) := hR
  have HC := Lib.hid HC
  have HX := Lib.hid hx
  have HTn := Lib.hid hTn
  have HT := Lib.hid hT
  clear hR hx hTn hT
  go_enter Tryz.func60, Tryz.ntmps60
  go_wp2
  go_loopw [12] (fun iv wr => ∃ (i : Nat), iv = .int .i64 (i : Int) ∧ i ≤ xs.length ∧ Below w.heap.size w wr ∧ Hid (rowsE E (·.job) (prevK (·.job) xs i) (xs.drop i) = R)) (fun iv _ => xs.length - (intOf iv).toNat)
  case atStart => exact ⟨0, rfl, by omega, Below.refl _ _, HR0⟩
  case round =>
    obtain ⟨i, rfl, hi, hbr, HR⟩ := hrel
    by_cases h : (i : Int) < (xs.length : Int)
    · have hil : i < xs.length := by omega
      have hx := leasesAt_next HX.out hbr
      obtain ⟨a, rfl, hal, k0, k1, k2⟩ := hx i hil
      have HTr := HTn.out _ _ HT.out hbr
      obtain ⟨x, hxi⟩ : ∃ x, xs[i] = x := ⟨_, rfl⟩
      rw [hxi] at k0 k1 k2
      have hm : x ∈ xs := by rw [← hxi]; exact List.getElem_mem _
      have HCx := Lib.hid (HC.out x hm (wr.alloc (.cells #[.string x.job, .string x.node, .int .i64 x.til] 42)) (HTn.out _ _ HTr (below_one _ _)))
      obtain ⟨e0, he0⟩ : ∃ e0, E x = e0 := ⟨_, rfl⟩
      rw [he0] at HCx
      have Hxi := Lib.hid hxi
      clear hx hxi
      go_wp2_with fail
      refine HCx.out.mono ?_
      rintro e w1 ⟨rfl, b1⟩
      have bx := box_next (box_new3 wr (.string x.job) (.string x.node) (.int .i64 x.til) 42) b1
      have hb1 : Below w.heap.size w w1 := below_trans (hbr.alloc hbr.size _) b1 (by have := hbr.size; simp; omega)
      by_cases h0 : e0 ≠ 0
      · have HR1 : Hid (R = e0) := rows_stop hil HR.out (by rw [Hxi.out]; exact he0) h0
        have hc : ((e0 : Int) != 0) = true := by simp; omega
        go_wp2
        go_ret
        exact ⟨by rw [HR1.out]; rfl, hb1⟩
      · have h0 : e0 = 0 := by simpa using h0
        subst h0
        have c0 := bx.1 0 _ rfl
        have c1 := bx.1 1 _ rfl
        have c2 := bx.1 2 _ rfl
        have hb0 : wr.heap.size < w1.heap.size := bx.2
        have HE0 : Hid (E x = 0) := he0
        clear he0 HCx k0 k1 k2 hal
        cases i with
        | zero =>
          have HR1 : Hid (rowsE E (·.job) (prevK (·.job) xs 1) (xs.drop 1) = R) := rows_first hil HR.out (by rw [Hxi.out]; exact HE0.out)
          go_wp2_with fail
          go_region
          go_wp2
          go_roundw
          case rel => exact ⟨1, by simp, by omega, hb1.drew, HR1⟩
          case measure => simp [intOf]; omega
        | succ m =>
          obtain ⟨a', ha', hal, p0, p1, p2⟩ := leasesAt_next HX.out hb1 m (by omega)
          cases ha'
          obtain ⟨y, hy⟩ : ∃ y, xs[m] = y := ⟨_, rfl⟩
          rw [hy] at p0 p1 p2
          have hwr : IntKind.i64.wrap (m : Int) = (m : Int) := IntWalk.i64_in _ (by omega)
          have hm0 : (0 : Int) ≤ (m : Int) := by omega
          have hm1 : (m : Int) < (xs.length : Int) := by omega
          have hpb : (a.add (m * 3)).block < w1.heap.size := by rw [add_block]; exact hal
          have HY : Hid (xs[m] = y) := hy
          clear hy bx b1
          go_wp2_with fail
          by_cases hlt : lt y.job x.job
          · obtain ⟨hl1, hl2⟩ := above_lists hlt
            have HR1 : Hid (rowsE E (·.job) (prevK (·.job) xs (m + 1 + 1)) (xs.drop (m + 1 + 1)) = R) := rows_on hil HR.out (by rw [Hxi.out]; exact HE0.out) (by rw [HY.out, Hxi.out]; exact hlt)
            clear hlt
            go_region_held3 (fun w' => ((w'.cell? ⟨wr.heap.size, 0, none⟩ = some (.string x.job) ∧ w'.cell? ⟨wr.heap.size, 1, none⟩ = some (.string x.node) ∧ w'.cell? ⟨wr.heap.size, 2, none⟩ = some (.int .i64 x.til)) ∧ (w'.cell? (a.add (m * 3)) = some (.string y.job) ∧ w'.cell? ⟨(a.add (m * 3)).block, (a.add (m * 3)).off + 1, none⟩ = some (.string y.node) ∧ w'.cell? ⟨(a.add (m * 3)).block, (a.add (m * 3)).off + 2, none⟩ = some (.int .i64 y.til))) ∧ (wr.heap.size < w'.heap.size ∧ (a.add (m * 3)).block < w'.heap.size) ∧ Below w.heap.size w w')
              (first | assumption | exact ⟨⟨⟨c0, c1, c2⟩, ⟨p0, p1, p2⟩⟩, ⟨hb0, hpb⟩, hb1⟩ | exact ⟨⟨⟨c0, c1, c2⟩, ⟨p0, p1, p2⟩⟩, ⟨hb0, hpb⟩, hb1.drew⟩)
              (first | (go_at_call 53; (with_reducible refine (leaseJob_is _ _).mono ?_); rintro e w2 ⟨rfl, b2⟩; have o2 := rowS_leaseC (b := wr.heap.size) (p := a.add (m * 3)) (x := x) (y := y) (w := w) b2 (by assumption)))
            all_goals
              rename_i o2
              have hb2 := o2.2.2
              clear o2
              go_wp2
              go_roundw
              case rel => exact ⟨m + 1 + 1, by simp, by omega, hb2, HR1⟩
              case measure => simp [intOf]; omega
          · have HR1 : Hid (R = 8) := rows_bad hil HR.out (by rw [Hxi.out]; exact HE0.out) (by rw [HY.out, Hxi.out]; exact hlt)
            rcases below_lists hlt with ⟨hl1, hl2⟩ | ⟨hl1, hl2⟩
            all_goals
              clear hlt
              go_region_held3 (fun w' => ((w'.cell? ⟨wr.heap.size, 0, none⟩ = some (.string x.job) ∧ w'.cell? ⟨wr.heap.size, 1, none⟩ = some (.string x.node) ∧ w'.cell? ⟨wr.heap.size, 2, none⟩ = some (.int .i64 x.til)) ∧ (w'.cell? (a.add (m * 3)) = some (.string y.job) ∧ w'.cell? ⟨(a.add (m * 3)).block, (a.add (m * 3)).off + 1, none⟩ = some (.string y.node) ∧ w'.cell? ⟨(a.add (m * 3)).block, (a.add (m * 3)).off + 2, none⟩ = some (.int .i64 y.til))) ∧ (wr.heap.size < w'.heap.size ∧ (a.add (m * 3)).block < w'.heap.size) ∧ Below w.heap.size w w')
                (first | assumption | exact ⟨⟨⟨c0, c1, c2⟩, ⟨p0, p1, p2⟩⟩, ⟨hb0, hpb⟩, hb1⟩ | exact ⟨⟨⟨c0, c1, c2⟩, ⟨p0, p1, p2⟩⟩, ⟨hb0, hpb⟩, hb1.drew⟩)
                (first | (go_at_call 53; (with_reducible refine (leaseJob_is _ _).mono ?_); rintro e w2 ⟨rfl, b2⟩; have o2 := rowS_leaseC (b := wr.heap.size) (p := a.add (m * 3)) (x := x) (y := y) (w := w) b2 (by assumption)))
              all_goals
                rename_i o2
                have hb2 := o2.2.2
                clear o2
                go_wp2
                go_ret
                exact ⟨by rw [HR1.out]; rfl, hb2⟩
    · obtain rfl : i = xs.length := by omega
      have HR1 : Hid (0 = R) := by have := HR.out; rw [rowsE_end] at this; exact this
      go_wp2
      go_ret
      exact ⟨by rw [← HR1.out]; rfl, hbr⟩
end Go.Proofs.YtiilagmmgpnpdaaGreatDoor

/- Package delta: Check. -/
namespace Go.Proofs.YtiilagmmgpnpdaaGreatDoor
open Go.RowKit

set_option maxRecDepth 100000 in
set_option maxHeartbeats 1000000 in
theorem checkLeaseC_is (x : LeaseD) (w : World) (hT : Tabs w) : Calls Tryz.prog 92 #[.agg #[.string x.job, .string x.node, .int .i64 x.til]] w fun e w' => e = .returned (.int .i64 (leaseCE V8 x : Nat)) ∧ Below w.heap.size w w' := by
  have bW := below_one w (.cells #[.string x.job, .string x.node, .int .i64 x.til] 42)
  have oB := objAt_new w #[.string x.job, .string x.node, .int .i64 x.til] 42
  have H1 := Lib.hid (isName_is x.job _ (hT.below bW))
  have HN := Lib.hid (isName_is x.node)
  have HT := Lib.hid (hT.below bW)
  obtain ⟨c1, h1⟩ : ∃ c, isName V8 x.job = c := ⟨_, rfl⟩
  obtain ⟨c2, h2⟩ : ∃ c, isName V8 x.node = c := ⟨_, rfl⟩
  obtain ⟨d0, g0⟩ : ∃ d, inR x.til 0 1099511627776 = d := ⟨_, rfl⟩
  have G0 := Lib.hid (checkUntil_is x d0 g0)
  have HE : Hid (leaseCE V8 x = if (c1 && c2) = true then (if d0 = true then 0 else 1) else 4) := by show _ = _; rw [leaseCE, h1, h2, g0]
  obtain ⟨R, hR⟩ : ∃ R, leaseCE V8 x = R := ⟨_, rfl⟩
  rw [hR] at HE ⊢
  rw [h1] at H1
  rw [h2] at HN
  have BW := Lib.hid bW
  have OB := Lib.hid oB
  have q0 := objAt_cell oB 0 rfl
  have q1 := objAt_cell oB 1 rfl
  have q2 := objAt_cell oB 2 rfl
  clear hT h1 h2 hR g0 bW oB
  cases c1 with
  | false =>
    go_enter Tryz.func92, Tryz.ntmps92
    go_wp2_with fail
    refine H1.out.mono ?_
    rintro e w1 ⟨rfl, b1⟩
    go_wp2
    go_ret
    exact ⟨by rw [HE.out]; rfl, below_trans BW.out b1 BW.out.size⟩
  | true =>
    go_enter Tryz.func92, Tryz.ntmps92
    go_wp2_with fail
    refine H1.out.mono ?_
    rintro e w1 ⟨rfl, b1⟩
    have O1 := objAt_next OB.out b1
    have HN1 := Lib.hid (HN.out w1 (HT.out.below b1))
    have B1 := Lib.hid (below_trans BW.out b1 BW.out.size)
    have r0 := objAt_cell O1 0 rfl
    have r1 := objAt_cell O1 1 rfl
    have r2 := objAt_cell O1 2 rfl
    have OO1 := Lib.hid O1
    clear O1 b1 q0 q1 q2
    go_wp2_with fail
    refine HN1.out.mono ?_
    rintro e w2 ⟨rfl, b2⟩
    have O2 := objAt_next OO1.out b2
    have B2 := Lib.hid (below_trans B1.out b2 B1.out.size)
    have s0 := objAt_cell O2 0 rfl
    have s1 := objAt_cell O2 1 rfl
    have s2 := objAt_cell O2 2 rfl
    clear O2 b2 r0 r1 r2 OO1
    cases c2 with
    | false =>
      go_wp2
      go_ret
      exact ⟨by rw [HE.out]; rfl, B2.out⟩
    | true =>
      go_wp2_with fail
      refine (G0.out w2).mono ?_
      rintro e w3 ⟨rfl, b3⟩
      have B3 := Lib.hid (below_trans B2.out b3 B2.out.size)
      clear b3
      cases d0 with
      | false =>
        simp only [Bool.false_eq_true, if_false]
        go_wp2
        go_ret
        exact ⟨by rw [HE.out]; rfl, B3.out⟩
      | true =>
        simp only [if_true]
        go_wp2
        go_ret
        exact ⟨by rw [HE.out]; rfl, B3.out⟩
/-- Are there too many? -/
def largeD (d : DelD) : Bool := !(decide ((d.jobs.length ≤ 40 ∧ d.leases.length ≤ 40 ∧ d.gj.length ≤ 40 ∧ d.gl.length ≤ 40) ∧ d.nodes.length ≤ 20 ∧ d.gn.length ≤ 20))
theorem max_gt (a b n : Nat) : decide ((n : Int) < max (a : Int) (b : Int)) = decide (n < a ∨ n < b) := by
  rw [Bool.eq_iff_iff, decide_eq_true_eq, decide_eq_true_eq]
  omega
set_option maxRecDepth 100000 in
set_option maxHeartbeats 1000000 in
theorem isLarge_is (M : DlM) (d : DelD) (w : World) : Calls Tryz.prog 91 #[.agg (dlC M d)] w fun e w' => e = .returned (.bool (largeD d)) ∧ Below w.heap.size w w' := by
  have bW := below_one w (.cells (dlC M d) 49)
  obtain ⟨c, hc⟩ : ∃ c, largeD d = c := ⟨_, rfl⟩
  rw [hc]
  have h1 : (c = true ↔ (40 < d.jobs.length ∨ 40 < d.gj.length) ∨ (20 < d.nodes.length ∨ 20 < d.gn.length) ∨ (40 < d.leases.length ∨ 40 < d.gl.length)) := by
    rw [← hc]
    unfold largeD
    rw [Bool.not_eq_true', decide_eq_false_iff_not]
    omega
  unfold dlC at bW ⊢
  clear hc
  by_cases a1 : 40 < d.jobs.length ∨ 40 < d.gj.length
  · have e1 : (40 : Int) < max (d.jobs.length : Int) (d.gj.length : Int) := by omega
    obtain rfl : c = true := h1.2 (.inl a1)
    clear h1 a1
    go_enter Tryz.func91, Tryz.ntmps91
    go_wp2
    go_ret
    exact ⟨rfl, bW⟩
  · have e1 : ¬ (40 : Int) < max (d.jobs.length : Int) (d.gj.length : Int) := by omega
    by_cases a2 : 20 < d.nodes.length ∨ 20 < d.gn.length
    · have e2 : (20 : Int) < max (d.nodes.length : Int) (d.gn.length : Int) := by omega
      obtain rfl : c = true := h1.2 (.inr (.inl a2))
      clear h1 a1 a2
      go_enter Tryz.func91, Tryz.ntmps91
      go_wp2
      go_ret
      exact ⟨rfl, bW⟩
    · have e2 : ¬ (20 : Int) < max (d.nodes.length : Int) (d.gn.length : Int) := by omega
      by_cases a3 : 40 < d.leases.length ∨ 40 < d.gl.length
      · have e3 : (40 : Int) < max (d.leases.length : Int) (d.gl.length : Int) := by omega
        obtain rfl : c = true := h1.2 (.inr (.inr a3))
        clear h1 a1 a2 a3
        go_enter Tryz.func91, Tryz.ntmps91
        go_wp2
        go_ret
        exact ⟨rfl, bW⟩
      · have e3 : ¬ (40 : Int) < max (d.leases.length : Int) (d.gl.length : Int) := by omega
        obtain rfl : c = false := by
          cases c with
          | false => rfl
          | true =>
            rcases h1.1 rfl with h | h | h
            · exact absurd h a1
            · exact absurd h a2
            · exact absurd h a3
        clear h1 a1 a2 a3
        go_enter Tryz.func91, Tryz.ntmps91
        go_wp2
        go_ret
        exact ⟨rfl, bW⟩
end Go.Proofs.YtiilagmmgpnpdaaGreatDoor

/- Package delta: Check at every delta. -/
namespace Go.Proofs.YtiilagmmgpnpdaaGreatDoor
open Go.RowKit

theorem used_nil (jobs : List JobD) (n : ByteArray) : usedD jobs [] n = 0 := rfl
theorem check_part (d : DelD) (h1 : d.jobs.length ≤ 40) (h2 : d.nodes.length ≤ 20) : checkE V8 ⟨0, d.jobs, d.nodes, []⟩ = orE (rowsE (jobE V8) (·.name) none d.jobs) (rowsE (nodeE V8) (·.name) none d.nodes) := by
  have hh : headSE ⟨0, d.jobs, d.nodes, []⟩ = 0 := by
    unfold headSE
    rw [if_pos (by rfl), if_pos ⟨h1, Nat.zero_le _, h2⟩]
  unfold checkE
  rw [hh]
  show orE 0 (orE (rowsE (jobE V8) (·.name) none d.jobs) (orE (rowsE (nodeE V8) (·.name) none d.nodes) (orE 0 (roomE d.jobs [] d.nodes)))) = _
  by_cases hn : rowsE (nodeE V8) (·.name) none d.nodes = 0
  · have hz := (rowsE_zero _ _ _ _).1 hn
    have hr : roomE d.jobs [] d.nodes = 0 := by
      refine roomE_yes (fun j hj => ?_)
      rw [used_nil]
      exact ((nodeE_zero V8 _).1 (hz.1 _ (List.getElem_mem hj))).2.1
    rw [hr, hn]
    simp [orE]
  · simp [orE, hn]
theorem orE_left {a b : Nat} (h : a ≠ 0) : orE a b = a := if_pos h
theorem orE_assoc (a b c : Nat) : orE (orE a b) c = orE a (orE b c) := by
  by_cases h : a = 0
  · subst h; rfl
  · rw [orE_left h, orE_left h, orE_left h]
theorem orE_right (b : Nat) : orE 0 b = b := rfl
theorem head_arg {d : DelD} (h : d.frm < 0 ∨ d.til ≤ d.frm ∨ 1099511627776 < d.til) : headDE d = 1 := by
  unfold headDE
  rw [if_neg]
  rw [Bool.and_eq_true, inR_iff, inR_iff]
  omega
theorem head_large {d : DelD} (h : ¬ (d.frm < 0 ∨ d.til ≤ d.frm ∨ 1099511627776 < d.til)) (hl : largeD d = true) : headDE d = 2 := by
  unfold headDE
  rw [if_pos (by rw [Bool.and_eq_true, inR_iff, inR_iff]; omega), if_neg]
  unfold largeD at hl
  rw [Bool.not_eq_true', decide_eq_false_iff_not] at hl
  exact hl
theorem head_ok {d : DelD} (h : ¬ (d.frm < 0 ∨ d.til ≤ d.frm ∨ 1099511627776 < d.til)) (hl : largeD d = false) : headDE d = 0 ∧ (d.jobs.length ≤ 40 ∧ d.leases.length ≤ 40 ∧ d.gj.length ≤ 40 ∧ d.gl.length ≤ 40) ∧ d.nodes.length ≤ 20 ∧ d.gn.length ≤ 20 := by
  unfold largeD at hl
  rw [Bool.not_eq_false', decide_eq_true_eq] at hl
  refine ⟨?_, hl⟩
  unfold headDE
  rw [if_pos (by rw [Bool.and_eq_true, inR_iff, inR_iff]; omega), if_pos hl]
set_option maxRecDepth 100000 in
set_option maxHeartbeats 4000000 in
theorem dcheck_any (M : DlM) (d : DelD) (hw : wDelta d) (w : World) (hT : Tabs w) (hm : DeltaAt w M d) : Calls Tryz.prog 47 #[.agg (dlC M d)] w fun e w' => e = .returned (.int .i64 (dcheckE V8 d : Nat)) ∧ Below w.heap.size w w' := by
  have bW := below_one w (.cells (dlC M d) 49)
  have oB := objAt_new w (dlC M d) 49
  have HL := Lib.hid (isLarge_is M d)
  have HT := Lib.hid hT
  have HM := Lib.hid hm
  have HW := Lib.hid hw
  have BW := Lib.hid bW
  have OB := Lib.hid oB
  obtain ⟨R, hR⟩ : ∃ R, dcheckE V8 d = R := ⟨_, rfl⟩
  rw [hR]
  have HR := Lib.hid hR
  have c0 := objAt_cell oB 0 rfl
  have c1 := objAt_cell oB 1 rfl
  have c2 := objAt_cell oB 2 rfl
  have c3 := objAt_cell oB 3 rfl
  have c4 := objAt_cell oB 4 rfl
  have c5 := objAt_cell oB 5 rfl
  have c6 := objAt_cell oB 6 rfl
  have c7 := objAt_cell oB 7 rfl
  clear hR hw hT hm bW oB
  unfold dlC at *
  by_cases hA : d.frm < 0 ∨ d.til ≤ d.frm ∨ 1099511627776 < d.til
  · have HE : Hid (R = 1) := by show _ = _; rw [← HR.out, dcheckE, head_arg hA]; rfl
    by_cases h1 : d.frm < 0
    · clear hA
      go_enter Tryz.func47, Tryz.ntmps47
      go_wp2
      go_ret
      exact ⟨by rw [HE.out]; rfl, BW.out⟩
    · have h1 : 0 ≤ d.frm := by omega
      by_cases h2 : d.til ≤ d.frm
      · clear hA
        go_enter Tryz.func47, Tryz.ntmps47
        go_wp2
        go_ret
        exact ⟨by rw [HE.out]; rfl, BW.out⟩
      · have h3 : 1099511627776 < d.til := by omega
        have h2 : d.frm < d.til := by omega
        clear hA
        go_enter Tryz.func47, Tryz.ntmps47
        go_wp2
        go_ret
        exact ⟨by rw [HE.out]; rfl, BW.out⟩
  · have HA := Lib.hid hA
    have h1 : 0 ≤ d.frm := by omega
    have h2 : d.frm < d.til := by omega
    have h3 : d.til ≤ 1099511627776 := by omega
    clear hA
    go_enter Tryz.func47, Tryz.ntmps47
    go_wp2_with fail
    refine (HL.out _).mono ?_
    rintro e w1 ⟨rfl, b1⟩
    have O1 := objAt_next OB.out b1
    have B1 := Lib.hid (below_trans BW.out b1 BW.out.size)
    obtain ⟨q, hq⟩ : ∃ q, largeD d = q := ⟨_, rfl⟩
    rw [hq]
    cases q with
    | true =>
      have HE : Hid (R = 2) := by show _ = _; rw [← HR.out, dcheckE, head_large HA.out hq]; rfl
      clear O1 hq
      go_wp2
      go_ret
      exact ⟨by rw [HE.out]; rfl, B1.out⟩
    | false =>
      obtain ⟨hz, ⟨l1, l2, l3, l4⟩, l5, l6⟩ := head_ok HA.out hq
      have HR1 : Hid (orE (orE (rowsE (jobE V8) (·.name) none d.jobs) (rowsE (nodeE V8) (·.name) none d.nodes)) (orE (rowsE (leaseCE V8) (·.job) none d.leases) (orE (goneE V8 (hasJob d.jobs) none d.gj) (orE (goneE V8 (hasNode d.nodes) none d.gn) (goneE V8 (hasLease d.leases) none d.gl)))) = R) := by
        show _ = _
        rw [← HR.out, dcheckE, hz, orE_right, orE_assoc]
      clear hq HR
      have C1 := check_any 0 M.aj M.an none M.cj M.cn 0 d.jobs d.nodes [] ⟨rfl, HW.out.2.1.1, HW.out.2.1.2.1, fun x hx => by cases hx⟩ w1 (HT.out.below B1.out) (jobsAt_next HM.out.1.1 B1.out) (nodesAt_next HM.out.1.2.1 B1.out) (fun i hi => absurd hi (by simp))
      rw [check_part d l1 l5] at C1
      obtain ⟨e1, he1⟩ : ∃ e, orE (rowsE (jobE V8) (·.name) none d.jobs) (rowsE (nodeE V8) (·.name) none d.nodes) = e := ⟨_, rfl⟩
      rw [he1] at C1 HR1
      have C1 := Lib.hid C1
      have p1_0 := objAt_cell O1 0 rfl
      have p1_1 := objAt_cell O1 1 rfl
      have p1_2 := objAt_cell O1 2 rfl
      have p1_3 := objAt_cell O1 3 rfl
      have p1_4 := objAt_cell O1 4 rfl
      have p1_5 := objAt_cell O1 5 rfl
      have p1_6 := objAt_cell O1 6 rfl
      have p1_7 := objAt_cell O1 7 rfl
      have OO1 := Lib.hid O1
      clear O1 he1
      clear c0 c1 c2 c3 c4 c5 c6 c7
      go_wp2_with fail
      refine C1.out.mono ?_
      rintro e w2 ⟨rfl, b2⟩
      have O2 := objAt_next OO1.out b2
      have B2 := Lib.hid (below_trans B1.out b2 B1.out.size)
      clear C1 OO1 b2
      by_cases z1 : e1 ≠ 0
      · have HE : Hid (R = e1) := by show _ = _; rw [← HR1.out, orE_left z1]
        have z' : ((e1 : Int) != 0) = true := by simp; omega
        clear O2 p1_0 p1_1 p1_2 p1_3 p1_4 p1_5 p1_6 p1_7
        go_wp2
        go_ret
        exact ⟨by rw [HE.out]; rfl, B2.out⟩
      obtain rfl : e1 = 0 := by simpa using z1
      have HR2 := HR1.out
      rw [orE_right] at HR2
      have HR2 := Lib.hid HR2
      clear z1 HR1
      have C2 := checkRows_leaseC Tabs (fun w w' h hb => h.below hb) (leaseCE V8) d.leases (fun x _ w h => checkLeaseC_is x w h) M.al M.cl l2 w2 (HT.out.below B2.out) (leasesAt_next HM.out.1.2.2 B2.out)
      obtain ⟨e2, he2⟩ : ∃ e, rowsE (leaseCE V8) (·.job) none d.leases = e := ⟨_, rfl⟩
      rw [he2] at C2 HR2
      have C2 := Lib.hid C2
      have p2_0 := objAt_cell O2 0 rfl
      have p2_1 := objAt_cell O2 1 rfl
      have p2_2 := objAt_cell O2 2 rfl
      have p2_3 := objAt_cell O2 3 rfl
      have p2_4 := objAt_cell O2 4 rfl
      have p2_5 := objAt_cell O2 5 rfl
      have p2_6 := objAt_cell O2 6 rfl
      have p2_7 := objAt_cell O2 7 rfl
      have OO2 := Lib.hid O2
      clear O2 he2
      clear p1_0 p1_1 p1_2 p1_3 p1_4 p1_5 p1_6 p1_7
      go_wp2_with fail
      refine C2.out.mono ?_
      rintro e w3 ⟨rfl, b3⟩
      have O3 := objAt_next OO2.out b3
      have B3 := Lib.hid (below_trans B2.out b3 B2.out.size)
      clear C2 OO2 b3
      by_cases z2 : e2 ≠ 0
      · have HE : Hid (R = e2) := by show _ = _; rw [← HR2.out, orE_left z2]
        have z' : ((e2 : Int) != 0) = true := by simp; omega
        clear O3 p2_0 p2_1 p2_2 p2_3 p2_4 p2_5 p2_6 p2_7
        go_wp2
        go_ret
        exact ⟨by rw [HE.out]; rfl, B3.out⟩
      obtain rfl : e2 = 0 := by simpa using z2
      have HR3 := HR2.out
      rw [orE_right] at HR3
      have HR3 := Lib.hid HR3
      clear z2 HR2
      have C3 := checkGoneJob_is d.gj d.jobs M.gj M.aj M.hj M.cj l3 l1 (fun x hx => (HW.out.2.1.1 x hx).1) HW.out.2.2.1 w3 (HT.out.below B3.out) (nmsAt_next HM.out.2.1 B3.out) (jobsAt_next HM.out.1.1 B3.out)
      obtain ⟨e3, he3⟩ : ∃ e, goneE V8 (hasJob d.jobs) none d.gj = e := ⟨_, rfl⟩
      rw [he3] at C3 HR3
      have C3 := Lib.hid C3
      have p3_0 := objAt_cell O3 0 rfl
      have p3_1 := objAt_cell O3 1 rfl
      have p3_2 := objAt_cell O3 2 rfl
      have p3_3 := objAt_cell O3 3 rfl
      have p3_4 := objAt_cell O3 4 rfl
      have p3_5 := objAt_cell O3 5 rfl
      have p3_6 := objAt_cell O3 6 rfl
      have p3_7 := objAt_cell O3 7 rfl
      have OO3 := Lib.hid O3
      clear O3 he3
      clear p2_0 p2_1 p2_2 p2_3 p2_4 p2_5 p2_6 p2_7
      go_wp2_with fail
      refine C3.out.mono ?_
      rintro e w4 ⟨rfl, b4⟩
      have O4 := objAt_next OO3.out b4
      have B4 := Lib.hid (below_trans B3.out b4 B3.out.size)
      clear C3 OO3 b4
      by_cases z3 : e3 ≠ 0
      · have HE : Hid (R = e3) := by show _ = _; rw [← HR3.out, orE_left z3]
        have z' : ((e3 : Int) != 0) = true := by simp; omega
        clear O4 p3_0 p3_1 p3_2 p3_3 p3_4 p3_5 p3_6 p3_7
        go_wp2
        go_ret
        exact ⟨by rw [HE.out]; rfl, B4.out⟩
      obtain rfl : e3 = 0 := by simpa using z3
      have HR4 := HR3.out
      rw [orE_right] at HR4
      have HR4 := Lib.hid HR4
      clear z3 HR3
      have C4 := checkGoneNode_is d.gn d.nodes M.gn M.an M.hn M.cn (by omega) (by omega) (fun x hx => (HW.out.2.1.2.1 x hx).1) HW.out.2.2.2.1 w4 (HT.out.below B4.out) (nmsAt_next HM.out.2.2.1 B4.out) (nodesAt_next HM.out.1.2.1 B4.out)
      obtain ⟨e4, he4⟩ : ∃ e, goneE V8 (hasNode d.nodes) none d.gn = e := ⟨_, rfl⟩
      rw [he4] at C4 HR4
      have C4 := Lib.hid C4
      have p4_0 := objAt_cell O4 0 rfl
      have p4_1 := objAt_cell O4 1 rfl
      have p4_2 := objAt_cell O4 2 rfl
      have p4_3 := objAt_cell O4 3 rfl
      have p4_4 := objAt_cell O4 4 rfl
      have p4_5 := objAt_cell O4 5 rfl
      have p4_6 := objAt_cell O4 6 rfl
      have p4_7 := objAt_cell O4 7 rfl
      have OO4 := Lib.hid O4
      clear O4 he4
      clear p3_0 p3_1 p3_2 p3_3 p3_4 p3_5 p3_6 p3_7
      go_wp2_with fail
      refine C4.out.mono ?_
      rintro e w5 ⟨rfl, b5⟩
      have O5 := objAt_next OO4.out b5
      have B5 := Lib.hid (below_trans B4.out b5 B4.out.size)
      clear C4 OO4 b5
      by_cases z4 : e4 ≠ 0
      · have HE : Hid (R = e4) := by show _ = _; rw [← HR4.out, orE_left z4]
        have z' : ((e4 : Int) != 0) = true := by simp; omega
        clear O5 p4_0 p4_1 p4_2 p4_3 p4_4 p4_5 p4_6 p4_7
        go_wp2
        go_ret
        exact ⟨by rw [HE.out]; rfl, B5.out⟩
      obtain rfl : e4 = 0 := by simpa using z4
      have HR5 := HR4.out
      rw [orE_right] at HR5
      have HR5 := Lib.hid HR5
      clear z4 HR4
      have C5 := checkGoneLease_is d.gl d.leases M.gl M.al M.hl M.cl l4 l2 (fun x hx => (HW.out.2.1.2.2 x hx).1) HW.out.2.2.2.2 w5 (HT.out.below B5.out) (nmsAt_next HM.out.2.2.2 B5.out) (leasesAt_next HM.out.1.2.2 B5.out)
      obtain ⟨e5, he5⟩ : ∃ e, goneE V8 (hasLease d.leases) none d.gl = e := ⟨_, rfl⟩
      rw [he5] at C5 HR5
      have C5 := Lib.hid C5
      have p5_0 := objAt_cell O5 0 rfl
      have p5_1 := objAt_cell O5 1 rfl
      have p5_2 := objAt_cell O5 2 rfl
      have p5_3 := objAt_cell O5 3 rfl
      have p5_4 := objAt_cell O5 4 rfl
      have p5_5 := objAt_cell O5 5 rfl
      have p5_6 := objAt_cell O5 6 rfl
      have p5_7 := objAt_cell O5 7 rfl
      have OO5 := Lib.hid O5
      clear O5 he5
      clear p4_0 p4_1 p4_2 p4_3 p4_4 p4_5 p4_6 p4_7
      go_wp2_with fail
      refine C5.out.mono ?_
      rintro e w6 ⟨rfl, b6⟩
      have O6 := objAt_next OO5.out b6
      have B6 := Lib.hid (below_trans B5.out b6 B5.out.size)
      clear C5 OO5 b6
      clear O6
      go_wp2
      go_ret
      exact ⟨by rw [← HR5.out]; rfl, B6.out⟩
end Go.Proofs.YtiilagmmgpnpdaaGreatDoor
