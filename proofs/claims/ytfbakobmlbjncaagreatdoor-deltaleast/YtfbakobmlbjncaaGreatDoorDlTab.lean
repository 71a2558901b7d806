/- Package delta: tables of rows by their keys, and names that are gone. -/
import Derived.Test.YtfbakobmlbjncaaGreatDoorDlMap
import Derived.Test.YtfbakobmlbjncaaGreatDoorDlArg
import Derived.Test.YtfbakobmlbjncaaGreatDoorPkSt1
import Derived.Test.YtfbakobmlbjncaaGreatDoorPkSt2
import Derived.Test.YtfbakobmlbjncaaGreatDoorPkWi2
import Derived.Deep.RegionLaw
import Derived.Deep.RegionHeld3
namespace Go.Proofs.YtfbakobmlbjncaaGreatDoor
open Go.RowKit

theorem below_drawn {w w1 : World} (b1 : Below w.drew.heap.size w.drew w1) : Below w.heap.size w w1 := (Below.refl w.heap.size w).drew.trans b1
theorem put_run {w : World} {b n : Nat} {f : ByteArray → Option Value} {t e : TypeId} (ht : Tryz.prog.underlying t = some (.map 9 e)) (hown : MapAt w b n f) (hn : n < maxLen) (s : ByteArray) (hs : s.size ≤ maxLen) (u : Value) :
    ∃ w', (Instr.mapUpdate t (.map (some b)) (.string s) u).run Tryz.prog w = .ok () w' ∧ MapAt w' b (n + 1) (putF f s u) ∧ w.grownBy w' (some b) := by
  obtain ⟨D, h1, h2⟩ := hown
  obtain ⟨w', hrun, r1, r2⟩ := h1.update strKeyed ht hn (strKey hs) (d := .held u) (ps := []) rfl
  exact ⟨w', hrun, ⟨_, r1, putF_at h1.isMap h2 s u⟩, r2⟩
theorem goneE_step (U : ByteArray → Bool) (has : ByteArray → Bool) (l : List ByteArray) (i : Nat) (h : i < l.length) :
    goneE U has (prevK id l i) (l.drop i) = if isName U l[i] then (if badO (prevK id l i) l[i] then 8 else if has l[i] then 7 else goneE U has (prevK id l (i + 1)) (l.drop (i + 1))) else 4 := by
  rw [List.drop_eq_getElem_cons h, goneE, prevK_succ id l i h]
  rfl
theorem jobKey_is (x : JobD) (w : World) : Calls Tryz.prog 31 #[.agg #[.string x.name, .int .i64 x.prio, .int .i64 x.need, .int .i64 x.tries, .string x.tag]] w fun e w' => e = .returned (.string x.name) ∧ Below w.heap.size w w' := jobName_is x w
theorem nodeKey_is (x : NodeD) (w : World) : Calls Tryz.prog 33 #[.agg #[.string x.name, .int .i64 x.room, .string x.zone]] w fun e w' => e = .returned (.string x.name) ∧ Below w.heap.size w w' := nodeName_is x w
theorem leaseKey_is (x : LeaseD) (w : World) : Calls Tryz.prog 35 #[.agg #[.string x.job, .string x.node, .int .i64 x.til]] w fun e w' => e = .returned (.string x.job) ∧ Below w.heap.size w w' := leaseJob_is x w

set_option maxRecDepth 100000 in
set_option maxHeartbeats 4000000 in
theorem byKeyJob_is (xs : List JobD) (ad : Option Addr) (cap : Nat) (hlen : xs.length ≤ 40) (hw : ∀ x ∈ xs, x.name.size ≤ maxLen) (w : World) (hx : JobsAt w ad xs) :
    Calls Tryz.prog 86 #[.slice ad xs.length cap, .func (.func 31) #[] #[]] w fun e w' => e = .returned (.map (some w.heap.size)) ∧ MapAt w' w.heap.size xs.length (tabF (·.name) jobV xs) ∧ Below w.heap.size w w' := by
  have hmm := @run_makeMap Tryz.prog
  have HX := Lib.hid hx
  have HW := Lib.hid hw
  clear hx hw
  go_enter Tryz.func86, Tryz.ntmps86
  go_wp2
  clear hmm
  go_loopw [11] (fun iv wr => ∃ (i : Nat), iv = .int .i64 (i : Int) ∧ i ≤ xs.length ∧ Below w.heap.size w wr ∧ MapAt wr w.heap.size i (tabF (·.name) jobV (xs.take i))) (fun iv _ => xs.length - (intOf iv).toNat)
  case atStart => exact ⟨0, rfl, Nat.zero_le _, below_one _ _, mapAt_ext (mapAt_made w) (fun s => rfl)⟩
  case round =>
    obtain ⟨i, rfl, hi, hbr, hM⟩ := hrel
    by_cases h : (i : Int) < (xs.length : Int)
    · have hil : i < xs.length := by omega
      obtain ⟨a, rfl, hal, k0, k1, k2, k3, k4⟩ := jobsAt_next HX.out hbr i hil
      obtain ⟨x, hxi⟩ : ∃ x, xs[i] = x := ⟨_, rfl⟩
      rw [hxi] at k0 k1 k2 k3 k4
      have hwx : x.name.size ≤ maxLen := HW.out x (by rw [← hxi]; exact List.getElem_mem _)
      have Hxi := Lib.hid hxi
      have bA := below_one wr (.cells #[.string x.name, .int .i64 x.prio, .int .i64 x.need, .int .i64 x.tries, .string x.tag] 41)
      have oB := objAt_new wr #[.string x.name, .int .i64 x.prio, .int .i64 x.need, .int .i64 x.tries, .string x.tag] 41
      have M0 := Lib.hid (mapAt_below hM bA)
      have BR := Lib.hid (below_trans hbr bA hbr.size)
      have OB := Lib.hid oB
      have hbs := hbr.size
      have c0 := objAt_cell oB 0 rfl
      have c1 := objAt_cell oB 1 rfl
      have c2 := objAt_cell oB 2 rfl
      have c3 := objAt_cell oB 3 rfl
      have c4 := objAt_cell oB 4 rfl
      have cl := objAt_lt oB
      clear hxi oB bA hM
      go_upto_region 5 with fail
      go_region_law (first
        | (go_simp; go_at_call 31; refine (jobKey_is x _).mono ?_; rintro e w1 ⟨rfl, b1'⟩; have b1 := below_drawn b1'; have B1 := Lib.hid (below_trans BR.out b1 BR.out.size); have O1 := objAt_next OB.out b1; have M1 := mapAt_below M0.out b1; have d0 := objAt_cell O1 0 rfl; have d1 := objAt_cell O1 1 rfl; have d2 := objAt_cell O1 2 rfl; have d3 := objAt_cell O1 3 rfl; have d4 := objAt_cell O1 4 rfl; have dl := objAt_lt O1; obtain ⟨w2, hrun, M2', hg2'⟩ := put_run Tryz.underlying105 M1 (by unfold maxLen; omega) x.name hwx (.agg #[.string x.name, .int .i64 x.prio, .int .i64 x.need, .int .i64 x.tries, .string x.tag]); have M2 := Lib.hid M2'; have hg2 := Lib.hid hg2'; clear O1 M2' hg2'))
      all_goals
        have hb2 := grownB_below B1.out hg2.out B1.out.size (Nat.le_refl _)
        have M3 : MapAt w2 w.heap.size (i + 1) (tabF (·.name) jobV (xs.take (i + 1))) := mapAt_ext M2.out (fun s => by have := tabF_step (·.name) jobV xs i hil s; rw [Hxi.out] at this; exact this)
        clear M2 hg2 M1 B1 M0 BR OB hrun
        go_wp2
        go_roundw
        case rel => exact ⟨i + 1, by simp, by omega, hb2, M3⟩
        case measure => simp [intOf]; omega
    · obtain rfl : i = xs.length := by omega
      rw [List.take_length] at hM
      go_wp2
      go_ret
      exact ⟨rfl, hM, hbr⟩

set_option maxRecDepth 100000 in
set_option maxHeartbeats 4000000 in
theorem byKeyNode_is (xs : List NodeD) (ad : Option Addr) (cap : Nat) (hlen : xs.length ≤ 40) (hw : ∀ x ∈ xs, x.name.size ≤ maxLen) (w : World) (hx : NodesAt w ad xs) :
    Calls Tryz.prog 88 #[.slice ad xs.length cap, .func (.func 33) #[] #[]] w fun e w' => e = .returned (.map (some w.heap.size)) ∧ MapAt w' w.heap.size xs.length (tabF (·.name) nodeV xs) ∧ Below w.heap.size w w' := by
  have hmm := @run_makeMap Tryz.prog
  have HX := Lib.hid hx
  have HW := Lib.hid hw
  clear hx hw
  go_enter Tryz.func88, Tryz.ntmps88
  go_wp2
  clear hmm
  go_loopw [11] (fun iv wr => ∃ (i : Nat), iv = .int .i64 (i : Int) ∧ i ≤ xs.length ∧ Below w.heap.size w wr ∧ MapAt wr w.heap.size i (tabF (·.name) nodeV (xs.take i))) (fun iv _ => xs.length - (intOf iv).toNat)
  case atStart => exact ⟨0, rfl, Nat.zero_le _, below_one _ _, mapAt_ext (mapAt_made w) (fun s => rfl)⟩
  case round =>
    obtain ⟨i, rfl, hi, hbr, hM⟩ := hrel
    by_cases h : (i : Int) < (xs.length : Int)
    · have hil : i < xs.length := by omega
      obtain ⟨a, rfl, hal, k0, k1, k2⟩ := nodesAt_next HX.out hbr i hil
      obtain ⟨x, hxi⟩ : ∃ x, xs[i] = x := ⟨_, rfl⟩
      rw [hxi] at k0 k1 k2
      have hwx : x.name.size ≤ maxLen := HW.out x (by rw [← hxi]; exact List.getElem_mem _)
      have Hxi := Lib.hid hxi
      have bA := below_one wr (.cells #[.string x.name, .int .i64 x.room, .string x.zone] 44)
      have oB := objAt_new wr #[.string x.name, .int .i64 x.room, .string x.zone] 44
      have M0 := Lib.hid (mapAt_below hM bA)
      have BR := Lib.hid (below_trans hbr bA hbr.size)
      have OB := Lib.hid oB
      have hbs := hbr.size
      have c0 := objAt_cell oB 0 rfl
      have c1 := objAt_cell oB 1 rfl
      have c2 := objAt_cell oB 2 rfl
      have cl := objAt_lt oB
      clear hxi oB bA hM
      go_upto_region 5 with fail
      go_region_law (first
        | (go_simp; go_at_call 33; refine (nodeKey_is x _).mono ?_; rintro e w1 ⟨rfl, b1'⟩; have b1 := below_drawn b1'; have B1 := Lib.hid (below_trans BR.out b1 BR.out.size); have O1 := objAt_next OB.out b1; have M1 := mapAt_below M0.out b1; have d0 := objAt_cell O1 0 rfl; have d1 := objAt_cell O1 1 rfl; have d2 := objAt_cell O1 2 rfl; have dl := objAt_lt O1; obtain ⟨w2, hrun, M2', hg2'⟩ := put_run Tryz.underlying106 M1 (by unfold maxLen; omega) x.name hwx (.agg #[.string x.name, .int .i64 x.room, .string x.zone]); have M2 := Lib.hid M2'; have hg2 := Lib.hid hg2'; clear O1 M2' hg2'))
      all_goals
        have hb2 := grownB_below B1.out hg2.out B1.out.size (Nat.le_refl _)
        have M3 : MapAt w2 w.heap.size (i + 1) (tabF (·.name) nodeV (xs.take (i + 1))) := mapAt_ext M2.out (fun s => by have := tabF_step (·.name) nodeV xs i hil s; rw [Hxi.out] at this; exact this)
        clear M2 hg2 M1 B1 M0 BR OB hrun
        go_wp2
        go_roundw
        case rel => exact ⟨i + 1, by simp, by omega, hb2, M3⟩
        case measure => simp [intOf]; omega
    · obtain rfl : i = xs.length := by omega
      rw [List.take_length] at hM
      go_wp2
      go_ret
      exact ⟨rfl, hM, hbr⟩

set_option maxRecDepth 100000 in
set_option maxHeartbeats 4000000 in
theorem byKeyLease_is (xs : List LeaseD) (ad : Option Addr) (cap : Nat) (hlen : xs.length ≤ 40) (hw : ∀ x ∈ xs, x.job.size ≤ maxLen) (w : World) (hx : LeasesAt w ad xs) :
    Calls Tryz.prog 90 #[.slice ad xs.length cap, .func (.func 35) #[] #[]] w fun e w' => e = .returned (.map (some w.heap.size)) ∧ MapAt w' w.heap.size xs.length (tabF (·.job) leaseV xs) ∧ Below w.heap.size w w' := by
  have hmm := @run_makeMap Tryz.prog
  have HX := Lib.hid hx
  have HW := Lib.hid hw
  clear hx hw
  go_enter Tryz.func90, Tryz.ntmps90
  go_wp2
  clear hmm
  go_loopw [11] (fun iv wr => ∃ (i : Nat), iv = .int .i64 (i : Int) ∧ i ≤ xs.length ∧ Below w.heap.size w wr ∧ MapAt wr w.heap.size i (tabF (·.job) leaseV (xs.take i))) (fun iv _ => xs.length - (intOf iv).toNat)
  case atStart => exact ⟨0, rfl, Nat.zero_le _, below_one _ _, mapAt_ext (mapAt_made w) (fun s => rfl)⟩
  case round =>
    obtain ⟨i, rfl, hi, hbr, hM⟩ := hrel
    by_cases h : (i : Int) < (xs.length : Int)
    · have hil : i < xs.length := by omega
      obtain ⟨a, rfl, hal, k0, k1, k2⟩ := leasesAt_next HX.out hbr i hil
      obtain ⟨x, hxi⟩ : ∃ x, xs[i] = x := ⟨_, rfl⟩
      rw [hxi] at k0 k1 k2
      have hwx : x.job.size ≤ maxLen := HW.out x (by rw [← hxi]; exact List.getElem_mem _)
      have Hxi := Lib.hid hxi
      have bA := below_one wr (.cells #[.string x.job, .string x.node, .int .i64 x.til] 47)
      have oB := objAt_new wr #[.string x.job, .string x.node, .int .i64 x.til] 47
      have M0 := Lib.hid (mapAt_below hM bA)
      have BR := Lib.hid (below_trans hbr bA hbr.size)
      have OB := Lib.hid oB
      have hbs := hbr.size
      have c0 := objAt_cell oB 0 rfl
      have c1 := objAt_cell oB 1 rfl
      have c2 := objAt_cell oB 2 rfl
      have cl := objAt_lt oB
      clear hxi oB bA hM
      go_upto_region 5 with fail
      go_region_law (first
        | (go_simp; go_at_call 35; refine (leaseKey_is x _).mono ?_; rintro e w1 ⟨rfl, b1'⟩; have b1 := below_drawn b1'; have B1 := Lib.hid (below_trans BR.out b1 BR.out.size); have O1 := objAt_next OB.out b1; have M1 := mapAt_below M0.out b1; have d0 := objAt_cell O1 0 rfl; have d1 := objAt_cell O1 1 rfl; have d2 := objAt_cell O1 2 rfl; have dl := objAt_lt O1; obtain ⟨w2, hrun, M2', hg2'⟩ := put_run Tryz.underlying128 M1 (by unfold maxLen; omega) x.job hwx (.agg #[.string x.job, .string x.node, .int .i64 x.til]); have M2 := Lib.hid M2'; have hg2 := Lib.hid hg2'; clear O1 M2' hg2'))
      all_goals
        have hb2 := grownB_below B1.out hg2.out B1.out.size (Nat.le_refl _)
        have M3 : MapAt w2 w.heap.size (i + 1) (tabF (·.job) leaseV (xs.take (i + 1))) := mapAt_ext M2.out (fun s => by have := tabF_step (·.job) leaseV xs i hil s; rw [Hxi.out] at this; exact this)
        clear M2 hg2 M1 B1 M0 BR OB hrun
        go_wp2
        go_roundw
        case rel => exact ⟨i + 1, by simp, by omega, hb2, M3⟩
        case measure => simp [intOf]; omega
    · obtain rfl : i = xs.length := by omega
      rw [List.take_length] at hM
      go_wp2
      go_ret
      exact ⟨rfl, hM, hbr⟩
end Go.Proofs.YtfbakobmlbjncaaGreatDoor
