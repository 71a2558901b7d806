/- The reference: jobs and nodes in their order. -/
import Derived.Test.YtkdjpciegcofbaaDoorStRef
import Derived.Test.YtkdjpciegcofbaaDoorStRows
import Derived.Deep.QuietTactic
import Derived.BigQuiet
namespace Go.Proofs.YtkdjpciegcofbaaDoor
open Go.RowKit

theorem below_drewN {B : Nat} {w w' : World} (h : Below B w w') {n : Nat} : Below B w (w'.drewN n) := by
  induction n with
  | zero => exact h
  | succ n ih => exact ih.drew
set_option maxRecDepth 100000 in
set_option maxHeartbeats 4000000 in
theorem jobsCheck_is (xs : List JobD) (ad : Option Addr) (cap : Nat) (hlen : xs.length ≤ 40) (w : World) (hx : JobsAt w ad xs) :
    Calls Tryd.prog 40 #[.slice ad xs.length cap] w fun e w' => e = .returned (.int .i64 (rowsE (jobE V8) (·.name) none xs : Nat)) ∧ Below w.heap.size w w' := by
  obtain ⟨R, hR⟩ : ∃ R, rowsE (jobE V8) (·.name) none xs = R := ⟨_, rfl⟩
  rw [hR]
  have HR0 : Hid (rowsE (jobE V8) (·.name) (prevK (·.name) xs 0) (xs.drop 0) = R) := hR
  have HX := Lib.hid hx
  clear hR hx
  go_enter Tryd.func40, Tryd.ntmps40
  go_wp2
  go_loopw [8] (fun iv wr => ∃ (i : Nat), iv = .int .i64 (i : Int) ∧ i ≤ xs.length ∧ Below w.heap.size w wr ∧ Hid (rowsE (jobE V8) (·.name) (prevK (·.name) xs i) (xs.drop i) = R)) (fun iv _ => xs.length - (intOf iv).toNat)
  case atStart => exact ⟨0, rfl, by omega, Below.refl _ _, HR0⟩
  case round =>
    obtain ⟨i, rfl, hi, hbr, HR⟩ := hrel
    by_cases h : (i : Int) < (xs.length : Int)
    · have hil : i < xs.length := by omega
      obtain ⟨a, rfl, hal, k0, k1, k2, k3, k4⟩ := jobsAt_next HX.out hbr i hil
      obtain ⟨x, hxi⟩ : ∃ x, xs[i] = x := ⟨_, rfl⟩
      rw [hxi] at k0 k1 k2 k3 k4
      have HCx := Lib.hid (rjobCheck_is x (wr.alloc (.cells #[.string x.name, .int .i64 x.prio, .int .i64 x.need, .int .i64 x.tries, .string x.tag] 42)))
      obtain ⟨e0, he0⟩ : ∃ e0, jobE V8 x = e0 := ⟨_, rfl⟩
      rw [he0] at HCx
      have Hxi := Lib.hid hxi
      clear hxi
      go_wp2_with fail
      refine HCx.out.mono ?_
      rintro e w1 ⟨rfl, b1⟩
      have bx := box_next (box_new5 wr (.string x.name) (.int .i64 x.prio) (.int .i64 x.need) (.int .i64 x.tries) (.string x.tag) 42) b1
      have hb1 : Below w.heap.size w w1 := below_trans (hbr.alloc hbr.size _) b1 (by have := hbr.size; simp; omega)
      by_cases h0 : e0 ≠ 0
      · have HR1 : Hid (R = e0) := rows_stop hil HR.out (by rw [Hxi.out]; exact he0) h0
        have hc : ((e0 : Int) != 0) = true := by simp; omega
        go_wp2
        go_ret
        exact ⟨by rw [HR1.out]; rfl, hb1⟩
      · have h0 : e0 = 0 := by simpa using h0
        subst h0
        have c0 := bx.1 0 _ rfl
        have HE0 : Hid (jobE V8 x = 0) := he0
        clear he0 HCx k0 k1 k2 k3 k4 hal
        cases i with
        | zero =>
          have HR1 : Hid (rowsE (jobE V8) (·.name) (prevK (·.name) xs 1) (xs.drop 1) = R) := rows_first hil HR.out (by rw [Hxi.out]; exact HE0.out)
          go_wp2_with fail
          go_quiet (fail)
          go_wp2
          go_roundw
          case rel => exact ⟨1, by simp, by omega, below_drewN hb1, HR1⟩
          case measure => simp [intOf]; omega
        | succ m =>
          obtain ⟨a', ha', hal, p0, p1, p2, p3, p4⟩ := jobsAt_next HX.out hb1 m (by omega)
          cases ha'
          obtain ⟨y, hy⟩ : ∃ y, xs[m] = y := ⟨_, rfl⟩
          rw [hy] at p0
          have hwr : IntKind.i64.wrap (m : Int) = (m : Int) := IntWalk.i64_in _ (by omega)
          have hm0 : (0 : Int) ≤ (m : Int) := by omega
          have hm1 : (m : Int) < (xs.length : Int) := by omega
          have HY : Hid (xs[m] = y) := hy
          clear hy bx b1 hal
          have hl := less_toList y.name x.name
          go_wp2_with fail
          by_cases hlt : lt y.name x.name
          · have HR1 : Hid (rowsE (jobE V8) (·.name) (prevK (·.name) xs (m + 1 + 1)) (xs.drop (m + 1 + 1)) = R) := rows_on hil HR.out (by rw [Hxi.out]; exact HE0.out) (by rw [HY.out, Hxi.out]; exact hlt)
            rw [decide_eq_true hlt] at hl
            clear hlt
            go_quiet (fail)
            go_wp2
            go_roundw
            case rel => exact ⟨m + 1 + 1, by simp, by omega, below_drewN hb1, HR1⟩
            case measure => simp [intOf]; omega
          · have HR1 : Hid (R = 8) := rows_bad hil HR.out (by rw [Hxi.out]; exact HE0.out) (by rw [HY.out, Hxi.out]; exact hlt)
            rw [decide_eq_false hlt] at hl
            clear hlt
            go_quiet (fail)
            go_wp2
            go_ret
            exact ⟨by rw [HR1.out]; rfl, below_drewN hb1⟩
    · obtain rfl : i = xs.length := by omega
      have HR1 : Hid (0 = R) := by have := HR.out; rw [rowsE_end] at this; exact this
      go_wp2
      go_ret
      exact ⟨by rw [← HR1.out]; rfl, hbr⟩
set_option maxRecDepth 100000 in
set_option maxHeartbeats 4000000 in
theorem nodesCheck_is (xs : List NodeD) (ad : Option Addr) (cap : Nat) (hlen : xs.length ≤ 40) (w : World) (hx : NodesAt w ad xs) :
    Calls Tryd.prog 41 #[.slice ad xs.length cap] w fun e w' => e = .returned (.int .i64 (rowsE (nodeE V8) (·.name) none xs : Nat)) ∧ Below w.heap.size w w' := by
  obtain ⟨R, hR⟩ : ∃ R, rowsE (nodeE V8) (·.name) none xs = R := ⟨_, rfl⟩
  rw [hR]
  have HR0 : Hid (rowsE (nodeE V8) (·.name) (prevK (·.name) xs 0) (xs.drop 0) = R) := hR
  have HX := Lib.hid hx
  clear hR hx
  go_enter Tryd.func41, Tryd.ntmps41
  go_wp2
  go_loopw [8] (fun iv wr => ∃ (i : Nat), iv = .int .i64 (i : Int) ∧ i ≤ xs.length ∧ Below w.heap.size w wr ∧ Hid (rowsE (nodeE V8) (·.name) (prevK (·.name) xs i) (xs.drop i) = R)) (fun iv _ => xs.length - (intOf iv).toNat)
  case atStart => exact ⟨0, rfl, by omega, Below.refl _ _, HR0⟩
  case round =>
    obtain ⟨i, rfl, hi, hbr, HR⟩ := hrel
    by_cases h : (i : Int) < (xs.length : Int)
    · have hil : i < xs.length := by omega
      obtain ⟨a, rfl, hal, k0, k1, k2⟩ := nodesAt_next HX.out hbr i hil
      obtain ⟨x, hxi⟩ : ∃ x, xs[i] = x := ⟨_, rfl⟩
      rw [hxi] at k0 k1 k2
      have HCx := Lib.hid (rnodeCheck_is x (wr.alloc (.cells #[.string x.name, .int .i64 x.room, .string x.zone] 45)))
      obtain ⟨e0, he0⟩ : ∃ e0, nodeE V8 x = e0 := ⟨_, rfl⟩
      rw [he0] at HCx
      have Hxi := Lib.hid hxi
      clear hxi
      go_wp2_with fail
      refine HCx.out.mono ?_
      rintro e w1 ⟨rfl, b1⟩
      have bx := box_next (box_new3 wr (.string x.name) (.int .i64 x.room) (.string x.zone) 45) b1
      have hb1 : Below w.heap.size w w1 := below_trans (hbr.alloc hbr.size _) b1 (by have := hbr.size; simp; omega)
      by_cases h0 : e0 ≠ 0
      · have HR1 : Hid (R = e0) := rows_stop hil HR.out (by rw [Hxi.out]; exact he0) h0
        have hc : ((e0 : Int) != 0) = true := by simp; omega
        go_wp2
        go_ret
        exact ⟨by rw [HR1.out]; rfl, hb1⟩
      · have h0 : e0 = 0 := by simpa using h0
        subst h0
        have c0 := bx.1 0 _ rfl
        have HE0 : Hid (nodeE V8 x = 0) := he0
        clear he0 HCx k0 k1 k2 hal
        cases i with
        | zero =>
          have HR1 : Hid (rowsE (nodeE V8) (·.name) (prevK (·.name) xs 1) (xs.drop 1) = R) := rows_first hil HR.out (by rw [Hxi.out]; exact HE0.out)
          go_wp2_with fail
          go_quiet (fail)
          go_wp2
          go_roundw
          case rel => exact ⟨1, by simp, by omega, below_drewN hb1, HR1⟩
          case measure => simp [intOf]; omega
        | succ m =>
          obtain ⟨a', ha', hal, p0, p1, p2⟩ := nodesAt_next HX.out hb1 m (by omega)
          cases ha'
          obtain ⟨y, hy⟩ : ∃ y, xs[m] = y := ⟨_, rfl⟩
          rw [hy] at p0
          have hwr : IntKind.i64.wrap (m : Int) = (m : Int) := IntWalk.i64_in _ (by omega)
          have hm0 : (0 : Int) ≤ (m : Int) := by omega
          have hm1 : (m : Int) < (xs.length : Int) := by omega
          have HY : Hid (xs[m] = y) := hy
          clear hy bx b1 hal
          have hl := less_toList y.name x.name
          go_wp2_with fail
          by_cases hlt : lt y.name x.name
          · have HR1 : Hid (rowsE (nodeE V8) (·.name) (prevK (·.name) xs (m + 1 + 1)) (xs.drop (m + 1 + 1)) = R) := rows_on hil HR.out (by rw [Hxi.out]; exact HE0.out) (by rw [HY.out, Hxi.out]; exact hlt)
            rw [decide_eq_true hlt] at hl
            clear hlt
            go_quiet (fail)
            go_wp2
            go_roundw
            case rel => exact ⟨m + 1 + 1, by simp, by omega, below_drewN hb1, HR1⟩
            case measure => simp [intOf]; omega
          · have HR1 : Hid (R = 8) := rows_bad hil HR.out (by rw [Hxi.out]; exact HE0.out) (by rw [HY.out, Hxi.out]; exact hlt)
            rw [decide_eq_false hlt] at hl
            clear hlt
            go_quiet (fail)
            go_wp2
            go_ret
            exact ⟨by rw [HR1.out]; rfl, below_drewN hb1⟩
    · obtain rfl : i = xs.length := by omega
      have HR1 : Hid (0 = R) := by have := HR.out; rw [rowsE_end] at this; exact this
      go_wp2
      go_ret
      exact ⟨by rw [← HR1.out]; rfl, hbr⟩
end Go.Proofs.YtkdjpciegcofbaaDoor
