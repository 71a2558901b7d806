/- The reference: where a job's and a lease's row of a name stands. -/
import Derived.Test.YtiilagmmgpnpdaaGreatDoorPkSt1
namespace Go.Proofs.YtiilagmmgpnpdaaGreatDoor
open Go.RowKit

set_option maxRecDepth 100000 in
set_option maxHeartbeats 1000000 in
theorem jobAt_is (xs : List JobD) (ad : Option Addr) (cap : Nat) (hlen : xs.length ≤ 140737488355328) (n : ByteArray) (w : World) (hx : JobsAt w ad xs) :
    Calls Tryz.prog 25 #[.slice ad xs.length cap, .string n] w fun e w' => ∃ r, e = .returned (.int .i64 r) ∧ At (·.name) xs n r ∧ Below w.heap.size w w' := by
  have HX := Lib.hid hx
  clear hx
  go_enter Tryz.func25, Tryz.ntmps25
  go_wp2
  go_loopw [9] (fun iv wr => ∃ (i : Nat), iv = .int .i64 (i : Int) ∧ i ≤ xs.length ∧ Below w.heap.size w wr ∧ Hid (∀ j, (hj : j < xs.length) → j < i → xs[j].name ≠ n)) (fun iv _ => xs.length - (intOf iv).toNat)
  case atStart => exact ⟨0, rfl, by omega, Below.refl _ _, fun j _ hj => by omega⟩
  case round =>
    obtain ⟨i, rfl, hi, hbr, HS⟩ := hrel
    by_cases h : (i : Int) < (xs.length : Int)
    · have hil : i < xs.length := by omega
      obtain ⟨a, rfl, hal, k0, k1, k2, k3, k4⟩ := jobsAt_next HX.out hbr i hil
      obtain ⟨x, hxi⟩ : ∃ x, xs[i] = x := ⟨_, rfl⟩
      rw [hxi] at k0 k1 k2 k3 k4
      have Hxi := Lib.hid hxi
      have hb2 := hbr.alloc hbr.size (.cells #[.string x.name, .int .i64 x.prio, .int .i64 x.need, .int .i64 x.tries, .string x.tag] 38)
      have hwr : IntKind.i64.wrap ((i : Int) + 1) = (i : Int) + 1 := IntWalk.i64_in _ (by omega)
      clear hxi
      by_cases hn : x.name = n
      · have hl : (x.name.toList == n.toList) = true := by rw [same_lists, decide_eq_true hn]
        have HR : Hid (At (·.name) xs n (i : Int)) := .inr ⟨i, hil, rfl, by rw [Hxi.out]; exact hn, fun j hj => HS.out j (by omega) hj⟩
        clear hn
        go_wp2
        go_ret
        exact ⟨_, rfl, HR.out, hb2⟩
      · have hl : (x.name.toList == n.toList) = false := by rw [same_lists, decide_eq_false hn]
        have HS2 : Hid (∀ j, (hj : j < xs.length) → j < i + 1 → xs[j].name ≠ n) := by
          intro j hj hji
          by_cases e : j = i
          · subst e; rw [Hxi.out]; exact hn
          · exact HS.out j hj (by omega)
        clear hn
        go_wp2
        go_roundw
        case rel => exact ⟨i + 1, by simp, by omega, hb2, HS2⟩
        case measure => simp [intOf]; omega
    · obtain rfl : i = xs.length := by omega
      have HR : Hid (At (·.name) xs n (-1)) := .inl ⟨rfl, fun j hj => HS.out j hj hj⟩
      go_wp2
      go_ret
      exact ⟨-1, rfl, HR.out, hbr⟩
set_option maxRecDepth 100000 in
set_option maxHeartbeats 1000000 in
theorem leaseAt_is (xs : List LeaseD) (ad : Option Addr) (cap : Nat) (hlen : xs.length ≤ 140737488355328) (n : ByteArray) (w : World) (hx : LeasesAt w ad xs) :
    Calls Tryz.prog 26 #[.slice ad xs.length cap, .string n] w fun e w' => ∃ r, e = .returned (.int .i64 r) ∧ At (·.job) xs n r ∧ Below w.heap.size w w' := by
  have HX := Lib.hid hx
  clear hx
  go_enter Tryz.func26, Tryz.ntmps26
  go_wp2
  go_loopw [9] (fun iv wr => ∃ (i : Nat), iv = .int .i64 (i : Int) ∧ i ≤ xs.length ∧ Below w.heap.size w wr ∧ Hid (∀ j, (hj : j < xs.length) → j < i → xs[j].job ≠ n)) (fun iv _ => xs.length - (intOf iv).toNat)
  case atStart => exact ⟨0, rfl, by omega, Below.refl _ _, fun j _ hj => by omega⟩
  case round =>
    obtain ⟨i, rfl, hi, hbr, HS⟩ := hrel
    by_cases h : (i : Int) < (xs.length : Int)
    · have hil : i < xs.length := by omega
      obtain ⟨a, rfl, hal, k0, k1, k2⟩ := leasesAt_next HX.out hbr i hil
      obtain ⟨x, hxi⟩ : ∃ x, xs[i] = x := ⟨_, rfl⟩
      rw [hxi] at k0 k1 k2
      have Hxi := Lib.hid hxi
      have hb2 := hbr.alloc hbr.size (.cells #[.string x.job, .string x.node, .int .i64 x.til] 42)
      have hwr : IntKind.i64.wrap ((i : Int) + 1) = (i : Int) + 1 := IntWalk.i64_in _ (by omega)
      clear hxi
      by_cases hn : x.job = n
      · have hl : (x.job.toList == n.toList) = true := by rw [same_lists, decide_eq_true hn]
        have HR : Hid (At (·.job) xs n (i : Int)) := .inr ⟨i, hil, rfl, by rw [Hxi.out]; exact hn, fun j hj => HS.out j (by omega) hj⟩
        clear hn
        go_wp2
        go_ret
        exact ⟨_, rfl, HR.out, hb2⟩
      · have hl : (x.job.toList == n.toList) = false := by rw [same_lists, decide_eq_false hn]
        have HS2 : Hid (∀ j, (hj : j < xs.length) → j < i + 1 → xs[j].job ≠ n) := by
          intro j hj hji
          by_cases e : j = i
          · subst e; rw [Hxi.out]; exact hn
          · exact HS.out j hj (by omega)
        clear hn
        go_wp2
        go_roundw
        case rel => exact ⟨i + 1, by simp, by omega, hb2, HS2⟩
        case measure => simp [intOf]; omega
    · obtain rfl : i = xs.length := by omega
      have HR : Hid (At (·.job) xs n (-1)) := .inl ⟨rfl, fun j hj => HS.out j hj hj⟩
      go_wp2
      go_ret
      exact ⟨-1, rfl, HR.out, hbr⟩
end Go.Proofs.YtiilagmmgpnpdaaGreatDoor
