/- The reference's Has at leases. -/
import Derived.Test.YtiilagmmgpnpdaaGreatDoorPkDl1
import Derived.Test.YtiilagmmgpnpdaaGreatDoorPkWi5
import Derived.Test.YtiilagmmgpnpdaaGreatDoorPkWi2
namespace Go.Proofs.YtiilagmmgpnpdaaGreatDoor
open Go.RowKit

set_option maxRecDepth 100000 in
set_option maxHeartbeats 4000000 in
theorem hasLease_is (xs : List LeaseD) (x : LeaseD) (B : Bool) (hB : B = true ↔ x ∈ xs) (ad : Option Addr) (cap : Nat) (hx1 : xs.length ≤ 140737488355328) (w : World) (hx : LeasesAt w ad xs) :
    Calls Tryz.prog 27 #[.slice ad xs.length cap, .agg #[.string x.job, .string x.node, .int .i64 x.til]] w fun e w' => e = .returned (.bool B) ∧ Below w.heap.size w w' := by
  have HX := Lib.hid hx
  have HB := Lib.hid hB
  clear hx hB
  have bW := below_one w (.cells #[.string x.job, .string x.node, .int .i64 x.til] 42)
  have oW := objAt_new w #[.string x.job, .string x.node, .int .i64 x.til] 42
  obtain ⟨H, hH⟩ : ∃ H, w.heap.size = H := ⟨_, rfl⟩
  obtain ⟨W, hW⟩ : ∃ W, w.alloc (.cells #[.string x.job, .string x.node, .int .i64 x.til] 42) = W := ⟨_, rfl⟩
  rw [hW] at bW oW
  rw [hH] at oW
  have BW := Lib.hid bW
  have OW := Lib.hid oW
  have HW := Lib.hid hW
  clear bW oW hW
  go_enter Tryz.func27, Tryz.ntmps27
  go_wp2
  rw [HW.out]
  go_loopw [9] (fun iv wr => ∃ (i : Nat), iv = .int .i64 (i : Int) ∧ i ≤ xs.length ∧ Below W.heap.size W wr ∧ Hid (∀ j (h : j < xs.length), j < i → xs[j] ≠ x)) (fun iv _ => xs.length - (intOf iv).toNat)
  case atStart => exact ⟨0, rfl, by omega, Below.refl _ _, fun j _ hj => by omega⟩
  case round =>
    obtain ⟨i, rfl, hi, hbr, HS⟩ := hrel
    have hbw : Below w.heap.size w wr := below_trans BW.out hbr BW.out.size
    by_cases h : (i : Int) < (xs.length : Int)
    · have hil : i < xs.length := by omega
      obtain ⟨a, rfl, hal, k0, k1, k2⟩ := leasesAt_next HX.out hbw i hil
      obtain ⟨y, hyi⟩ : ∃ y, xs[i] = y := ⟨_, rfl⟩
      rw [hyi] at k0 k1 k2
      have bA := below_one wr (.cells #[.string y.job, .string y.node, .int .i64 y.til] 42)
      have oX := objAt_next (objAt_next OW.out hbr) bA
      have z0 := objAt_cell oX 0 rfl
      have z1 := objAt_cell oX 1 rfl
      have z2 := objAt_cell oX 2 rfl
      have zl := objAt_lt OW.out
      have zl2 : H < wr.heap.size := Nat.lt_of_lt_of_le zl hbr.size
      have BA := Lib.hid (below_trans hbw bA hbw.size)
      have BC := Lib.hid (below_trans hbr bA hbr.size)
      clear bA oX zl
      have HQ := Lib.hid hyi
      clear hyi hbr hbw
      by_cases hxy : x = y
      · have HM : Hid (x ∈ xs) := by show _ ∈ _; rw [hxy, ← HQ.out]; exact List.getElem_mem hil
        obtain rfl : B = true := HB.out.2 HM.out
        subst hxy
        have h_job := lists_eq x.job
        have h_node := lists_eq x.node
        go_wp2
        go_ret
        exact ⟨rfl, by first | exact BA.out | (rw [← hH]; exact BA.out)⟩
      · have HS2 : Hid (∀ j (h : j < xs.length), j < i + 1 → xs[j] ≠ x) := fun j hj hji => by
          by_cases e : j = i
          · subst e; rw [HQ.out]; exact fun h => hxy h.symm
          · exact HS.out j hj (by omega)
        have hf := firstLease hxy
        clear hxy
        rcases hf with hf | ⟨q0, hf⟩ | ⟨q0, q1, hf⟩
        · go_wp2
          go_roundw
          case rel => exact ⟨i + 1, by simp, by omega, BC.out, HS2⟩
          case measure => simp [intOf]; omega
        · have g0 : (x.job.toList == y.job.toList) = true := by rw [q0]; exact lists_eq _
          clear q0
          go_wp2
          go_roundw
          case rel => exact ⟨i + 1, by simp, by omega, BC.out, HS2⟩
          case measure => simp [intOf]; omega
        · have g0 : (x.job.toList == y.job.toList) = true := by rw [q0]; exact lists_eq _
          have g1 : (x.node.toList == y.node.toList) = true := by rw [q1]; exact lists_eq _
          clear q0 q1
          go_wp2
          go_roundw
          case rel => exact ⟨i + 1, by simp, by omega, BC.out, HS2⟩
          case measure => simp [intOf]; omega
    · obtain rfl : i = xs.length := by omega
      obtain rfl : B = false := by
        cases B with
        | false => rfl
        | true =>
          obtain ⟨j, hj, e⟩ := List.getElem_of_mem (HB.out.1 (by first | rfl | trivial))
          exact absurd e (HS.out j hj hj)
      have BA := Lib.hid hbw
      clear hbw hbr
      go_wp2
      go_ret
      exact ⟨rfl, by first | exact BA.out | (rw [← hH]; exact BA.out)⟩
end Go.Proofs.YtiilagmmgpnpdaaGreatDoor
