/- The reference's Has at jobs, nodes, leases and strings. -/
import Derived.Test.YtheolakkicagkaaGreatDoorPkDl1
import Derived.Test.YtheolakkicagkaaGreatDoorPkWi5
import Derived.Test.YtheolakkicagkaaGreatDoorPkWi2
namespace Go.Proofs.YtheolakkicagkaaGreatDoor
open Go.RowKit

set_option maxRecDepth 100000 in
set_option maxHeartbeats 4000000 in
theorem hasNm_is (xs : List ByteArray) (x : ByteArray) (B : Bool) (hB : B = true ↔ x ∈ xs) (ad : Option Addr) (cap : Nat) (hx1 : xs.length ≤ 140737488355328) (w : World) (hx : NmsAt w ad xs) :
    Calls Tryz.prog 23 #[.slice ad xs.length cap, .string x] w fun e w' => e = .returned (.bool B) ∧ Below w.heap.size w w' := by
  have HX := Lib.hid hx
  have HB := Lib.hid hB
  clear hx hB
  go_enter Tryz.func23, Tryz.ntmps23
  go_wp2
  go_loopw [9] (fun iv wr => ∃ (i : Nat), iv = .int .i64 (i : Int) ∧ i ≤ xs.length ∧ Below w.heap.size w wr ∧ Hid (∀ j (h : j < xs.length), j < i → xs[j] ≠ x)) (fun iv _ => xs.length - (intOf iv).toNat)
  case atStart => exact ⟨0, rfl, by omega, Below.refl _ _, fun j _ hj => by omega⟩
  case round =>
    obtain ⟨i, rfl, hi, hbr, HS⟩ := hrel
    have hbw : Below w.heap.size w wr := hbr
    by_cases h : (i : Int) < (xs.length : Int)
    · have hil : i < xs.length := by omega
      obtain ⟨a, rfl, hal, k0⟩ := nmsAt_next HX.out hbw i hil
      obtain ⟨y, hyi⟩ : ∃ y, xs[i] = y := ⟨_, rfl⟩
      rw [hyi] at k0
      have BA := Lib.hid hbw
      have BC := Lib.hid hbr
      have HQ := Lib.hid hyi
      clear hyi hbr hbw
      by_cases hxy : x = y
      · have HM : Hid (x ∈ xs) := by show _ ∈ _; rw [hxy, ← HQ.out]; exact List.getElem_mem hil
        obtain rfl : B = true := HB.out.2 HM.out
        subst hxy
        have h_x := lists_eq x
        go_wp2
        go_ret
        exact ⟨rfl, by first | exact BA.out | (rw [← hH]; exact BA.out)⟩
      · have HS2 : Hid (∀ j (h : j < xs.length), j < i + 1 → xs[j] ≠ x) := fun j hj hji => by
          by_cases e : j = i
          · subst e; rw [HQ.out]; exact fun h => hxy h.symm
          · exact HS.out j hj (by omega)
        have hf := lists_ne hxy
        clear hxy
        go_wp2
        go_roundw
        case rel => exact ⟨i + 1, by simp, by omega, BC.out, HS2⟩
        case measure => simp [intOf]; omega
    · obtain rfl : i = xs.length := by omega
      obtain rfl : B = false := by
        cases B with
        | false => rfl
        | true =>
          obtain ⟨j, hj, e⟩ := List.getElem_of_mem (HB.out.1 (by first | rfl | trivial))
          exact absurd e (HS.out j hj hj)
      have BA := Lib.hid hbw
      clear hbw hbr
      go_wp2
      go_ret
      exact ⟨rfl, by first | exact BA.out | (rw [← hH]; exact BA.out)⟩
end Go.Proofs.YtheolakkicagkaaGreatDoor
