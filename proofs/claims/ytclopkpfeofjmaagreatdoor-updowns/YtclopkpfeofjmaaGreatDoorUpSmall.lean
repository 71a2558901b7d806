/- Package up: its small functions. -/
import Derived.Test.YtclopkpfeofjmaaGreatDoorUpMore
import Derived.Test.YtclopkpfeofjmaaGreatDoorPkSt2
import Derived.Test.YtclopkpfeofjmaaGreatDoorPkWi2
import Derived.Test.YtclopkpfeofjmaaGreatDoorPkTxt
namespace Go.Proofs.YtclopkpfeofjmaaGreatDoor
open Go.RowKit

def okV (v : Int) : Bool := decide (1 ≤ v) && decide (v ≤ 3)
def okUp (a b : Int) : Bool := okV a && (okV b && decide (a ≤ b))
theorem okV_iff (v : Int) : okV v = true ↔ 1 ≤ v ∧ v ≤ 3 := by simp [okV]
theorem okUp_iff (a b : Int) : okUp a b = true ↔ 1 ≤ a ∧ a ≤ b ∧ b ≤ 3 := by simp [okUp, okV]; omega
theorem isVersion_is (v : Int) (w : World) : Calls Tryz.prog 19 #[.int .i64 v] w fun e w' => e = .returned (.bool (okV v)) ∧ w = w' := by
  unfold okV
  by_cases h : 1 ≤ v
  · have h1 : decide (1 ≤ v) = true := by simpa using h
    rw [h1, Bool.true_and]
    go_enter Tryz.func19, Tryz.ntmps19
    go_wp2
    go_ret
    exact ⟨rfl, rfl⟩
  · have h1 : decide (1 ≤ v) = false := by simpa using h
    rw [h1, Bool.false_and]
    go_enter Tryz.func19, Tryz.ntmps19
    go_wp2
    go_ret
    exact ⟨rfl, rfl⟩
theorem isUpward_is (a b : Int) (w : World) : Calls Tryz.prog 10 #[.int .i64 a, .int .i64 b] w fun e w' => e = .returned (.bool (okUp a b)) ∧ w = w' := by
  have HA := Lib.hid (fun w => isVersion_is a w)
  have HB := Lib.hid (fun w => isVersion_is b w)
  unfold okUp
  cases ha : okV a with
  | false =>
    rw [ha] at HA
    clear ha
    go_enter Tryz.func10, Tryz.ntmps10
    go_wp2_with fail
    refine (HA.out _).mono ?_
    rintro e w' ⟨rfl, rfl⟩
    go_wp2
    go_ret
    exact ⟨rfl, rfl⟩
  | true =>
    rw [ha] at HA
    clear ha
    cases hb : okV b with
    | false =>
      rw [hb] at HB
      clear hb
      go_enter Tryz.func10, Tryz.ntmps10
      go_wp2_with fail
      refine (HA.out _).mono ?_
      rintro e w' ⟨rfl, rfl⟩
      go_wp2_with fail
      refine (HB.out _).mono ?_
      rintro e w' ⟨rfl, rfl⟩
      go_wp2
      go_ret
      exact ⟨rfl, rfl⟩
    | true =>
      rw [hb] at HB
      clear hb
      go_enter Tryz.func10, Tryz.ntmps10
      go_wp2_with fail
      refine (HA.out _).mono ?_
      rintro e w' ⟨rfl, rfl⟩
      go_wp2_with fail
      refine (HB.out _).mono ?_
      rintro e w' ⟨rfl, rfl⟩
      go_wp2
      go_ret
      exact ⟨rfl, rfl⟩
end Go.Proofs.YtclopkpfeofjmaaGreatDoor
