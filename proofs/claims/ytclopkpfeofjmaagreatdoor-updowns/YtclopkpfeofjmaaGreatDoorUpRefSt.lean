/- The reference's UpState and UpBytes. -/
import Derived.Test.YtclopkpfeofjmaaGreatDoorUpRef
import Derived.Test.YtclopkpfeofjmaaGreatDoorUpLaw
import Derived.Test.YtclopkpfeofjmaaGreatDoorPkStR
namespace Go.Proofs.YtclopkpfeofjmaaGreatDoor
open Go.RowKit

theorem okUp_in (a b : Int) : okUp a b = (inR a 1 b && inR b 1 3) := by
  rw [Bool.eq_iff_iff, okUp_iff]
  simp [inR]
  omega
theorem small20 {s : StD} (h : checkE V8 s = 0) : s.nodes.length ≤ 20 := by
  obtain ⟨_, _, ⟨l2, _⟩, _⟩ := ok_of_valid (v := 3) ((check_zero V8 s).1 h) (fits_three s)
  exact l2
theorem upR_chk {s : StD} {a b : Int} (h : okUp a b = true) (hc : checkE V8 s ≠ 0) : upR s a b = (zeroSt, checkE V8 s) := by
  have e : fitsR s a = (false, checkE V8 s) := by unfold fitsR; rw [if_pos hc]
  rw [upR_err h (by rw [e]; exact hc), e]
theorem upR_unfit {s : StD} {a b : Int} (h : okUp a b = true) (hc : checkE V8 s = 0) (hf : fitsD s a = false) : upR s a b = (zeroSt, 4) := by
  have h3 := (okUp_iff a b).1 h
  have e : fitsR s a = (false, 0) := by unfold fitsR; rw [if_neg (by simp [hc]), if_pos (by omega), hf]
  exact upR_not h (by rw [e]) (by rw [e])
end Go.Proofs.YtclopkpfeofjmaaGreatDoor
