/- The reference's Copy. -/
import Derived.Test.YtclopkpfeofjmaaGreatDoorPkSt2
namespace Go.Proofs.YtclopkpfeofjmaaGreatDoor
open Go.RowKit

set_option maxRecDepth 100000 in
theorem copy_lease (xs : List LeaseD) (ad : Option Addr) (cap : Nat) (hlen : xs.length ≤ 40) (w : World) (hx : LeasesAt w ad xs) :
    Calls Tryz.prog 24 #[.slice ad xs.length cap] w fun e w' => ∃ ad' cap', e = .returned (.slice ad' xs.length cap') ∧ w'.ownsRow w.heap.size 48 3 (.slice ad' xs.length cap') xs.length (cLeases xs) ∧ Below w.heap.size w w' := by
  obtain ⟨i0, hi, hz0, hz1, hz2⟩ := info_parts' Tryz.info_lease
  have Hi := Lib.hid hi
  have Hz0 := Lib.hid hz0
  have Hz1 := Lib.hid hz1
  have Hz2 := Lib.hid hz2
  have HX := Lib.hid hx
  clear hi hz0 hz1 hz2 hx
  go_enter Tryz.func24, Tryz.ntmps24
  go_wp2_with (at_builtin; refine wpList_app rfl _ _ 28 rfl w.heap.size 48 i0 _ 3 40 Tryz.underlying28 Hi.out Hz0.out Hz1.out Hz2.out rfl (by decide) _ _ _ rfl (World.ownsRow_nil _ _ _ _) _ _ _ (cLeases xs) rfl ?c1 ?c2 ?c3 ?c4 ?c5 ?c6 ?_)
  case c1 => rw [cLeases_length]
  case c2 => exact src_lease HX.out
  case c3 => exact cLeases_ones xs
  case c4 => unfold maxLen; omega
  case c5 => omega
  case c6 => exact Nat.le_refl _
  intro v' w1 own1 hg _
  have hb : Below w.heap.size w w1 := (Below.refl _ _).grown hg (Nat.le_refl _) (fun j hj => by cases hj)
  have own2 : w1.ownsRow w.heap.size 48 3 v' xs.length (cLeases xs) := by simpa using own1
  obtain ⟨ad', cap', rfl, _⟩ := own_leases own2
  go_wp2
  go_ret
  exact ⟨_, _, rfl, own2, hb⟩
end Go.Proofs.YtclopkpfeofjmaaGreatDoor
