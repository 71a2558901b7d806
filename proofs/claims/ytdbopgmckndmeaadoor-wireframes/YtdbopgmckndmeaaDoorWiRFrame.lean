/- The reference's StateFrame. -/
import Derived.Test.YtdbopgmckndmeaaDoorWiFrame
import Derived.Test.YtdbopgmckndmeaaDoorWiRRows
import Derived.Test.YtdbopgmckndmeaaDoorFrRef
namespace Go.Proofs.YtdbopgmckndmeaaDoor
open Go.RowKit

set_option maxRecDepth 100000 in
set_option maxHeartbeats 2000000 in
theorem rframe_any (s : StD) (aj an al : Option Addr) (cj cn cl : Nat) (v : Int) (w : World) (hmj : JobsAt w aj s.jobs) (hmn : NodesAt w an s.nodes) (hml : LeasesAt w al s.leases) :
    Calls Tryd.prog 15 #[.agg #[.int .i64 s.rev, .slice aj s.jobs.length cj, .slice an s.nodes.length cn, .slice al s.leases.length cl], .int .i64 v] w fun e w' => e = .returned (.tuple #[.string (wfrR s v).1, .int .i64 (wfrR s v).2]) ∧ Below w.heap.size w w' := by
  have bW := below_one w (.cells #[.int .i64 s.rev, .slice aj s.jobs.length cj, .slice an s.nodes.length cn, .slice al s.leases.length cl] 26)
  have HE := Lib.hid (rencodeS_any s aj an al cj cn cl v _ (jobsAt_next hmj bW) (nodesAt_next hmn bW) (leasesAt_next hml bW))
  have q := box_new4 w (.int .i64 s.rev) (.slice aj s.jobs.length cj) (.slice an s.nodes.length cn) (.slice al s.leases.length cl) 26
  have k0 := q.1 0 _ rfl
  have k1 := q.1 1 _ rfl
  have k2 := q.1 2 _ rfl
  have k3 := q.1 3 _ rfl
  have hsz := wenc_size s v
  have BW := Lib.hid bW
  clear q bW hmj hmn hml
  by_cases h0 : (wencR s v).2 ≠ 0
  · have hr : wfrR s v = (⟨#[]⟩, (wencR s v).2) := by unfold wfrR; rw [if_pos h0]
    have h0' : (((wencR s v).2 : Int) != 0) = true := by simp; omega
    rw [hr]
    clear hr h0 hsz
    generalize wencR s v = p at HE h0' ⊢
    go_enter Tryd.func15, Tryd.ntmps15
    go_wp2_with fail
    refine HE.out.mono ?_
    rintro e w1 ⟨rfl, b1⟩
    go_wp2
    go_ret2
    exact ⟨rfl, below_trans BW.out b1 (by simp)⟩
  · have hr : wfrR s v = enc v 1 (wencR s v).1 := by unfold wfrR; rw [if_neg h0]
    have h0 : (wencR s v).2 = 0 := by simpa using h0
    rw [hr]
    rw [h0] at HE
    clear hr h0
    generalize (wencR s v).1 = p at HE hsz ⊢
    have HF := Lib.hid (fun w' => rencode_any v 1 p (by omega) w')
    generalize enc v 1 p = r at HF ⊢
    go_enter Tryd.func15, Tryd.ntmps15
    go_wp2_with fail
    refine HE.out.mono ?_
    rintro e w1 ⟨rfl, b1⟩
    have B1 := below_trans BW.out b1 (by simp)
    clear k0 k1 k2 k3
    go_wp2_with fail
    refine (HF.out _).mono ?_
    rintro e w2 ⟨rfl, b2⟩
    go_wp2
    go_ret2
    exact ⟨rfl, below_trans B1 b2 B1.size⟩
end Go.Proofs.YtdbopgmckndmeaaDoor
