/- Package wire: Frame. -/
import Derived.Test.YtdbopgmckndmeaaDoorPkWi5
import Derived.Test.YtdbopgmckndmeaaDoorPkFr
namespace Go.Proofs.YtdbopgmckndmeaaDoor
open Go.RowKit

/-- What Frame answers. -/
def wfrR (s : StD) (v : Int) : ByteArray × Nat := if (wencR s v).2 ≠ 0 then (⟨#[]⟩, (wencR s v).2) else enc v 1 (wencR s v).1
theorem wenc_size (s : StD) (v : Int) : (wencR s v).1.size ≤ 5240 := by
  rcases wenc_cases s v with ⟨c, _, e⟩ | ⟨e, _, _, hok, _⟩
  · rw [e]; exact Nat.zero_le _
  · rw [e, bytes_size]; exact st_len hok
set_option maxRecDepth 100000 in
set_option maxHeartbeats 2000000 in
theorem wframe_any (s : StD) (aj an al : Option Addr) (cj cn cl : Nat) (v : Int) (hw : wState s) (w : World) (hT : Tabs w) (hmj : JobsAt w aj s.jobs) (hmn : NodesAt w an s.nodes) (hml : LeasesAt w al s.leases) :
    Calls Tryd.prog 14 #[.agg #[.int .i64 s.rev, .slice aj s.jobs.length cj, .slice an s.nodes.length cn, .slice al s.leases.length cl], .int .i64 v] w fun e w' => e = .returned (.tuple #[.string (wfrR s v).1, .int .i64 (wfrR s v).2]) ∧ Below w.heap.size w w' := by
  have bW := below_one w (.cells #[.int .i64 s.rev, .slice aj s.jobs.length cj, .slice an s.nodes.length cn, .slice al s.leases.length cl] 26)
  have HE := Lib.hid (wencode_any s aj an al cj cn cl v hw _ (hT.below bW) (jobsAt_next hmj bW) (nodesAt_next hmn bW) (leasesAt_next hml bW))
  have q := box_new4 w (.int .i64 s.rev) (.slice aj s.jobs.length cj) (.slice an s.nodes.length cn) (.slice al s.leases.length cl) 26
  have k0 := q.1 0 _ rfl
  have k1 := q.1 1 _ rfl
  have k2 := q.1 2 _ rfl
  have k3 := q.1 3 _ rfl
  have hsz := wenc_size s v
  have BW := Lib.hid bW
  clear q bW hT hmj hmn hml hw
  by_cases h0 : (wencR s v).2 ≠ 0
  · have hr : wfrR s v = (⟨#[]⟩, (wencR s v).2) := by unfold wfrR; rw [if_pos h0]
    have h0' : (((wencR s v).2 : Int) != 0) = true := by simp; omega
    rw [hr]
    clear hr h0 hsz
    generalize wencR s v = p at HE h0' ⊢
    go_enter Tryd.func14, Tryd.ntmps14
    go_wp2_with fail
    refine HE.out.mono ?_
    rintro e w1 ⟨rfl, b1⟩
    go_wp2
    go_ret2
    exact ⟨rfl, below_trans BW.out b1 (by simp)⟩
  · have hr : wfrR s v = enc v 1 (wencR s v).1 := by unfold wfrR; rw [if_neg h0]
    have h0 : (wencR s v).2 = 0 := by simpa using h0
    rw [hr]
    rw [h0] at HE
    clear hr h0
    generalize (wencR s v).1 = p at HE hsz ⊢
    have HF := Lib.hid (fun w' => encode_any v 1 p (by omega) w')
    generalize enc v 1 p = r at HF ⊢
    go_enter Tryd.func14, Tryd.ntmps14
    go_wp2_with fail
    refine HE.out.mono ?_
    rintro e w1 ⟨rfl, b1⟩
    have B1 := below_trans BW.out b1 (by simp)
    clear k0 k1 k2 k3
    go_wp2_with fail
    refine (HF.out _).mono ?_
    rintro e w2 ⟨rfl, b2⟩
    go_wp2
    go_ret2
    exact ⟨rfl, below_trans B1 b2 B1.size⟩
/-- The frame of a state that fits. -/
theorem wfr_good {s : StD} {v : Int} (h : wencR s v = (⟨(stB v s).toArray⟩, 0)) (hok : okSt V8 v s) (hv : 1 ≤ v ∧ v ≤ 3) : goodF v.toNat 1 (stB v s) ∧ wfrR s v = (encB v.toNat 1 ⟨(stB v s).toArray⟩, 0) := by
  have hl := st_len hok
  have g : goodF v.toNat 1 (stB v s) := ⟨by omega, by omega, by omega, by omega, by omega⟩
  refine ⟨g, ?_⟩
  unfold wfrR
  rw [h, if_neg (by simp)]
  have e : v = (v.toNat : Int) := by omega
  have := enc_good (a := v.toNat) (b := 1) (p := ⟨(stB v s).toArray⟩) g
  rw [← e] at this
  exact this
end Go.Proofs.YtdbopgmckndmeaaDoor
