/- The closed fact wired of the laws on package wire. -/
import Derived.Test.YtdbopgmckndmeaaDoorWiDec
import Derived.Test.YtdbopgmckndmeaaDoorWiEq
import Derived.Deep.RegionHeld3
namespace Go.Proofs.YtdbopgmckndmeaaDoor
open Go.RowKit

def sampleS : StD := ⟨4, sampleJ, sampleN, sampleL⟩
def sampleB : List UInt8 := [4, 2, 1, 97, 0, 3, 0, 0, 1, 98, 0, 2, 0, 1, 120, 1, 1, 110, 4, 0, 1, 1, 97, 1, 110, 9]
theorem sample_bytes : stB 3 sampleS = sampleB := by
  simp [sampleS, sampleB, sampleJ, sampleN, sampleL, stB, rowsE', jobB, nodeB, leaseB, textE, zigE, intE, zig, num_lt, ByteArray.size]
theorem sample_fits : fitsR sampleS 3 = (true, 0) := by
  have h : checkE V8 sampleS = 0 := sample_check
  unfold fitsR
  rw [if_neg (by omega), if_pos (by omega), fits_three]
theorem sample_enc : wencR sampleS 3 = (⟨sampleB.toArray⟩, 0) := by
  unfold wencR
  rw [sample_fits, sample_bytes]
  simp
theorem sample_dec : wdecR 3 sampleB = (sampleS, 0) := by
  unfold wdecR
  rw [if_pos (by omega), ← sample_bytes]
  exact wire_back sample_check (fits_three _)
theorem sample_w : wState sampleS := by
  refine ⟨by decide, ?_, ?_, ?_⟩
  · intro x hx
    simp only [sampleS, sampleJ, List.mem_cons, List.not_mem_nil, or_false] at hx
    rcases hx with rfl | rfl <;> exact ⟨by decide, by decide, by decide, by decide, by decide⟩
  · intro x hx
    simp only [sampleS, sampleN, List.mem_cons, List.not_mem_nil, or_false] at hx
    subst hx; exact ⟨by decide, by decide, by decide⟩
  · intro x hx
    simp only [sampleS, sampleL, List.mem_cons, List.not_mem_nil, or_false] at hx
    subst hx; exact ⟨by decide, by decide, by decide⟩
/-- Four cells and the memory below, kept behind a call that makes memory. -/
theorem held4 {T : Nat} {v0 v1 v2 v3 : Value} {W w1 w2 : World} (b2 : Below w1.heap.size w1 w2)
    (h : (w1.cell? ⟨T, 0, none⟩ = some v0 ∧ w1.cell? ⟨T, 1, none⟩ = some v1 ∧ w1.cell? ⟨T, 2, none⟩ = some v2 ∧ w1.cell? ⟨T, 3, none⟩ = some v3) ∧ T < w1.heap.size ∧ Below W.heap.size W w1) :
    (w2.cell? ⟨T, 0, none⟩ = some v0 ∧ w2.cell? ⟨T, 1, none⟩ = some v1 ∧ w2.cell? ⟨T, 2, none⟩ = some v2 ∧ w2.cell? ⟨T, 3, none⟩ = some v3) ∧ T < w2.heap.size ∧ Below W.heap.size W w2 := by
  obtain ⟨⟨c0, c1, c2, c3⟩, h1, h3⟩ := h
  have hs := b2.size
  exact ⟨⟨by rw [b2.cell (p := ⟨T, 0, none⟩) h1]; exact c0, by rw [b2.cell (p := ⟨T, 1, none⟩) h1]; exact c1, by rw [b2.cell (p := ⟨T, 2, none⟩) h1]; exact c2, by rw [b2.cell (p := ⟨T, 3, none⟩) h1]; exact c3⟩, by omega, below_trans h3 b2 h3.size⟩
set_option maxRecDepth 100000 in
set_option maxHeartbeats 4000000 in
theorem wired_is (w : World) (hT : Tabs w) : Calls Tryd.prog 18 #[] w fun e w' => e = .returned (.bool true) ∧ Below w.heap.size w w' := by
  have HT := Lib.hid hT
  have HS := Lib.hid sample_is
  clear hT
  have hsz : (⟨sampleB.toArray⟩ : ByteArray).size = 26 := rfl
  go_enter Tryd.func18, Tryd.ntmps18
  go_wp2_with fail
  refine (HS.out _).mono ?_
  rintro e w1 ⟨rfl, oj, on, ol, b1⟩
  have HE := wencode_any sampleS (some ⟨w.heap.size + 1, 0, none⟩) (some ⟨w.heap.size + 1 + 1, 0, none⟩) (some ⟨w.heap.size + 1 + 1 + 1, 0, none⟩) 2 1 1 3 sample_w w1 (HT.out.below b1) (ownJobs oj rfl) (ownNodes on rfl) (ownLeases ol rfl)
  rw [sample_enc] at HE
  have HE := Lib.hid HE
  clear oj on ol
  go_wp2_with fail
  refine HE.out.mono ?_
  rintro e w2 ⟨rfl, b2⟩
  have B2 := below_trans b1 b2 b1.size
  have HD := wdecode_any ⟨sampleB.toArray⟩ (by rw [hsz]; omega) 3 w2 (HT.out.below B2)
  rw [show (⟨sampleB.toArray⟩ : ByteArray).data.toList = sampleB from rfl, sample_dec] at HD
  have HD := Lib.hid HD
  clear HE b1 b2
  go_wp2_with fail
  refine HD.out.mono ?_
  rintro e w3 ⟨aj, an, al, cj, cn, cl, rfl, oj, on, ol, b3⟩
  have B3 := below_trans B2 b3 B2.size
  obtain ⟨T, hTT⟩ : ∃ T, w3.heap.size = T := ⟨_, rfl⟩
  have q := box_new4 w3 (.int .i64 sampleS.rev) (.slice aj sampleS.jobs.length cj) (.slice an sampleS.nodes.length cn) (.slice al sampleS.leases.length cl) 26
  have b4 := below_one w3 (.cells #[.int .i64 sampleS.rev, .slice aj sampleS.jobs.length cj, .slice an sampleS.nodes.length cn, .slice al sampleS.leases.length cl] 26)
  have B4 := below_trans B3 b4 B3.size
  have oj4 := own_next oj b4
  have on4 := own_next on b4
  have ol4 := own_next ol b4
  rw [hTT] at q
  clear oj on ol b3 b4 HD B2 B3
  go_wp2_with fail
  generalize w3.alloc (.cells #[.int .i64 sampleS.rev, .slice aj sampleS.jobs.length cj, .slice an sampleS.nodes.length cn, .slice al sampleS.leases.length cl] 26) = W at q B4 oj4 on4 ol4 ⊢
  have o1 : (W.cell? ⟨T, 0, none⟩ = some (.int .i64 sampleS.rev) ∧ W.cell? ⟨T, 1, none⟩ = some (.slice aj sampleS.jobs.length cj) ∧ W.cell? ⟨T, 2, none⟩ = some (.slice an sampleS.nodes.length cn) ∧ W.cell? ⟨T, 3, none⟩ = some (.slice al sampleS.leases.length cl)) ∧ T < W.heap.size ∧ Below W.heap.size W W := ⟨⟨q.1 0 _ rfl, q.1 1 _ rfl, q.1 2 _ rfl, q.1 3 _ rfl⟩, q.2, Below.refl _ _⟩
  have HSm := Lib.hid (fun v aj' an' al' (hb : Below W.heap.size W v) (hj : JobsAt v aj' sampleS.jobs) (hn : NodesAt v an' sampleS.nodes) (hl : LeasesAt v al' sampleS.leases) => same_is sampleS sampleS aj an al aj' an' al' cj cn cl 2 1 1 ⟨by decide, by decide, by decide⟩ v (jobsAt_next (ownJobs oj4 rfl) hb) (nodesAt_next (ownNodes on4 rfl) hb) (leasesAt_next (ownLeases ol4 rfl) hb) hj hn hl)
  have BW := Lib.hid B4
  clear q oj4 on4 ol4 B4 hTT
  go_region_held3 (fun w' => (w'.cell? ⟨T, 0, none⟩ = some (.int .i64 sampleS.rev) ∧ w'.cell? ⟨T, 1, none⟩ = some (.slice aj sampleS.jobs.length cj) ∧ w'.cell? ⟨T, 2, none⟩ = some (.slice an sampleS.nodes.length cn) ∧ w'.cell? ⟨T, 3, none⟩ = some (.slice al sampleS.leases.length cl)) ∧ T < w'.heap.size ∧ Below W.heap.size W w')
    (first | assumption | exact ⟨o1.1, o1.2.1, o1.2.2.drew⟩)
    (first
      | (go_at_call 38; (with_reducible refine (HS.out _).mono ?_); rintro e x1 ⟨rfl, sj, sn, sl, c1⟩; have s1 := held4 (W := W) c1 (by assumption))
      | (go_at_call 17; refine (HSm.out _ _ _ _ (And.right (And.right (by assumption))) (ownJobs sj rfl) (ownNodes sn rfl) (ownLeases sl rfl)).mono ?_; rintro e x2 ⟨c, rfl, hc, c2⟩; obtain rfl : c = true := hc.2 (by simp); have s2 := held4 (W := W) c2 (by assumption)))
  all_goals
    go_wp2
    go_ret
    exact ⟨rfl, below_trans BW.out s2.2.2 BW.out.size⟩
end Go.Proofs.YtdbopgmckndmeaaDoor
