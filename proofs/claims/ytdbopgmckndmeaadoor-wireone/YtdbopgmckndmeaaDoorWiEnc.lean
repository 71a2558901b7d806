/- Package wire: Encode and Decode. -/
import Derived.Test.YtdbopgmckndmeaaDoorWiWhole
namespace Go.Proofs.YtdbopgmckndmeaaDoor
open Go.RowKit

/-- What Encode answers. -/
def wencR (s : StD) (v : Int) : ByteArray × Nat := if (fitsR s v).2 ≠ 0 then (⟨#[]⟩, (fitsR s v).2) else if (fitsR s v).1 = true then (⟨(stB v s).toArray⟩, 0) else (⟨#[]⟩, 4)
/-- What Decode answers. -/
def wdecR (v : Int) (l : List UInt8) : StD × Nat := if 1 ≤ v ∧ v ≤ 3 then wireD V8 v l else (zeroSt, 1)
theorem fitsR_ok {s : StD} {v : Int} (h : (fitsR s v).2 = 0) : checkE V8 s = 0 ∧ (1 ≤ v ∧ v ≤ 3) ∧ (fitsR s v).1 = fitsD s v := by
  unfold fitsR at h ⊢
  by_cases h0 : checkE V8 s ≠ 0
  · rw [if_pos h0] at h; exact absurd h h0
  · rw [if_neg h0] at h ⊢
    by_cases h1 : 1 ≤ v ∧ v ≤ 3
    · rw [if_pos h1]; exact ⟨by simpa using h0, h1, rfl⟩
    · rw [if_neg h1] at h; simp at h
/-- A coder that was made. -/
theorem code_new (w : World) (v : Int) (r : Bool) (s : ByteArray) : CodeAt w.heap.size v ⟨r, [], s, 0⟩ (w.alloc (.cells #[.int .i64 v, .bool r, .slice none 0 0, .string s, .int .i64 0] 49)) :=
  ⟨.slice none 0 0, objAt_new w _ _, World.ownsRow_nil _ _ _ _⟩
theorem keep_below_of {b : Nat} {w w1 w2 : World} (h : Below w.heap.size w w1) (hb : b = w1.heap.size) (o : Obj) (hk : Keep b (w1.alloc o) w2) : Below w.heap.size w w2 := by
  have h1 := h.size
  have h2 := h.alloc h1 o
  have h3 := keep_low hk (by rw [World.size_alloc]; omega)
  exact h2.trans (h3.mono (by omega))
set_option maxRecDepth 100000 in
set_option maxHeartbeats 2000000 in
theorem wencode_any (s : StD) (aj an al : Option Addr) (cj cn cl : Nat) (v : Int) (hw : wState s) (w : World) (hT : Tabs w) (hmj : JobsAt w aj s.jobs) (hmn : NodesAt w an s.nodes) (hml : LeasesAt w al s.leases) :
    Calls Tryd.prog 11 #[.agg #[.int .i64 s.rev, .slice aj s.jobs.length cj, .slice an s.nodes.length cn, .slice al s.leases.length cl], .int .i64 v] w fun e w' => e = .returned (.tuple #[.string (wencR s v).1, .int .i64 (wencR s v).2]) ∧ Below w.heap.size w w' := by
  have bW := below_one w (.cells #[.int .i64 s.rev, .slice aj s.jobs.length cj, .slice an s.nodes.length cn, .slice al s.leases.length cl] 26)
  have HF := fits_any s.rev aj an al cj cn cl s.jobs s.nodes s.leases v hw _ (hT.below bW) (jobsAt_next hmj bW) (nodesAt_next hmn bW) (leasesAt_next hml bW)
  have oB := objAt_new w #[.int .i64 s.rev, .slice aj s.jobs.length cj, .slice an s.nodes.length cn, .slice al s.leases.length cl] 26
  have es : (⟨s.rev, s.jobs, s.nodes, s.leases⟩ : StD) = s := rfl
  rw [es] at HF
  have HF := Lib.hid HF
  have OB := Lib.hid oB
  have BW := Lib.hid bW
  have b0 := objAt_cell oB 0 rfl
  have b1 := objAt_cell oB 1 rfl
  have b2 := objAt_cell oB 2 rfl
  have b3 := objAt_cell oB 3 rfl
  clear oB bW es
  by_cases h0 : (fitsR s v).2 ≠ 0
  · have hr : wencR s v = (⟨#[]⟩, (fitsR s v).2) := by unfold wencR; rw [if_pos h0]
    have h0' : (((fitsR s v).2 : Int) != 0) = true := by simp; omega
    rw [hr]
    clear hr h0 hmj hmn hml hT hw
    generalize fitsR s v = q at HF h0' ⊢
    go_enter Tryd.func11, Tryd.ntmps11
    go_wp2_with fail
    refine HF.out.mono ?_
    rintro e w1 ⟨rfl, x1⟩
    go_wp2
    go_ret2
    exact ⟨rfl, below_trans BW.out x1 (by simp)⟩
  · have h0 : (fitsR s v).2 = 0 := by simpa using h0
    obtain ⟨hc, hv, hf⟩ := fitsR_ok h0
    by_cases h1 : (fitsR s v).1 = true
    · have hr : wencR s v = (⟨(stB v s).toArray⟩, 0) := by unfold wencR; rw [if_neg (by omega), if_pos h1]
      have hok := ok_of_valid ((check_zero V8 s).1 hc) (by rw [← hf]; exact h1)
      rw [hr]
      rw [h0, h1] at HF
      have HMJ := Lib.hid hmj
      have HMN := Lib.hid hmn
      have HML := Lib.hid hml
      have HT := Lib.hid hT
      clear hr h0 hmj hmn hml hT hw hf hc h1
      go_enter Tryd.func11, Tryd.ntmps11
      go_wp2_with fail
      refine HF.out.mono ?_
      rintro e w1 ⟨rfl, x1⟩
      have hB1 := below_trans BW.out x1 (by simp)
      have O1 := objAt_next OB.out x1
      have bA := below_one w1 (.cells #[.int .i64 v, .bool false, .slice none 0 0, .string ⟨#[]⟩, .int .i64 0] 49)
      have O2 := objAt_next O1 bA
      have a0 := objAt_cell O2 0 rfl
      have a1 := objAt_cell O2 1 rfl
      have a2 := objAt_cell O2 2 rfl
      have a3 := objAt_cell O2 3 rfl
      have hc0 := code_new w1 v false ⟨#[]⟩
      have HW := whole_is s aj an al cj cn cl hok (Nat.zero_le _) (Nat.zero_le _) _ hc0 ⟨w1, rfl, HT.out.below hB1, bA⟩ ⟨w1, rfl, bA, jobsAt_next HMJ.out hB1, nodesAt_next HMN.out hB1, leasesAt_next HML.out hB1⟩
      rw [wrt_whole hok _ rfl] at HW
      have HW := Lib.hid HW
      have HB1 := Lib.hid hB1
      clear O1 O2 hc0 hB1 bA b0 b1 b2 b3
      go_wp2_with fail
      refine HW.out.mono ?_
      rintro e w2 ⟨y1, y2, y3, rfl, _, _, _, hc2, hk2⟩
      obtain ⟨x, hO, hR⟩ := hc2
      have hne : byteCells ([] ++ stB v s) ≠ [] := by
        intro e
        have h3 := (st_mono v v (Int.le_refl _) s).2
        have := congrArg List.length e
        rw [byteCells_length, List.nil_append, List.length_nil] at this
        omega
      obtain ⟨g, cap, rfl⟩ := own_shape hR hne
      have hcv := run_string_own ([] ++ stB v s) rfl hR
      rw [List.nil_append] at hcv
      have d2 := objAt_cell hO 2 rfl
      have d4 := objAt_cell hO 4 rfl
      have hl := objAt_lt hO
      have HK := Lib.hid hk2
      simp only [List.nil_append] at d2 hcv
      clear hO hR hk2 hne a0 a1 a2 a3 HW
      go_wp2
      go_ret2
      exact ⟨rfl, keep_below_of HB1.out rfl _ HK.out⟩
    · have hr : wencR s v = (⟨#[]⟩, 4) := by unfold wencR; rw [if_neg (by omega), if_neg h1]
      have h1 : (fitsR s v).1 = false := by simpa using h1
      rw [hr]
      rw [h0, h1] at HF
      clear hr h0 hmj hmn hml hT hw hf hc h1
      go_enter Tryd.func11, Tryd.ntmps11
      go_wp2_with fail
      refine HF.out.mono ?_
      rintro e w1 ⟨rfl, x1⟩
      go_wp2
      go_ret2
      exact ⟨rfl, below_trans BW.out x1 (by simp)⟩
end Go.Proofs.YtdbopgmckndmeaaDoor
