/- up.State at every state. -/
import Derived.Test.YtclopkpfeofjmaaGreatDoorUpWhole
import Derived.Test.YtclopkpfeofjmaaGreatDoorPkWi4
namespace Go.Proofs.YtclopkpfeofjmaaGreatDoor
open Go.RowKit

/-- What State answers. -/
def upR (s : StD) (a b : Int) : StD × Nat := if okUp a b = true then (if (fitsR s a).2 ≠ 0 then (zeroSt, (fitsR s a).2) else if (fitsR s a).1 = true then (upS a b s, 0) else (zeroSt, 4)) else (zeroSt, 1)
theorem upR_bad {s : StD} {a b : Int} (h : okUp a b = false) : upR s a b = (zeroSt, 1) := by unfold upR; rw [h]; rfl
theorem upR_err {s : StD} {a b : Int} (h : okUp a b = true) (h1 : (fitsR s a).2 ≠ 0) : upR s a b = (zeroSt, (fitsR s a).2) := by unfold upR; rw [if_pos h, if_pos h1]
theorem upR_not {s : StD} {a b : Int} (h : okUp a b = true) (h1 : (fitsR s a).2 = 0) (h2 : (fitsR s a).1 = false) : upR s a b = (zeroSt, 4) := by unfold upR; rw [if_pos h, if_neg (by simp [h1]), h2]; rfl
theorem upR_ok {s : StD} {a b : Int} (h : okUp a b = true) (h1 : (fitsR s a).2 = 0) (h2 : (fitsR s a).1 = true) : upR s a b = (upS a b s, 0) := by unfold upR; rw [if_pos h, if_neg (by simp [h1]), if_pos h2]
theorem up_lens (a b : Int) (s : StD) : (upS a b s).jobs.length = s.jobs.length ∧ (upS a b s).nodes.length = s.nodes.length ∧ (upS a b s).leases = s.leases := by simp [upS]
/-- A state that may be is small. -/
theorem small_valid {s : StD} (h : checkE V8 s = 0) : (s.jobs.length ≤ 40 ∧ s.nodes.length ≤ 40 ∧ s.leases.length ≤ 40) ∧ (∀ x ∈ s.jobs, x.name.size ≤ 140737488355328 ∧ x.tag.size ≤ 140737488355328) ∧ (∀ x ∈ s.nodes, x.name.size ≤ 140737488355328 ∧ x.zone.size ≤ 140737488355328) ∧ ∀ x ∈ s.leases, x.job.size ≤ 140737488355328 ∧ x.node.size ≤ 140737488355328 := by
  obtain ⟨_, ⟨l1, h1⟩, ⟨l2, h2⟩, ⟨l3, h3⟩⟩ := ok_of_valid (v := 3) ((check_zero V8 s).1 h) (fits_three s)
  refine ⟨⟨l1, by omega, l3⟩, fun x hx => ?_, fun x hx => ?_, fun x hx => ?_⟩
  · obtain ⟨a, _, _, _, b⟩ := h1 x hx
    rw [if_pos (by decide)] at b
    have := note_size a; have := note_size b; omega
  · obtain ⟨a, _, b⟩ := h2 x hx
    rw [if_pos (by decide)] at b
    have := note_size a; have := note_size b; omega
  · obtain ⟨a, b, _⟩ := h3 x hx
    have := note_size a; have := note_size b; omega
/-- A state's rows, all of the call's own. -/
def OwnS (B : Nat) (aj an al : Option Addr) (cj cn cl : Nat) (t : StD) (w : World) : Prop :=
  w.ownsRow B 50 5 (.slice aj t.jobs.length cj) t.jobs.length (cJobs t.jobs) ∧ w.ownsRow B 52 3 (.slice an t.nodes.length cn) t.nodes.length (cNodes t.nodes) ∧ w.ownsRow B 48 3 (.slice al t.leases.length cl) t.leases.length (cLeases t.leases)
theorem ownS_next {B : Nat} {aj an al : Option Addr} {cj cn cl : Nat} {t : StD} {w w' : World} (h : OwnS B aj an al cj cn cl t w) (hb : Below w.heap.size w w') : OwnS B aj an al cj cn cl t w' := ⟨own_next h.1 hb, own_next h.2.1 hb, own_next h.2.2 hb⟩
theorem ownS_low {B B' : Nat} {aj an al : Option Addr} {cj cn cl : Nat} {t : StD} {w : World} (h : OwnS B aj an al cj cn cl t w) (hb : B' ≤ B) : OwnS B' aj an al cj cn cl t w := ⟨ownsRow_low h.1 hb, ownsRow_low h.2.1 hb, ownsRow_low h.2.2 hb⟩
theorem ownS_put4 {B b : Nat} {aj an al : Option Addr} {cj cn cl : Nat} {t : StD} {w : World} {vs : Array Value} (h : OwnS B aj an al cj cn cl t w) (ho : ObjAt b vs 30 w) (x0 x1 x2 x3 : Value) : OwnS B aj an al cj cn cl t ((((w.setCell ⟨b, 0, none⟩ x0).setCell ⟨b, 1, none⟩ x1).setCell ⟨b, 2, none⟩ x2).setCell ⟨b, 3, none⟩ x3) :=
  ⟨own_put4 h.1 ho (by decide) x0 x1 x2 x3, own_put4 h.2.1 ho (by decide) x0 x1 x2 x3, own_put4 h.2.2 ho (by decide) x0 x1 x2 x3⟩
theorem ownS_at {B : Nat} {aj an al : Option Addr} {cj cn cl : Nat} {t : StD} {w : World} (h : OwnS B aj an al cj cn cl t w) : JobsAt w aj t.jobs ∧ NodesAt w an t.nodes ∧ LeasesAt w al t.leases := ⟨ownJobs h.1 rfl, ownNodes h.2.1 rfl, ownLeases h.2.2 rfl⟩
theorem ownS_zero (B : Nat) (w : World) : OwnS B none none none 0 0 0 zeroSt w := ⟨World.ownsRow_nil _ _ _ _, World.ownsRow_nil _ _ _ _, World.ownsRow_nil _ _ _ _⟩
/-- One version up, as State calls it. -/
theorem raise_any (v : Int) (hv : v = 2 ∨ v = 3) (s : StD) (aj an al : Option Addr) (cj cn cl B : Nat) (hl : s.jobs.length ≤ 40 ∧ s.nodes.length ≤ 40 ∧ s.leases.length ≤ 40) (w : World) (hB : B ≤ w.heap.size) (ho : OwnS B aj an al cj cn cl s w) :
    Calls Tryz.prog 31 #[.agg #[.int .i64 s.rev, .slice aj s.jobs.length cj, .slice an s.nodes.length cn, .slice al s.leases.length cl], .int .i64 v] w fun e w' => ∃ aj' an' al' cj' cn' cl', e = .returned (.agg #[.int .i64 (raiseS v s).rev, .slice aj' (raiseS v s).jobs.length cj', .slice an' (raiseS v s).nodes.length cn', .slice al' (raiseS v s).leases.length cl']) ∧ OwnS B aj' an' al' cj' cn' cl' (raiseS v s) w' ∧ Below w.heap.size w w' := by
  obtain ⟨hj, hn, hle⟩ := ownS_at ho
  rcases hv with rfl | rfl
  · refine (raise_2 s aj an al cj cn cl hl w hj hn hle).mono ?_
    rintro e w' ⟨aj', cj', an', cn', rfl, o1, o2, hb⟩
    have e1 : (raiseS 2 s).jobs.length = s.jobs.length := (raise_lens 2 s).1
    have e2 : (raiseS 2 s).nodes.length = s.nodes.length := (raise_lens 2 s).2.1
    refine ⟨aj', an', al, cj', cn', cl, ?_, ⟨?_, ?_, ?_⟩, hb⟩
    · rw [e1, e2]; rfl
    · rw [e1]; exact ownsRow_low o1 hB
    · rw [e2]; exact ownsRow_low o2 hB
    · exact own_next ho.2.2 hb
  · refine (raise_3 s aj an al cj cn cl hl w hj hn hle).mono ?_
    rintro e w' ⟨aj', cj', rfl, o1, hb⟩
    have e1 : (raiseS 3 s).jobs.length = s.jobs.length := (raise_lens 3 s).1
    refine ⟨aj', an, al, cj', cn, cl, ?_, ⟨?_, ?_, ?_⟩, hb⟩
    · rw [e1]; rfl
    · rw [e1]; exact ownsRow_low o1 hB
    · exact own_next ho.2.1 hb
    · exact own_next ho.2.2 hb
theorem lower_any (v : Int) (hv : v = 2 ∨ v = 3) (s : StD) (aj an al : Option Addr) (cj cn cl B : Nat) (hl : s.jobs.length ≤ 40 ∧ s.nodes.length ≤ 40 ∧ s.leases.length ≤ 40) (w : World) (hB : B ≤ w.heap.size) (ho : OwnS B aj an al cj cn cl s w) :
    Calls Tryz.prog 21 #[.agg #[.int .i64 s.rev, .slice aj s.jobs.length cj, .slice an s.nodes.length cn, .slice al s.leases.length cl], .int .i64 v] w fun e w' => ∃ aj' an' al' cj' cn' cl', e = .returned (.agg #[.int .i64 (lowerS v s).rev, .slice aj' (lowerS v s).jobs.length cj', .slice an' (lowerS v s).nodes.length cn', .slice al' (lowerS v s).leases.length cl']) ∧ OwnS B aj' an' al' cj' cn' cl' (lowerS v s) w' ∧ Below w.heap.size w w' := by
  obtain ⟨hj, hn, hle⟩ := ownS_at ho
  rcases hv with rfl | rfl
  · refine (lower_2 s aj an al cj cn cl hl w hj hn hle).mono ?_
    rintro e w' ⟨aj', cj', an', cn', rfl, o1, o2, hb⟩
    have e1 : (lowerS 2 s).jobs.length = s.jobs.length := (lower_lens 2 s).1
    have e2 : (lowerS 2 s).nodes.length = s.nodes.length := (lower_lens 2 s).2.1
    refine ⟨aj', an', al, cj', cn', cl, ?_, ⟨?_, ?_, ?_⟩, hb⟩
    · rw [e1, e2]; rfl
    · rw [e1]; exact ownsRow_low o1 hB
    · rw [e2]; exact ownsRow_low o2 hB
    · exact own_next ho.2.2 hb
  · refine (lower_3 s aj an al cj cn cl hl w hj hn hle).mono ?_
    rintro e w' ⟨aj', cj', rfl, o1, hb⟩
    have e1 : (lowerS 3 s).jobs.length = s.jobs.length := (lower_lens 3 s).1
    refine ⟨aj', an, al, cj', cn, cl, ?_, ⟨?_, ?_, ?_⟩, hb⟩
    · rw [e1]; rfl
    · rw [e1]; exact ownsRow_low o1 hB
    · exact own_next ho.2.1 hb
    · exact own_next ho.2.2 hb
theorem sep_any (s : StD) (aj an al : Option Addr) (cj cn cl : Nat) (h : checkE V8 s = 0) (w : World) (hmj : JobsAt w aj s.jobs) (hmn : NodesAt w an s.nodes) (hml : LeasesAt w al s.leases) :
    Calls Tryz.prog 20 #[.agg #[.int .i64 s.rev, .slice aj s.jobs.length cj, .slice an s.nodes.length cn, .slice al s.leases.length cl]] w fun e w' => ∃ aj' an' al' cj' cn' cl', e = .returned (.agg #[.int .i64 s.rev, .slice aj' s.jobs.length cj', .slice an' s.nodes.length cn', .slice al' s.leases.length cl']) ∧ OwnS w.heap.size aj' an' al' cj' cn' cl' s w' ∧ Below w.heap.size w w' := by
  obtain ⟨hl, hz⟩ := small_valid h
  refine (separate_is s aj an al cj cn cl hl hz w hmj hmn hml).mono ?_
  rintro e w' ⟨aj', cj', an', cn', al', cl', rfl, o1, o2, o3, hb⟩
  rw [List.map_id] at o1 o2 o3
  exact ⟨aj', an', al', cj', cn', cl', rfl, ⟨o1, o2, o3⟩, hb⟩
set_option maxRecDepth 100000 in
set_option maxHeartbeats 4000000 in
theorem ustate_any (s : StD) (aj an al : Option Addr) (cj cn cl : Nat) (a b : Int) (hw : wState s) (w : World) (hT : Tabs w) (hmj : JobsAt w aj s.jobs) (hmn : NodesAt w an s.nodes) (hml : LeasesAt w al s.leases) :
    Calls Tryz.prog 12 #[.agg #[.int .i64 s.rev, .slice aj s.jobs.length cj, .slice an s.nodes.length cn, .slice al s.leases.length cl], .int .i64 a, .int .i64 b] w fun e w' => ∃ aj' an' al' cj' cn' cl', e = .returned (.tuple #[.agg #[.int .i64 (upR s a b).1.rev, .slice aj' (upR s a b).1.jobs.length cj', .slice an' (upR s a b).1.nodes.length cn', .slice al' (upR s a b).1.leases.length cl'], .int .i64 ((upR s a b).2 : Nat)]) ∧ OwnS w.heap.size aj' an' al' cj' cn' cl' (upR s a b).1 w' ∧ Below w.heap.size w w' := by
  obtain ⟨W0, hW0⟩ : ∃ W0, (w.alloc (.cells #[.int .i64 s.rev, .slice aj s.jobs.length cj, .slice an s.nodes.length cn, .slice al s.leases.length cl] 30)).alloc (.cells #[.int .i64 0, .slice none 0 0, .slice none 0 0, .slice none 0 0] 30) = W0 := ⟨_, rfl⟩
  obtain ⟨p0, r0, B0, sz0⟩ := two_new w _ _ _ _ _ W0 hW0
  have HU := Lib.hid (isUpward_is a b W0)
  have HF := fits_any s.rev aj an al cj cn cl s.jobs s.nodes s.leases a hw W0 (hT.below B0) (jobsAt_next hmj B0) (nodesAt_next hmn B0) (leasesAt_next hml B0)
  have es : (⟨s.rev, s.jobs, s.nodes, s.leases⟩ : StD) = s := rfl
  rw [es] at HF
  have HF := Lib.hid HF
  have HM := Lib.hid (And.intro hmj (And.intro hmn hml))
  have c0 := objAt_cell p0 0 rfl
  have c1 := objAt_cell p0 1 rfl
  have c2 := objAt_cell p0 2 rfl
  have c3 := objAt_cell p0 3 rfl
  have P0 := Lib.hid (And.intro p0 (And.intro r0 (And.intro B0 sz0)))
  clear hmj hmn hml hT hw es p0 r0 B0 sz0
  cases hu : okUp a b with
  | false =>
    rw [upR_bad hu]
    rw [hu] at HU
    obtain ⟨p0, r0, B0, sz0⟩ := P0.out
    have f0 := objAt_free r0 0
    have f1 := objAt_free r0 1
    have f2 := objAt_free r0 2
    have f3 := objAt_free r0 3
    have m0 := objAt_cell r0 0 rfl
    have m1 := objAt_cell r0 1 rfl
    have m2 := objAt_cell r0 2 rfl
    have m3 := objAt_cell r0 3 rfl
    have oF := obj_put4 r0 (.int .i64 0) (.slice none 0 0) (.slice none 0 0) (.slice none 0 0)
    have BF := Lib.hid (below_put4 B0 (b := w.heap.size + 1) (by omega) (.int .i64 0) (.slice none 0 0) (.slice none 0 0) (.slice none 0 0))
    have t0 := objAt_cell oF 0 rfl
    have t1 := objAt_cell oF 1 rfl
    have t2 := objAt_cell oF 2 rfl
    have t3 := objAt_cell oF 3 rfl
    have TT := Lib.hid (And.intro t0 (And.intro t1 (And.intro t2 t3)))
    clear oF t0 t1 t2 t3 p0 r0 B0 sz0 hu
    go_enter Tryz.func12, Tryz.ntmps12
    go_wp2_with fail
    refine HU.out.mono ?_
    rintro e w' ⟨rfl, rfl⟩
    go_wp2
    obtain ⟨t0, t1, t2, t3⟩ := TT.out
    exact bodyPost_ret (v := .tuple #[.agg #[.int .i64 0, .slice none 0 0, .slice none 0 0, .slice none 0 0], .int .i64 1]) (by simp [results, Tryz.results12, go_sem, t0, t1, t2, t3]) rfl ⟨none, none, none, 0, 0, 0, rfl, ownS_zero _ _, BF.out⟩
  | true =>
    rw [hu] at HU
    have hab := (okUp_iff a b).1 hu
    by_cases he : (fitsR s a).2 ≠ 0
    · rw [upR_err hu he]
      obtain ⟨F, hF⟩ : ∃ F, fitsR s a = F := ⟨_, rfl⟩
      rw [hF] at HF he ⊢
      obtain ⟨fi, c⟩ := F
      simp only at he HF ⊢
      have hc' : ((c : Int) != 0) = true := by simp; omega
      clear hF hu
      go_enter Tryz.func12, Tryz.ntmps12
      go_wp2_with fail
      refine HU.out.mono ?_
      rintro e w' ⟨rfl, rfl⟩
      go_wp2_with fail
      refine HF.out.mono ?_
      rintro e w1 ⟨rfl, b1⟩
      obtain ⟨p0, r0, B0, sz0⟩ := P0.out
      have r1 := objAt_next r0 b1
      have B1 := below_trans B0 b1 B0.size
      have f0 := objAt_free r1 0
      have f1 := objAt_free r1 1
      have f2 := objAt_free r1 2
      have f3 := objAt_free r1 3
      have m0 := objAt_cell r1 0 rfl
      have m1 := objAt_cell r1 1 rfl
      have m2 := objAt_cell r1 2 rfl
      have m3 := objAt_cell r1 3 rfl
      have oF := obj_put4 r1 (.int .i64 0) (.slice none 0 0) (.slice none 0 0) (.slice none 0 0)
      have BF := Lib.hid (below_put4 B1 (b := w.heap.size + 1) (by omega) (.int .i64 0) (.slice none 0 0) (.slice none 0 0) (.slice none 0 0))
      have t0 := objAt_cell oF 0 rfl
      have t1 := objAt_cell oF 1 rfl
      have t2 := objAt_cell oF 2 rfl
      have t3 := objAt_cell oF 3 rfl
      have TT := Lib.hid (And.intro t0 (And.intro t1 (And.intro t2 t3)))
      clear oF t0 t1 t2 t3 p0 r0 B0 sz0 r1 B1 b1 he
      go_wp2
      obtain ⟨t0, t1, t2, t3⟩ := TT.out
      exact bodyPost_ret (v := .tuple #[.agg #[.int .i64 0, .slice none 0 0, .slice none 0 0, .slice none 0 0], .int .i64 (c : Int)]) (by simp [results, Tryz.results12, go_sem, t0, t1, t2, t3]) rfl ⟨none, none, none, 0, 0, 0, rfl, ownS_zero _ _, BF.out⟩
    · have he0 : (fitsR s a).2 = 0 := by simpa using he
      obtain ⟨hck, _, hfd⟩ := fitsR_ok he0
      cases hfi : (fitsR s a).1 with
      | false =>
        rw [upR_not hu he0 hfi]
        rw [he0, hfi] at HF
        clear hu he he0 hck hfd hfi
        go_enter Tryz.func12, Tryz.ntmps12
        go_wp2_with fail
        refine HU.out.mono ?_
        rintro e w' ⟨rfl, rfl⟩
        go_wp2_with fail
        refine HF.out.mono ?_
        rintro e w1 ⟨rfl, b1⟩
        obtain ⟨p0, r0, B0, sz0⟩ := P0.out
        have r1 := objAt_next r0 b1
        have B1 := below_trans B0 b1 B0.size
        have f0 := objAt_free r1 0
        have f1 := objAt_free r1 1
        have f2 := objAt_free r1 2
        have f3 := objAt_free r1 3
        have m0 := objAt_cell r1 0 rfl
        have m1 := objAt_cell r1 1 rfl
        have m2 := objAt_cell r1 2 rfl
        have m3 := objAt_cell r1 3 rfl
        have oF := obj_put4 r1 (.int .i64 0) (.slice none 0 0) (.slice none 0 0) (.slice none 0 0)
        have BF := Lib.hid (below_put4 B1 (b := w.heap.size + 1) (by omega) (.int .i64 0) (.slice none 0 0) (.slice none 0 0) (.slice none 0 0))
        have t0 := objAt_cell oF 0 rfl
        have t1 := objAt_cell oF 1 rfl
        have t2 := objAt_cell oF 2 rfl
        have t3 := objAt_cell oF 3 rfl
        have TT := Lib.hid (And.intro t0 (And.intro t1 (And.intro t2 t3)))
        clear oF t0 t1 t2 t3 p0 r0 B0 sz0 r1 B1 b1
        go_wp2
        obtain ⟨t0, t1, t2, t3⟩ := TT.out
        exact bodyPost_ret (v := .tuple #[.agg #[.int .i64 0, .slice none 0 0, .slice none 0 0, .slice none 0 0], .int .i64 4]) (by simp [results, Tryz.results12, go_sem, t0, t1, t2, t3]) rfl ⟨none, none, none, 0, 0, 0, rfl, ownS_zero _ _, BF.out⟩
      | true =>
        rw [upR_ok hu he0 hfi]
        obtain ⟨U, hU⟩ : ∃ U, upS a b s = U := ⟨_, rfl⟩
        rw [hU]
        have HUU := Lib.hid hU
        clear hU
        rw [hfi] at hfd
        rw [he0, hfi] at HF
        obtain ⟨hl, _⟩ := small_valid hck
        have HFD := Lib.hid hfd.symm
        have HCK := Lib.hid hck
        have wa : IntKind.i64.wrap (a + 1) = a + 1 := IntWalk.i64_in _ (by omega)
        clear hu he he0 hck hfd hfi
        go_enter Tryz.func12, Tryz.ntmps12
        go_wp2_with fail
        refine HU.out.mono ?_
        rintro e w' ⟨rfl, rfl⟩
        go_wp2_with fail
        refine HF.out.mono ?_
        rintro e w1 ⟨rfl, b1⟩
        obtain ⟨p0, r0, B0, sz0⟩ := P0.out
        have p1 := objAt_next p0 b1
        have r1 := objAt_next r0 b1
        have B1 := below_trans B0 b1 B0.size
        have sz1 : w.heap.size + 2 ≤ w1.heap.size := by have := b1.size; omega
        have HS := Lib.hid (sep_any s aj an al cj cn cl HCK.out w1 (jobsAt_next HM.out.1 B1) (nodesAt_next HM.out.2.1 B1) (leasesAt_next HM.out.2.2 B1))
        clear c0 c1 c2 c3
        have c0 := objAt_cell p1 0 rfl
        have c1 := objAt_cell p1 1 rfl
        have c2 := objAt_cell p1 2 rfl
        have c3 := objAt_cell p1 3 rfl
        have P1 := Lib.hid (And.intro p1 (And.intro r1 (And.intro B1 sz1)))
        clear p0 r0 B0 sz0 p1 r1 B1 sz1 b1 HF HU
        go_wp2_with fail
        refine HS.out.mono ?_
        rintro e w2 ⟨bj, bn, bl, dj, dn, dl, rfl, ow2, b2⟩
        obtain ⟨p1, r1, B1, sz1⟩ := P1.out
        have p2 := objAt_next p1 b2
        have r2 := objAt_next r1 b2
        have B2 := below_trans B1 b2 B1.size
        have sz2 : w.heap.size + 2 ≤ w2.heap.size := by have := b2.size; omega
        obtain ⟨W2, hW2⟩ : ∃ W2, (((w2.setCell ⟨w.heap.size, 0, none⟩ (.int .i64 s.rev)).setCell ⟨w.heap.size, 1, none⟩ (.slice bj s.jobs.length dj)).setCell ⟨w.heap.size, 2, none⟩ (.slice bn s.nodes.length dn)).setCell ⟨w.heap.size, 3, none⟩ (.slice bl s.leases.length dl) = W2 := ⟨_, rfl⟩
        have p3 := obj_put4 p2 (.int .i64 s.rev) (.slice bj s.jobs.length dj) (.slice bn s.nodes.length dn) (.slice bl s.leases.length dl)
        have r3 := other_put4 r2 (b := w.heap.size) (by omega) (.int .i64 s.rev) (.slice bj s.jobs.length dj) (.slice bn s.nodes.length dn) (.slice bl s.leases.length dl)
        have B3 := below_put4 B2 (b := w.heap.size) (Nat.le_refl _) (.int .i64 s.rev) (.slice bj s.jobs.length dj) (.slice bn s.nodes.length dn) (.slice bl s.leases.length dl)
        have o3 := ownS_low (B' := w.heap.size) (ownS_put4 ow2 p2 (.int .i64 s.rev) (.slice bj s.jobs.length dj) (.slice bn s.nodes.length dn) (.slice bl s.leases.length dl)) (by omega)
        have sz3 : w.heap.size + 2 ≤ W2.heap.size := by rw [← hW2, size_put4]; exact sz2
        rw [hW2] at p3 r3 B3 o3
        have e0 := objAt_free p2 0
        have e1 := objAt_free p2 1
        have e2 := objAt_free p2 2
        have e3 := objAt_free p2 3
        have k0 := objAt_cell p2 0 rfl
        have k1 := objAt_cell p2 1 rfl
        have k2 := objAt_cell p2 2 rfl
        have k3 := objAt_cell p2 3 rfl
        have P3 := Lib.hid (And.intro p3 (And.intro r3 (And.intro B3 (And.intro o3 sz3))))
        clear c0 c1 c2 c3 p1 r1 B1 sz1 p2 r2 B2 sz2 p3 r3 B3 o3 sz3 b2 ow2 HS
        go_wp2
        clear e0 e1 e2 e3 k0 k1 k2 k3
        go_loopw [10] (fun iv wr => ∃ (v : Int) (t : StD) (aj' an' al' : Option Addr) (cj' cn' cl' : Nat), iv = .int .i64 v ∧ a + 1 ≤ v ∧ v ≤ b + 1 ∧ ObjAt w.heap.size #[.int .i64 t.rev, .slice aj' t.jobs.length cj', .slice an' t.nodes.length cn', .slice al' t.leases.length cl'] 30 wr ∧ ObjAt (w.heap.size + 1) #[.int .i64 0, .slice none 0 0, .slice none 0 0, .slice none 0 0] 30 wr ∧ Below w.heap.size w wr ∧ OwnS w.heap.size aj' an' al' cj' cn' cl' t wr ∧ w.heap.size + 2 ≤ wr.heap.size ∧ Hid (t = upS a (v - 1) s)) (fun iv _ => (b + 1 - intOf iv).toNat)
        case atStart =>
          obtain ⟨p3, r3, B3, o3, sz3⟩ := P3.out
          exact ⟨a + 1, s, bj, bn, bl, dj, dn, dl, rfl, by omega, by omega, p3, r3, B3, o3, sz3, by show _ = _; rw [show a + 1 - 1 = a by omega, up_same a s (by omega)]⟩
        case round =>
          obtain ⟨v, t, aj', an', al', cj', cn', cl', rfl, hv1, hv2, p, r, B, ow, sz, HE⟩ := hrel
          by_cases h : v ≤ b
          · have hv : v = 2 ∨ v = 3 := by omega
            have hl' : t.jobs.length ≤ 40 ∧ t.nodes.length ≤ 40 ∧ t.leases.length ≤ 40 := by
              have e := up_lens a (v - 1) s
              rw [← HE.out] at e
              rw [e.1, e.2.1, e.2.2]; exact hl
            have HR := raise_any v hv t aj' an' al' cj' cn' cl' w.heap.size hl' wr (by omega) ow
            have hn : raiseS v t = upS a v s := by rw [HE.out]; exact raise_next HFD.out (by omega) (by omega) (by omega)
            rw [hn] at HR
            have HR := Lib.hid HR
            have wv : IntKind.i64.wrap (v + 1) = v + 1 := IntWalk.i64_in _ (by omega)
            have c0 := objAt_cell p 0 rfl
            have c1 := objAt_cell p 1 rfl
            have c2 := objAt_cell p 2 rfl
            have c3 := objAt_cell p 3 rfl
            have P := Lib.hid (And.intro p (And.intro r (And.intro B sz)))
            obtain ⟨u, hu⟩ : ∃ u, upS a v s = u := ⟨_, rfl⟩
            rw [hu] at HR
            have HU := Lib.hid hu
            clear p r B sz ow hn hv hl' hu
            go_wp2_with fail
            refine HR.out.mono ?_
            rintro e w3 ⟨ej, en, el, gj, gn, gl, rfl, ow3, b3⟩
            obtain ⟨p, r, B, sz⟩ := P.out
            have p4 := objAt_next p b3
            have r4 := objAt_next r b3
            have B4 := below_trans B b3 B.size
            have sz4 := b3.size
            have p5 := obj_put4 p4 (.int .i64 u.rev) (.slice ej u.jobs.length gj) (.slice en u.nodes.length gn) (.slice el u.leases.length gl)
            have r5 := other_put4 r4 (b := w.heap.size) (by omega) (.int .i64 u.rev) (.slice ej u.jobs.length gj) (.slice en u.nodes.length gn) (.slice el u.leases.length gl)
            have B5 := below_put4 B4 (b := w.heap.size) (Nat.le_refl _) (.int .i64 u.rev) (.slice ej u.jobs.length gj) (.slice en u.nodes.length gn) (.slice el u.leases.length gl)
            have o5 := ownS_put4 ow3 p4 (.int .i64 u.rev) (.slice ej u.jobs.length gj) (.slice en u.nodes.length gn) (.slice el u.leases.length gl)
            have sz5 := size_put4 w3 w.heap.size (.int .i64 u.rev) (.slice ej u.jobs.length gj) (.slice en u.nodes.length gn) (.slice el u.leases.length gl)
            obtain ⟨W5, hW5⟩ : ∃ W5, (((w3.setCell ⟨w.heap.size, 0, none⟩ (.int .i64 u.rev)).setCell ⟨w.heap.size, 1, none⟩ (.slice ej u.jobs.length gj)).setCell ⟨w.heap.size, 2, none⟩ (.slice en u.nodes.length gn)).setCell ⟨w.heap.size, 3, none⟩ (.slice el u.leases.length gl) = W5 := ⟨_, rfl⟩
            rw [hW5] at p5 r5 B5 o5 sz5
            have e0 := objAt_free p4 0
            have e1 := objAt_free p4 1
            have e2 := objAt_free p4 2
            have e3 := objAt_free p4 3
            have k0 := objAt_cell p4 0 rfl
            have k1 := objAt_cell p4 1 rfl
            have k2 := objAt_cell p4 2 rfl
            have k3 := objAt_cell p4 3 rfl
            have P5 := Lib.hid (And.intro p5 (And.intro r5 (And.intro B5 (And.intro o5 (show w.heap.size + 2 ≤ W5.heap.size by omega)))))
            clear c0 c1 c2 c3 p r B sz p4 r4 B4 sz4 p5 r5 B5 o5 sz5 b3 ow3 HR
            go_wp2
            go_roundw
            case rel =>
              obtain ⟨p5, r5, B5, o5, sz5⟩ := P5.out
              exact ⟨v + 1, u, ej, en, el, gj, gn, gl, rfl, by omega, by omega, p5, r5, B5, o5, sz5, by show _ = _; rw [show v + 1 - 1 = v by omega]; exact HU.out.symm⟩
            case measure => simp [intOf]; omega
          · obtain rfl : v = b + 1 := by omega
            obtain rfl : t = U := by rw [HE.out, show b + 1 - 1 = b by omega]; exact HUU.out
            have c0 := objAt_cell p 0 rfl
            have c1 := objAt_cell p 1 rfl
            have c2 := objAt_cell p 2 rfl
            have c3 := objAt_cell p 3 rfl
            have f0 := objAt_free r 0
            have f1 := objAt_free r 1
            have f2 := objAt_free r 2
            have f3 := objAt_free r 3
            have m0 := objAt_cell r 0 rfl
            have m1 := objAt_cell r 1 rfl
            have m2 := objAt_cell r 2 rfl
            have m3 := objAt_cell r 3 rfl
            clear HE HUU
            have oF := obj_put4 r (.int .i64 t.rev) (.slice aj' t.jobs.length cj') (.slice an' t.nodes.length cn') (.slice al' t.leases.length cl')
            have BF := Lib.hid (below_put4 B (b := w.heap.size + 1) (by omega) (.int .i64 t.rev) (.slice aj' t.jobs.length cj') (.slice an' t.nodes.length cn') (.slice al' t.leases.length cl'))
            have OF := Lib.hid (ownS_put4 ow r (.int .i64 t.rev) (.slice aj' t.jobs.length cj') (.slice an' t.nodes.length cn') (.slice al' t.leases.length cl'))
            have t0 := objAt_cell oF 0 rfl
            have t1 := objAt_cell oF 1 rfl
            have t2 := objAt_cell oF 2 rfl
            have t3 := objAt_cell oF 3 rfl
            have TT := Lib.hid (And.intro t0 (And.intro t1 (And.intro t2 t3)))
            clear oF t0 t1 t2 t3 p r B ow sz
            go_wp2
            obtain ⟨t0, t1, t2, t3⟩ := TT.out
            exact bodyPost_ret (v := .tuple #[.agg #[.int .i64 t.rev, .slice aj' t.jobs.length cj', .slice an' t.nodes.length cn', .slice al' t.leases.length cl'], .int .i64 0]) (by simp [results, Tryz.results12, go_sem, t0, t1, t2, t3]) rfl ⟨_, _, _, _, _, _, rfl, OF.out, BF.out⟩
end Go.Proofs.YtclopkpfeofjmaaGreatDoor
