/- The reference's UpState and UpBytes. -/
import Derived.Test.YtclopkpfeofjmaaDoorUpRef
import Derived.Test.YtclopkpfeofjmaaDoorUpLaw
import Derived.Test.YtclopkpfeofjmaaDoorPkStR
namespace Go.Proofs.YtclopkpfeofjmaaDoor
open Go.RowKit

theorem okUp_in (a b : Int) : okUp a b = (inR a 1 b && inR b 1 3) := by
  rw [Bool.eq_iff_iff, okUp_iff]
  simp [inR]
  omega
theorem small20 {s : StD} (h : checkE V8 s = 0) : s.nodes.length ≤ 20 := by
  obtain ⟨_, _, ⟨l2, _⟩, _⟩ := ok_of_valid (v := 3) ((check_zero V8 s).1 h) (fits_three s)
  exact l2
theorem upR_chk {s : StD} {a b : Int} (h : okUp a b = true) (hc : checkE V8 s ≠ 0) : upR s a b = (zeroSt, checkE V8 s) := by
  have e : fitsR s a = (false, checkE V8 s) := by unfold fitsR; rw [if_pos hc]
  rw [upR_err h (by rw [e]; exact hc), e]
theorem upR_unfit {s : StD} {a b : Int} (h : okUp a b = true) (hc : checkE V8 s = 0) (hf : fitsD s a = false) : upR s a b = (zeroSt, 4) := by
  have h3 := (okUp_iff a b).1 h
  have e : fitsR s a = (false, 0) := by unfold fitsR; rw [if_neg (by simp [hc]), if_pos (by omega), hf]
  exact upR_not h (by rw [e]) (by rw [e])
set_option maxRecDepth 100000 in
set_option maxHeartbeats 4000000 in
theorem rustate_any (s : StD) (aj an al : Option Addr) (cj cn cl : Nat) (a b : Int) (w : World) (hmj : JobsAt w aj s.jobs) (hmn : NodesAt w an s.nodes) (hml : LeasesAt w al s.leases) :
    Calls Tryd.prog 11 #[.agg #[.int .i64 s.rev, .slice aj s.jobs.length cj, .slice an s.nodes.length cn, .slice al s.leases.length cl], .int .i64 a, .int .i64 b] w fun e w' => ∃ aj' an' al' cj' cn' cl', e = .returned (.tuple #[.agg #[.int .i64 (upR s a b).1.rev, .slice aj' (upR s a b).1.jobs.length cj', .slice an' (upR s a b).1.nodes.length cn', .slice al' (upR s a b).1.leases.length cl'], .int .i64 ((upR s a b).2 : Nat)]) ∧ OwnS w.heap.size aj' an' al' cj' cn' cl' (upR s a b).1 w' ∧ Below w.heap.size w w' := by
  obtain ⟨W0, hW0⟩ : ∃ W0, (w.alloc (.cells #[.int .i64 s.rev, .slice aj s.jobs.length cj, .slice an s.nodes.length cn, .slice al s.leases.length cl] 26)).alloc (.cells #[.int .i64 0, .slice none 0 0, .slice none 0 0, .slice none 0 0] 26) = W0 := ⟨_, rfl⟩
  obtain ⟨p0, r0, B0, sz0⟩ := two_new w _ _ _ _ _ W0 hW0
  have HO1 := Lib.hid (fun w => outside_is a 1 b w)
  have HO2 := Lib.hid (fun w => outside_is b 1 3 w)
  have HC := rcheck_any s.rev aj an al cj cn cl s.jobs s.nodes s.leases W0 (jobsAt_next hmj B0) (nodesAt_next hmn B0) (leasesAt_next hml B0)
  have es : (⟨s.rev, s.jobs, s.nodes, s.leases⟩ : StD) = s := rfl
  rw [es] at HC
  have HC := Lib.hid HC
  have HM := Lib.hid (And.intro hmj (And.intro hmn hml))
  have c0 := objAt_cell p0 0 rfl
  have c1 := objAt_cell p0 1 rfl
  have c2 := objAt_cell p0 2 rfl
  have c3 := objAt_cell p0 3 rfl
  have P0 := Lib.hid (And.intro p0 (And.intro r0 (And.intro B0 sz0)))
  have out := fun (W1 : World) (b1 : Below W0.heap.size W0 W1) => And.intro (objAt_next r0 b1) (below_trans B0 b1 B0.size)
  have OUT := Lib.hid out
  clear hmj hmn hml es p0 r0 B0 sz0 out
  have hin := okUp_in a b
  cases h1 : inR a 1 b with
  | false =>
    rw [h1, Bool.false_and] at hin
    rw [upR_bad hin]
    rw [h1] at HO1
    obtain ⟨r1, B1⟩ := OUT.out W0 (Below.refl _ _)
    have f0 := objAt_free r1 0
    have f1 := objAt_free r1 1
    have f2 := objAt_free r1 2
    have f3 := objAt_free r1 3
    have m0 := objAt_cell r1 0 rfl
    have m1 := objAt_cell r1 1 rfl
    have m2 := objAt_cell r1 2 rfl
    have m3 := objAt_cell r1 3 rfl
    have oF := obj_put4 r1 (.int .i64 0) (.slice none 0 0) (.slice none 0 0) (.slice none 0 0)
    have BF := Lib.hid (below_put4 B1 (b := w.heap.size + 1) (by omega) (.int .i64 0) (.slice none 0 0) (.slice none 0 0) (.slice none 0 0))
    have t0 := objAt_cell oF 0 rfl
    have t1 := objAt_cell oF 1 rfl
    have t2 := objAt_cell oF 2 rfl
    have t3 := objAt_cell oF 3 rfl
    have TT := Lib.hid (And.intro t0 (And.intro t1 (And.intro t2 t3)))
    clear oF t0 t1 t2 t3 r1 B1
    clear hin h1
    go_enter Tryd.func11, Tryd.ntmps11
    go_wp2_with fail
    refine (HO1.out _).mono ?_
    rintro e w' ⟨rfl, rfl⟩
    go_wp2
    obtain ⟨t0, t1, t2, t3⟩ := TT.out
    exact bodyPost_ret (v := .tuple #[.agg #[.int .i64 0, .slice none 0 0, .slice none 0 0, .slice none 0 0], .int .i64 1]) (by simp [results, Tryd.results11, go_sem, t0, t1, t2, t3]) rfl ⟨none, none, none, 0, 0, 0, rfl, ownS_zero _ _, BF.out⟩
  | true =>
    rw [h1] at HO1
    cases h2 : inR b 1 3 with
    | false =>
      rw [h1, h2, Bool.and_false] at hin
      rw [upR_bad hin]
      rw [h2] at HO2
      obtain ⟨r1, B1⟩ := OUT.out W0 (Below.refl _ _)
      have f0 := objAt_free r1 0
      have f1 := objAt_free r1 1
      have f2 := objAt_free r1 2
      have f3 := objAt_free r1 3
      have m0 := objAt_cell r1 0 rfl
      have m1 := objAt_cell r1 1 rfl
      have m2 := objAt_cell r1 2 rfl
      have m3 := objAt_cell r1 3 rfl
      have oF := obj_put4 r1 (.int .i64 0) (.slice none 0 0) (.slice none 0 0) (.slice none 0 0)
      have BF := Lib.hid (below_put4 B1 (b := w.heap.size + 1) (by omega) (.int .i64 0) (.slice none 0 0) (.slice none 0 0) (.slice none 0 0))
      have t0 := objAt_cell oF 0 rfl
      have t1 := objAt_cell oF 1 rfl
      have t2 := objAt_cell oF 2 rfl
      have t3 := objAt_cell oF 3 rfl
      have TT := Lib.hid (And.intro t0 (And.intro t1 (And.intro t2 t3)))
      clear oF t0 t1 t2 t3 r1 B1
      clear hin h1 h2
      go_enter Tryd.func11, Tryd.ntmps11
      go_wp2_with fail
      refine (HO1.out _).mono ?_
      rintro e w' ⟨rfl, rfl⟩
      go_wp2_with fail
      refine (HO2.out _).mono ?_
      rintro e w' ⟨rfl, rfl⟩
      go_wp2
      obtain ⟨t0, t1, t2, t3⟩ := TT.out
      exact bodyPost_ret (v := .tuple #[.agg #[.int .i64 0, .slice none 0 0, .slice none 0 0, .slice none 0 0], .int .i64 1]) (by simp [results, Tryd.results11, go_sem, t0, t1, t2, t3]) rfl ⟨none, none, none, 0, 0, 0, rfl, ownS_zero _ _, BF.out⟩
    | true =>
      rw [h2] at HO2
      rw [h1, h2, Bool.and_true] at hin
      have hab := (okUp_iff a b).1 hin
      clear h1 h2
      by_cases hc : checkE V8 s ≠ 0
      · rw [upR_chk hin hc]
        have hc' : ((checkE V8 s : Int) != 0) = true := by simp; omega
        clear hc hin
        generalize checkE V8 s = c at HC hc' ⊢
        go_enter Tryd.func11, Tryd.ntmps11
        go_wp2_with fail
        refine (HO1.out _).mono ?_
        rintro e w' ⟨rfl, rfl⟩
        go_wp2_with fail
        refine (HO2.out _).mono ?_
        rintro e w' ⟨rfl, rfl⟩
        go_wp2_with fail
        refine HC.out.mono ?_
        rintro e W1 ⟨rfl, b1⟩
        obtain ⟨r1, B1⟩ := OUT.out W1 b1
        have f0 := objAt_free r1 0
        have f1 := objAt_free r1 1
        have f2 := objAt_free r1 2
        have f3 := objAt_free r1 3
        have m0 := objAt_cell r1 0 rfl
        have m1 := objAt_cell r1 1 rfl
        have m2 := objAt_cell r1 2 rfl
        have m3 := objAt_cell r1 3 rfl
        have oF := obj_put4 r1 (.int .i64 0) (.slice none 0 0) (.slice none 0 0) (.slice none 0 0)
        have BF := Lib.hid (below_put4 B1 (b := w.heap.size + 1) (by omega) (.int .i64 0) (.slice none 0 0) (.slice none 0 0) (.slice none 0 0))
        have t0 := objAt_cell oF 0 rfl
        have t1 := objAt_cell oF 1 rfl
        have t2 := objAt_cell oF 2 rfl
        have t3 := objAt_cell oF 3 rfl
        have TT := Lib.hid (And.intro t0 (And.intro t1 (And.intro t2 t3)))
        clear oF t0 t1 t2 t3 r1 B1
        clear b1
        go_wp2
        obtain ⟨t0, t1, t2, t3⟩ := TT.out
        exact bodyPost_ret (v := .tuple #[.agg #[.int .i64 0, .slice none 0 0, .slice none 0 0, .slice none 0 0], .int .i64 (c : Int)]) (by simp [results, Tryd.results11, go_sem, t0, t1, t2, t3]) rfl ⟨none, none, none, 0, 0, 0, rfl, ownS_zero _ _, BF.out⟩
      · have hc0 : checkE V8 s = 0 := by simpa using hc
        rw [hc0] at HC
        obtain ⟨hl, _⟩ := small_valid hc0
        have hl20 := small20 hc0
        have HF := Lib.hid (fun W1 (hb : Below w.heap.size w W1) => rfits_is s.rev aj an al cj cn cl s.jobs s.nodes s.leases a (by omega) hl.1 hl20 W1 (jobsAt_next HM.out.1 hb) (nodesAt_next HM.out.2.1 hb))
        rw [show (⟨s.rev, s.jobs, s.nodes, s.leases⟩ : StD) = s from rfl] at HF
        cases hf : fitsD s a with
        | false =>
          rw [upR_unfit hin hc0 hf]
          rw [hf] at HF
          clear hf hin hc hc0
          go_enter Tryd.func11, Tryd.ntmps11
          go_wp2_with fail
          refine (HO1.out _).mono ?_
          rintro e w' ⟨rfl, rfl⟩
          go_wp2_with fail
          refine (HO2.out _).mono ?_
          rintro e w' ⟨rfl, rfl⟩
          go_wp2_with fail
          refine HC.out.mono ?_
          rintro e W1 ⟨rfl, b1⟩
          obtain ⟨p0, r0, B0, sz0⟩ := P0.out
          have B1' := below_trans B0 b1 B0.size
          have p1 := objAt_next p0 b1
          clear c0 c1 c2 c3
          have c0 := objAt_cell p1 0 rfl
          have c1 := objAt_cell p1 1 rfl
          have c2 := objAt_cell p1 2 rfl
          have c3 := objAt_cell p1 3 rfl
          have HF1 := Lib.hid (HF.out W1 B1')
          have BB1 := Lib.hid b1
          clear p0 r0 B0 sz0 B1' p1 b1
          go_wp2_with fail
          refine HF1.out.mono ?_
          rintro e W2 ⟨rfl, b2⟩
          obtain ⟨r1, B1⟩ := OUT.out W2 (below_trans BB1.out b2 BB1.out.size)
          have f0 := objAt_free r1 0
          have f1 := objAt_free r1 1
          have f2 := objAt_free r1 2
          have f3 := objAt_free r1 3
          have m0 := objAt_cell r1 0 rfl
          have m1 := objAt_cell r1 1 rfl
          have m2 := objAt_cell r1 2 rfl
          have m3 := objAt_cell r1 3 rfl
          have oF := obj_put4 r1 (.int .i64 0) (.slice none 0 0) (.slice none 0 0) (.slice none 0 0)
          have BF := Lib.hid (below_put4 B1 (b := w.heap.size + 1) (by omega) (.int .i64 0) (.slice none 0 0) (.slice none 0 0) (.slice none 0 0))
          have t0 := objAt_cell oF 0 rfl
          have t1 := objAt_cell oF 1 rfl
          have t2 := objAt_cell oF 2 rfl
          have t3 := objAt_cell oF 3 rfl
          have TT := Lib.hid (And.intro t0 (And.intro t1 (And.intro t2 t3)))
          clear oF t0 t1 t2 t3 r1 B1
          clear b2
          go_wp2
          obtain ⟨t0, t1, t2, t3⟩ := TT.out
          exact bodyPost_ret (v := .tuple #[.agg #[.int .i64 0, .slice none 0 0, .slice none 0 0, .slice none 0 0], .int .i64 4]) (by simp [results, Tryd.results11, go_sem, t0, t1, t2, t3]) rfl ⟨none, none, none, 0, 0, 0, rfl, ownS_zero _ _, BF.out⟩
        | true =>
          rw [upR_fit hc0 hab hf]
          rw [hf] at HF
          have HU := Lib.hid (fun W1 (hb : Below w.heap.size w W1) => rup_any s aj an al cj cn cl a b hab hl W1 (jobsAt_next HM.out.1 hb) (nodesAt_next HM.out.2.1 hb) (leasesAt_next HM.out.2.2 hb))
          obtain ⟨u, hu⟩ : ∃ u, upS a b s = u := ⟨_, rfl⟩
          rw [hu] at HU ⊢
          clear hf hin hc hc0 hu
          go_enter Tryd.func11, Tryd.ntmps11
          go_wp2_with fail
          refine (HO1.out _).mono ?_
          rintro e w' ⟨rfl, rfl⟩
          go_wp2_with fail
          refine (HO2.out _).mono ?_
          rintro e w' ⟨rfl, rfl⟩
          go_wp2_with fail
          refine HC.out.mono ?_
          rintro e W1 ⟨rfl, b1⟩
          obtain ⟨p0, r0, B0, sz0⟩ := P0.out
          have B1 := below_trans B0 b1 B0.size
          have p1 := objAt_next p0 b1
          have r1 := objAt_next r0 b1
          clear c0 c1 c2 c3
          have c0 := objAt_cell p1 0 rfl
          have c1 := objAt_cell p1 1 rfl
          have c2 := objAt_cell p1 2 rfl
          have c3 := objAt_cell p1 3 rfl
          have HF1 := Lib.hid (HF.out W1 B1)
          have P1 := Lib.hid (And.intro p1 (And.intro r1 B1))
          clear p0 r0 B0 sz0 B1 p1 r1 b1
          go_wp2_with fail
          refine HF1.out.mono ?_
          rintro e W2 ⟨rfl, b2⟩
          obtain ⟨p1, r1, B1⟩ := P1.out
          have B2 := below_trans B1 b2 B1.size
          have p2 := objAt_next p1 b2
          have r2 := objAt_next r1 b2
          clear c0 c1 c2 c3
          have c0 := objAt_cell p2 0 rfl
          have c1 := objAt_cell p2 1 rfl
          have c2 := objAt_cell p2 2 rfl
          have c3 := objAt_cell p2 3 rfl
          have HU1 := Lib.hid (HU.out W2 B2)
          have P2 := Lib.hid (And.intro r2 B2)
          clear p1 r1 B1 p2 r2 B2 b2
          go_wp2_with fail
          refine HU1.out.mono ?_
          rintro e W3 ⟨ej, en, el, gj, gn, gl, rfl, ow, b3⟩
          obtain ⟨r2, B2⟩ := P2.out
          have r3 := objAt_next r2 b3
          have B3 := below_trans B2 b3 B2.size
          have f0 := objAt_free r3 0
          have f1 := objAt_free r3 1
          have f2 := objAt_free r3 2
          have f3 := objAt_free r3 3
          have m0 := objAt_cell r3 0 rfl
          have m1 := objAt_cell r3 1 rfl
          have m2 := objAt_cell r3 2 rfl
          have m3 := objAt_cell r3 3 rfl
          have oF := obj_put4 r3 (.int .i64 u.rev) (.slice ej u.jobs.length gj) (.slice en u.nodes.length gn) (.slice el u.leases.length gl)
          have BF := Lib.hid (below_put4 B3 (b := w.heap.size + 1) (by omega) (.int .i64 u.rev) (.slice ej u.jobs.length gj) (.slice en u.nodes.length gn) (.slice el u.leases.length gl))
          have OF := Lib.hid (ownS_put4 (ownS_low (B' := w.heap.size) ow B2.size) r3 (.int .i64 u.rev) (.slice ej u.jobs.length gj) (.slice en u.nodes.length gn) (.slice el u.leases.length gl))
          have t0 := objAt_cell oF 0 rfl
          have t1 := objAt_cell oF 1 rfl
          have t2 := objAt_cell oF 2 rfl
          have t3 := objAt_cell oF 3 rfl
          have TT := Lib.hid (And.intro t0 (And.intro t1 (And.intro t2 t3)))
          clear oF t0 t1 t2 t3 r2 B2 r3 B3 b3 ow
          go_wp2
          obtain ⟨t0, t1, t2, t3⟩ := TT.out
          exact bodyPost_ret (v := .tuple #[.agg #[.int .i64 u.rev, .slice ej u.jobs.length gj, .slice en u.nodes.length gn, .slice el u.leases.length gl], .int .i64 0]) (by simp [results, Tryd.results11, go_sem, t0, t1, t2, t3]) rfl ⟨_, _, _, _, _, _, rfl, OF.out, BF.out⟩
end Go.Proofs.YtclopkpfeofjmaaDoor
