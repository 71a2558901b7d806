/- Package delta: whole, the coder's way through a delta. -/
import Derived.Test.YthfbjmjohmkfjaaDoorDlNum
import Derived.Test.YthfbjmjohmkfjaaDoorDlRowN
import Derived.Test.YthfbjmjohmkfjaaDoorPkUp4
import Derived.Test.YthfbjmjohmkfjaaDoorPkWi4
import Derived.Deep.RegionLaw
namespace Go.Proofs.YthfbjmjohmkfjaaDoor
open Go.RowKit

/-- What the coder's way through a delta wants: a delta that may be written, or one of zeros. -/
def InD (d : DelD) (m : M) : Prop := ((m.reading = false ∧ (0 ≤ d.frm ∧ d.frm ≤ 4611686018427387904) ∧ (0 ≤ d.til - d.frm ∧ d.til - d.frm ≤ 4611686018427387904) ∧ d.til ≤ 9223372036854775807) ∨ (m.reading = true ∧ d.frm = 0 ∧ d.til = 0)) ∧ (d.jobs.length ≤ 40 ∧ ∀ x ∈ d.jobs, okJob V8 3 x) ∧ (d.nodes.length ≤ 20 ∧ ∀ x ∈ d.nodes, okNode V8 3 x) ∧ (d.leases.length ≤ 40 ∧ ∀ x ∈ d.leases, okLease V8 x) ∧
  (d.gj.length ≤ 40 ∧ ∀ x ∈ d.gj, isNote V8 x = true) ∧ (d.gn.length ≤ 20 ∧ ∀ x ∈ d.gn, isNote V8 x = true) ∧ (d.gl.length ≤ 40 ∧ ∀ x ∈ d.gl, isNote V8 x = true)
set_option maxRecDepth 100000 in
set_option maxHeartbeats 8000000 in
theorem dwhole_is {b : Nat} {m : M} (d : DelD) (Md : DlM) (hok : InD d m) (hs : m.rest.size ≤ 1152921504606846976) (hg : m.gs.length ≤ 800000000) (w : World) (h : CodeAt b 3 m w) (hE : Env b w) (hM : MemD b Md d w) :
    Calls Tryd.prog 12 #[.pointer (some ⟨b, 0, none⟩), .agg #[.int .i64 d.frm, .int .i64 d.til, .slice Md.aj d.jobs.length Md.cj, .slice Md.an d.nodes.length Md.cn, .slice Md.al d.leases.length Md.cl, .slice Md.gj d.gj.length Md.hj, .slice Md.gn d.gn.length Md.hn, .slice Md.gl d.gl.length Md.hl]] w fun r w' => ∃ Mr : DlM, r = .returned (.agg (dlC Mr (delS d m).1)) ∧ OwnD (w.heap.size + 2) Mr (delS d m).1 w' ∧ CodeAt b 3 (delS d m).2 w' ∧ Keep b w w' := by
  have s0 := rowSt_new (t := 27) #[.int .i64 d.frm, .int .i64 d.til, .slice Md.aj d.jobs.length Md.cj, .slice Md.an d.nodes.length Md.cn, .slice Md.al d.leases.length Md.cl, .slice Md.gj d.gj.length Md.hj, .slice Md.gn d.gn.length Md.hn, .slice Md.gl d.gl.length Md.hl] #[.int .i64 0, .int .i64 0, .slice none 0 0, .slice none 0 0, .slice none 0 0, .slice none 0 0, .slice none 0 0, .slice none 0 0] h hE (by decide)
  have HM := Lib.hid hM
  obtain ⟨hv, h3, h4, h5, h6, h7, h8⟩ := hok
  have hn0 : (0 ≤ d.frm ∧ d.frm ≤ 4611686018427387904) ∨ m.reading = true := by
    rcases hv with ⟨_, h, _⟩ | ⟨h, _⟩
    · exact .inl h
    · exact .inr h
  have hf : d.frm ≤ 4611686018427387904 := by
    rcases hv with ⟨_, h, _⟩ | ⟨_, h, _⟩ <;> omega
  have t0 := numb_top (n := d.frm) hn0
  have q0 := lim_numb hf m
  have w0 : m.reading = false → 0 ≤ d.frm → (numbS d.frm m).1 = d.frm := fun hr h => numb_same h hr
  have H0 := Lib.hid (number_gen d.frm hn0 hs (by omega) _ s0.1)
  obtain ⟨ra, ea⟩ : ∃ r, numbS d.frm m = r := ⟨_, rfl⟩
  rw [ea] at t0 q0 w0 H0
  have hn1 : (0 ≤ d.til - ra.1 ∧ d.til - ra.1 ≤ 4611686018427387904) ∨ ra.2.reading = true := by
    rcases hv with ⟨hr, h, h', _⟩ | ⟨h, _⟩
    · rw [w0 hr h.1]; exact .inl h'
    · exact .inr (by rw [q0.2.2]; exact h)
  have hf1 : d.til - ra.1 ≤ 4611686018427387904 ∧ -4611686018427387904 ≤ d.til - ra.1 := by
    rcases hv with ⟨hr, h, h', _⟩ | ⟨_, _, h⟩
    · rw [w0 hr h.1]; omega
    · omega
  have hs0 : ra.2.rest.size ≤ 1152921504606846976 := by omega
  have hg0 : ra.2.gs.length ≤ 800000010 := by omega
  have t1 := numb_top (n := d.til - ra.1) hn1
  have q1 := lim_numb hf1.1 ra.2
  have H1 := fun (w' : World) (hc : CodeAt b 3 ra.2 w') => number_gen (d.til - ra.1) hn1 hs0 (by omega) w' hc
  obtain ⟨r0, e0⟩ : ∃ r, numbS (d.til - ra.1) ra.2 = r := ⟨_, rfl⟩
  rw [e0] at t1 q1
  simp only [e0] at H1
  have H1 := Lib.hid H1
  have l0 : r0.2.gs.length ≤ 800000020 ∧ r0.2.rest.size ≤ 1152921504606846976 := ⟨by omega, by omega⟩
  have u1 : IntKind.i64.wrap (d.til - ra.1) = d.til - ra.1 := IntWalk.i64_in _ (by omega)
  obtain ⟨N, hN⟩ : ∃ N, wrap64 (ra.1 + r0.1) = N := ⟨_, rfl⟩
  have u2 : IntKind.i64.wrap (ra.1 + r0.1) = N := by rw [IntWalk.i64_left, hN]
  clear w0 q0 q1 t0 t1 hf hf1 hn0 hn1 hs0 hg0 hv
  have l1 := lim_rows 40 zJob d.jobs (ok_zJob 3) h3.2 h3.1 (by omega) (fun x hx => lim_job hx) r0.2
  obtain ⟨r1, e1⟩ : ∃ r, rowsS 40 zJob (jobS 3) d.jobs r0.2 = r := ⟨_, rfl⟩
  rw [e1] at l1
  replace l1 : r1.2.gs.length ≤ 800003020 ∧ r1.2.rest.size ≤ 1152921504606846976 := ⟨by omega, by omega⟩
  have E1 := Lib.hid e1
  have l2 := lim_rows 20 zNode d.nodes (ok_zNode 3) h4.2 h4.1 (by omega) (fun x hx => lim_node hx) r1.2
  obtain ⟨r2, e2⟩ : ∃ r, rowsS 20 zNode (nodeS 3) d.nodes r1.2 = r := ⟨_, rfl⟩
  rw [e2] at l2
  replace l2 : r2.2.gs.length ≤ 800006020 ∧ r2.2.rest.size ≤ 1152921504606846976 := ⟨by omega, by omega⟩
  have E2 := Lib.hid e2
  have l3 := lim_rows 40 zLease d.leases ok_zLease h5.2 h5.1 (by omega) (fun x hx => lim_lease hx) r2.2
  obtain ⟨r3, e3⟩ : ∃ r, rowsS 40 zLease leaseS d.leases r2.2 = r := ⟨_, rfl⟩
  rw [e3] at l3
  replace l3 : r3.2.gs.length ≤ 800009020 ∧ r3.2.rest.size ≤ 1152921504606846976 := ⟨by omega, by omega⟩
  have E3 := Lib.hid e3
  have l4 := lim_nms 40 d.gj h6.2 h6.1 (by omega) r3.2
  obtain ⟨r4, e4⟩ : ∃ r, rowsS 40 ⟨#[]⟩ txtS d.gj r3.2 = r := ⟨_, rfl⟩
  rw [e4] at l4
  replace l4 : r4.2.gs.length ≤ 800012020 ∧ r4.2.rest.size ≤ 1152921504606846976 := ⟨by omega, by omega⟩
  have E4 := Lib.hid e4
  have l5 := lim_nms 20 d.gn h7.2 h7.1 (by omega) r4.2
  obtain ⟨r5, e5⟩ : ∃ r, rowsS 20 ⟨#[]⟩ txtS d.gn r4.2 = r := ⟨_, rfl⟩
  rw [e5] at l5
  replace l5 : r5.2.gs.length ≤ 800015020 ∧ r5.2.rest.size ≤ 1152921504606846976 := ⟨by omega, by omega⟩
  have E5 := Lib.hid e5
  have l6 := lim_nms 40 d.gl h8.2 h8.1 (by omega) r5.2
  obtain ⟨r6, e6⟩ : ∃ r, rowsS 40 ⟨#[]⟩ txtS d.gl r5.2 = r := ⟨_, rfl⟩
  rw [e6] at l6
  replace l6 : r6.2.gs.length ≤ 800018020 ∧ r6.2.rest.size ≤ 1152921504606846976 := ⟨by omega, by omega⟩
  have E6 := Lib.hid e6
  have eS : delS d m = (⟨ra.1, N, r1.1, r2.1, r3.1, r4.1, r5.1, r6.1⟩, r6.2) := by simp only [delS, bindS, pureS, ea, e0, e1, e2, e3, e4, e5, e6, hN]
  rw [eS]
  simp only
  clear eS e1 e2 e3 e4 e5 e6 ea e0 hN hM
  have hne : ¬ b = w.heap.size := by have := s0.2.2.2.2.2.1; omega
  have hne' : ¬ w.heap.size = b := by omega
  have v0 := (code_cells h).1
  have hlb := code_lt h
  have S0 := Lib.hid s0
  clear s0 h hE
  go_enter Tryd.func12, Tryd.ntmps12
  go_wp2_with fail
  refine H0.out.mono ?_
  rintro r w1 ⟨rfl, h1, k1⟩
  have s1 := rowSt_call S0.out h1 k1
  have s1' : RowSt b 3 27 ra.2 #[.int .i64 ra.1, .int .i64 d.til, .slice Md.aj d.jobs.length Md.cj, .slice Md.an d.nodes.length Md.cn, .slice Md.al d.leases.length Md.cl, .slice Md.gj d.gj.length Md.hj, .slice Md.gn d.gn.length Md.hn, .slice Md.gl d.gl.length Md.hl] #[.int .i64 0, .int .i64 0, .slice none 0 0, .slice none 0 0, .slice none 0 0, .slice none 0 0, .slice none 0 0, .slice none 0 0] w _ := rowSt_store s1 0 (.int .i64 ra.1)
  have f0 := objAt_free s1.2.1 0
  have c0 := objAt_cell s1.2.1 0 rfl
  have z0 := objAt_lt s1.2.1
  have SW := Lib.hid s1'
  clear s1 s1' S0 H0 h1 k1 v0
  go_upto_region 2 with fail
  clear f0 c0 z0 hlb
  generalize w1.setCell ⟨w.heap.size, 0, none⟩ (.int .i64 ra.1) = W at SW ⊢
  go_cut [] from 5 (fun wc => RowSt b 3 27 r0.2 #[.int .i64 ra.1, .int .i64 N, .slice Md.aj d.jobs.length Md.cj, .slice Md.an d.nodes.length Md.cn, .slice Md.al d.leases.length Md.cl, .slice Md.gj d.gj.length Md.hj, .slice Md.gn d.gn.length Md.hn, .slice Md.gl d.gl.length Md.hl] #[.int .i64 0, .int .i64 0, .slice none 0 0, .slice none 0 0, .slice none 0 0, .slice none 0 0, .slice none 0 0, .slice none 0 0] w wc)
  case first =>
    have sW := SW.out
    have c0 := objAt_cell sW.2.1 0 rfl
    have c1 := objAt_cell sW.2.1 1 rfl
    have c2 := objAt_cell sW.2.1 2 rfl
    have c3 := objAt_cell sW.2.1 3 rfl
    have c4 := objAt_cell sW.2.1 4 rfl
    have c5 := objAt_cell sW.2.1 5 rfl
    have c6 := objAt_cell sW.2.1 6 rfl
    have c7 := objAt_cell sW.2.1 7 rfl
    have f1 := objAt_free sW.2.1 1
    have zl := objAt_lt sW.2.1
    clear sW
    go_region_law (first
      | (go_simp; go_at_call 40; refine (H1.out W.drew (rowSt_drew SW.out).1).mono ?_; rintro r x1 ⟨rfl, h1, k1⟩; have s1 := rowSt_call (w := W.drew) (rowSt_drew SW.out) h1 k1; have S1 := Lib.hid s1; have c0 := objAt_cell s1.2.1 0 rfl; have c1 := objAt_cell s1.2.1 1 rfl; have c2 := objAt_cell s1.2.1 2 rfl; have c3 := objAt_cell s1.2.1 3 rfl; have c4 := objAt_cell s1.2.1 4 rfl; have c5 := objAt_cell s1.2.1 5 rfl; have c6 := objAt_cell s1.2.1 6 rfl; have c7 := objAt_cell s1.2.1 7 rfl; have f1 := objAt_free s1.2.1 1; have zl1 := objAt_lt s1.2.1; clear s1 h1 k1))
    all_goals
      go_wp2_with fail
      go_meet
      case rel => exact rowSt_store S1.out 1 (.int .i64 N)
  case rest =>
    have SW_ := SW
    clear SW
    have SW := Lib.hid hcut
    clear SW_ H1 u1 u2
    go_upto_region 3 with fail
    go_cut [] from 5 (fun wc => ∃ y1, RowSt b 3 27 r1.2 #[.int .i64 ra.1, .int .i64 N, y1, .slice Md.an d.nodes.length Md.cn, .slice Md.al d.leases.length Md.cl, .slice Md.gj d.gj.length Md.hj, .slice Md.gn d.gn.length Md.hn, .slice Md.gl d.gl.length Md.hl] #[.int .i64 0, .int .i64 0, .slice none 0 0, .slice none 0 0, .slice none 0 0, .slice none 0 0, .slice none 0 0, .slice none 0 0] w wc ∧ wc.ownsRow (w.heap.size + 2) 55 5 y1 r1.1.length (cJobs r1.1))
    case first =>
      have sW := SW.out
      have c0 := objAt_cell sW.2.1 0 rfl
      have c1 := objAt_cell sW.2.1 1 rfl
      have c2 := objAt_cell sW.2.1 2 rfl
      have c3 := objAt_cell sW.2.1 3 rfl
      have c4 := objAt_cell sW.2.1 4 rfl
      have c5 := objAt_cell sW.2.1 5 rfl
      have c6 := objAt_cell sW.2.1 6 rfl
      have c7 := objAt_cell sW.2.1 7 rfl
      have f2 := objAt_free sW.2.1 2
      have zl := objAt_lt sW.2.1
      clear sW
      go_region_law (first
        | (go_simp; go_at_call 42; refine (upTo40 b _).mono ?_; rintro r x1 ⟨rfl, o1, o2, b1⟩; have s1 := rowSt_call (w := wc.drew) (rowSt_drew SW.out) (code_next (w := wc.drew) SW.out.1 b1) (keep_below (w := wc.drew) b1); have S1 := Lib.hid s1; have c0 := objAt_cell s1.2.1 0 rfl; have c1 := objAt_cell s1.2.1 1 rfl; have c2 := objAt_cell s1.2.1 2 rfl; have c3 := objAt_cell s1.2.1 3 rfl; have c4 := objAt_cell s1.2.1 4 rfl; have c5 := objAt_cell s1.2.1 5 rfl; have c6 := objAt_cell s1.2.1 6 rfl; have c7 := objAt_cell s1.2.1 7 rfl; have f2 := objAt_free s1.2.1 2; have zl1 := objAt_lt s1.2.1; clear s1)
        | (go_simp; go_at_call 41; refine (codeJobs_is d.jobs Md.aj Md.cj 40 h3.1 (by omega) h3.2 l0.2 (by omega) _ S1.out.1 S1.out.2.2.2.2.1 (fun w' hk => (memD_at (memD_keep HM.out (keep_trans S1.out.2.2.2.1 hk))).1.1) _ _ o1 o2).mono ?_; rintro r x2 ⟨y, rfl, oy, h2, k2⟩; rw [E1.out] at oy h2; obtain ⟨ady, cpy, rfl⟩ := ownRow_slice oy; have s2 := rowSt_call S1.out h2 k2; have S2 := Lib.hid s2; have K2 := Lib.hid k2; have OY := Lib.hid oy; have c0 := objAt_cell s2.2.1 0 rfl; have c1 := objAt_cell s2.2.1 1 rfl; have c2 := objAt_cell s2.2.1 2 rfl; have c3 := objAt_cell s2.2.1 3 rfl; have c4 := objAt_cell s2.2.1 4 rfl; have c5 := objAt_cell s2.2.1 5 rfl; have c6 := objAt_cell s2.2.1 6 rfl; have c7 := objAt_cell s2.2.1 7 rfl; have f2 := objAt_free s2.2.1 2; have zl2 := objAt_lt s2.2.1; clear s2 k2 h2 oy))
      all_goals
        go_wp2_with fail
        go_meet
        case rel =>
          have hW : wc.drew.heap.size = wc.heap.size := rfl
          have hw2 : w.heap.size + 2 ≤ wc.heap.size := by have := objAt_lt SW.out.2.2.1; omega
          have hx1 := (show wc.heap.size ≤ x1.heap.size from b1.size)
          have oY := ownsRow_low (B' := w.heap.size + 2) OY.out (by omega)
          have kW : Keep b wc x2 := keep_trans (keep_trans (keep_drew b wc) (keep_below (w := wc.drew) b1)) K2.out
          exact ⟨_, rowSt_store S2.out 2 _, rowSt_row oY (Nat.le_refl _) 2 _⟩
    case rest =>
      obtain ⟨y1, SW', O1'⟩ := hcut
      clear SW
      obtain ⟨d1, p1_, rfl⟩ := ownRow_slice O1'
      have SW := Lib.hid SW'
      have O1 := Lib.hid O1'
      clear SW' O1'
      go_upto_region 4 with fail
      go_cut [] from 5 (fun wc => ∃ y1 y2, RowSt b 3 27 r2.2 #[.int .i64 ra.1, .int .i64 N, y1, y2, .slice Md.al d.leases.length Md.cl, .slice Md.gj d.gj.length Md.hj, .slice Md.gn d.gn.length Md.hn, .slice Md.gl d.gl.length Md.hl] #[.int .i64 0, .int .i64 0, .slice none 0 0, .slice none 0 0, .slice none 0 0, .slice none 0 0, .slice none 0 0, .slice none 0 0] w wc ∧ wc.ownsRow (w.heap.size + 2) 55 5 y1 r1.1.length (cJobs r1.1) ∧ wc.ownsRow (w.heap.size + 2) 59 3 y2 r2.1.length (cNodes r2.1))
      case first =>
        have sW := SW.out
        have c0 := objAt_cell sW.2.1 0 rfl
        have c1 := objAt_cell sW.2.1 1 rfl
        have c2 := objAt_cell sW.2.1 2 rfl
        have c3 := objAt_cell sW.2.1 3 rfl
        have c4 := objAt_cell sW.2.1 4 rfl
        have c5 := objAt_cell sW.2.1 5 rfl
        have c6 := objAt_cell sW.2.1 6 rfl
        have c7 := objAt_cell sW.2.1 7 rfl
        have f3 := objAt_free sW.2.1 3
        have zl := objAt_lt sW.2.1
        clear sW
        go_region_law (first
          | (go_simp; go_at_call 42; refine (upTo20 b _).mono ?_; rintro r x1 ⟨rfl, o1, o2, b1⟩; have s1 := rowSt_call (w := wc.drew) (rowSt_drew SW.out) (code_next (w := wc.drew) SW.out.1 b1) (keep_below (w := wc.drew) b1); have S1 := Lib.hid s1; have c0 := objAt_cell s1.2.1 0 rfl; have c1 := objAt_cell s1.2.1 1 rfl; have c2 := objAt_cell s1.2.1 2 rfl; have c3 := objAt_cell s1.2.1 3 rfl; have c4 := objAt_cell s1.2.1 4 rfl; have c5 := objAt_cell s1.2.1 5 rfl; have c6 := objAt_cell s1.2.1 6 rfl; have c7 := objAt_cell s1.2.1 7 rfl; have f3 := objAt_free s1.2.1 3; have zl1 := objAt_lt s1.2.1; clear s1)
          | (go_simp; go_at_call 44; refine (codeNodes_is d.nodes Md.an Md.cn 20 h4.1 (by omega) h4.2 l1.2 (by omega) _ S1.out.1 S1.out.2.2.2.2.1 (fun w' hk => (memD_at (memD_keep HM.out (keep_trans S1.out.2.2.2.1 hk))).1.2.1) _ _ o1 o2).mono ?_; rintro r x2 ⟨y, rfl, oy, h2, k2⟩; rw [E2.out] at oy h2; obtain ⟨ady, cpy, rfl⟩ := ownRow_slice oy; have s2 := rowSt_call S1.out h2 k2; have S2 := Lib.hid s2; have K2 := Lib.hid k2; have OY := Lib.hid oy; have c0 := objAt_cell s2.2.1 0 rfl; have c1 := objAt_cell s2.2.1 1 rfl; have c2 := objAt_cell s2.2.1 2 rfl; have c3 := objAt_cell s2.2.1 3 rfl; have c4 := objAt_cell s2.2.1 4 rfl; have c5 := objAt_cell s2.2.1 5 rfl; have c6 := objAt_cell s2.2.1 6 rfl; have c7 := objAt_cell s2.2.1 7 rfl; have f3 := objAt_free s2.2.1 3; have zl2 := objAt_lt s2.2.1; clear s2 k2 h2 oy))
        all_goals
          go_wp2_with fail
          go_meet
          case rel =>
            have hW : wc.drew.heap.size = wc.heap.size := rfl
            have hw2 : w.heap.size + 2 ≤ wc.heap.size := by have := objAt_lt SW.out.2.2.1; omega
            have hx1 := (show wc.heap.size ≤ x1.heap.size from b1.size)
            have oY := ownsRow_low (B' := w.heap.size + 2) OY.out (by omega)
            have kW : Keep b wc x2 := keep_trans (keep_trans (keep_drew b wc) (keep_below (w := wc.drew) b1)) K2.out
            exact ⟨_, _, rowSt_store S2.out 3 _, rowSt_row (keep_row O1.out kW (by have := SW.out.2.2.2.2.2.1; omega) (by decide)) (Nat.le_refl _) 3 _, rowSt_row oY (Nat.le_refl _) 3 _⟩
      case rest =>
        obtain ⟨y1, y2, SW', O1', O2'⟩ := hcut
        clear SW O1
        obtain ⟨d1, p1_, rfl⟩ := ownRow_slice O1'
        obtain ⟨d2, p2_, rfl⟩ := ownRow_slice O2'
        have SW := Lib.hid SW'
        have O1 := Lib.hid O1'
        have O2 := Lib.hid O2'
        clear SW' O1' O2'
        go_upto_region 5 with fail
        go_cut [] from 5 (fun wc => ∃ y1 y2 y3, RowSt b 3 27 r3.2 #[.int .i64 ra.1, .int .i64 N, y1, y2, y3, .slice Md.gj d.gj.length Md.hj, .slice Md.gn d.gn.length Md.hn, .slice Md.gl d.gl.length Md.hl] #[.int .i64 0, .int .i64 0, .slice none 0 0, .slice none 0 0, .slice none 0 0, .slice none 0 0, .slice none 0 0, .slice none 0 0] w wc ∧ wc.ownsRow (w.heap.size + 2) 55 5 y1 r1.1.length (cJobs r1.1) ∧ wc.ownsRow (w.heap.size + 2) 59 3 y2 r2.1.length (cNodes r2.1) ∧ wc.ownsRow (w.heap.size + 2) 50 3 y3 r3.1.length (cLeases r3.1))
        case first =>
          have sW := SW.out
          have c0 := objAt_cell sW.2.1 0 rfl
          have c1 := objAt_cell sW.2.1 1 rfl
          have c2 := objAt_cell sW.2.1 2 rfl
          have c3 := objAt_cell sW.2.1 3 rfl
          have c4 := objAt_cell sW.2.1 4 rfl
          have c5 := objAt_cell sW.2.1 5 rfl
          have c6 := objAt_cell sW.2.1 6 rfl
          have c7 := objAt_cell sW.2.1 7 rfl
          have f4 := objAt_free sW.2.1 4
          have zl := objAt_lt sW.2.1
          clear sW
          go_region_law (first
            | (go_simp; go_at_call 42; refine (upTo40 b _).mono ?_; rintro r x1 ⟨rfl, o1, o2, b1⟩; have s1 := rowSt_call (w := wc.drew) (rowSt_drew SW.out) (code_next (w := wc.drew) SW.out.1 b1) (keep_below (w := wc.drew) b1); have S1 := Lib.hid s1; have c0 := objAt_cell s1.2.1 0 rfl; have c1 := objAt_cell s1.2.1 1 rfl; have c2 := objAt_cell s1.2.1 2 rfl; have c3 := objAt_cell s1.2.1 3 rfl; have c4 := objAt_cell s1.2.1 4 rfl; have c5 := objAt_cell s1.2.1 5 rfl; have c6 := objAt_cell s1.2.1 6 rfl; have c7 := objAt_cell s1.2.1 7 rfl; have f4 := objAt_free s1.2.1 4; have zl1 := objAt_lt s1.2.1; clear s1)
            | (go_simp; go_at_call 46; refine (codeLeases_is d.leases Md.al Md.cl 40 h5.1 (by omega) h5.2 l2.2 (by omega) _ S1.out.1 S1.out.2.2.2.2.1 (fun w' hk => (memD_at (memD_keep HM.out (keep_trans S1.out.2.2.2.1 hk))).1.2.2) _ _ o1 o2).mono ?_; rintro r x2 ⟨y, rfl, oy, h2, k2⟩; rw [E3.out] at oy h2; obtain ⟨ady, cpy, rfl⟩ := ownRow_slice oy; have s2 := rowSt_call S1.out h2 k2; have S2 := Lib.hid s2; have K2 := Lib.hid k2; have OY := Lib.hid oy; have c0 := objAt_cell s2.2.1 0 rfl; have c1 := objAt_cell s2.2.1 1 rfl; have c2 := objAt_cell s2.2.1 2 rfl; have c3 := objAt_cell s2.2.1 3 rfl; have c4 := objAt_cell s2.2.1 4 rfl; have c5 := objAt_cell s2.2.1 5 rfl; have c6 := objAt_cell s2.2.1 6 rfl; have c7 := objAt_cell s2.2.1 7 rfl; have f4 := objAt_free s2.2.1 4; have zl2 := objAt_lt s2.2.1; clear s2 k2 h2 oy))
          all_goals
            go_wp2_with fail
            go_meet
            case rel =>
              have hW : wc.drew.heap.size = wc.heap.size := rfl
              have hw2 : w.heap.size + 2 ≤ wc.heap.size := by have := objAt_lt SW.out.2.2.1; omega
              have hx1 := (show wc.heap.size ≤ x1.heap.size from b1.size)
              have oY := ownsRow_low (B' := w.heap.size + 2) OY.out (by omega)
              have kW : Keep b wc x2 := keep_trans (keep_trans (keep_drew b wc) (keep_below (w := wc.drew) b1)) K2.out
              exact ⟨_, _, _, rowSt_store S2.out 4 _, rowSt_row (keep_row O1.out kW (by have := SW.out.2.2.2.2.2.1; omega) (by decide)) (Nat.le_refl _) 4 _, rowSt_row (keep_row O2.out kW (by have := SW.out.2.2.2.2.2.1; omega) (by decide)) (Nat.le_refl _) 4 _, rowSt_row oY (Nat.le_refl _) 4 _⟩
        case rest =>
          obtain ⟨y1, y2, y3, SW', O1', O2', O3'⟩ := hcut
          clear SW O1 O2
          obtain ⟨d1, p1_, rfl⟩ := ownRow_slice O1'
          obtain ⟨d2, p2_, rfl⟩ := ownRow_slice O2'
          obtain ⟨d3, p3_, rfl⟩ := ownRow_slice O3'
          have SW := Lib.hid SW'
          have O1 := Lib.hid O1'
          have O2 := Lib.hid O2'
          have O3 := Lib.hid O3'
          clear SW' O1' O2' O3'
          go_upto_region 6 with fail
          go_cut [] from 5 (fun wc => ∃ y1 y2 y3 y4, RowSt b 3 27 r4.2 #[.int .i64 ra.1, .int .i64 N, y1, y2, y3, y4, .slice Md.gn d.gn.length Md.hn, .slice Md.gl d.gl.length Md.hl] #[.int .i64 0, .int .i64 0, .slice none 0 0, .slice none 0 0, .slice none 0 0, .slice none 0 0, .slice none 0 0, .slice none 0 0] w wc ∧ wc.ownsRow (w.heap.size + 2) 55 5 y1 r1.1.length (cJobs r1.1) ∧ wc.ownsRow (w.heap.size + 2) 59 3 y2 r2.1.length (cNodes r2.1) ∧ wc.ownsRow (w.heap.size + 2) 50 3 y3 r3.1.length (cLeases r3.1) ∧ wc.ownsRow (w.heap.size + 2) 9 1 y4 r4.1.length (cNms r4.1))
          case first =>
            have sW := SW.out
            have c0 := objAt_cell sW.2.1 0 rfl
            have c1 := objAt_cell sW.2.1 1 rfl
            have c2 := objAt_cell sW.2.1 2 rfl
            have c3 := objAt_cell sW.2.1 3 rfl
            have c4 := objAt_cell sW.2.1 4 rfl
            have c5 := objAt_cell sW.2.1 5 rfl
            have c6 := objAt_cell sW.2.1 6 rfl
            have c7 := objAt_cell sW.2.1 7 rfl
            have f5 := objAt_free sW.2.1 5
            have zl := objAt_lt sW.2.1
            clear sW
            go_region_law (first
              | (go_simp; go_at_call 42; refine (upTo40 b _).mono ?_; rintro r x1 ⟨rfl, o1, o2, b1⟩; have s1 := rowSt_call (w := wc.drew) (rowSt_drew SW.out) (code_next (w := wc.drew) SW.out.1 b1) (keep_below (w := wc.drew) b1); have S1 := Lib.hid s1; have c0 := objAt_cell s1.2.1 0 rfl; have c1 := objAt_cell s1.2.1 1 rfl; have c2 := objAt_cell s1.2.1 2 rfl; have c3 := objAt_cell s1.2.1 3 rfl; have c4 := objAt_cell s1.2.1 4 rfl; have c5 := objAt_cell s1.2.1 5 rfl; have c6 := objAt_cell s1.2.1 6 rfl; have c7 := objAt_cell s1.2.1 7 rfl; have f5 := objAt_free s1.2.1 5; have zl1 := objAt_lt s1.2.1; clear s1)
              | (go_simp; go_at_call 48; refine (codeNms_is d.gj Md.gj Md.hj 40 h6.1 (by omega) h6.2 l3.2 (by omega) _ S1.out.1 S1.out.2.2.2.2.1 (fun w' hk => (memD_at (memD_keep HM.out (keep_trans S1.out.2.2.2.1 hk))).2.1) _ _ o1 o2).mono ?_; rintro r x2 ⟨y, rfl, oy, h2, k2⟩; rw [E4.out] at oy h2; obtain ⟨ady, cpy, rfl⟩ := ownRow_slice oy; have s2 := rowSt_call S1.out h2 k2; have S2 := Lib.hid s2; have K2 := Lib.hid k2; have OY := Lib.hid oy; have c0 := objAt_cell s2.2.1 0 rfl; have c1 := objAt_cell s2.2.1 1 rfl; have c2 := objAt_cell s2.2.1 2 rfl; have c3 := objAt_cell s2.2.1 3 rfl; have c4 := objAt_cell s2.2.1 4 rfl; have c5 := objAt_cell s2.2.1 5 rfl; have c6 := objAt_cell s2.2.1 6 rfl; have c7 := objAt_cell s2.2.1 7 rfl; have f5 := objAt_free s2.2.1 5; have zl2 := objAt_lt s2.2.1; clear s2 k2 h2 oy))
            all_goals
              go_wp2_with fail
              go_meet
              case rel =>
                have hW : wc.drew.heap.size = wc.heap.size := rfl
                have hw2 : w.heap.size + 2 ≤ wc.heap.size := by have := objAt_lt SW.out.2.2.1; omega
                have hx1 := (show wc.heap.size ≤ x1.heap.size from b1.size)
                have oY := ownsRow_low (B' := w.heap.size + 2) OY.out (by omega)
                have kW : Keep b wc x2 := keep_trans (keep_trans (keep_drew b wc) (keep_below (w := wc.drew) b1)) K2.out
                exact ⟨_, _, _, _, rowSt_store S2.out 5 _, rowSt_row (keep_row O1.out kW (by have := SW.out.2.2.2.2.2.1; omega) (by decide)) (Nat.le_refl _) 5 _, rowSt_row (keep_row O2.out kW (by have := SW.out.2.2.2.2.2.1; omega) (by decide)) (Nat.le_refl _) 5 _, rowSt_row (keep_row O3.out kW (by have := SW.out.2.2.2.2.2.1; omega) (by decide)) (Nat.le_refl _) 5 _, rowSt_row oY (Nat.le_refl _) 5 _⟩
          case rest =>
            obtain ⟨y1, y2, y3, y4, SW', O1', O2', O3', O4'⟩ := hcut
            clear SW O1 O2 O3
            obtain ⟨d1, p1_, rfl⟩ := ownRow_slice O1'
            obtain ⟨d2, p2_, rfl⟩ := ownRow_slice O2'
            obtain ⟨d3, p3_, rfl⟩ := ownRow_slice O3'
            obtain ⟨d4, p4_, rfl⟩ := ownRow_slice O4'
            have SW := Lib.hid SW'
            have O1 := Lib.hid O1'
            have O2 := Lib.hid O2'
            have O3 := Lib.hid O3'
            have O4 := Lib.hid O4'
            clear SW' O1' O2' O3' O4'
            go_upto_region 7 with fail
            go_cut [] from 5 (fun wc => ∃ y1 y2 y3 y4 y5, RowSt b 3 27 r5.2 #[.int .i64 ra.1, .int .i64 N, y1, y2, y3, y4, y5, .slice Md.gl d.gl.length Md.hl] #[.int .i64 0, .int .i64 0, .slice none 0 0, .slice none 0 0, .slice none 0 0, .slice none 0 0, .slice none 0 0, .slice none 0 0] w wc ∧ wc.ownsRow (w.heap.size + 2) 55 5 y1 r1.1.length (cJobs r1.1) ∧ wc.ownsRow (w.heap.size + 2) 59 3 y2 r2.1.length (cNodes r2.1) ∧ wc.ownsRow (w.heap.size + 2) 50 3 y3 r3.1.length (cLeases r3.1) ∧ wc.ownsRow (w.heap.size + 2) 9 1 y4 r4.1.length (cNms r4.1) ∧ wc.ownsRow (w.heap.size + 2) 9 1 y5 r5.1.length (cNms r5.1))
            case first =>
              have sW := SW.out
              have c0 := objAt_cell sW.2.1 0 rfl
              have c1 := objAt_cell sW.2.1 1 rfl
              have c2 := objAt_cell sW.2.1 2 rfl
              have c3 := objAt_cell sW.2.1 3 rfl
              have c4 := objAt_cell sW.2.1 4 rfl
              have c5 := objAt_cell sW.2.1 5 rfl
              have c6 := objAt_cell sW.2.1 6 rfl
              have c7 := objAt_cell sW.2.1 7 rfl
              have f6 := objAt_free sW.2.1 6
              have zl := objAt_lt sW.2.1
              clear sW
              go_region_law (first
                | (go_simp; go_at_call 42; refine (upTo20 b _).mono ?_; rintro r x1 ⟨rfl, o1, o2, b1⟩; have s1 := rowSt_call (w := wc.drew) (rowSt_drew SW.out) (code_next (w := wc.drew) SW.out.1 b1) (keep_below (w := wc.drew) b1); have S1 := Lib.hid s1; have c0 := objAt_cell s1.2.1 0 rfl; have c1 := objAt_cell s1.2.1 1 rfl; have c2 := objAt_cell s1.2.1 2 rfl; have c3 := objAt_cell s1.2.1 3 rfl; have c4 := objAt_cell s1.2.1 4 rfl; have c5 := objAt_cell s1.2.1 5 rfl; have c6 := objAt_cell s1.2.1 6 rfl; have c7 := objAt_cell s1.2.1 7 rfl; have f6 := objAt_free s1.2.1 6; have zl1 := objAt_lt s1.2.1; clear s1)
                | (go_simp; go_at_call 48; refine (codeNms_is d.gn Md.gn Md.hn 20 h7.1 (by omega) h7.2 l4.2 (by omega) _ S1.out.1 S1.out.2.2.2.2.1 (fun w' hk => (memD_at (memD_keep HM.out (keep_trans S1.out.2.2.2.1 hk))).2.2.1) _ _ o1 o2).mono ?_; rintro r x2 ⟨y, rfl, oy, h2, k2⟩; rw [E5.out] at oy h2; obtain ⟨ady, cpy, rfl⟩ := ownRow_slice oy; have s2 := rowSt_call S1.out h2 k2; have S2 := Lib.hid s2; have K2 := Lib.hid k2; have OY := Lib.hid oy; have c0 := objAt_cell s2.2.1 0 rfl; have c1 := objAt_cell s2.2.1 1 rfl; have c2 := objAt_cell s2.2.1 2 rfl; have c3 := objAt_cell s2.2.1 3 rfl; have c4 := objAt_cell s2.2.1 4 rfl; have c5 := objAt_cell s2.2.1 5 rfl; have c6 := objAt_cell s2.2.1 6 rfl; have c7 := objAt_cell s2.2.1 7 rfl; have f6 := objAt_free s2.2.1 6; have zl2 := objAt_lt s2.2.1; clear s2 k2 h2 oy))
              all_goals
                go_wp2_with fail
                go_meet
                case rel =>
                  have hW : wc.drew.heap.size = wc.heap.size := rfl
                  have hw2 : w.heap.size + 2 ≤ wc.heap.size := by have := objAt_lt SW.out.2.2.1; omega
                  have hx1 := (show wc.heap.size ≤ x1.heap.size from b1.size)
                  have oY := ownsRow_low (B' := w.heap.size + 2) OY.out (by omega)
                  have kW : Keep b wc x2 := keep_trans (keep_trans (keep_drew b wc) (keep_below (w := wc.drew) b1)) K2.out
                  exact ⟨_, _, _, _, _, rowSt_store S2.out 6 _, rowSt_row (keep_row O1.out kW (by have := SW.out.2.2.2.2.2.1; omega) (by decide)) (Nat.le_refl _) 6 _, rowSt_row (keep_row O2.out kW (by have := SW.out.2.2.2.2.2.1; omega) (by decide)) (Nat.le_refl _) 6 _, rowSt_row (keep_row O3.out kW (by have := SW.out.2.2.2.2.2.1; omega) (by decide)) (Nat.le_refl _) 6 _, rowSt_row (keep_row O4.out kW (by have := SW.out.2.2.2.2.2.1; omega) (by decide)) (Nat.le_refl _) 6 _, rowSt_row oY (Nat.le_refl _) 6 _⟩
            case rest =>
              obtain ⟨y1, y2, y3, y4, y5, SW', O1', O2', O3', O4', O5'⟩ := hcut
              clear SW O1 O2 O3 O4
              obtain ⟨d1, p1_, rfl⟩ := ownRow_slice O1'
              obtain ⟨d2, p2_, rfl⟩ := ownRow_slice O2'
              obtain ⟨d3, p3_, rfl⟩ := ownRow_slice O3'
              obtain ⟨d4, p4_, rfl⟩ := ownRow_slice O4'
              obtain ⟨d5, p5_, rfl⟩ := ownRow_slice O5'
              have SW := Lib.hid SW'
              have O1 := Lib.hid O1'
              have O2 := Lib.hid O2'
              have O3 := Lib.hid O3'
              have O4 := Lib.hid O4'
              have O5 := Lib.hid O5'
              clear SW' O1' O2' O3' O4' O5'
              go_upto_region 8 with fail
              go_cut [] from 5 (fun wc => ∃ y1 y2 y3 y4 y5 y6, RowSt b 3 27 r6.2 #[.int .i64 ra.1, .int .i64 N, y1, y2, y3, y4, y5, y6] #[.int .i64 0, .int .i64 0, .slice none 0 0, .slice none 0 0, .slice none 0 0, .slice none 0 0, .slice none 0 0, .slice none 0 0] w wc ∧ wc.ownsRow (w.heap.size + 2) 55 5 y1 r1.1.length (cJobs r1.1) ∧ wc.ownsRow (w.heap.size + 2) 59 3 y2 r2.1.length (cNodes r2.1) ∧ wc.ownsRow (w.heap.size + 2) 50 3 y3 r3.1.length (cLeases r3.1) ∧ wc.ownsRow (w.heap.size + 2) 9 1 y4 r4.1.length (cNms r4.1) ∧ wc.ownsRow (w.heap.size + 2) 9 1 y5 r5.1.length (cNms r5.1) ∧ wc.ownsRow (w.heap.size + 2) 9 1 y6 r6.1.length (cNms r6.1))
              case first =>
                have sW := SW.out
                have c0 := objAt_cell sW.2.1 0 rfl
                have c1 := objAt_cell sW.2.1 1 rfl
                have c2 := objAt_cell sW.2.1 2 rfl
                have c3 := objAt_cell sW.2.1 3 rfl
                have c4 := objAt_cell sW.2.1 4 rfl
                have c5 := objAt_cell sW.2.1 5 rfl
                have c6 := objAt_cell sW.2.1 6 rfl
                have c7 := objAt_cell sW.2.1 7 rfl
                have f7 := objAt_free sW.2.1 7
                have zl := objAt_lt sW.2.1
                clear sW
                go_region_law (first
                  | (go_simp; go_at_call 42; refine (upTo40 b _).mono ?_; rintro r x1 ⟨rfl, o1, o2, b1⟩; have s1 := rowSt_call (w := wc.drew) (rowSt_drew SW.out) (code_next (w := wc.drew) SW.out.1 b1) (keep_below (w := wc.drew) b1); have S1 := Lib.hid s1; have c0 := objAt_cell s1.2.1 0 rfl; have c1 := objAt_cell s1.2.1 1 rfl; have c2 := objAt_cell s1.2.1 2 rfl; have c3 := objAt_cell s1.2.1 3 rfl; have c4 := objAt_cell s1.2.1 4 rfl; have c5 := objAt_cell s1.2.1 5 rfl; have c6 := objAt_cell s1.2.1 6 rfl; have c7 := objAt_cell s1.2.1 7 rfl; have f7 := objAt_free s1.2.1 7; have zl1 := objAt_lt s1.2.1; clear s1)
                  | (go_simp; go_at_call 48; refine (codeNms_is d.gl Md.gl Md.hl 40 h8.1 (by omega) h8.2 l5.2 (by omega) _ S1.out.1 S1.out.2.2.2.2.1 (fun w' hk => (memD_at (memD_keep HM.out (keep_trans S1.out.2.2.2.1 hk))).2.2.2) _ _ o1 o2).mono ?_; rintro r x2 ⟨y, rfl, oy, h2, k2⟩; rw [E6.out] at oy h2; obtain ⟨ady, cpy, rfl⟩ := ownRow_slice oy; have s2 := rowSt_call S1.out h2 k2; have S2 := Lib.hid s2; have K2 := Lib.hid k2; have OY := Lib.hid oy; have c0 := objAt_cell s2.2.1 0 rfl; have c1 := objAt_cell s2.2.1 1 rfl; have c2 := objAt_cell s2.2.1 2 rfl; have c3 := objAt_cell s2.2.1 3 rfl; have c4 := objAt_cell s2.2.1 4 rfl; have c5 := objAt_cell s2.2.1 5 rfl; have c6 := objAt_cell s2.2.1 6 rfl; have c7 := objAt_cell s2.2.1 7 rfl; have f7 := objAt_free s2.2.1 7; have zl2 := objAt_lt s2.2.1; clear s2 k2 h2 oy))
                all_goals
                  go_wp2_with fail
                  go_meet
                  case rel =>
                    have hW : wc.drew.heap.size = wc.heap.size := rfl
                    have hw2 : w.heap.size + 2 ≤ wc.heap.size := by have := objAt_lt SW.out.2.2.1; omega
                    have hx1 := (show wc.heap.size ≤ x1.heap.size from b1.size)
                    have oY := ownsRow_low (B' := w.heap.size + 2) OY.out (by omega)
                    have kW : Keep b wc x2 := keep_trans (keep_trans (keep_drew b wc) (keep_below (w := wc.drew) b1)) K2.out
                    exact ⟨_, _, _, _, _, _, rowSt_store S2.out 7 _, rowSt_row (keep_row O1.out kW (by have := SW.out.2.2.2.2.2.1; omega) (by decide)) (Nat.le_refl _) 7 _, rowSt_row (keep_row O2.out kW (by have := SW.out.2.2.2.2.2.1; omega) (by decide)) (Nat.le_refl _) 7 _, rowSt_row (keep_row O3.out kW (by have := SW.out.2.2.2.2.2.1; omega) (by decide)) (Nat.le_refl _) 7 _, rowSt_row (keep_row O4.out kW (by have := SW.out.2.2.2.2.2.1; omega) (by decide)) (Nat.le_refl _) 7 _, rowSt_row (keep_row O5.out kW (by have := SW.out.2.2.2.2.2.1; omega) (by decide)) (Nat.le_refl _) 7 _, rowSt_row oY (Nat.le_refl _) 7 _⟩
              case rest =>
                obtain ⟨y1, y2, y3, y4, y5, y6, SW', O1', O2', O3', O4', O5', O6'⟩ := hcut
                clear SW O1 O2 O3 O4 O5
                obtain ⟨d1, p1_, rfl⟩ := ownRow_slice O1'
                obtain ⟨d2, p2_, rfl⟩ := ownRow_slice O2'
                obtain ⟨d3, p3_, rfl⟩ := ownRow_slice O3'
                obtain ⟨d4, p4_, rfl⟩ := ownRow_slice O4'
                obtain ⟨d5, p5_, rfl⟩ := ownRow_slice O5'
                obtain ⟨d6, p6_, rfl⟩ := ownRow_slice O6'
                have SW := Lib.hid SW'
                have O1 := Lib.hid O1'
                have O2 := Lib.hid O2'
                have O3 := Lib.hid O3'
                have O4 := Lib.hid O4'
                have O5 := Lib.hid O5'
                have O6 := Lib.hid O6'
                clear SW' O1' O2' O3' O4' O5' O6'
                have sW := SW.out
                have c0 := objAt_cell sW.2.1 0 rfl
                have p0 := objAt_cell sW.2.2.1 0 rfl
                have f0 := objAt_free sW.2.2.1 0
                have c1 := objAt_cell sW.2.1 1 rfl
                have p1 := objAt_cell sW.2.2.1 1 rfl
                have f1 := objAt_free sW.2.2.1 1
                have c2 := objAt_cell sW.2.1 2 rfl
                have p2 := objAt_cell sW.2.2.1 2 rfl
                have f2 := objAt_free sW.2.2.1 2
                have c3 := objAt_cell sW.2.1 3 rfl
                have p3 := objAt_cell sW.2.2.1 3 rfl
                have f3 := objAt_free sW.2.2.1 3
                have c4 := objAt_cell sW.2.1 4 rfl
                have p4 := objAt_cell sW.2.2.1 4 rfl
                have f4 := objAt_free sW.2.2.1 4
                have c5 := objAt_cell sW.2.1 5 rfl
                have p5 := objAt_cell sW.2.2.1 5 rfl
                have f5 := objAt_free sW.2.2.1 5
                have c6 := objAt_cell sW.2.1 6 rfl
                have p6 := objAt_cell sW.2.2.1 6 rfl
                have f6 := objAt_free sW.2.2.1 6
                have c7 := objAt_cell sW.2.1 7 rfl
                have p7 := objAt_cell sW.2.2.1 7 rfl
                have f7 := objAt_free sW.2.2.1 7
                have zl := objAt_lt sW.2.1
                have zl2 := objAt_lt sW.2.2.1
                have b0 : RowSt b 3 27 r6.2 #[.int .i64 ra.1, .int .i64 N, .slice d1 r1.1.length p1_, .slice d2 r2.1.length p2_, .slice d3 r3.1.length p3_, .slice d4 r4.1.length p4_, .slice d5 r5.1.length p5_, .slice d6 r6.1.length p6_] #[.int .i64 ra.1, .int .i64 0, .slice none 0 0, .slice none 0 0, .slice none 0 0, .slice none 0 0, .slice none 0 0, .slice none 0 0] w _ := rowSt_back sW 0 (.int .i64 ra.1)
                have b1 : RowSt b 3 27 r6.2 #[.int .i64 ra.1, .int .i64 N, .slice d1 r1.1.length p1_, .slice d2 r2.1.length p2_, .slice d3 r3.1.length p3_, .slice d4 r4.1.length p4_, .slice d5 r5.1.length p5_, .slice d6 r6.1.length p6_] #[.int .i64 ra.1, .int .i64 N, .slice none 0 0, .slice none 0 0, .slice none 0 0, .slice none 0 0, .slice none 0 0, .slice none 0 0] w _ := rowSt_back b0 1 (.int .i64 N)
                have b2 : RowSt b 3 27 r6.2 #[.int .i64 ra.1, .int .i64 N, .slice d1 r1.1.length p1_, .slice d2 r2.1.length p2_, .slice d3 r3.1.length p3_, .slice d4 r4.1.length p4_, .slice d5 r5.1.length p5_, .slice d6 r6.1.length p6_] #[.int .i64 ra.1, .int .i64 N, .slice d1 r1.1.length p1_, .slice none 0 0, .slice none 0 0, .slice none 0 0, .slice none 0 0, .slice none 0 0] w _ := rowSt_back b1 2 (.slice d1 r1.1.length p1_)
                have b3 : RowSt b 3 27 r6.2 #[.int .i64 ra.1, .int .i64 N, .slice d1 r1.1.length p1_, .slice d2 r2.1.length p2_, .slice d3 r3.1.length p3_, .slice d4 r4.1.length p4_, .slice d5 r5.1.length p5_, .slice d6 r6.1.length p6_] #[.int .i64 ra.1, .int .i64 N, .slice d1 r1.1.length p1_, .slice d2 r2.1.length p2_, .slice none 0 0, .slice none 0 0, .slice none 0 0, .slice none 0 0] w _ := rowSt_back b2 3 (.slice d2 r2.1.length p2_)
                have b4 : RowSt b 3 27 r6.2 #[.int .i64 ra.1, .int .i64 N, .slice d1 r1.1.length p1_, .slice d2 r2.1.length p2_, .slice d3 r3.1.length p3_, .slice d4 r4.1.length p4_, .slice d5 r5.1.length p5_, .slice d6 r6.1.length p6_] #[.int .i64 ra.1, .int .i64 N, .slice d1 r1.1.length p1_, .slice d2 r2.1.length p2_, .slice d3 r3.1.length p3_, .slice none 0 0, .slice none 0 0, .slice none 0 0] w _ := rowSt_back b3 4 (.slice d3 r3.1.length p3_)
                have b5 : RowSt b 3 27 r6.2 #[.int .i64 ra.1, .int .i64 N, .slice d1 r1.1.length p1_, .slice d2 r2.1.length p2_, .slice d3 r3.1.length p3_, .slice d4 r4.1.length p4_, .slice d5 r5.1.length p5_, .slice d6 r6.1.length p6_] #[.int .i64 ra.1, .int .i64 N, .slice d1 r1.1.length p1_, .slice d2 r2.1.length p2_, .slice d3 r3.1.length p3_, .slice d4 r4.1.length p4_, .slice none 0 0, .slice none 0 0] w _ := rowSt_back b4 5 (.slice d4 r4.1.length p4_)
                have b6 : RowSt b 3 27 r6.2 #[.int .i64 ra.1, .int .i64 N, .slice d1 r1.1.length p1_, .slice d2 r2.1.length p2_, .slice d3 r3.1.length p3_, .slice d4 r4.1.length p4_, .slice d5 r5.1.length p5_, .slice d6 r6.1.length p6_] #[.int .i64 ra.1, .int .i64 N, .slice d1 r1.1.length p1_, .slice d2 r2.1.length p2_, .slice d3 r3.1.length p3_, .slice d4 r4.1.length p4_, .slice d5 r5.1.length p5_, .slice none 0 0] w _ := rowSt_back b5 6 (.slice d5 r5.1.length p5_)
                have b7 : RowSt b 3 27 r6.2 #[.int .i64 ra.1, .int .i64 N, .slice d1 r1.1.length p1_, .slice d2 r2.1.length p2_, .slice d3 r3.1.length p3_, .slice d4 r4.1.length p4_, .slice d5 r5.1.length p5_, .slice d6 r6.1.length p6_] #[.int .i64 ra.1, .int .i64 N, .slice d1 r1.1.length p1_, .slice d2 r2.1.length p2_, .slice d3 r3.1.length p3_, .slice d4 r4.1.length p4_, .slice d5 r5.1.length p5_, .slice d6 r6.1.length p6_] w _ := rowSt_back b6 7 (.slice d6 r6.1.length p6_)
                have SF := Lib.hid b7
                have Z1 := Lib.hid (own_put8 O1.out sW.2.2.1 (by decide) (.int .i64 ra.1) (.int .i64 N) (.slice d1 r1.1.length p1_) (.slice d2 r2.1.length p2_) (.slice d3 r3.1.length p3_) (.slice d4 r4.1.length p4_) (.slice d5 r5.1.length p5_) (.slice d6 r6.1.length p6_))
                have Z2 := Lib.hid (own_put8 O2.out sW.2.2.1 (by decide) (.int .i64 ra.1) (.int .i64 N) (.slice d1 r1.1.length p1_) (.slice d2 r2.1.length p2_) (.slice d3 r3.1.length p3_) (.slice d4 r4.1.length p4_) (.slice d5 r5.1.length p5_) (.slice d6 r6.1.length p6_))
                have Z3 := Lib.hid (own_put8 O3.out sW.2.2.1 (by decide) (.int .i64 ra.1) (.int .i64 N) (.slice d1 r1.1.length p1_) (.slice d2 r2.1.length p2_) (.slice d3 r3.1.length p3_) (.slice d4 r4.1.length p4_) (.slice d5 r5.1.length p5_) (.slice d6 r6.1.length p6_))
                have Z4 := Lib.hid (own_put8 O4.out sW.2.2.1 (by decide) (.int .i64 ra.1) (.int .i64 N) (.slice d1 r1.1.length p1_) (.slice d2 r2.1.length p2_) (.slice d3 r3.1.length p3_) (.slice d4 r4.1.length p4_) (.slice d5 r5.1.length p5_) (.slice d6 r6.1.length p6_))
                have Z5 := Lib.hid (own_put8 O5.out sW.2.2.1 (by decide) (.int .i64 ra.1) (.int .i64 N) (.slice d1 r1.1.length p1_) (.slice d2 r2.1.length p2_) (.slice d3 r3.1.length p3_) (.slice d4 r4.1.length p4_) (.slice d5 r5.1.length p5_) (.slice d6 r6.1.length p6_))
                have Z6 := Lib.hid (own_put8 O6.out sW.2.2.1 (by decide) (.int .i64 ra.1) (.int .i64 N) (.slice d1 r1.1.length p1_) (.slice d2 r2.1.length p2_) (.slice d3 r3.1.length p3_) (.slice d4 r4.1.length p4_) (.slice d5 r5.1.length p5_) (.slice d6 r6.1.length p6_))
                have t0 := objAt_cell b7.2.2.1 0 rfl
                have t1 := objAt_cell b7.2.2.1 1 rfl
                have t2 := objAt_cell b7.2.2.1 2 rfl
                have t3 := objAt_cell b7.2.2.1 3 rfl
                have t4 := objAt_cell b7.2.2.1 4 rfl
                have t5 := objAt_cell b7.2.2.1 5 rfl
                have t6 := objAt_cell b7.2.2.1 6 rfl
                have t7 := objAt_cell b7.2.2.1 7 rfl
                have TT := Lib.hid (And.intro t0 (And.intro t1 (And.intro t2 (And.intro t3 (And.intro t4 (And.intro t5 (And.intro t6 t7)))))))
                clear b0 b1 b2 b3 b4 b5 b6 b7 t0 t1 t2 t3 t4 t5 t6 t7 sW
                go_wp2
                obtain ⟨t0, t1, t2, t3, t4, t5, t6, t7⟩ := TT.out
                exact bodyPost_ret (v := .agg #[.int .i64 ra.1, .int .i64 N, .slice d1 r1.1.length p1_, .slice d2 r2.1.length p2_, .slice d3 r3.1.length p3_, .slice d4 r4.1.length p4_, .slice d5 r5.1.length p5_, .slice d6 r6.1.length p6_]) (by simp [results, Tryd.results12, go_sem, t0, t1, t2, t3, t4, t5, t6, t7]) rfl ⟨⟨d1, p1_, d2, p2_, d3, p3_, d4, p4_, d5, p5_, d6, p6_⟩, rfl, ⟨Z1.out, Z2.out, Z3.out, Z4.out, Z5.out, Z6.out⟩, SF.out.1, SF.out.2.2.2.1⟩
end Go.Proofs.YthfbjmjohmkfjaaDoor
