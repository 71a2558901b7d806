/- Package delta: Decode at every string. -/
import Derived.Test.YthfbjmjohmkfjaaDoorDlEnc
import Derived.Test.YthfbjmjohmkfjaaDoorDlHeld
namespace Go.Proofs.YthfbjmjohmkfjaaDoor
open Go.RowKit

theorem wDelta_read {d : DelD} (h : readOk d) : wDelta d := by
  obtain ⟨⟨h1, h2⟩, h3, h4, h5, h6, h7, h8⟩ := h
  have z := wState_ok (v := 3) (s := ⟨d.frm, d.jobs, d.nodes, d.leases⟩) ⟨by rw [if_pos (by decide)]; exact h1, h3, h4, h5⟩
  exact ⟨⟨z.1, h2⟩, z.2, fun x hx => note_max (h6.2 x hx), fun x hx => note_max (h7.2 x hx), fun x hx => note_max (h8.2 x hx)⟩
theorem inD_zero (m : M) (h : m.reading = true) : InD zeroDel m :=
  ⟨.inr ⟨h, rfl, rfl⟩, ⟨by decide, fun x hx => (by cases hx)⟩, ⟨by decide, fun x hx => (by cases hx)⟩, ⟨by decide, fun x hx => (by cases hx)⟩, ⟨by decide, fun x hx => (by cases hx)⟩, ⟨by decide, fun x hx => (by cases hx)⟩, ⟨by decide, fun x hx => (by cases hx)⟩⟩
theorem ownD_keep {B b : Nat} {M : DlM} {d : DelD} {w w' : World} (h : OwnD B M d w) (hk : Keep b w w') (hb : b < B) : OwnD B M d w' :=
  ⟨keep_row h.1 hk hb (by decide), keep_row h.2.1 hk hb (by decide), keep_row h.2.2.1 hk hb (by decide), keep_row h.2.2.2.1 hk hb (by decide), keep_row h.2.2.2.2.1 hk hb (by decide), keep_row h.2.2.2.2.2 hk hb (by decide)⟩
set_option maxRecDepth 100000 in
set_option maxHeartbeats 8000000 in
theorem ddecode_any (s : ByteArray) (hs : s.size ≤ 1152921504606846976) (w : World) (hT : Tabs w) :
    Calls Tryd.prog 8 #[.string s] w fun e w' => ∃ M : DlM, e = .returned (.tuple #[.agg #[.int .i64 (ddecR V8 s.data.toList).1.frm, .int .i64 (ddecR V8 s.data.toList).1.til, .slice M.aj (ddecR V8 s.data.toList).1.jobs.length M.cj, .slice M.an (ddecR V8 s.data.toList).1.nodes.length M.cn, .slice M.al (ddecR V8 s.data.toList).1.leases.length M.cl, .slice M.gj (ddecR V8 s.data.toList).1.gj.length M.hj, .slice M.gn (ddecR V8 s.data.toList).1.gn.length M.hn, .slice M.gl (ddecR V8 s.data.toList).1.gl.length M.hl], .int .i64 ((ddecR V8 s.data.toList).2 : Nat)]) ∧ OwnD w.heap.size M (ddecR V8 s.data.toList).1 w' ∧ Below w.heap.size w w' := by
  have hR : (ddecR V8 s.data.toList) = if 6000 < s.data.toList.length then (zeroDel, 2) else dreadR s.data.toList := ddec_is _
  rw [size_l] at hR
  obtain ⟨W0, hW0⟩ : ∃ W0, w.alloc (.cells #[.int .i64 0, .int .i64 0, .slice none 0 0, .slice none 0 0, .slice none 0 0, .slice none 0 0, .slice none 0 0, .slice none 0 0] 27) = W0 := ⟨_, rfl⟩
  have o0 := objAt_new w #[.int .i64 0, .int .i64 0, .slice none 0 0, .slice none 0 0, .slice none 0 0, .slice none 0 0, .slice none 0 0, .slice none 0 0] 27
  have bW := below_one w (.cells #[.int .i64 0, .int .i64 0, .slice none 0 0, .slice none 0 0, .slice none 0 0, .slice none 0 0, .slice none 0 0, .slice none 0 0] 27)
  have sW : W0.heap.size = w.heap.size + 1 := by rw [← hW0, World.size_alloc]
  rw [hW0] at o0 bW
  by_cases h6 : 6000 < s.size
  · rw [if_pos h6] at hR
    have HD := Lib.hid hR
    have h6' : (6000 : Int) < (s.size : Int) := by omega
    have k0 := objAt_cell o0 0 rfl
    have f0 := objAt_free o0 0
    have k1 := objAt_cell o0 1 rfl
    have f1 := objAt_free o0 1
    have k2 := objAt_cell o0 2 rfl
    have f2 := objAt_free o0 2
    have k3 := objAt_cell o0 3 rfl
    have f3 := objAt_free o0 3
    have k4 := objAt_cell o0 4 rfl
    have f4 := objAt_free o0 4
    have k5 := objAt_cell o0 5 rfl
    have f5 := objAt_free o0 5
    have k6 := objAt_cell o0 6 rfl
    have f6 := objAt_free o0 6
    have k7 := objAt_cell o0 7 rfl
    have f7 := objAt_free o0 7
    have kl := objAt_lt o0
    have oF := obj_put8 o0 (.int .i64 0) (.int .i64 0) (.slice none 0 0) (.slice none 0 0) (.slice none 0 0) (.slice none 0 0) (.slice none 0 0) (.slice none 0 0)
    have t0 := objAt_cell oF 0 rfl
    have t1 := objAt_cell oF 1 rfl
    have t2 := objAt_cell oF 2 rfl
    have t3 := objAt_cell oF 3 rfl
    have t4 := objAt_cell oF 4 rfl
    have t5 := objAt_cell oF 5 rfl
    have t6 := objAt_cell oF 6 rfl
    have t7 := objAt_cell oF 7 rfl
    have TT := Lib.hid (And.intro t0 (And.intro t1 (And.intro t2 (And.intro t3 (And.intro t4 (And.intro t5 (And.intro t6 t7)))))))
    have BF := Lib.hid (below_put8 bW (Nat.le_refl _) (.int .i64 0) (.int .i64 0) (.slice none 0 0) (.slice none 0 0) (.slice none 0 0) (.slice none 0 0) (.slice none 0 0) (.slice none 0 0))
    clear oF t0 t1 t2 t3 t4 t5 t6 t7
    clear hR h6 hT hs o0 bW sW
    go_enter Tryd.func8, Tryd.ntmps8
    go_wp2
    obtain ⟨t0, t1, t2, t3, t4, t5, t6, t7⟩ := TT.out
    exact bodyPost_ret (v := .tuple #[.agg #[.int .i64 0, .int .i64 0, .slice none 0 0, .slice none 0 0, .slice none 0 0, .slice none 0 0, .slice none 0 0, .slice none 0 0], .int .i64 2]) (by simp [results, Tryd.results8, go_sem, t0, t1, t2, t3, t4, t5, t6, t7]) rfl (by rw [HD.out]; exact ⟨⟨none, 0, none, 0, none, 0, none, 0, none, 0, none, 0⟩, rfl, ownD_zero _ _, BF.out⟩)
  · rw [if_neg h6] at hR
    have h6' : ¬ ((6000 : Int) < (s.size : Int)) := by omega
    have bA := below_one W0 (.cells #[.int .i64 3, .bool true, .pointer none, .slice none 0 0, .string s, .int .i64 0] 84)
    have hc0 := code_new W0 3 true s
    have HWh := dwhole_is zeroDel ⟨none, 0, none, 0, none, 0, none, 0, none, 0, none, 0⟩ (inD_zero ⟨true, [], s, 0⟩ rfl) hs (Nat.zero_le _) _ hc0 ⟨W0, rfl, hT.below bW, bA⟩ ⟨W0, rfl, bA, zeroAt W0⟩
    have hcs := dread_cases s
    obtain ⟨q, hq⟩ : ∃ q, delS zeroDel ⟨true, [], s, 0⟩ = q := ⟨_, rfl⟩
    rw [hq] at HWh hcs
    have H1 := reader_is s 3 W0
    rw [sW] at HWh H1
    have H1 := Lib.hid H1
    rw [hR]
    generalize dreadR s.data.toList = D at hcs ⊢
    have HWh : Hid (Calls Tryd.prog 12 #[.pointer (some ⟨w.heap.size + 1, 0, none⟩), .agg #[.int .i64 0, .int .i64 0, .slice none 0 0, .slice none 0 0, .slice none 0 0, .slice none 0 0, .slice none 0 0, .slice none 0 0]] (W0.alloc (.cells #[.int .i64 3, .bool true, .pointer none, .slice none 0 0, .string s, .int .i64 0] 84)) fun r w' => ∃ Mr : DlM, r = .returned (.agg (dlC Mr q.1)) ∧ OwnD ((W0.alloc (.cells #[.int .i64 3, .bool true, .pointer none, .slice none 0 0, .string s, .int .i64 0] 84)).heap.size + 2) Mr q.1 w' ∧ CodeAt (w.heap.size + 1) 3 q.2 w' ∧ Keep (w.heap.size + 1) (W0.alloc (.cells #[.int .i64 3, .bool true, .pointer none, .slice none 0 0, .string s, .int .i64 0] 84)) w') := Lib.hid HWh
    have HT := Lib.hid hT
    have BW := Lib.hid bW
    have OA := Lib.hid (objAt_next o0 bA)
    clear hR hq o0 bW bA hc0 hT h6
    go_enter Tryd.func8, Tryd.ntmps8
    go_wp2_with fail
    refine H1.out.mono ?_
    rintro e w1' ⟨rfl, rfl⟩
    clear H1
    go_wp2_with fail
    refine HWh.out.mono ?_
    rintro e w2 ⟨Mr, rfl, ow, hc2, hk2⟩
    have hsz : (W0.alloc (.cells #[.int .i64 3, .bool true, .pointer none, .slice none 0 0, .string s, .int .i64 0] 84)).heap.size = w.heap.size + 2 := by rw [World.size_alloc, sW]
    have hs2 := hk2.size
    rw [hsz] at ow hs2
    have bW2 : Below w.heap.size w w2 := keep_below_of BW.out sW.symm _ hk2
    have o2 := keep_obj OA.out hk2 (by omega) (by decide)
    obtain ⟨L, hL⟩ : ∃ L, w2.heap.size = L := ⟨_, rfl⟩
    have oT := objAt_new w2 #[.int .i64 q.1.frm, .int .i64 q.1.til, .slice Mr.aj q.1.jobs.length Mr.cj, .slice Mr.an q.1.nodes.length Mr.cn, .slice Mr.al q.1.leases.length Mr.cl, .slice Mr.gj q.1.gj.length Mr.hj, .slice Mr.gn q.1.gn.length Mr.hn, .slice Mr.gl q.1.gl.length Mr.hl] 27
    have b3 := below_one w2 (.cells #[.int .i64 q.1.frm, .int .i64 q.1.til, .slice Mr.aj q.1.jobs.length Mr.cj, .slice Mr.an q.1.nodes.length Mr.cn, .slice Mr.al q.1.leases.length Mr.cl, .slice Mr.gj q.1.gj.length Mr.hj, .slice Mr.gn q.1.gn.length Mr.hn, .slice Mr.gl q.1.gl.length Mr.hl] 27)
    have o3 := objAt_next o2 b3
    have HEnd := Lib.hid (end_is _ (code_next hc2 b3))
    have O3 := Lib.hid o3
    have OT := Lib.hid oT
    have OW := Lib.hid (ownD_next ow b3)
    have BW3 := Lib.hid (below_trans bW2 b3 bW2.size)
    rw [hL] at OT
    have hT2 : w.heap.size + 2 ≤ L := by omega
    clear ow hc2 hk2 o2 oT o3 bW2
    simp only [dlC]
    go_wp2_with fail
    refine HEnd.out.mono ?_
    rintro e w4 ⟨rfl, hk4⟩
    have bs4 := hk4.size
    have s3 : (w2.alloc (.cells #[.int .i64 q.1.frm, .int .i64 q.1.til, .slice Mr.aj q.1.jobs.length Mr.cj, .slice Mr.an q.1.nodes.length Mr.cn, .slice Mr.al q.1.leases.length Mr.cl, .slice Mr.gj q.1.gj.length Mr.hj, .slice Mr.gn q.1.gn.length Mr.hn, .slice Mr.gl q.1.gl.length Mr.hl] 27)).heap.size = L + 1 := by rw [World.size_alloc, hL]
    rw [s3] at bs4
    have o4 := keep_obj O3.out hk4 (by omega) (by decide)
    have T4 := keep_obj OT.out hk4 (by omega) (by decide)
    have ow4 := ownD_keep OW.out hk4 (by omega)
    have b4 : Below w.heap.size w w4 := BW3.out.trans ((keep_low hk4 (by omega)).mono (by omega))
    clear hk4 HEnd O3 OT OW b3 s3 HWh OA
    rcases hcs with ⟨hne, hD⟩ | ⟨he0, hok, hD⟩
    · have HD := Lib.hid hD
      have hne' : ((endE q.2 : Int) != 0) = true := by simp; omega
      have k0 := objAt_cell o4 0 rfl
      have f0 := objAt_free o4 0
      have k1 := objAt_cell o4 1 rfl
      have f1 := objAt_free o4 1
      have k2 := objAt_cell o4 2 rfl
      have f2 := objAt_free o4 2
      have k3 := objAt_cell o4 3 rfl
      have f3 := objAt_free o4 3
      have k4 := objAt_cell o4 4 rfl
      have f4 := objAt_free o4 4
      have k5 := objAt_cell o4 5 rfl
      have f5 := objAt_free o4 5
      have k6 := objAt_cell o4 6 rfl
      have f6 := objAt_free o4 6
      have k7 := objAt_cell o4 7 rfl
      have f7 := objAt_free o4 7
      have kl := objAt_lt o4
      have oF := obj_put8 o4 (.int .i64 0) (.int .i64 0) (.slice none 0 0) (.slice none 0 0) (.slice none 0 0) (.slice none 0 0) (.slice none 0 0) (.slice none 0 0)
      have t0 := objAt_cell oF 0 rfl
      have t1 := objAt_cell oF 1 rfl
      have t2 := objAt_cell oF 2 rfl
      have t3 := objAt_cell oF 3 rfl
      have t4 := objAt_cell oF 4 rfl
      have t5 := objAt_cell oF 5 rfl
      have t6 := objAt_cell oF 6 rfl
      have t7 := objAt_cell oF 7 rfl
      have TT := Lib.hid (And.intro t0 (And.intro t1 (And.intro t2 (And.intro t3 (And.intro t4 (And.intro t5 (And.intro t6 t7)))))))
      have BF := Lib.hid (below_put8 b4 (Nat.le_refl _) (.int .i64 0) (.int .i64 0) (.slice none 0 0) (.slice none 0 0) (.slice none 0 0) (.slice none 0 0) (.slice none 0 0) (.slice none 0 0))
      clear oF t0 t1 t2 t3 t4 t5 t6 t7
      clear hD hne T4 ow4 b4 o4
      go_wp2
      obtain ⟨t0, t1, t2, t3, t4, t5, t6, t7⟩ := TT.out
      exact bodyPost_ret (v := .tuple #[.agg #[.int .i64 0, .int .i64 0, .slice none 0 0, .slice none 0 0, .slice none 0 0, .slice none 0 0, .slice none 0 0, .slice none 0 0], .int .i64 (endE q.2 : Int)]) (by simp [results, Tryd.results8, go_sem, t0, t1, t2, t3, t4, t5, t6, t7]) rfl (by rw [HD.out]; exact ⟨⟨none, 0, none, 0, none, 0, none, 0, none, 0, none, 0⟩, rfl, ownD_zero _ _, BF.out⟩)
    · rw [he0]
      have HC := dcheck_any Mr q.1 (wDelta_read hok) w4 (HT.out.below b4) (ownD_at ow4)
      obtain ⟨c, hc⟩ : ∃ c, dcheckE V8 q.1 = c := ⟨_, rfl⟩
      rw [hc] at HC hD
      have HC : Hid (Calls Tryd.prog 7 #[.agg #[.int .i64 q.1.frm, .int .i64 q.1.til, .slice Mr.aj q.1.jobs.length Mr.cj, .slice Mr.an q.1.nodes.length Mr.cn, .slice Mr.al q.1.leases.length Mr.cl, .slice Mr.gj q.1.gj.length Mr.hj, .slice Mr.gn q.1.gn.length Mr.hn, .slice Mr.gl q.1.gl.length Mr.hl]] w4 fun e w' => e = .returned (.int .i64 (c : Nat)) ∧ Below w4.heap.size w4 w') := Lib.hid HC
      have HD := Lib.hid hD
      have x0 := objAt_cell T4 0 rfl
      have x1 := objAt_cell T4 1 rfl
      have x2 := objAt_cell T4 2 rfl
      have x3 := objAt_cell T4 3 rfl
      have x4 := objAt_cell T4 4 rfl
      have x5 := objAt_cell T4 5 rfl
      have x6 := objAt_cell T4 6 rfl
      have x7 := objAt_cell T4 7 rfl
      have xl := objAt_lt T4
      have O4 := Lib.hid o4
      have OT := Lib.hid T4
      have OW := Lib.hid ow4
      have BB := Lib.hid b4
      clear o4 T4 ow4 b4 hD hok hc he0
      go_wp2_with fail
      refine HC.out.mono ?_
      rintro e w5 ⟨rfl, b5⟩
      have o5 := objAt_next O4.out b5
      have T5 := objAt_next OT.out b5
      have hB5 := below_trans BB.out b5 BB.out.size
      have ow5 := ownD_next OW.out b5
      have y0 := objAt_cell T5 0 rfl
      have y1 := objAt_cell T5 1 rfl
      have y2 := objAt_cell T5 2 rfl
      have y3 := objAt_cell T5 3 rfl
      have y4 := objAt_cell T5 4 rfl
      have y5 := objAt_cell T5 5 rfl
      have y6 := objAt_cell T5 6 rfl
      have y7 := objAt_cell T5 7 rfl
      have yl := objAt_lt T5
      clear x0 x1 x2 x3 x4 x5 x6 x7 xl O4 OT OW BB HC b5 T5
      by_cases h0 : c ≠ 0
      · have hD := HD.out
        rw [if_pos h0] at hD
        have HD := Lib.hid hD
        clear hD
        have h0' : ((c : Int) != 0) = true := by simp; omega
        have k0 := objAt_cell o5 0 rfl
        have f0 := objAt_free o5 0
        have k1 := objAt_cell o5 1 rfl
        have f1 := objAt_free o5 1
        have k2 := objAt_cell o5 2 rfl
        have f2 := objAt_free o5 2
        have k3 := objAt_cell o5 3 rfl
        have f3 := objAt_free o5 3
        have k4 := objAt_cell o5 4 rfl
        have f4 := objAt_free o5 4
        have k5 := objAt_cell o5 5 rfl
        have f5 := objAt_free o5 5
        have k6 := objAt_cell o5 6 rfl
        have f6 := objAt_free o5 6
        have k7 := objAt_cell o5 7 rfl
        have f7 := objAt_free o5 7
        have kl := objAt_lt o5
        have oF := obj_put8 o5 (.int .i64 0) (.int .i64 0) (.slice none 0 0) (.slice none 0 0) (.slice none 0 0) (.slice none 0 0) (.slice none 0 0) (.slice none 0 0)
        have t0 := objAt_cell oF 0 rfl
        have t1 := objAt_cell oF 1 rfl
        have t2 := objAt_cell oF 2 rfl
        have t3 := objAt_cell oF 3 rfl
        have t4 := objAt_cell oF 4 rfl
        have t5 := objAt_cell oF 5 rfl
        have t6 := objAt_cell oF 6 rfl
        have t7 := objAt_cell oF 7 rfl
        have TT := Lib.hid (And.intro t0 (And.intro t1 (And.intro t2 (And.intro t3 (And.intro t4 (And.intro t5 (And.intro t6 t7)))))))
        have BF := Lib.hid (below_put8 hB5 (Nat.le_refl _) (.int .i64 0) (.int .i64 0) (.slice none 0 0) (.slice none 0 0) (.slice none 0 0) (.slice none 0 0) (.slice none 0 0) (.slice none 0 0))
        clear oF t0 t1 t2 t3 t4 t5 t6 t7
        clear ow5 hB5 h0 o5
        go_wp2
        obtain ⟨t0, t1, t2, t3, t4, t5, t6, t7⟩ := TT.out
        exact bodyPost_ret (v := .tuple #[.agg #[.int .i64 0, .int .i64 0, .slice none 0 0, .slice none 0 0, .slice none 0 0, .slice none 0 0, .slice none 0 0, .slice none 0 0], .int .i64 (c : Int)]) (by simp [results, Tryd.results8, go_sem, t0, t1, t2, t3, t4, t5, t6, t7]) rfl (by rw [HD.out]; exact ⟨⟨none, 0, none, 0, none, 0, none, 0, none, 0, none, 0⟩, rfl, ownD_zero _ _, BF.out⟩)
      · have hD := HD.out
        rw [if_neg h0] at hD
        have HD := Lib.hid hD
        clear hD
        have h0 : c = 0 := by simpa using h0
        subst h0
        have k0 := objAt_cell o5 0 rfl
        have f0 := objAt_free o5 0
        have k1 := objAt_cell o5 1 rfl
        have f1 := objAt_free o5 1
        have k2 := objAt_cell o5 2 rfl
        have f2 := objAt_free o5 2
        have k3 := objAt_cell o5 3 rfl
        have f3 := objAt_free o5 3
        have k4 := objAt_cell o5 4 rfl
        have f4 := objAt_free o5 4
        have k5 := objAt_cell o5 5 rfl
        have f5 := objAt_free o5 5
        have k6 := objAt_cell o5 6 rfl
        have f6 := objAt_free o5 6
        have k7 := objAt_cell o5 7 rfl
        have f7 := objAt_free o5 7
        have kl := objAt_lt o5
        have oF := obj_put8 o5 (.int .i64 q.1.frm) (.int .i64 q.1.til) (.slice Mr.aj q.1.jobs.length Mr.cj) (.slice Mr.an q.1.nodes.length Mr.cn) (.slice Mr.al q.1.leases.length Mr.cl) (.slice Mr.gj q.1.gj.length Mr.hj) (.slice Mr.gn q.1.gn.length Mr.hn) (.slice Mr.gl q.1.gl.length Mr.hl)
        have t0 := objAt_cell oF 0 rfl
        have t1 := objAt_cell oF 1 rfl
        have t2 := objAt_cell oF 2 rfl
        have t3 := objAt_cell oF 3 rfl
        have t4 := objAt_cell oF 4 rfl
        have t5 := objAt_cell oF 5 rfl
        have t6 := objAt_cell oF 6 rfl
        have t7 := objAt_cell oF 7 rfl
        have TT := Lib.hid (And.intro t0 (And.intro t1 (And.intro t2 (And.intro t3 (And.intro t4 (And.intro t5 (And.intro t6 t7)))))))
        have BF := Lib.hid (below_put8 hB5 (Nat.le_refl _) (.int .i64 q.1.frm) (.int .i64 q.1.til) (.slice Mr.aj q.1.jobs.length Mr.cj) (.slice Mr.an q.1.nodes.length Mr.cn) (.slice Mr.al q.1.leases.length Mr.cl) (.slice Mr.gj q.1.gj.length Mr.hj) (.slice Mr.gn q.1.gn.length Mr.hn) (.slice Mr.gl q.1.gl.length Mr.hl))
        clear oF t0 t1 t2 t3 t4 t5 t6 t7
        have Z := Lib.hid (ownD_put8 (ownD_low ow5 (B' := w.heap.size) (by omega)) o5 (.int .i64 q.1.frm) (.int .i64 q.1.til) (.slice Mr.aj q.1.jobs.length Mr.cj) (.slice Mr.an q.1.nodes.length Mr.cn) (.slice Mr.al q.1.leases.length Mr.cl) (.slice Mr.gj q.1.gj.length Mr.hj) (.slice Mr.gn q.1.gn.length Mr.hn) (.slice Mr.gl q.1.gl.length Mr.hl))
        clear ow5 hB5 o5
        go_wp2
        obtain ⟨t0, t1, t2, t3, t4, t5, t6, t7⟩ := TT.out
        exact bodyPost_ret (v := .tuple #[.agg #[.int .i64 q.1.frm, .int .i64 q.1.til, .slice Mr.aj q.1.jobs.length Mr.cj, .slice Mr.an q.1.nodes.length Mr.cn, .slice Mr.al q.1.leases.length Mr.cl, .slice Mr.gj q.1.gj.length Mr.hj, .slice Mr.gn q.1.gn.length Mr.hn, .slice Mr.gl q.1.gl.length Mr.hl], .int .i64 0]) (by simp [results, Tryd.results8, go_sem, t0, t1, t2, t3, t4, t5, t6, t7]) rfl (by rw [HD.out]; exact ⟨Mr, rfl, Z.out, BF.out⟩)
end Go.Proofs.YthfbjmjohmkfjaaDoor
