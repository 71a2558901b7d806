/- The reference's JSONParse answers as jpR says. -/
import Derived.Test.YthbgaphidojneaaGreatDoorJsRef5
import Derived.Test.YthbgaphidojneaaGreatDoorJsRPrint
namespace Go.Proofs.YthbgaphidojneaaGreatDoor
open Go.RowKit

theorem jk_below {B b c : Nat} {w w' : World} (h : JKeep b c w w') (hw : B ≤ w.heap.size) (hb : B ≤ b) (hc : B ≤ c) : Below B w w' :=
  ⟨h.os, h.tape, h.output, h.size, fun i hi => h.block i (by omega) (by omega) (by omega)⟩
theorem jpar_none {U : ByteArray → Bool} {t : List UInt8} (hl : t.length ≤ 60000) (h : ∀ s, stP t ≠ .inr (s, [])) : jparR U t = (zeroSt, 4) := jpar_fail hl (fun s e => absurd e (h s))
theorem jpar_one {U : ByteArray → Bool} {t : List UInt8} {s : StD} (hl : t.length ≤ 60000) (h : stP t = .inr (s, [])) (hn : ¬ (checkE U s = 0 ∧ stJ s = t)) : jparR U t = (zeroSt, 4) := by
  refine jpar_fail hl (fun s' e hc hs => hn ?_)
  rw [h] at e
  simp only [Sum.inr.injEq, Prod.mk.injEq, and_true] at e
  subst e
  exact ⟨hc, hs⟩
set_option maxRecDepth 100000 in
set_option maxHeartbeats 8000000 in
theorem rparse_any (t : ByteArray) (w : World) :
    Calls Tryz.prog 8 #[.string t] w (ParP (jpR t) w) := by
  have hmf : ∀ (fn : Fn) (first cap : Array Value) (w : World), (Instr.makeFunc fn first cap).run Tryz.prog w = .ok (.func fn first cap) w := fun _ _ _ _ => rfl
  have hsz : t.data.toList.length = t.size := by rw [Array.length_toList]; rfl
  obtain ⟨W0, hW0⟩ : ∃ W0, w.alloc (.cells #[.int .i64 0, .slice none 0 0, .slice none 0 0, .slice none 0 0] 26) = W0 := ⟨_, rfl⟩
  have o0 := objAt_new w #[.int .i64 0, .slice none 0 0, .slice none 0 0, .slice none 0 0] 26
  have bW := below_one w (.cells #[.int .i64 0, .slice none 0 0, .slice none 0 0, .slice none 0 0] 26)
  have sW : W0.heap.size = w.heap.size + 1 := by rw [← hW0, World.size_alloc]
  rw [hW0] at o0 bW
  by_cases hbig : 60000 < t.size
  · have hR : jpR t = (zeroSt, 2) := jpar_large (by omega)
    rw [hR]
    have hbig' : (60000 : Int) < (t.size : Int) := by omega
    have O0 := Lib.hid (objAt_set4 o0 (.int .i64 0) (.slice none 0 0) (.slice none 0 0) (.slice none 0 0))
    have B0 := Lib.hid (below_set4 bW (Nat.le_refl _) (.int .i64 0) (.slice none 0 0) (.slice none 0 0) (.slice none 0 0))
    have p0 := objAt_cell o0 0 rfl
    have p1 := objAt_cell o0 1 rfl
    have p2 := objAt_cell o0 2 rfl
    have p3 := objAt_cell o0 3 rfl
    have y0 := objAt_free o0 0
    have y1 := objAt_free o0 1
    have y2 := objAt_free o0 2
    have y3 := objAt_free o0 3
    have zz := objAt_lt o0
    clear hR bW o0 hsz hbig hmf
    go_enter Tryz.func8, Tryz.ntmps8
    go_wp2
    have i0 := objAt_cell O0.out 0 rfl
    have i1 := objAt_cell O0.out 1 rfl
    have i2 := objAt_cell O0.out 2 rfl
    have i3 := objAt_cell O0.out 3 rfl
    exact bodyPost_ret (v := .tuple #[.agg #[.int .i64 0, .slice none 0 0, .slice none 0 0, .slice none 0 0], .int .i64 2]) (by simp [results, Tryz.results8, go_sem, i0, i1, i2, i3]) rfl ⟨none, none, none, 0, 0, 0, rfl, jown_zero _ _, B0.out⟩
  · have hl : t.data.toList.length ≤ 60000 := by omega
    have hle : ¬ (60000 : Int) < (t.size : Int) := by omega
    have e1 : baL t.data.toList = t := quoteB_ba t
    obtain ⟨W1, hW1⟩ : ∃ W1, W0.alloc (.cells #[.int .i64 0, .slice none 0 0, .slice none 0 0, .slice none 0 0] 26) = W1 := ⟨_, rfl⟩
    have bA := below_one W0 (.cells #[.int .i64 0, .slice none 0 0, .slice none 0 0, .slice none 0 0] 26)
    have oS := objAt_new W0 #[.int .i64 0, .slice none 0 0, .slice none 0 0, .slice none 0 0] 26
    rw [hW1] at bA oS
    rw [sW] at oS
    have b1 : Below w.heap.size w W1 := below_trans bW bA bW.size
    have s1 : W1.heap.size = w.heap.size + 2 := by rw [← hW1, World.size_alloc, sW]
    have o1 := objAt_next o0 bA
    have HS := jread_is hl W1 oS
    rw [e1] at HS
    have HS := Lib.hid HS
    have O1 := Lib.hid o1
    have B1 := Lib.hid b1
    have HE1 := Lib.hid e1
    have HL := Lib.hid hl
    clear hsz hbig hl oS bA b1 o1 o0 bW e1
    go_enter Tryz.func8, Tryz.ntmps8
    go_wp2_with fail
    refine HS.out.mono ?_
    rintro e w2 ⟨k2, hcase⟩
    obtain ⟨s, aj, an, al, cj, cn, cl, ev, rfl, hb, hev⟩ : ∃ s aj an al cj cn cl, ∃ ev : Int, e = .returned (.int .i64 ev) ∧ JBoxO W1.heap.size (w.heap.size + 1) aj an al cj cn cl s w2 ∧ ((ev = 0 ∧ stP t.data.toList = .inr (s, [])) ∨ (ev = 4 ∧ jpR t = (zeroSt, 4))) := by
      rcases hcase with ⟨rfl, ⟨x, hx⟩, s, aj, an, al, cj, cn, cl, hb⟩ | ⟨s, l', aj, an, al, cj, cn, cl, hr, rfl, hb⟩
      · exact ⟨s, aj, an, al, cj, cn, cl, 4, rfl, hb, .inr ⟨rfl, jpar_none HL.out (fun s e => by rw [hx] at e; cases e)⟩⟩
      · by_cases hz : l' = []
        · subst hz
          exact ⟨s, aj, an, al, cj, cn, cl, 0, by rw [if_pos rfl], hb, .inl ⟨rfl, hr⟩⟩
        · refine ⟨s, aj, an, al, cj, cn, cl, 4, by rw [if_neg hz], hb, .inr ⟨rfl, jpar_none HL.out (fun s' e => ?_)⟩⟩
          rw [hr] at e
          simp only [Sum.inr.injEq, Prod.mk.injEq] at e
          exact hz e.2
    have b2 : Below w.heap.size W1 w2 := jk_below k2 (by omega) (by omega) (by omega)
    have o2 := jk_obj O1.out k2 (by omega) (by omega)
    have r2 := hb.2
    rw [s1] at r2
    have oT := hb.1
    have HPr := Lib.hid (rprint_any s aj an al cj cn cl w2 (jown_at r2).1 (jown_at r2).2.1 (jown_at r2).2.2)
    have tc0 := objAt_cell oT 0 rfl
    have tc1 := objAt_cell oT 1 rfl
    have tc2 := objAt_cell oT 2 rfl
    have tc3 := objAt_cell oT 3 rfl
    have bw2 : Below w.heap.size w w2 := B1.out.trans b2
    obtain ⟨F, hF⟩ : ∃ F, prR s = F := ⟨_, rfl⟩
    obtain ⟨form, ec⟩ := F
    have hcs : (ev = 0 ∧ form = t ∧ ec = 0 ∧ jpR t = (s, 0)) ∨ (ev = 0 ∧ form ≠ t ∧ ec = 0 ∧ jpR t = (zeroSt, 4)) ∨ (ev = 0 ∧ ec ≠ 0 ∧ jpR t = (zeroSt, 4)) ∨ (ev = 4 ∧ jpR t = (zeroSt, 4)) := by
      rcases hev with ⟨h0, hst⟩ | ⟨h4, hR⟩
      · by_cases hc : checkE V8 s = 0
        · rw [pr_ok hc] at hF
          simp only [Prod.mk.injEq] at hF
          by_cases hj : stJ s = t.data.toList
          · exact .inl ⟨h0, by rw [← hF.1, hj, HE1.out], hF.2.symm, jpar_read HL.out hc hj⟩
          · refine .inr (.inl ⟨h0, fun e => hj ?_, hF.2.symm, jpar_one HL.out hst (fun h => hj h.2)⟩)
            rw [← hF.1, ← HE1.out] at e
            exact baL_inj e
        · rw [pr_no hc] at hF
          simp only [Prod.mk.injEq] at hF
          exact .inr (.inr (.inl ⟨h0, by rw [← hF.2]; exact hc, jpar_one HL.out hst (fun h => hc h.1)⟩))
      · exact .inr (.inr (.inr ⟨h4, hR⟩))
    rw [hF] at HPr
    dsimp only at HPr
    have O2 := Lib.hid o2
    have OT := Lib.hid oT
    have R2 := Lib.hid r2
    have BW2 := Lib.hid bw2
    clear hF HE1 hb k2 hcase b2 o2 r2 oT bw2 HS O1 B1 hev hmf
    go_wp2_with fail
    refine HPr.out.mono ?_
    rintro e w4 ⟨rfl, b4⟩
    have o4 := objAt_next O2.out b4
    have t4 := objAt_next OT.out b4
    have R4 := jown_below R2.out b4
    have b5 := below_trans BW2.out b4 BW2.out.size
    have p0 := objAt_cell o4 0 rfl
    have p1 := objAt_cell o4 1 rfl
    have p2 := objAt_cell o4 2 rfl
    have p3 := objAt_cell o4 3 rfl
    have y0 := objAt_free o4 0
    have y1 := objAt_free o4 1
    have y2 := objAt_free o4 2
    have y3 := objAt_free o4 3
    have zz := objAt_lt o4
    have u0 := objAt_cell t4 0 rfl
    have u1 := objAt_cell t4 1 rfl
    have u2 := objAt_cell t4 2 rfl
    have u3 := objAt_cell t4 3 rfl
    clear tc0 tc1 tc2 tc3 OT O2 R2 BW2 b4 HPr t4
    rcases hcs with ⟨rfl, rfl, rfl, hR⟩ | hcs
    · have q1 : (form.toList == form.toList) = true := by simp
      have O5 := Lib.hid (objAt_set4 o4 (.int .i64 s.rev) (.slice aj s.jobs.length cj) (.slice an s.nodes.length cn) (.slice al s.leases.length cl))
      have B5 := Lib.hid (below_set4 b5 (Nat.le_refl _) (.int .i64 s.rev) (.slice aj s.jobs.length cj) (.slice an s.nodes.length cn) (.slice al s.leases.length cl))
      have R5 := Lib.hid (jown_low (jown_set (jown_set (jown_set (jown_set R4 (b := w.heap.size) (by omega) 0 (.int .i64 s.rev)) (b := w.heap.size) (by omega) 1 (.slice aj s.jobs.length cj)) (b := w.heap.size) (by omega) 2 (.slice an s.nodes.length cn)) (b := w.heap.size) (by omega) 3 (.slice al s.leases.length cl)) (B' := w.heap.size) (by omega))
      have HR := Lib.hid hR
      clear hR o4 b5 R4
      go_wp2
      have i0 := objAt_cell O5.out 0 rfl
      have i1 := objAt_cell O5.out 1 rfl
      have i2 := objAt_cell O5.out 2 rfl
      have i3 := objAt_cell O5.out 3 rfl
      exact bodyPost_ret (v := .tuple #[.agg #[.int .i64 s.rev, .slice aj s.jobs.length cj, .slice an s.nodes.length cn, .slice al s.leases.length cl], .int .i64 0]) (by simp [results, Tryz.results8, go_sem, i0, i1, i2, i3]) rfl (by rw [HR.out]; exact ⟨aj, an, al, cj, cn, cl, rfl, R5.out, B5.out⟩)
    · have O5 := Lib.hid (objAt_set4 o4 (.int .i64 0) (.slice none 0 0) (.slice none 0 0) (.slice none 0 0))
      have B5 := Lib.hid (below_set4 b5 (Nat.le_refl _) (.int .i64 0) (.slice none 0 0) (.slice none 0 0) (.slice none 0 0))
      clear o4 b5 R4 u0 u1 u2 u3
      rcases hcs with ⟨rfl, hne, rfl, hR⟩ | ⟨rfl, hec, hR⟩ | ⟨rfl, hR⟩
      · have q1 := ne_list hne
        have HR := Lib.hid hR
        clear hR hne
        go_wp2
        have i0 := objAt_cell O5.out 0 rfl
        have i1 := objAt_cell O5.out 1 rfl
        have i2 := objAt_cell O5.out 2 rfl
        have i3 := objAt_cell O5.out 3 rfl
        exact bodyPost_ret (v := .tuple #[.agg #[.int .i64 0, .slice none 0 0, .slice none 0 0, .slice none 0 0], .int .i64 4]) (by simp [results, Tryz.results8, go_sem, i0, i1, i2, i3]) rfl (by rw [HR.out]; exact ⟨none, none, none, 0, 0, 0, rfl, jown_zero _ _, B5.out⟩)
      · have q1 : ((ec : Int) != 0) = true := by simp; omega
        have HR := Lib.hid hR
        clear hR hec
        go_wp2
        have i0 := objAt_cell O5.out 0 rfl
        have i1 := objAt_cell O5.out 1 rfl
        have i2 := objAt_cell O5.out 2 rfl
        have i3 := objAt_cell O5.out 3 rfl
        exact bodyPost_ret (v := .tuple #[.agg #[.int .i64 0, .slice none 0 0, .slice none 0 0, .slice none 0 0], .int .i64 4]) (by simp [results, Tryz.results8, go_sem, i0, i1, i2, i3]) rfl (by rw [HR.out]; exact ⟨none, none, none, 0, 0, 0, rfl, jown_zero _ _, B5.out⟩)
      · have HR := Lib.hid hR
        clear hR
        go_wp2
        have i0 := objAt_cell O5.out 0 rfl
        have i1 := objAt_cell O5.out 1 rfl
        have i2 := objAt_cell O5.out 2 rfl
        have i3 := objAt_cell O5.out 3 rfl
        exact bodyPost_ret (v := .tuple #[.agg #[.int .i64 0, .slice none 0 0, .slice none 0 0, .slice none 0 0], .int .i64 4]) (by simp [results, Tryz.results8, go_sem, i0, i1, i2, i3]) rfl (by rw [HR.out]; exact ⟨none, none, none, 0, 0, 0, rfl, jown_zero _ _, B5.out⟩)
end Go.Proofs.YthbgaphidojneaaGreatDoor
