/- The reference's Decode. -/
import Derived.Test.YtclopkpfeofjmaaGreatDoorWiRead
namespace Go.Proofs.YtclopkpfeofjmaaGreatDoor
open Go.RowKit

theorem k2_below {c : Nat} {w W w' : World} (hB : Below w.heap.size w W) (hk : Keep2 c c W w') (hc : w.heap.size ≤ c) : Below w.heap.size w w' :=
  ⟨hk.os.trans hB.os, hk.tape.trans hB.tape, hk.output.trans hB.output, Nat.le_trans hB.size hk.size, fun i hi => (hk.block i (Nat.lt_of_lt_of_le hi hB.size) (by omega) (by omega)).trans (hB.block i hi)⟩
set_option maxRecDepth 100000 in
set_option maxHeartbeats 4000000 in
theorem rdecodeS_any (s : ByteArray) (hs : s.size ≤ 140737488355328) (v : Int) (w : World) :
    Calls Tryz.prog 15 #[.string s, .int .i64 v] w fun e w' => ∃ aj an al cj cn cl, e = .returned (.tuple #[.agg #[.int .i64 (wdecR v s.data.toList).1.rev, .slice aj (wdecR v s.data.toList).1.jobs.length cj, .slice an (wdecR v s.data.toList).1.nodes.length cn, .slice al (wdecR v s.data.toList).1.leases.length cl], .int .i64 (wdecR v s.data.toList).2]) ∧
      w'.ownsRow w.heap.size 50 5 (.slice aj (wdecR v s.data.toList).1.jobs.length cj) (wdecR v s.data.toList).1.jobs.length (cJobs (wdecR v s.data.toList).1.jobs) ∧ w'.ownsRow w.heap.size 52 3 (.slice an (wdecR v s.data.toList).1.nodes.length cn) (wdecR v s.data.toList).1.nodes.length (cNodes (wdecR v s.data.toList).1.nodes) ∧ w'.ownsRow w.heap.size 48 3 (.slice al (wdecR v s.data.toList).1.leases.length cl) (wdecR v s.data.toList).1.leases.length (cLeases (wdecR v s.data.toList).1.leases) ∧ Below w.heap.size w w' := by
  obtain ⟨l, rfl⟩ : ∃ l, s = ba l := ⟨s.data.toList, rfl⟩
  rw [ba_data]
  rw [ba_size] at hs
  have hmf : ∀ (fn : Fn) (first cap : Array Value) (w : World), (Instr.makeFunc fn first cap).run Tryz.prog w = .ok (.func fn first cap) w := fun _ _ _ _ => rfl
  have HO := Lib.hid (outside_is v 1 3)
  obtain ⟨W, hW⟩ : ∃ W, (w.alloc (.cells #[.int .i64 v] 3)).alloc (.cells #[.int .i64 0, .slice none 0 0, .slice none 0 0, .slice none 0 0] 30) = W := ⟨_, rfl⟩
  have oV := objAt_next (objAt_new w #[.int .i64 v] 3) (below_one _ (.cells #[.int .i64 0, .slice none 0 0, .slice none 0 0, .slice none 0 0] 30))
  have oR := objAt_new (w.alloc (.cells #[.int .i64 v] 3)) #[.int .i64 0, .slice none 0 0, .slice none 0 0, .slice none 0 0] 30
  have bW : Below w.heap.size w W := by rw [← hW]; exact below_trans (below_one _ _) (below_one _ _) (by simp)
  have sW : W.heap.size = w.heap.size + 2 := by rw [← hW, World.size_alloc, World.size_alloc]
  rw [hW] at oV oR
  rw [World.size_alloc] at oR
  by_cases hv : 1 ≤ v ∧ v ≤ 3
  · have hD : wdecR v l = wireD V8 v l := by unfold wdecR; rw [if_pos hv]
    rw [hD]
    have hin : inR v 1 3 = true := by unfold inR; simp; omega
    rw [hin] at HO
    obtain ⟨X, hX⟩ : ∃ X, W.alloc (.cells #[.int .i64 0, .slice none 0 0, .slice none 0 0, .slice none 0 0] 30) = X := ⟨_, rfl⟩
    have bX := below_one W (.cells #[.int .i64 0, .slice none 0 0, .slice none 0 0, .slice none 0 0] 30)
    have oS := objAt_new W #[.int .i64 0, .slice none 0 0, .slice none 0 0, .slice none 0 0] 30
    rw [hX] at bX oS
    rw [sW] at oS
    have oV2 := objAt_next oV bX
    have oR2 := objAt_next oR bX
    have HR := Lib.hid (read_is' v hs X oV2 oS (by omega))
    have BX := Lib.hid (below_trans bW bX (by omega))
    have OR := Lib.hid oR2
    have c0 := objAt_cell oV 0 rfl
    have lV := objAt_lt oV
    have sX : X.heap.size = w.heap.size + 3 := by rw [← hX, World.size_alloc, sW]
    have hnz := nz_st V8 v l
    clear hD hin oV2 oR2 oS bX oV oR bW hv
    obtain ⟨D, hDD⟩ : ∃ D, wireD V8 v l = D := ⟨_, rfl⟩
    rw [hDD]
    have HDD := Lib.hid hDD
    clear hDD
    go_enter Tryz.func15, Tryz.ntmps15
    go_wp2_with fail
    refine (HO.out _).mono ?_
    rintro e w' ⟨rfl, rfl⟩
    go_wp2_with fail
    refine HR.out.mono ?_
    rintro r w1 ⟨k1, ⟨e, he, rfl⟩ | ⟨t, l', d1, d2, d3, p1, p2, p3, hr, rfl, oS1, o1, o2, o3⟩⟩
    · have h0 := hnz e he
      have hD : D = (zeroSt, e) := by rw [← HDD.out]; unfold wireD; rw [he]
      have HD := Lib.hid hD
      have h1 : ((e : Int) == 0) = false := by simp; omega
      have h2 : ((e : Int) != 0) = true := by simp; omega
      have oR1 := k2_obj OR.out k1 (by omega) (by omega)
      have B1 := k2_below BX.out k1 (by omega)
      have Z := Lib.hid (World.ownsRow_nil (((((w1).setCell ⟨w.heap.size + 1, 0, none⟩ (.int .i64 0)).setCell ⟨w.heap.size + 1, 1, none⟩ (.slice none 0 0)).setCell ⟨w.heap.size + 1, 2, none⟩ (.slice none 0 0)).setCell ⟨w.heap.size + 1, 3, none⟩ (.slice none 0 0)) w.heap.size)
      have BF := Lib.hid (((((B1).setCell (p := ⟨w.heap.size + 1, 0, none⟩) (by show w.heap.size ≤ w.heap.size + 1; omega) (.int .i64 0)).setCell (p := ⟨w.heap.size + 1, 1, none⟩) (by show w.heap.size ≤ w.heap.size + 1; omega) (.slice none 0 0)).setCell (p := ⟨w.heap.size + 1, 2, none⟩) (by show w.heap.size ≤ w.heap.size + 1; omega) (.slice none 0 0)).setCell (p := ⟨w.heap.size + 1, 3, none⟩) (by show w.heap.size ≤ w.heap.size + 1; omega) (.slice none 0 0))
      have m0_ := objAt_cell oR1 0 rfl
      have f0 := objAt_free oR1 0
      have m1_ := objAt_cell oR1 1 rfl
      have f1 := objAt_free oR1 1
      have m2_ := objAt_cell oR1 2 rfl
      have f2 := objAt_free oR1 2
      have m3_ := objAt_cell oR1 3 rfl
      have f3 := objAt_free oR1 3
      have zl := objAt_lt oR1
      have oF0 : ObjAt (w.heap.size + 1) #[.int .i64 0, .slice none 0 0, .slice none 0 0, .slice none 0 0] 30 _ := objAt_set oR1 0 (.int .i64 0)
      have oF1 : ObjAt (w.heap.size + 1) #[.int .i64 0, .slice none 0 0, .slice none 0 0, .slice none 0 0] 30 _ := objAt_set oF0 1 (.slice none 0 0)
      have oF2 : ObjAt (w.heap.size + 1) #[.int .i64 0, .slice none 0 0, .slice none 0 0, .slice none 0 0] 30 _ := objAt_set oF1 2 (.slice none 0 0)
      have oF3 : ObjAt (w.heap.size + 1) #[.int .i64 0, .slice none 0 0, .slice none 0 0, .slice none 0 0] 30 _ := objAt_set oF2 3 (.slice none 0 0)
      have t0 := objAt_cell oF3 0 rfl
      have t1 := objAt_cell oF3 1 rfl
      have t2 := objAt_cell oF3 2 rfl
      have t3 := objAt_cell oF3 3 rfl
      have TT := Lib.hid (And.intro t0 (And.intro t1 (And.intro t2 t3)))
      clear oF0 oF1 oF2 oF3 t0 t1 t2 t3
      clear he k1 oR1 B1 hD h0 c0 lV HR OR BX
      go_wp2
      obtain ⟨t0, t1, t2, t3⟩ := TT.out
      exact bodyPost_ret (v := .tuple #[.agg #[.int .i64 0, .slice none 0 0, .slice none 0 0, .slice none 0 0], .int .i64 (e : Int)]) (by simp [results, Tryz.results15, go_sem, t0, t1, t2, t3]) rfl (by rw [HD.out]; exact ⟨none, none, none, 0, 0, 0, rfl, Z.out _ _, Z.out _ _, Z.out _ _, BF.out⟩)
    · have oR1 := k2_obj OR.out k1 (by omega) (by omega)
      have B1 := k2_below BX.out k1 (by omega)
      have hok := ((stC V8 v).sound _ _ _ hr).1
      by_cases hz : l' = []
      · subst hz
        have HC := rcheck_any t.rev d1 d2 d3 p1 p2 p3 t.jobs t.nodes t.leases w1 (ownJobs o1 rfl) (ownNodes o2 rfl) (ownLeases o3 rfl)
        have es : (⟨t.rev, t.jobs, t.nodes, t.leases⟩ : StD) = t := rfl
        rw [es] at HC
        obtain ⟨c, hc⟩ : ∃ c, checkE V8 t = c := ⟨_, rfl⟩
        rw [hc] at HC
        have hD : D = if c ≠ 0 then (zeroSt, c) else (t, 0) := by rw [← HDD.out]; unfold wireD; rw [hr]; simp [hc]
        have HC := Lib.hid HC
        have x0 := objAt_cell oS1 0 rfl
        have x1 := objAt_cell oS1 1 rfl
        have x2 := objAt_cell oS1 2 rfl
        have x3 := objAt_cell oS1 3 rfl
        have xl := objAt_lt oS1
        have OR1 := Lib.hid oR1
        have OS := Lib.hid oS1
        have O1 := Lib.hid o1
        have O2 := Lib.hid o2
        have O3 := Lib.hid o3
        have BB := Lib.hid B1
        have HD0 := Lib.hid hD
        rw [if_pos rfl]
        clear hr k1 oS1 o1 o2 o3 oR1 B1 hok hc es hD c0 lV HR OR BX
        go_wp2_with fail
        refine HC.out.mono ?_
        rintro r w2 ⟨rfl, b2⟩
        have oR2 := objAt_next OR1.out b2
        have oS2 := objAt_next OS.out b2
        have B2 := below_trans BB.out b2 BB.out.size
        have u1 := own_below O1.out b2
        have u2 := own_below O2.out b2
        have u3 := own_below O3.out b2
        rw [sX] at u1 u2 u3
        have y0 := objAt_cell oS2 0 rfl
        have y1 := objAt_cell oS2 1 rfl
        have y2 := objAt_cell oS2 2 rfl
        have y3 := objAt_cell oS2 3 rfl
        have yl := objAt_lt oS2
        clear x0 x1 x2 x3 xl OR1 OS O1 O2 O3 BB HC b2 oS2
        by_cases h0 : c ≠ 0
        · have hD := HD0.out
          rw [if_pos h0] at hD
          have HD := Lib.hid hD
          have h2 : ((c : Int) != 0) = true := by simp; omega
          have Z := Lib.hid (World.ownsRow_nil (((((w2).setCell ⟨w.heap.size + 1, 0, none⟩ (.int .i64 0)).setCell ⟨w.heap.size + 1, 1, none⟩ (.slice none 0 0)).setCell ⟨w.heap.size + 1, 2, none⟩ (.slice none 0 0)).setCell ⟨w.heap.size + 1, 3, none⟩ (.slice none 0 0)) w.heap.size)
          have BF := Lib.hid (((((B2).setCell (p := ⟨w.heap.size + 1, 0, none⟩) (by show w.heap.size ≤ w.heap.size + 1; omega) (.int .i64 0)).setCell (p := ⟨w.heap.size + 1, 1, none⟩) (by show w.heap.size ≤ w.heap.size + 1; omega) (.slice none 0 0)).setCell (p := ⟨w.heap.size + 1, 2, none⟩) (by show w.heap.size ≤ w.heap.size + 1; omega) (.slice none 0 0)).setCell (p := ⟨w.heap.size + 1, 3, none⟩) (by show w.heap.size ≤ w.heap.size + 1; omega) (.slice none 0 0))
          have m0_ := objAt_cell oR2 0 rfl
          have f0 := objAt_free oR2 0
          have m1_ := objAt_cell oR2 1 rfl
          have f1 := objAt_free oR2 1
          have m2_ := objAt_cell oR2 2 rfl
          have f2 := objAt_free oR2 2
          have m3_ := objAt_cell oR2 3 rfl
          have f3 := objAt_free oR2 3
          have zl := objAt_lt oR2
          have oF0 : ObjAt (w.heap.size + 1) #[.int .i64 0, .slice none 0 0, .slice none 0 0, .slice none 0 0] 30 _ := objAt_set oR2 0 (.int .i64 0)
          have oF1 : ObjAt (w.heap.size + 1) #[.int .i64 0, .slice none 0 0, .slice none 0 0, .slice none 0 0] 30 _ := objAt_set oF0 1 (.slice none 0 0)
          have oF2 : ObjAt (w.heap.size + 1) #[.int .i64 0, .slice none 0 0, .slice none 0 0, .slice none 0 0] 30 _ := objAt_set oF1 2 (.slice none 0 0)
          have oF3 : ObjAt (w.heap.size + 1) #[.int .i64 0, .slice none 0 0, .slice none 0 0, .slice none 0 0] 30 _ := objAt_set oF2 3 (.slice none 0 0)
          have t0 := objAt_cell oF3 0 rfl
          have t1 := objAt_cell oF3 1 rfl
          have t2 := objAt_cell oF3 2 rfl
          have t3 := objAt_cell oF3 3 rfl
          have TT := Lib.hid (And.intro t0 (And.intro t1 (And.intro t2 t3)))
          clear oF0 oF1 oF2 oF3 t0 t1 t2 t3
          clear u1 u2 u3 B2 oR2 HD0 hD h0
          go_wp2
          obtain ⟨t0, t1, t2, t3⟩ := TT.out
          exact bodyPost_ret (v := .tuple #[.agg #[.int .i64 0, .slice none 0 0, .slice none 0 0, .slice none 0 0], .int .i64 (c : Int)]) (by simp [results, Tryz.results15, go_sem, t0, t1, t2, t3]) rfl (by rw [HD.out]; exact ⟨none, none, none, 0, 0, 0, rfl, Z.out _ _, Z.out _ _, Z.out _ _, BF.out⟩)
        · have hD := HD0.out
          rw [if_neg h0] at hD
          have HD := Lib.hid hD
          have h0 : c = 0 := by simpa using h0
          subst h0
          have BF := Lib.hid (((((B2).setCell (p := ⟨w.heap.size + 1, 0, none⟩) (by show w.heap.size ≤ w.heap.size + 1; omega) (.int .i64 t.rev)).setCell (p := ⟨w.heap.size + 1, 1, none⟩) (by show w.heap.size ≤ w.heap.size + 1; omega) (.slice d1 t.jobs.length p1)).setCell (p := ⟨w.heap.size + 1, 2, none⟩) (by show w.heap.size ≤ w.heap.size + 1; omega) (.slice d2 t.nodes.length p2)).setCell (p := ⟨w.heap.size + 1, 3, none⟩) (by show w.heap.size ≤ w.heap.size + 1; omega) (.slice d3 t.leases.length p3))
          have ZJ := Lib.hid (ownsRow_low (B' := w.heap.size) (backs4 (c := w.heap.size + 1) (u0 := .int .i64 t.rev) (u1 := .slice d1 t.jobs.length p1) (u2 := .slice d2 t.nodes.length p2) (u3 := .slice d3 t.leases.length p3) u1 (by omega)) (by omega))
          have ZN := Lib.hid (ownsRow_low (B' := w.heap.size) (backs4 (c := w.heap.size + 1) (u0 := .int .i64 t.rev) (u1 := .slice d1 t.jobs.length p1) (u2 := .slice d2 t.nodes.length p2) (u3 := .slice d3 t.leases.length p3) u2 (by omega)) (by omega))
          have ZL := Lib.hid (ownsRow_low (B' := w.heap.size) (backs4 (c := w.heap.size + 1) (u0 := .int .i64 t.rev) (u1 := .slice d1 t.jobs.length p1) (u2 := .slice d2 t.nodes.length p2) (u3 := .slice d3 t.leases.length p3) u3 (by omega)) (by omega))
          have m0_ := objAt_cell oR2 0 rfl
          have f0 := objAt_free oR2 0
          have m1_ := objAt_cell oR2 1 rfl
          have f1 := objAt_free oR2 1
          have m2_ := objAt_cell oR2 2 rfl
          have f2 := objAt_free oR2 2
          have m3_ := objAt_cell oR2 3 rfl
          have f3 := objAt_free oR2 3
          have zl := objAt_lt oR2
          have oF0 : ObjAt (w.heap.size + 1) #[.int .i64 t.rev, .slice none 0 0, .slice none 0 0, .slice none 0 0] 30 _ := objAt_set oR2 0 (.int .i64 t.rev)
          have oF1 : ObjAt (w.heap.size + 1) #[.int .i64 t.rev, .slice d1 t.jobs.length p1, .slice none 0 0, .slice none 0 0] 30 _ := objAt_set oF0 1 (.slice d1 t.jobs.length p1)
          have oF2 : ObjAt (w.heap.size + 1) #[.int .i64 t.rev, .slice d1 t.jobs.length p1, .slice d2 t.nodes.length p2, .slice none 0 0] 30 _ := objAt_set oF1 2 (.slice d2 t.nodes.length p2)
          have oF3 : ObjAt (w.heap.size + 1) #[.int .i64 t.rev, .slice d1 t.jobs.length p1, .slice d2 t.nodes.length p2, .slice d3 t.leases.length p3] 30 _ := objAt_set oF2 3 (.slice d3 t.leases.length p3)
          have t0 := objAt_cell oF3 0 rfl
          have t1 := objAt_cell oF3 1 rfl
          have t2 := objAt_cell oF3 2 rfl
          have t3 := objAt_cell oF3 3 rfl
          have TT := Lib.hid (And.intro t0 (And.intro t1 (And.intro t2 t3)))
          clear oF0 oF1 oF2 oF3 t0 t1 t2 t3
          clear u1 u2 u3 B2 oR2 HD0 hD
          go_wp2
          obtain ⟨t0, t1, t2, t3⟩ := TT.out
          exact bodyPost_ret (v := .tuple #[.agg #[.int .i64 t.rev, .slice d1 t.jobs.length p1, .slice d2 t.nodes.length p2, .slice d3 t.leases.length p3], .int .i64 0]) (by simp [results, Tryz.results15, go_sem, t0, t1, t2, t3]) rfl (by rw [HD.out]; exact ⟨_, _, _, _, _, _, rfl, ZJ.out, ZN.out, ZL.out, BF.out⟩)
      · have hD : D = (zeroSt, 4) := by rw [← HDD.out]; unfold wireD; rw [hr]; simp [hz]
        have HD := Lib.hid hD
        rw [if_neg hz]
        have Z := Lib.hid (World.ownsRow_nil (((((w1).setCell ⟨w.heap.size + 1, 0, none⟩ (.int .i64 0)).setCell ⟨w.heap.size + 1, 1, none⟩ (.slice none 0 0)).setCell ⟨w.heap.size + 1, 2, none⟩ (.slice none 0 0)).setCell ⟨w.heap.size + 1, 3, none⟩ (.slice none 0 0)) w.heap.size)
        have BF := Lib.hid (((((B1).setCell (p := ⟨w.heap.size + 1, 0, none⟩) (by show w.heap.size ≤ w.heap.size + 1; omega) (.int .i64 0)).setCell (p := ⟨w.heap.size + 1, 1, none⟩) (by show w.heap.size ≤ w.heap.size + 1; omega) (.slice none 0 0)).setCell (p := ⟨w.heap.size + 1, 2, none⟩) (by show w.heap.size ≤ w.heap.size + 1; omega) (.slice none 0 0)).setCell (p := ⟨w.heap.size + 1, 3, none⟩) (by show w.heap.size ≤ w.heap.size + 1; omega) (.slice none 0 0))
        have m0_ := objAt_cell oR1 0 rfl
        have f0 := objAt_free oR1 0
        have m1_ := objAt_cell oR1 1 rfl
        have f1 := objAt_free oR1 1
        have m2_ := objAt_cell oR1 2 rfl
        have f2 := objAt_free oR1 2
        have m3_ := objAt_cell oR1 3 rfl
        have f3 := objAt_free oR1 3
        have zl := objAt_lt oR1
        have oF0 : ObjAt (w.heap.size + 1) #[.int .i64 0, .slice none 0 0, .slice none 0 0, .slice none 0 0] 30 _ := objAt_set oR1 0 (.int .i64 0)
        have oF1 : ObjAt (w.heap.size + 1) #[.int .i64 0, .slice none 0 0, .slice none 0 0, .slice none 0 0] 30 _ := objAt_set oF0 1 (.slice none 0 0)
        have oF2 : ObjAt (w.heap.size + 1) #[.int .i64 0, .slice none 0 0, .slice none 0 0, .slice none 0 0] 30 _ := objAt_set oF1 2 (.slice none 0 0)
        have oF3 : ObjAt (w.heap.size + 1) #[.int .i64 0, .slice none 0 0, .slice none 0 0, .slice none 0 0] 30 _ := objAt_set oF2 3 (.slice none 0 0)
        have t0 := objAt_cell oF3 0 rfl
        have t1 := objAt_cell oF3 1 rfl
        have t2 := objAt_cell oF3 2 rfl
        have t3 := objAt_cell oF3 3 rfl
        have TT := Lib.hid (And.intro t0 (And.intro t1 (And.intro t2 t3)))
        clear oF0 oF1 oF2 oF3 t0 t1 t2 t3
        clear hr k1 oS1 o1 o2 o3 oR1 B1 hok hD c0 lV HR OR BX
        go_wp2
        obtain ⟨t0, t1, t2, t3⟩ := TT.out
        exact bodyPost_ret (v := .tuple #[.agg #[.int .i64 0, .slice none 0 0, .slice none 0 0, .slice none 0 0], .int .i64 4]) (by simp [results, Tryz.results15, go_sem, t0, t1, t2, t3]) rfl (by rw [HD.out]; exact ⟨none, none, none, 0, 0, 0, rfl, Z.out _ _, Z.out _ _, Z.out _ _, BF.out⟩)
  · have hD : wdecR v l = (zeroSt, 1) := by unfold wdecR; rw [if_neg hv]
    rw [hD]
    have hin : inR v 1 3 = false := by unfold inR; simp; omega
    rw [hin] at HO
    have Z := Lib.hid (World.ownsRow_nil W w.heap.size)
    have BF := Lib.hid bW
    have c0 := objAt_cell oV 0 rfl
    have lV := objAt_lt oV
    have r0 := objAt_cell oR 0 rfl
    have r1 := objAt_cell oR 1 rfl
    have r2 := objAt_cell oR 2 rfl
    have r3 := objAt_cell oR 3 rfl
    have g0 := objAt_free oR 0
    have g1 := objAt_free oR 1
    have g2 := objAt_free oR 2
    have g3 := objAt_free oR 3
    have zl := objAt_lt oR
    have BF := Lib.hid (((((bW).setCell (p := ⟨w.heap.size + 1, 0, none⟩) (by show w.heap.size ≤ w.heap.size + 1; omega) (.int .i64 0)).setCell (p := ⟨w.heap.size + 1, 1, none⟩) (by show w.heap.size ≤ w.heap.size + 1; omega) (.slice none 0 0)).setCell (p := ⟨w.heap.size + 1, 2, none⟩) (by show w.heap.size ≤ w.heap.size + 1; omega) (.slice none 0 0)).setCell (p := ⟨w.heap.size + 1, 3, none⟩) (by show w.heap.size ≤ w.heap.size + 1; omega) (.slice none 0 0))
    have Z := Lib.hid (World.ownsRow_nil (((((W).setCell ⟨w.heap.size + 1, 0, none⟩ (.int .i64 0)).setCell ⟨w.heap.size + 1, 1, none⟩ (.slice none 0 0)).setCell ⟨w.heap.size + 1, 2, none⟩ (.slice none 0 0)).setCell ⟨w.heap.size + 1, 3, none⟩ (.slice none 0 0)) w.heap.size)
    have m0_ := objAt_cell oR 0 rfl
    have f0 := objAt_free oR 0
    have m1_ := objAt_cell oR 1 rfl
    have f1 := objAt_free oR 1
    have m2_ := objAt_cell oR 2 rfl
    have f2 := objAt_free oR 2
    have m3_ := objAt_cell oR 3 rfl
    have f3 := objAt_free oR 3
    have zl := objAt_lt oR
    have oF0 : ObjAt (w.heap.size + 1) #[.int .i64 0, .slice none 0 0, .slice none 0 0, .slice none 0 0] 30 _ := objAt_set oR 0 (.int .i64 0)
    have oF1 : ObjAt (w.heap.size + 1) #[.int .i64 0, .slice none 0 0, .slice none 0 0, .slice none 0 0] 30 _ := objAt_set oF0 1 (.slice none 0 0)
    have oF2 : ObjAt (w.heap.size + 1) #[.int .i64 0, .slice none 0 0, .slice none 0 0, .slice none 0 0] 30 _ := objAt_set oF1 2 (.slice none 0 0)
    have oF3 : ObjAt (w.heap.size + 1) #[.int .i64 0, .slice none 0 0, .slice none 0 0, .slice none 0 0] 30 _ := objAt_set oF2 3 (.slice none 0 0)
    have t0 := objAt_cell oF3 0 rfl
    have t1 := objAt_cell oF3 1 rfl
    have t2 := objAt_cell oF3 2 rfl
    have t3 := objAt_cell oF3 3 rfl
    have TT := Lib.hid (And.intro t0 (And.intro t1 (And.intro t2 t3)))
    clear oF0 oF1 oF2 oF3 t0 t1 t2 t3
    clear hD hin hv oV oR bW
    go_enter Tryz.func15, Tryz.ntmps15
    go_wp2_with fail
    refine (HO.out _).mono ?_
    rintro e w' ⟨rfl, rfl⟩
    go_wp2
    obtain ⟨t0, t1, t2, t3⟩ := TT.out
    exact bodyPost_ret (v := .tuple #[.agg #[.int .i64 0, .slice none 0 0, .slice none 0 0, .slice none 0 0], .int .i64 1]) (by simp [results, Tryz.results15, go_sem, t0, t1, t2, t3]) rfl ⟨none, none, none, 0, 0, 0, rfl, Z.out _ _, Z.out _ _, Z.out _ _, BF.out⟩
end Go.Proofs.YtclopkpfeofjmaaGreatDoor
