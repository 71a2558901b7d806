/- The reference's DeltaDecode at every string. -/
import Derived.Test.YthfbjmjohmkfjaaDoorDlRBody
import Derived.Test.YthfbjmjohmkfjaaDoorWiRead
import Derived.Test.YthfbjmjohmkfjaaDoorDlRCheck
import Derived.Test.YthfbjmjohmkfjaaDoorDlDec
namespace Go.Proofs.YthfbjmjohmkfjaaDoor
open Go.RowKit

/-- What read answers: an error, or the delta lies there. -/
def DReadP (c : Nat) (l : List UInt8) (w : World) (r : Ending) (w' : World) : Prop := Keep2 c c w w' ∧ ((∃ e : Nat, delRW l = .inl e ∧ r = .returned (.int .i64 (e : Int))) ∨ (∃ d l' M, delRW l = .inr (d, l') ∧ r = .returned (.int .i64 (if l' = [] then 0 else 4)) ∧ ObjAt c (dlC M d) 27 w' ∧ OwnD w.heap.size M d w'))
theorem k2_belowD {c : Nat} {w W w' : World} (hB : Below w.heap.size w W) (hk : Keep2 c c W w') (hc : w.heap.size ≤ c) : Below w.heap.size w w' :=
  ⟨hk.os.trans hB.os, hk.tape.trans hB.tape, hk.output.trans hB.output, Nat.le_trans hB.size hk.size, fun i hi => (hk.block i (Nat.lt_of_lt_of_le hi hB.size) (by omega) (by omega)).trans (hB.block i hi)⟩
theorem ownD_set {B b : Nat} {M : DlM} {d : DelD} {w : World} (h : OwnD B M d w) (hb : b < B) (j : Nat) (u : Value) : OwnD B M d (w.setCell ⟨b, j, none⟩ u) :=
  ⟨own_set h.1 hb j u, own_set h.2.1 hb j u, own_set h.2.2.1 hb j u, own_set h.2.2.2.1 hb j u, own_set h.2.2.2.2.1 hb j u, own_set h.2.2.2.2.2 hb j u⟩
set_option maxRecDepth 100000 in
set_option maxHeartbeats 4000000 in
theorem dread_is {c : Nat} {l : List UInt8} (hl : l.length ≤ 140737488355328) (w : World) (hS : ObjAt c #[.int .i64 0, .int .i64 0, .slice none 0 0, .slice none 0 0, .slice none 0 0, .slice none 0 0, .slice none 0 0, .slice none 0 0] 27 w) :
    Calls Tryd.prog 30 #[.string (ba l), .func (.func 31) #[] #[.pointer (some ⟨c, 0, none⟩)]] w (DReadP c l w) := by
  have hmf : ∀ (fn : Fn) (first cap : Array Value) (w : World), (Instr.makeFunc fn first cap).run Tryd.prog w = .ok (.func fn first cap) w := fun _ _ _ _ => rfl
  obtain ⟨W, hW⟩ : ∃ W, (w.alloc (.cells #[.int .i64 0] 28)).alloc (.cells #[.string (ba l)] 126) = W := ⟨_, rfl⟩
  have bW : Below w.heap.size w W := by rw [← hW]; exact below_trans (below_one _ _) (below_one _ _) (by simp)
  have oE := objAt_next (objAt_new w #[.int .i64 0] 28) (below_one _ (.cells #[.string (ba l)] 126))
  have oB := objAt_new (w.alloc (.cells #[.int .i64 0] 28)) #[.string (ba l)] 126
  rw [hW] at oE oB
  rw [World.size_alloc] at oB
  have lS := objAt_lt hS
  have HB := Lib.hid (dbody_is (b := w.heap.size + 1) hl W oB (objAt_next hS bW) (by omega))
  have OE := Lib.hid oE
  have BW := Lib.hid bW
  clear oE oB hS bW
  go_enter_defers Tryd.func30, Tryd.ntmps30
  go_wp2_with fail
  refine HB.out.mono ?_
  rintro r w1 ⟨k1, ⟨e, he, rfl⟩ | ⟨d, l', M, hr, rfl, oS, od, s1⟩⟩
  · have oE1 := k2_obj OE.out k1 (by omega) (by omega)
    have c0 := objAt_cell oE1 0 rfl
    have f0 := objAt_free oE1 0
    have z0 := objAt_lt oE1
    have HE := Lib.hid he
    have K := Lib.hid (k2_new BW.out k1 (by omega))
    unfold taken
    clear he k1 oE1
    have hcell : ((w1.setCell ⟨w.heap.size, 0, none⟩ (.int .i64 (e : Int))).alloc (.cells #[.int .i64 (e : Int)] 123)).cell? ⟨w.heap.size, 0, none⟩ = some (.int .i64 (e : Int)) := by go_simp
    have HC := Lib.hid hcell
    have KF := Lib.hid (k2_alloc (k2_fresh K.out (Nat.le_refl _) 0 (.int .i64 (e : Int))) (.cells #[.int .i64 (e : Int)] 123))
    clear hcell
    go_wp2
    refine leaves_cons (f := 81) (args := #[.pointer (some ⟨w.heap.size, 0, none⟩)]) (by simp) (by simp [go_sem]) ?_
    refine (catch_taken w.heap.size 0 e [] w1 c0 f0 z0).mono ?_
    rintro r u' w2 ⟨rfl, rfl, rfl⟩
    have hR : DReadP c l w (.returned (.int .i64 (e : Int))) _ := ⟨KF.out, .inl ⟨e, HE.out, rfl⟩⟩
    have hC := HC.out
    simp only [settle]
    simp [Leaves, results, Tryd.results30, go_sem, hC]
    exact hR
  · have HE := Lib.hid hr
    have oE1 := k2_obj OE.out k1 (by omega) (by omega)
    have c0 := objAt_cell oE1 0 rfl
    have f0 := objAt_free oE1 0
    have z0 := objAt_lt oE1
    have x0 := objAt_cell s1 0 rfl
    have zb := objAt_lt s1
    have K := Lib.hid (k2_new BW.out k1 (by omega))
    have hsz := BW.out.size
    have OS := Lib.hid oS
    have hWs : w.heap.size + 2 ≤ W.heap.size := by rw [← hW, World.size_alloc, World.size_alloc]; omega
    clear hr k1 oE1 oS s1
    by_cases hz : l' = []
    · subst hz
      have eb : ba [] = ⟨#[]⟩ := rfl
      rw [eb] at x0
      clear eb
      have OD := Lib.hid (ownD_low (B' := w.heap.size) (ownD_set od (b := w.heap.size) (by omega) 0 (.int .i64 0)) hsz)
      have OF := Lib.hid (objAt_other OS.out (c := w.heap.size) (by omega) 0 (.int .i64 0))
      have KF := Lib.hid (k2_fresh K.out (Nat.le_refl _) 0 (.int .i64 0))
      have hcell : (w1.setCell ⟨w.heap.size, 0, none⟩ (.int .i64 0)).cell? ⟨w.heap.size, 0, none⟩ = some (.int .i64 0) := by go_simp
      have HC := Lib.hid hcell
      clear hcell od
      go_wp2
      refine leaves_cons (f := 81) (args := #[.pointer (some ⟨w.heap.size, 0, none⟩)]) (by simp) (by simp [go_sem]) ?_
      refine (catch_idle w.heap.size _).mono ?_
      rintro r u' w2 ⟨rfl, rfl, rfl⟩
      have hR : DReadP c l w (.returned (.int .i64 0)) _ := ⟨KF.out, .inr ⟨d, _, M, HE.out, by rw [if_pos rfl], OF.out, OD.out⟩⟩
      have hC := HC.out
      simp only [settle]
      simp [Leaves, results, Tryd.results30, go_sem, hC]
      exact hR
    · have hne : (ba l').size ≠ 0 := by rw [ba_size]; simpa using hz
      obtain ⟨m1, m2⟩ := not_empty hne
      have HZ := Lib.hid hz
      obtain ⟨L, hL⟩ : ∃ L, ba l' = L := ⟨_, rfl⟩
      rw [hL] at x0 m1 m2
      clear hne hz hL
      have OD := Lib.hid (ownD_low (B' := w.heap.size) (ownD_set od (b := w.heap.size) (by omega) 0 (.int .i64 4)) hsz)
      have OF := Lib.hid (objAt_other OS.out (c := w.heap.size) (by omega) 0 (.int .i64 4))
      have KF := Lib.hid (k2_fresh K.out (Nat.le_refl _) 0 (.int .i64 4))
      have hcell : (w1.setCell ⟨w.heap.size, 0, none⟩ (.int .i64 4)).cell? ⟨w.heap.size, 0, none⟩ = some (.int .i64 4) := by go_simp
      have HC := Lib.hid hcell
      clear hcell od
      go_wp2
      refine leaves_cons (f := 81) (args := #[.pointer (some ⟨w.heap.size, 0, none⟩)]) (by simp) (by simp [go_sem]) ?_
      refine (catch_idle w.heap.size _).mono ?_
      rintro r u' w2 ⟨rfl, rfl, rfl⟩
      have hR : DReadP c l w (.returned (.int .i64 4)) _ := ⟨KF.out, .inr ⟨d, _, M, HE.out, by rw [if_neg HZ.out], OF.out, OD.out⟩⟩
      have hC := HC.out
      simp only [settle]
      simp [Leaves, results, Tryd.results30, go_sem, hC]
      exact hR
theorem nz_delRW (l : List UInt8) (e : Nat) (h : delRW l = .inl e) : e ≠ 0 := by
  rw [delRW_is] at h
  cases hr : delR V8 l with
  | inl e' => rw [hr] at h; cases h; exact nz_del V8 l _ hr
  | inr x => rw [hr] at h; cases h
/-- What was read is what may be read. -/
theorem rw_cases {l l' : List UInt8} {d : DelD} (h : delRW l = .inr (d, l')) : (l' ≠ [] → dreadR l = (zeroDel, 4)) ∧ (l' = [] → readOk d ∧ dreadR l = if dcheckE V8 d ≠ 0 then (zeroDel, dcheckE V8 d) else (d, 0)) := by
  rw [delRW_is] at h
  cases hr : delR V8 l with
  | inl e => rw [hr] at h; cases h
  | inr x =>
    obtain ⟨t, m⟩ := x
    rw [hr] at h
    simp only [Sum.inr.injEq, Prod.mk.injEq] at h
    obtain ⟨rfl, rfl⟩ := h
    have hok := ((delC V8).sound _ _ _ hr).1
    obtain ⟨w1, w2, w3⟩ := wrap_ok hok
    unfold dreadR
    rw [hr]
    refine ⟨fun h => by simp [h], fun h => ⟨⟨⟨hok.1, w3⟩, hok.2.2⟩, ?_⟩⟩
    subst h
    rw [w1]
    by_cases hc : dcheckE V8 t ≠ 0
    · simp [hc]
    · have hc : dcheckE V8 t = 0 := by simpa using hc
      rw [w2 hc]
      simp [hc]
theorem dread_err {l : List UInt8} {e : Nat} (h : delRW l = .inl e) : dreadR l = (zeroDel, e) := by
  rw [delRW_is] at h
  cases hr : delR V8 l with
  | inl e' => rw [hr] at h; cases h; unfold dreadR; rw [hr]
  | inr x => rw [hr] at h; cases h
set_option maxRecDepth 100000 in
set_option maxHeartbeats 8000000 in
theorem rddecode_any (s : ByteArray) (hs : s.size ≤ 140737488355328) (w : World) :
    Calls Tryd.prog 9 #[.string s] w fun e w' => ∃ M : DlM, e = .returned (.tuple #[.agg #[.int .i64 (ddecR V8 s.data.toList).1.frm, .int .i64 (ddecR V8 s.data.toList).1.til, .slice M.aj (ddecR V8 s.data.toList).1.jobs.length M.cj, .slice M.an (ddecR V8 s.data.toList).1.nodes.length M.cn, .slice M.al (ddecR V8 s.data.toList).1.leases.length M.cl, .slice M.gj (ddecR V8 s.data.toList).1.gj.length M.hj, .slice M.gn (ddecR V8 s.data.toList).1.gn.length M.hn, .slice M.gl (ddecR V8 s.data.toList).1.gl.length M.hl], .int .i64 ((ddecR V8 s.data.toList).2 : Nat)]) ∧ OwnD w.heap.size M (ddecR V8 s.data.toList).1 w' ∧ Below w.heap.size w w' := by
  obtain ⟨l, rfl⟩ : ∃ l, s = ba l := ⟨s.data.toList, rfl⟩
  rw [ba_data]
  have hmf : ∀ (fn : Fn) (first cap : Array Value) (w : World), (Instr.makeFunc fn first cap).run Tryd.prog w = .ok (.func fn first cap) w := fun _ _ _ _ => rfl
  have hsz := ba_size l
  have hR : ddecR V8 l = if 6000 < l.length then (zeroDel, 2) else dreadR l := ddec_is _
  obtain ⟨R, hRR⟩ : ∃ R, ddecR V8 l = R := ⟨_, rfl⟩
  rw [hRR]
  rw [hRR] at hR
  obtain ⟨W, hW⟩ : ∃ W, w.alloc (.cells #[.int .i64 0, .int .i64 0, .slice none 0 0, .slice none 0 0, .slice none 0 0, .slice none 0 0, .slice none 0 0, .slice none 0 0] 27) = W := ⟨_, rfl⟩
  have oR := objAt_new w #[.int .i64 0, .int .i64 0, .slice none 0 0, .slice none 0 0, .slice none 0 0, .slice none 0 0, .slice none 0 0, .slice none 0 0] 27
  have bW := below_one w (.cells #[.int .i64 0, .int .i64 0, .slice none 0 0, .slice none 0 0, .slice none 0 0, .slice none 0 0, .slice none 0 0, .slice none 0 0] 27)
  have sW : W.heap.size = w.heap.size + 1 := by rw [← hW, World.size_alloc]
  rw [hW] at oR bW
  clear hRR
  by_cases h6 : 6000 < l.length
  · rw [if_pos h6] at hR
    have HD := Lib.hid hR
    obtain ⟨S, hS⟩ : ∃ S, ba l = S := ⟨_, rfl⟩
    rw [hS] at hsz hs ⊢
    have h6' : (6000 : Int) < (S.size : Int) := by omega
    clear hR hsz hs h6 hS
    have OR := oR
    have BW := bW
    clear oR bW sW
    go_enter Tryd.func9, Tryd.ntmps9
    have k0 := objAt_cell OR 0 rfl
    have f0 := objAt_free OR 0
    have k1 := objAt_cell OR 1 rfl
    have f1 := objAt_free OR 1
    have k2 := objAt_cell OR 2 rfl
    have f2 := objAt_free OR 2
    have k3 := objAt_cell OR 3 rfl
    have f3 := objAt_free OR 3
    have k4 := objAt_cell OR 4 rfl
    have f4 := objAt_free OR 4
    have k5 := objAt_cell OR 5 rfl
    have f5 := objAt_free OR 5
    have k6 := objAt_cell OR 6 rfl
    have f6 := objAt_free OR 6
    have k7 := objAt_cell OR 7 rfl
    have f7 := objAt_free OR 7
    have kl := objAt_lt OR
    have oF := obj_put8 OR (.int .i64 0) (.int .i64 0) (.slice none 0 0) (.slice none 0 0) (.slice none 0 0) (.slice none 0 0) (.slice none 0 0) (.slice none 0 0)
    have t0 := objAt_cell oF 0 rfl
    have t1 := objAt_cell oF 1 rfl
    have t2 := objAt_cell oF 2 rfl
    have t3 := objAt_cell oF 3 rfl
    have t4 := objAt_cell oF 4 rfl
    have t5 := objAt_cell oF 5 rfl
    have t6 := objAt_cell oF 6 rfl
    have t7 := objAt_cell oF 7 rfl
    have TT := Lib.hid (And.intro t0 (And.intro t1 (And.intro t2 (And.intro t3 (And.intro t4 (And.intro t5 (And.intro t6 t7)))))))
    have BF := Lib.hid (below_put8 BW (Nat.le_refl _) (.int .i64 0) (.int .i64 0) (.slice none 0 0) (.slice none 0 0) (.slice none 0 0) (.slice none 0 0) (.slice none 0 0) (.slice none 0 0))
    clear oF t0 t1 t2 t3 t4 t5 t6 t7 OR BW
    go_wp2
    obtain ⟨t0, t1, t2, t3, t4, t5, t6, t7⟩ := TT.out
    exact bodyPost_ret (v := .tuple #[.agg #[.int .i64 0, .int .i64 0, .slice none 0 0, .slice none 0 0, .slice none 0 0, .slice none 0 0, .slice none 0 0, .slice none 0 0], .int .i64 2]) (by simp [results, Tryd.results9, go_sem, t0, t1, t2, t3, t4, t5, t6, t7]) rfl ⟨⟨none, 0, none, 0, none, 0, none, 0, none, 0, none, 0⟩, by rw [HD.out]; rfl, by rw [HD.out]; exact ownD_zero _ _, BF.out⟩
  · rw [if_neg h6] at hR
    obtain ⟨X, hX⟩ : ∃ X, W.alloc (.cells #[.int .i64 0, .int .i64 0, .slice none 0 0, .slice none 0 0, .slice none 0 0, .slice none 0 0, .slice none 0 0, .slice none 0 0] 27) = X := ⟨_, rfl⟩
    have bX := below_one W (.cells #[.int .i64 0, .int .i64 0, .slice none 0 0, .slice none 0 0, .slice none 0 0, .slice none 0 0, .slice none 0 0, .slice none 0 0] 27)
    have oS := objAt_new W #[.int .i64 0, .int .i64 0, .slice none 0 0, .slice none 0 0, .slice none 0 0, .slice none 0 0, .slice none 0 0, .slice none 0 0] 27
    rw [hX] at bX oS
    rw [sW] at oS
    have HR := dread_is (c := w.heap.size + 1) (l := l) (by rw [hsz] at hs; omega) X oS
    have BX := Lib.hid (below_trans bW bX (by omega))
    have OR := Lib.hid (objAt_next oR bX)
    have sX : X.heap.size = w.heap.size + 2 := by rw [← hX, World.size_alloc, sW]
    obtain ⟨S, hS⟩ : ∃ S, ba l = S := ⟨_, rfl⟩
    rw [hS] at hsz hs HR ⊢
    have h6' : ¬ ((6000 : Int) < (S.size : Int)) := by omega
    have HR := Lib.hid HR
    have HD0 := Lib.hid hR
    have SX := Lib.hid sX
    have lXX : w.heap.size + 2 ≤ X.heap.size := by omega
    clear oR bW bX oS hR hsz hs h6 hS sX
    go_enter Tryd.func9, Tryd.ntmps9
    go_wp2_with fail
    refine HR.out.mono ?_
    rintro r w1 ⟨k1, ⟨e, he, rfl⟩ | ⟨d, l', M, hr, rfl, oS1, od⟩⟩
    · have h0 := nz_delRW l e he
      have HD := Lib.hid (HD0.out.trans (dread_err he))
      have h1 : ((e : Int) == 0) = false := by simp; omega
      have h2 : ((e : Int) != 0) = true := by simp; omega
      have oR1 := k2_obj OR.out k1 (by omega) (by omega)
      have B1 := k2_belowD BX.out k1 (by omega)
      clear he h0 HR k1
      have k0 := objAt_cell oR1 0 rfl
      have f0 := objAt_free oR1 0
      have k1 := objAt_cell oR1 1 rfl
      have f1 := objAt_free oR1 1
      have k2 := objAt_cell oR1 2 rfl
      have f2 := objAt_free oR1 2
      have k3 := objAt_cell oR1 3 rfl
      have f3 := objAt_free oR1 3
      have k4 := objAt_cell oR1 4 rfl
      have f4 := objAt_free oR1 4
      have k5 := objAt_cell oR1 5 rfl
      have f5 := objAt_free oR1 5
      have k6 := objAt_cell oR1 6 rfl
      have f6 := objAt_free oR1 6
      have k7 := objAt_cell oR1 7 rfl
      have f7 := objAt_free oR1 7
      have kl := objAt_lt oR1
      have oF := obj_put8 oR1 (.int .i64 0) (.int .i64 0) (.slice none 0 0) (.slice none 0 0) (.slice none 0 0) (.slice none 0 0) (.slice none 0 0) (.slice none 0 0)
      have t0 := objAt_cell oF 0 rfl
      have t1 := objAt_cell oF 1 rfl
      have t2 := objAt_cell oF 2 rfl
      have t3 := objAt_cell oF 3 rfl
      have t4 := objAt_cell oF 4 rfl
      have t5 := objAt_cell oF 5 rfl
      have t6 := objAt_cell oF 6 rfl
      have t7 := objAt_cell oF 7 rfl
      have TT := Lib.hid (And.intro t0 (And.intro t1 (And.intro t2 (And.intro t3 (And.intro t4 (And.intro t5 (And.intro t6 t7)))))))
      have BF := Lib.hid (below_put8 B1 (Nat.le_refl _) (.int .i64 0) (.int .i64 0) (.slice none 0 0) (.slice none 0 0) (.slice none 0 0) (.slice none 0 0) (.slice none 0 0) (.slice none 0 0))
      clear oF t0 t1 t2 t3 t4 t5 t6 t7 oR1 B1
      go_wp2
      obtain ⟨t0, t1, t2, t3, t4, t5, t6, t7⟩ := TT.out
      exact bodyPost_ret (v := .tuple #[.agg #[.int .i64 0, .int .i64 0, .slice none 0 0, .slice none 0 0, .slice none 0 0, .slice none 0 0, .slice none 0 0, .slice none 0 0], .int .i64 (e : Int)]) (by simp [results, Tryd.results9, go_sem, t0, t1, t2, t3, t4, t5, t6, t7]) rfl ⟨⟨none, 0, none, 0, none, 0, none, 0, none, 0, none, 0⟩, by rw [HD.out]; rfl, by rw [HD.out]; exact ownD_zero _ _, BF.out⟩
    · have hcs := rw_cases hr
      have oR1 := k2_obj OR.out k1 (by omega) (by omega)
      have B1 := k2_belowD BX.out k1 (by omega)
      by_cases hz : l' = []
      · obtain ⟨hok, hD⟩ := hcs.2 hz
        rw [if_pos hz]
        have HC := rdcheck_any M d w1 (ownD_at od)
        obtain ⟨c, hc⟩ : ∃ c, dcheckE V8 d = c := ⟨_, rfl⟩
        rw [hc] at HC hD
        have HC : Hid (Calls Tryd.prog 14 #[.agg #[.int .i64 d.frm, .int .i64 d.til, .slice M.aj d.jobs.length M.cj, .slice M.an d.nodes.length M.cn, .slice M.al d.leases.length M.cl, .slice M.gj d.gj.length M.hj, .slice M.gn d.gn.length M.hn, .slice M.gl d.gl.length M.hl]] w1 fun e w' => e = .returned (.int .i64 (c : Nat)) ∧ Below w1.heap.size w1 w') := Lib.hid HC
        have oS2 : ObjAt (w.heap.size + 1) #[.int .i64 d.frm, .int .i64 d.til, .slice M.aj d.jobs.length M.cj, .slice M.an d.nodes.length M.cn, .slice M.al d.leases.length M.cl, .slice M.gj d.gj.length M.hj, .slice M.gn d.gn.length M.hn, .slice M.gl d.gl.length M.hl] 27 w1 := oS1
        have x0 := objAt_cell oS2 0 rfl
        have x1 := objAt_cell oS2 1 rfl
        have x2 := objAt_cell oS2 2 rfl
        have x3 := objAt_cell oS2 3 rfl
        have x4 := objAt_cell oS2 4 rfl
        have x5 := objAt_cell oS2 5 rfl
        have x6 := objAt_cell oS2 6 rfl
        have x7 := objAt_cell oS2 7 rfl
        have xl := objAt_lt oS2
        have HDC := Lib.hid (HD0.out.trans hD)
        have PP := Lib.hid (And.intro oR1 (And.intro oS2 (And.intro od B1)))
        clear hr k1 oS1 oS2 od oR1 B1 hok hD hcs hc hz HR
        go_wp2_with fail
        refine HC.out.mono ?_
        rintro r w2 ⟨rfl, b2⟩
        obtain ⟨oR1, oS2, od, B1⟩ := PP.out
        have oR2 := objAt_next oR1 b2
        have oS3 := objAt_next oS2 b2
        have B2 := below_trans B1 b2 B1.size
        have od2 := ownD_low (B' := w.heap.size) (ownD_next od b2) (by omega)
        clear x0 x1 x2 x3 x4 x5 x6 x7 xl PP oR1 oS2 od B1 b2 HC
        by_cases h0 : c ≠ 0
        · have HD := Lib.hid (HDC.out.trans (if_pos h0))
          have h2 : ((c : Int) != 0) = true := by simp; omega
          have k0 := objAt_cell oR2 0 rfl
          have f0 := objAt_free oR2 0
          have k1 := objAt_cell oR2 1 rfl
          have f1 := objAt_free oR2 1
          have k2 := objAt_cell oR2 2 rfl
          have f2 := objAt_free oR2 2
          have k3 := objAt_cell oR2 3 rfl
          have f3 := objAt_free oR2 3
          have k4 := objAt_cell oR2 4 rfl
          have f4 := objAt_free oR2 4
          have k5 := objAt_cell oR2 5 rfl
          have f5 := objAt_free oR2 5
          have k6 := objAt_cell oR2 6 rfl
          have f6 := objAt_free oR2 6
          have k7 := objAt_cell oR2 7 rfl
          have f7 := objAt_free oR2 7
          have kl := objAt_lt oR2
          have oF := obj_put8 oR2 (.int .i64 0) (.int .i64 0) (.slice none 0 0) (.slice none 0 0) (.slice none 0 0) (.slice none 0 0) (.slice none 0 0) (.slice none 0 0)
          have t0 := objAt_cell oF 0 rfl
          have t1 := objAt_cell oF 1 rfl
          have t2 := objAt_cell oF 2 rfl
          have t3 := objAt_cell oF 3 rfl
          have t4 := objAt_cell oF 4 rfl
          have t5 := objAt_cell oF 5 rfl
          have t6 := objAt_cell oF 6 rfl
          have t7 := objAt_cell oF 7 rfl
          have TT := Lib.hid (And.intro t0 (And.intro t1 (And.intro t2 (And.intro t3 (And.intro t4 (And.intro t5 (And.intro t6 t7)))))))
          have BF := Lib.hid (below_put8 B2 (Nat.le_refl _) (.int .i64 0) (.int .i64 0) (.slice none 0 0) (.slice none 0 0) (.slice none 0 0) (.slice none 0 0) (.slice none 0 0) (.slice none 0 0))
          clear oF t0 t1 t2 t3 t4 t5 t6 t7 oR2 B2 oS3 od2 h0
          go_wp2
          obtain ⟨t0, t1, t2, t3, t4, t5, t6, t7⟩ := TT.out
          exact bodyPost_ret (v := .tuple #[.agg #[.int .i64 0, .int .i64 0, .slice none 0 0, .slice none 0 0, .slice none 0 0, .slice none 0 0, .slice none 0 0, .slice none 0 0], .int .i64 (c : Int)]) (by simp [results, Tryd.results9, go_sem, t0, t1, t2, t3, t4, t5, t6, t7]) rfl ⟨⟨none, 0, none, 0, none, 0, none, 0, none, 0, none, 0⟩, by rw [HD.out]; rfl, by rw [HD.out]; exact ownD_zero _ _, BF.out⟩
        · have HD := Lib.hid (HDC.out.trans (if_neg h0))
          have h0 : c = 0 := by simpa using h0
          subst h0
          have y0 := objAt_cell oS3 0 rfl
          have y1 := objAt_cell oS3 1 rfl
          have y2 := objAt_cell oS3 2 rfl
          have y3 := objAt_cell oS3 3 rfl
          have y4 := objAt_cell oS3 4 rfl
          have y5 := objAt_cell oS3 5 rfl
          have y6 := objAt_cell oS3 6 rfl
          have y7 := objAt_cell oS3 7 rfl
          have yl := objAt_lt oS3
          have OD := Lib.hid (ownD_put8 od2 oR2 (.int .i64 d.frm) (.int .i64 d.til) (.slice M.aj d.jobs.length M.cj) (.slice M.an d.nodes.length M.cn) (.slice M.al d.leases.length M.cl) (.slice M.gj d.gj.length M.hj) (.slice M.gn d.gn.length M.hn) (.slice M.gl d.gl.length M.hl))
          have k0 := objAt_cell oR2 0 rfl
          have f0 := objAt_free oR2 0
          have k1 := objAt_cell oR2 1 rfl
          have f1 := objAt_free oR2 1
          have k2 := objAt_cell oR2 2 rfl
          have f2 := objAt_free oR2 2
          have k3 := objAt_cell oR2 3 rfl
          have f3 := objAt_free oR2 3
          have k4 := objAt_cell oR2 4 rfl
          have f4 := objAt_free oR2 4
          have k5 := objAt_cell oR2 5 rfl
          have f5 := objAt_free oR2 5
          have k6 := objAt_cell oR2 6 rfl
          have f6 := objAt_free oR2 6
          have k7 := objAt_cell oR2 7 rfl
          have f7 := objAt_free oR2 7
          have kl := objAt_lt oR2
          have oF := obj_put8 oR2 (.int .i64 d.frm) (.int .i64 d.til) (.slice M.aj d.jobs.length M.cj) (.slice M.an d.nodes.length M.cn) (.slice M.al d.leases.length M.cl) (.slice M.gj d.gj.length M.hj) (.slice M.gn d.gn.length M.hn) (.slice M.gl d.gl.length M.hl)
          have t0 := objAt_cell oF 0 rfl
          have t1 := objAt_cell oF 1 rfl
          have t2 := objAt_cell oF 2 rfl
          have t3 := objAt_cell oF 3 rfl
          have t4 := objAt_cell oF 4 rfl
          have t5 := objAt_cell oF 5 rfl
          have t6 := objAt_cell oF 6 rfl
          have t7 := objAt_cell oF 7 rfl
          have TT := Lib.hid (And.intro t0 (And.intro t1 (And.intro t2 (And.intro t3 (And.intro t4 (And.intro t5 (And.intro t6 t7)))))))
          have BF := Lib.hid (below_put8 B2 (Nat.le_refl _) (.int .i64 d.frm) (.int .i64 d.til) (.slice M.aj d.jobs.length M.cj) (.slice M.an d.nodes.length M.cn) (.slice M.al d.leases.length M.cl) (.slice M.gj d.gj.length M.hj) (.slice M.gn d.gn.length M.hn) (.slice M.gl d.gl.length M.hl))
          clear oF t0 t1 t2 t3 t4 t5 t6 t7 oR2 B2 oS3 od2
          go_wp2
          obtain ⟨t0, t1, t2, t3, t4, t5, t6, t7⟩ := TT.out
          exact bodyPost_ret (v := .tuple #[.agg #[.int .i64 d.frm, .int .i64 d.til, .slice M.aj d.jobs.length M.cj, .slice M.an d.nodes.length M.cn, .slice M.al d.leases.length M.cl, .slice M.gj d.gj.length M.hj, .slice M.gn d.gn.length M.hn, .slice M.gl d.gl.length M.hl], .int .i64 0]) (by simp [results, Tryd.results9, go_sem, t0, t1, t2, t3, t4, t5, t6, t7]) rfl ⟨M, by rw [HD.out]; rfl, by rw [HD.out]; exact OD.out, BF.out⟩
      · have HD := Lib.hid (HD0.out.trans (hcs.1 hz))
        rw [if_neg hz]
        clear hr k1 oS1 od hcs hz HR
        have k0 := objAt_cell oR1 0 rfl
        have f0 := objAt_free oR1 0
        have k1 := objAt_cell oR1 1 rfl
        have f1 := objAt_free oR1 1
        have k2 := objAt_cell oR1 2 rfl
        have f2 := objAt_free oR1 2
        have k3 := objAt_cell oR1 3 rfl
        have f3 := objAt_free oR1 3
        have k4 := objAt_cell oR1 4 rfl
        have f4 := objAt_free oR1 4
        have k5 := objAt_cell oR1 5 rfl
        have f5 := objAt_free oR1 5
        have k6 := objAt_cell oR1 6 rfl
        have f6 := objAt_free oR1 6
        have k7 := objAt_cell oR1 7 rfl
        have f7 := objAt_free oR1 7
        have kl := objAt_lt oR1
        have oF := obj_put8 oR1 (.int .i64 0) (.int .i64 0) (.slice none 0 0) (.slice none 0 0) (.slice none 0 0) (.slice none 0 0) (.slice none 0 0) (.slice none 0 0)
        have t0 := objAt_cell oF 0 rfl
        have t1 := objAt_cell oF 1 rfl
        have t2 := objAt_cell oF 2 rfl
        have t3 := objAt_cell oF 3 rfl
        have t4 := objAt_cell oF 4 rfl
        have t5 := objAt_cell oF 5 rfl
        have t6 := objAt_cell oF 6 rfl
        have t7 := objAt_cell oF 7 rfl
        have TT := Lib.hid (And.intro t0 (And.intro t1 (And.intro t2 (And.intro t3 (And.intro t4 (And.intro t5 (And.intro t6 t7)))))))
        have BF := Lib.hid (below_put8 B1 (Nat.le_refl _) (.int .i64 0) (.int .i64 0) (.slice none 0 0) (.slice none 0 0) (.slice none 0 0) (.slice none 0 0) (.slice none 0 0) (.slice none 0 0))
        clear oF t0 t1 t2 t3 t4 t5 t6 t7 oR1 B1
        go_wp2
        obtain ⟨t0, t1, t2, t3, t4, t5, t6, t7⟩ := TT.out
        exact bodyPost_ret (v := .tuple #[.agg #[.int .i64 0, .int .i64 0, .slice none 0 0, .slice none 0 0, .slice none 0 0, .slice none 0 0, .slice none 0 0, .slice none 0 0], .int .i64 4]) (by simp [results, Tryd.results9, go_sem, t0, t1, t2, t3, t4, t5, t6, t7]) rfl ⟨⟨none, 0, none, 0, none, 0, none, 0, none, 0, none, 0⟩, by rw [HD.out]; rfl, by rw [HD.out]; exact ownD_zero _ _, BF.out⟩
end Go.Proofs.YthfbjmjohmkfjaaDoor
