/- The reference's ReplyEncode and ReplyDecode. -/
import Derived.Test.YtklpmhiaihabaaaRqRep
import Derived.Test.YtklpmhiaihabaaaWiRead
import Derived.Deep.RegionHeld3
namespace Go.Proofs.Ytklpmhiaihabaaa
open Go.RowKit

theorem held2 {T : Nat} {v0 v1 : Value} {W w1 w2 : World} (b2 : Below w1.heap.size w1 w2)
    (h : (w1.cell? ⟨T, 0, none⟩ = some v0 ∧ w1.cell? ⟨T, 1, none⟩ = some v1) ∧ T < w1.heap.size ∧ Below W.heap.size W w1) :
    (w2.cell? ⟨T, 0, none⟩ = some v0 ∧ w2.cell? ⟨T, 1, none⟩ = some v1) ∧ T < w2.heap.size ∧ Below W.heap.size W w2 := by
  obtain ⟨⟨c0, c1⟩, h1, h3⟩ := h
  have hs := b2.size
  exact ⟨⟨by rw [b2.cell (p := ⟨T, 0, none⟩) h1]; exact c0, by rw [b2.cell (p := ⟨T, 1, none⟩) h1]; exact c1⟩, by omega, below_trans h3 b2 h3.size⟩
set_option maxRecDepth 100000 in
set_option maxHeartbeats 4000000 in
theorem rreply_any (r : RepD) (w : World) :
    Calls Try.prog 19 #[.agg #[.int .i64 r.code, .int .i64 r.rev]] w fun e w' => e = .returned (.tuple #[.string (ba (pencR r).1), .int .i64 ((pencR r).2 : Nat)]) ∧ Below w.heap.size w w' := by
  have HO := Lib.hid outside_is
  have oB := objAt_new w #[.int .i64 r.code, .int .i64 r.rev] 39
  have bW := below_one w (.cells #[.int .i64 r.code, .int .i64 r.rev] 39)
  by_cases hg : goodP r = true
  · have hr : pencR r = (pB r, 0) := by unfold pencR; rw [if_pos hg]
    have hx := (goodP_iff r).1 hg
    have g0 : inR r.code 0 10 = true := (inR_iff _ _ _).2 hx.1
    have g1 : inR r.rev 0 1099511627776 = true := (inR_iff _ _ _).2 hx.2
    have HA := Lib.hid (HO.out r.code 0 10)
    have HB := Lib.hid (HO.out r.rev 0 1099511627776)
    rw [g0] at HA
    rw [g1] at HB
    have H1 := Lib.hid (rnumB_is r.code (by omega))
    have H2 := Lib.hid (rnumB_is r.rev (by omega))
    have l1 := int_len (n := r.code) (by omega)
    have l2 := int_len (n := r.rev) (by omega)
    rw [← ba_size] at l1 l2
    have eR : ba (pB r) = ba (intE r.code) ++ ba (intE r.rev) := by rw [ba_app]; rfl
    rw [hr]
    simp only
    rw [eR]
    generalize ba (intE r.code) = P at H1 l1 ⊢
    generalize ba (intE r.rev) = Q at H2 l2 ⊢
    obtain ⟨PQ, hPQ⟩ : ∃ PQ, P ++ Q = PQ := ⟨_, rfl⟩
    have a1 : ¬ (9223372036854775807 < P.size + Q.size) := by omega
    rw [hPQ]
    have q0 := objAt_cell oB 0 rfl
    have q1 := objAt_cell oB 1 rfl
    have ql := objAt_lt oB
    clear eR hr hx g0 g1 hg HO oB
    go_enter Try.func19, Try.ntmps19
    go_wp2_with fail
    refine (HA.out _).mono ?_
    rintro e w1 ⟨rfl, rfl⟩
    go_wp2_with fail
    refine (HB.out _).mono ?_
    rintro e w1 ⟨rfl, rfl⟩
    go_wp2_with fail
    generalize w.alloc (.cells #[.int .i64 r.code, .int .i64 r.rev] 39) = W at q0 q1 ql bW ⊢
    have o1 : (W.cell? ⟨w.heap.size, 0, none⟩ = some (.int .i64 r.code) ∧ W.cell? ⟨w.heap.size, 1, none⟩ = some (.int .i64 r.rev)) ∧ w.heap.size < W.heap.size ∧ Below W.heap.size W W := ⟨⟨q0, q1⟩, ql, Below.refl _ _⟩
    have BW := Lib.hid bW
    clear q0 q1 ql bW HA HB
    go_region_held3 (fun w' => (w'.cell? ⟨w.heap.size, 0, none⟩ = some (.int .i64 r.code) ∧ w'.cell? ⟨w.heap.size, 1, none⟩ = some (.int .i64 r.rev)) ∧ w.heap.size < w'.heap.size ∧ Below W.heap.size W w')
      (first | assumption | exact ⟨o1.1, o1.2.1, o1.2.2.drew⟩)
      (first
        | (go_at_call 32; (with_reducible refine (H1.out _).mono ?_); rintro e x1 ⟨rfl, c1⟩; have s1 := held2 (W := W) c1 (by assumption))
        | (go_at_call 32; (with_reducible refine (H2.out _).mono ?_); rintro e x2 ⟨rfl, c2⟩; have s2 := held2 (W := W) c2 (by assumption)))
    all_goals
      rename_i s9
      have hb9 := below_trans BW.out s9.2.2 BW.out.size
      clear s9
      go_wp2
      go_ret2
      exact ⟨rfl, hb9⟩
  · have hr : pencR r = ([], 1) := by unfold pencR; rw [if_neg hg]
    rw [hr]
    have HA := Lib.hid (HO.out r.code 0 10)
    have HB := Lib.hid (HO.out r.rev 0 1099511627776)
    have q0 := objAt_cell oB 0 rfl
    have q1 := objAt_cell oB 1 rfl
    have ql := objAt_lt oB
    obtain ⟨x, hx⟩ : ∃ x, inR r.code 0 10 = x := ⟨_, rfl⟩
    obtain ⟨y, hy⟩ : ∃ y, inR r.rev 0 1099511627776 = y := ⟨_, rfl⟩
    unfold goodP at hg
    rw [hx, hy] at hg
    rw [hx] at HA
    rw [hy] at HB
    clear hr hx hy HO oB
    cases x with
    | false =>
      clear hg HB
      go_enter Try.func19, Try.ntmps19
      go_wp2_with fail
      refine (HA.out _).mono ?_
      rintro e w1 ⟨rfl, rfl⟩
      go_wp2
      go_ret2
      exact ⟨rfl, bW⟩
    | true =>
      cases y with
      | true => exact absurd rfl hg
      | false =>
        clear hg
        go_enter Try.func19, Try.ntmps19
        go_wp2_with fail
        refine (HA.out _).mono ?_
        rintro e w1 ⟨rfl, rfl⟩
        go_wp2_with fail
        refine (HB.out _).mono ?_
        rintro e w1 ⟨rfl, rfl⟩
        go_wp2
        go_ret2
        exact ⟨rfl, bW⟩
/-- What the function that is handed to read answers: it throws, or the reply lies there. -/
def PBodyP (b c : Nat) (l : List UInt8) (w : World) (r : Ending) (w' : World) : Prop := Keep2 b c w w' ∧ ((∃ e, pR l = .inl e ∧ r = taken e ∧ ∃ x y : Int, ObjAt c #[.int .i64 x, .int .i64 y] 39 w') ∨ (∃ p l', pR l = .inr (p, l') ∧ r = .returned (.tuple #[]) ∧ ObjAt c #[.int .i64 p.code, .int .i64 p.rev] 39 w' ∧ SrcAt b l' w'))
set_option maxRecDepth 100000 in
set_option maxHeartbeats 4000000 in
theorem pbody_is {b c : Nat} {l : List UInt8} (hl : l.length ≤ 140737488355328) (w : World) (h : SrcAt b l w) (hS : ObjAt c #[.int .i64 0, .int .i64 0] 39 w) (n3 : c ≠ b) :
    Calls Try.prog 48 #[.pointer (some ⟨b, 0, none⟩), .pointer (some ⟨c, 0, none⟩)] w (PBodyP b c l w) := by
  have n3' : ¬ b = c := fun e => n3 e.symm
  have H0 := Lib.hid (srcNum_is hl w h)
  have HS := Lib.hid hS
  have lc := objAt_lt hS
  have lb := objAt_lt h
  clear hS h
  go_enter Try.func48, Try.ntmps48
  go_wp2_with fail
  refine H0.out.mono ?_
  rintro r w1 ⟨g1, ⟨e, he, rfl⟩ | ⟨a, l1, hd, rfl, s1⟩⟩
  · have HE : Hid (pR l = .inl e) := by show _ = _; unfold pR; rw [bindD_err he]
    have G := Lib.hid ((k2_grown g1 : Keep2 b c w w1))
    have oS := obj_grown HS.out g1 n3
    have OS := Lib.hid oS
    unfold taken
    clear he g1 oS
    go_wp2
    exact ⟨rfl, G.out, .inl ⟨e, HE.out, rfl, _, _, OS.out⟩⟩
  · have HD := Lib.hid hd
    have L1 := short_int hd hl
    have oS := obj_grown HS.out g1 n3
    have oS' : ObjAt c #[.int .i64 a, .int .i64 0] 39 _ := objAt_set oS 0 (.int .i64 a)
    have s1' := src_other s1 n3' 0 (.int .i64 a)
    have K1 : Keep2 b c w _ := k2_trans (k2_grown g1) (k2_set b c w1 0 (.int .i64 a))
    have f0 := objAt_free oS 0
    have t0 := objAt_cell oS 0 rfl
    have lS := objAt_lt oS
    have H1 := Lib.hid (srcNum_is L1 _ s1')
    have OS := Lib.hid oS'
    have KK := Lib.hid K1
    clear hd oS oS' s1' K1 s1 g1 H0
    go_wp2_with fail
    refine H1.out.mono ?_
    rintro r w2 ⟨g2, ⟨e, he, rfl⟩ | ⟨a2, l2, hd2, rfl, s2⟩⟩
    · have HE : Hid (pR l = .inl e) := by show _ = _; unfold pR; rw [bindD_ok HD.out, bindD_err he]
      have G := Lib.hid (k2_trans KK.out (k2_grown g2 : Keep2 b c _ w2))
      have OS2 := Lib.hid (obj_grown OS.out g2 n3)
      unfold taken
      clear he g2 f0 t0 lS
      go_wp2
      exact ⟨rfl, G.out, .inl ⟨e, HE.out, rfl, _, _, OS2.out⟩⟩
    · have HE : Hid (pR l = .inr (⟨a, a2⟩, l2)) := by show _ = _; unfold pR; rw [bindD_ok HD.out, bindD_ok hd2]; rfl
      have oS2 := obj_grown OS.out g2 n3
      have oF : ObjAt c #[.int .i64 a, .int .i64 a2] 39 _ := objAt_set oS2 1 (.int .i64 a2)
      have sF := src_other s2 n3' 1 (.int .i64 a2)
      have KF : Keep2 b c w _ := k2_trans KK.out (k2_trans (k2_grown g2) (k2_set b c w2 1 (.int .i64 a2)))
      clear f0 t0 lS
      have f1 := objAt_free oS2 1
      have t1 := objAt_cell oS2 1 rfl
      have lS2 := objAt_lt oS2
      have PF := Lib.hid (And.intro oF (And.intro sF KF))
      clear hd2 g2 oS2 oF sF KF s2 H1
      go_wp2
      exact bodyPost_ret (v := .tuple #[]) (results_none rfl _ _ _) rfl ⟨PF.out.2.2, .inr ⟨_, l2, HE.out, rfl, PF.out.1, PF.out.2.1⟩⟩
/-- What read answers: an error, or the reply lies there. -/
def PReadP (c : Nat) (l : List UInt8) (w : World) (r : Ending) (w' : World) : Prop := Keep2 c c w w' ∧ ((∃ e : Nat, pR l = .inl e ∧ r = .returned (.int .i64 (e : Int)) ∧ ∃ x y : Int, ObjAt c #[.int .i64 x, .int .i64 y] 39 w') ∨ (∃ p l', pR l = .inr (p, l') ∧ r = .returned (.int .i64 (if l' = [] then 0 else 4)) ∧ ObjAt c #[.int .i64 p.code, .int .i64 p.rev] 39 w'))
theorem k2_belowQ {c : Nat} {w W w' : World} (hB : Below w.heap.size w W) (hk : Keep2 c c W w') (hc : w.heap.size ≤ c) : Below w.heap.size w w' :=
  ⟨hk.os.trans hB.os, hk.tape.trans hB.tape, hk.output.trans hB.output, Nat.le_trans hB.size hk.size, fun i hi => (hk.block i (Nat.lt_of_lt_of_le hi hB.size) (by omega) (by omega)).trans (hB.block i hi)⟩
set_option maxRecDepth 100000 in
set_option maxHeartbeats 4000000 in
theorem pread_is {c : Nat} {l : List UInt8} (hl : l.length ≤ 140737488355328) (w : World) (hS : ObjAt c #[.int .i64 0, .int .i64 0] 39 w) :
    Calls Try.prog 39 #[.string (ba l), .func (.func 48) #[] #[.pointer (some ⟨c, 0, none⟩)]] w (PReadP c l w) := by
  have hmf : ∀ (fn : Fn) (first cap : Array Value) (w : World), (Instr.makeFunc fn first cap).run Try.prog w = .ok (.func fn first cap) w := fun _ _ _ _ => rfl
  obtain ⟨W, hW⟩ : ∃ W, (w.alloc (.cells #[.int .i64 0] 30)).alloc (.cells #[.string (ba l)] 105) = W := ⟨_, rfl⟩
  have bW : Below w.heap.size w W := by rw [← hW]; exact below_trans (below_one _ _) (below_one _ _) (by simp)
  have oE := objAt_next (objAt_new w #[.int .i64 0] 30) (below_one _ (.cells #[.string (ba l)] 105))
  have oB := objAt_new (w.alloc (.cells #[.int .i64 0] 30)) #[.string (ba l)] 105
  rw [hW] at oE oB
  rw [World.size_alloc] at oB
  have lS := objAt_lt hS
  have HB := Lib.hid (pbody_is (b := w.heap.size + 1) hl W oB (objAt_next hS bW) (by omega))
  have OE := Lib.hid oE
  have BW := Lib.hid bW
  clear oE oB hS bW
  go_enter_defers Try.func39, Try.ntmps39
  go_wp2_with fail
  refine HB.out.mono ?_
  rintro r w1 ⟨k1, ⟨e, he, rfl, x, y, oS⟩ | ⟨d, l', hr, rfl, oS, s1⟩⟩
  · have oE1 := k2_obj OE.out k1 (by omega) (by omega)
    have c0 := objAt_cell oE1 0 rfl
    have f0 := objAt_free oE1 0
    have z0 := objAt_lt oE1
    have HE := Lib.hid he
    have K := Lib.hid (k2_new BW.out k1 (by omega))
    have OF := Lib.hid (objAt_next (objAt_other oS (c := w.heap.size) (by omega) 0 (.int .i64 (e : Int))) (below_one _ (.cells #[.int .i64 (e : Int)] 76)))
    unfold taken
    clear he k1 oE1 oS
    have hcell : ((w1.setCell ⟨w.heap.size, 0, none⟩ (.int .i64 (e : Int))).alloc (.cells #[.int .i64 (e : Int)] 76)).cell? ⟨w.heap.size, 0, none⟩ = some (.int .i64 (e : Int)) := by go_simp
    have HC := Lib.hid hcell
    have KF := Lib.hid (k2_alloc (k2_fresh K.out (Nat.le_refl _) 0 (.int .i64 (e : Int))) (.cells #[.int .i64 (e : Int)] 76))
    clear hcell
    go_wp2
    refine leaves_cons (f := 56) (args := #[.pointer (some ⟨w.heap.size, 0, none⟩)]) (by simp) (by simp [go_sem]) ?_
    refine (catch_taken w.heap.size 0 e [] w1 c0 f0 z0).mono ?_
    rintro r u' w2 ⟨rfl, rfl, rfl⟩
    have hR : PReadP c l w (.returned (.int .i64 (e : Int))) _ := ⟨KF.out, .inl ⟨e, HE.out, rfl, x, y, OF.out⟩⟩
    have hC := HC.out
    simp only [settle]
    simp [Leaves, results, Try.results39, go_sem, hC]
    exact hR
  · have HE := Lib.hid hr
    have oE1 := k2_obj OE.out k1 (by omega) (by omega)
    have c0 := objAt_cell oE1 0 rfl
    have f0 := objAt_free oE1 0
    have z0 := objAt_lt oE1
    have x0 := objAt_cell s1 0 rfl
    have zb := objAt_lt s1
    have K := Lib.hid (k2_new BW.out k1 (by omega))
    have hsz := BW.out.size
    have OS := Lib.hid oS
    have hWs : w.heap.size + 2 ≤ W.heap.size := by rw [← hW, World.size_alloc, World.size_alloc]; omega
    clear hr k1 oE1 oS s1
    by_cases hz : l' = []
    · subst hz
      have eb : ba [] = ⟨#[]⟩ := rfl
      rw [eb] at x0
      clear eb
      have OF := Lib.hid (objAt_other OS.out (c := w.heap.size) (by omega) 0 (.int .i64 0))
      have KF := Lib.hid (k2_fresh K.out (Nat.le_refl _) 0 (.int .i64 0))
      have hcell : (w1.setCell ⟨w.heap.size, 0, none⟩ (.int .i64 0)).cell? ⟨w.heap.size, 0, none⟩ = some (.int .i64 0) := by go_simp
      have HC := Lib.hid hcell
      clear hcell
      go_wp2
      refine leaves_cons (f := 56) (args := #[.pointer (some ⟨w.heap.size, 0, none⟩)]) (by simp) (by simp [go_sem]) ?_
      refine (catch_idle w.heap.size _).mono ?_
      rintro r u' w2 ⟨rfl, rfl, rfl⟩
      have hR : PReadP c l w (.returned (.int .i64 0)) _ := ⟨KF.out, .inr ⟨d, _, HE.out, by rw [if_pos rfl], OF.out⟩⟩
      have hC := HC.out
      simp only [settle]
      simp [Leaves, results, Try.results39, go_sem, hC]
      exact hR
    · have hne : (ba l').size ≠ 0 := by rw [ba_size]; simpa using hz
      obtain ⟨m1, m2⟩ := not_empty hne
      have HZ := Lib.hid hz
      obtain ⟨L, hL⟩ : ∃ L, ba l' = L := ⟨_, rfl⟩
      rw [hL] at x0 m1 m2
      clear hne hz hL
      have OF := Lib.hid (objAt_other OS.out (c := w.heap.size) (by omega) 0 (.int .i64 4))
      have KF := Lib.hid (k2_fresh K.out (Nat.le_refl _) 0 (.int .i64 4))
      have hcell : (w1.setCell ⟨w.heap.size, 0, none⟩ (.int .i64 4)).cell? ⟨w.heap.size, 0, none⟩ = some (.int .i64 4) := by go_simp
      have HC := Lib.hid hcell
      clear hcell
      go_wp2
      refine leaves_cons (f := 56) (args := #[.pointer (some ⟨w.heap.size, 0, none⟩)]) (by simp) (by simp [go_sem]) ?_
      refine (catch_idle w.heap.size _).mono ?_
      rintro r u' w2 ⟨rfl, rfl, rfl⟩
      have hR : PReadP c l w (.returned (.int .i64 4)) _ := ⟨KF.out, .inr ⟨d, _, HE.out, by rw [if_neg HZ.out], OF.out⟩⟩
      have hC := HC.out
      simp only [settle]
      simp [Leaves, results, Try.results39, go_sem, hC]
      exact hR
set_option maxRecDepth 100000 in
set_option maxHeartbeats 4000000 in
theorem rreadReply_any (s : ByteArray) (hs : s.size ≤ 140737488355328) (w : World) :
    Calls Try.prog 21 #[.string s] w fun e w' => e = .returned (.tuple #[.agg #[.int .i64 (pdecR s.data.toList).1.code, .int .i64 (pdecR s.data.toList).1.rev], .int .i64 ((pdecR s.data.toList).2 : Nat)]) ∧ Below w.heap.size w w' := by
  obtain ⟨l, rfl⟩ : ∃ l, s = ba l := ⟨s.data.toList, rfl⟩
  rw [ba_data]
  have hmf : ∀ (fn : Fn) (first cap : Array Value) (w : World), (Instr.makeFunc fn first cap).run Try.prog w = .ok (.func fn first cap) w := fun _ _ _ _ => rfl
  have hsz := ba_size l
  obtain ⟨W, hW⟩ : ∃ W, w.alloc (.cells #[.int .i64 0, .int .i64 0] 39) = W := ⟨_, rfl⟩
  have oR := objAt_new w #[.int .i64 0, .int .i64 0] 39
  have bW := below_one w (.cells #[.int .i64 0, .int .i64 0] 39)
  have sW : W.heap.size = w.heap.size + 1 := by rw [← hW, World.size_alloc]
  rw [hW] at oR bW
  obtain ⟨X, hX⟩ : ∃ X, W.alloc (.cells #[.int .i64 0, .int .i64 0] 39) = X := ⟨_, rfl⟩
  have bX := below_one W (.cells #[.int .i64 0, .int .i64 0] 39)
  have oS := objAt_new W #[.int .i64 0, .int .i64 0] 39
  rw [hX] at bX oS
  rw [sW] at oS
  have HR := pread_is (c := w.heap.size + 1) (l := l) (by rw [hsz] at hs; omega) X oS
  have BX := Lib.hid (below_trans bW bX (by omega))
  have OR := Lib.hid (objAt_next oR bX)
  have sX : X.heap.size = w.heap.size + 2 := by rw [← hX, World.size_alloc, sW]
  obtain ⟨S, hS⟩ : ∃ S, ba l = S := ⟨_, rfl⟩
  rw [hS] at hsz hs HR ⊢
  have HR := Lib.hid HR
  have SX := Lib.hid sX
  have lXX : w.heap.size + 2 ≤ X.heap.size := by omega
  obtain ⟨R, hR⟩ : ∃ R, pdecR l = R := ⟨_, rfl⟩
  rw [hR]
  have HDR := Lib.hid hR
  clear oR bW bX oS hsz hs hS sX hR
  go_enter Try.func21, Try.ntmps21
  go_wp2_with fail
  refine HR.out.mono ?_
  rintro r w1 ⟨k1, ⟨e, he, rfl, x, y, oS1⟩ | ⟨p, l', hr, rfl, oS1⟩⟩
  · have h0 := nz_p l e he
    have HD : Hid (R = (zeroP, e)) := by show _ = _; rw [← HDR.out]; unfold pdecR; rw [he]
    have h1 : ((e : Int) == 0) = false := by simp; omega
    have h2 : ((e : Int) != 0) = true := by simp; omega
    have oR1 := k2_obj OR.out k1 (by omega) (by omega)
    have B1 := k2_belowQ BX.out k1 (by omega)
    have HE := Lib.hid (rreply_any ⟨x, y⟩ w1)
    obtain ⟨E, hE⟩ : ∃ E, pencR ⟨x, y⟩ = E := ⟨_, rfl⟩
    rw [hE] at HE
    have OR1 := Lib.hid oR1
    have BB := Lib.hid B1
    have x0 := objAt_cell oS1 0 rfl
    have x1 := objAt_cell oS1 1 rfl
    have xl := objAt_lt oS1
    clear he h0 HR k1 oR1 B1 oS1 hE
    go_wp2_with fail
    refine HE.out.mono ?_
    rintro r w2 ⟨rfl, b2⟩
    have o2 := objAt_next OR1.out b2
    have B2 := below_trans BB.out b2 BB.out.size
    have k0 := objAt_cell o2 0 rfl
    have f0 := objAt_free o2 0
    have k1 := objAt_cell o2 1 rfl
    have f1 := objAt_free o2 1
    have kl := objAt_lt o2
    have oF := put2 o2 (.int .i64 0) (.int .i64 0)
    have t0 := objAt_cell oF 0 rfl
    have t1 := objAt_cell oF 1 rfl
    have TT := Lib.hid (And.intro t0 t1)
    have BF := Lib.hid (((B2).setCell (p := ⟨w.heap.size, 0, none⟩) (Nat.le_refl _) (.int .i64 0)).setCell (p := ⟨w.heap.size, 1, none⟩) (Nat.le_refl _) (.int .i64 0))
    clear oF t0 t1 x0 x1 xl HE B2 b2 o2
    go_wp2
    obtain ⟨t0, t1⟩ := TT.out
    exact bodyPost_ret (v := .tuple #[.agg #[.int .i64 0, .int .i64 0], .int .i64 (e : Int)]) (by simp [results, Try.results21, go_sem, t0, t1]) rfl (by rw [HD.out]; exact ⟨rfl, BF.out⟩)
  · have oR1 := k2_obj OR.out k1 (by omega) (by omega)
    have B1 := k2_belowQ BX.out k1 (by omega)
    have HE := Lib.hid (rreply_any p w1)
    have hp2 : (pencR p).2 = pchkR p := by unfold pencR pchkR; split <;> rfl
    obtain ⟨E, hE⟩ : ∃ E, pencR p = E := ⟨_, rfl⟩
    rw [hE] at HE hp2
    have OR1 := Lib.hid oR1
    have BB := Lib.hid B1
    have OS1 := Lib.hid oS1
    have x0 := objAt_cell oS1 0 rfl
    have x1 := objAt_cell oS1 1 rfl
    have xl := objAt_lt oS1
    have HP := Lib.hid hr
    have HP2 := Lib.hid hp2
    clear HR k1 oR1 B1 oS1 hE hr hp2
    by_cases hz : l' = []
    · rw [if_pos hz]
      have HZ := Lib.hid hz
      clear hz
      go_wp2_with fail
      refine HE.out.mono ?_
      rintro r w2 ⟨rfl, b2⟩
      rw [HP2.out]
      have o2 := objAt_next OR1.out b2
      have s2 := objAt_next OS1.out b2
      have B2 := below_trans BB.out b2 BB.out.size
      clear x0 x1 xl HE b2
      by_cases hg : goodP p = true
      · have HD : Hid (R = (p, 0)) := by show _ = _; rw [← HDR.out]; unfold pdecR; rw [HP.out]; simp [HZ.out, hg]
        have h0 : pchkR p = 0 := by unfold pchkR; rw [if_pos hg]
        rw [h0]
        have k0 := objAt_cell o2 0 rfl
        have f0 := objAt_free o2 0
        have k1 := objAt_cell o2 1 rfl
        have f1 := objAt_free o2 1
        have kl := objAt_lt o2
        have x0 := objAt_cell s2 0 rfl
        have x1 := objAt_cell s2 1 rfl
        have xl := objAt_lt s2
        have oF := put2 o2 (.int .i64 p.code) (.int .i64 p.rev)
        have t0 := objAt_cell oF 0 rfl
        have t1 := objAt_cell oF 1 rfl
        have TT := Lib.hid (And.intro t0 t1)
        have BF := Lib.hid (((B2).setCell (p := ⟨w.heap.size, 0, none⟩) (Nat.le_refl _) (.int .i64 p.code)).setCell (p := ⟨w.heap.size, 1, none⟩) (Nat.le_refl _) (.int .i64 p.rev))
        clear oF t0 t1 B2 o2 s2 h0 hg
        go_wp2
        obtain ⟨t0, t1⟩ := TT.out
        exact bodyPost_ret (v := .tuple #[.agg #[.int .i64 p.code, .int .i64 p.rev], .int .i64 0]) (by simp [results, Try.results21, go_sem, t0, t1]) rfl (by rw [HD.out]; exact ⟨rfl, BF.out⟩)
      · have HD : Hid (R = (zeroP, 1)) := by show _ = _; rw [← HDR.out]; unfold pdecR; rw [HP.out]; simp [HZ.out, hg]
        have h0 : pchkR p = 1 := by unfold pchkR; rw [if_neg hg]
        rw [h0]
        have k0 := objAt_cell o2 0 rfl
        have f0 := objAt_free o2 0
        have k1 := objAt_cell o2 1 rfl
        have f1 := objAt_free o2 1
        have kl := objAt_lt o2
        have oF := put2 o2 (.int .i64 0) (.int .i64 0)
        have t0 := objAt_cell oF 0 rfl
        have t1 := objAt_cell oF 1 rfl
        have TT := Lib.hid (And.intro t0 t1)
        have BF := Lib.hid (((B2).setCell (p := ⟨w.heap.size, 0, none⟩) (Nat.le_refl _) (.int .i64 0)).setCell (p := ⟨w.heap.size, 1, none⟩) (Nat.le_refl _) (.int .i64 0))
        clear oF t0 t1 B2 o2 s2 h0 hg
        go_wp2
        obtain ⟨t0, t1⟩ := TT.out
        exact bodyPost_ret (v := .tuple #[.agg #[.int .i64 0, .int .i64 0], .int .i64 1]) (by simp [results, Try.results21, go_sem, t0, t1]) rfl (by rw [HD.out]; exact ⟨rfl, BF.out⟩)
    · rw [if_neg hz]
      have HD : Hid (R = (zeroP, 4)) := by show _ = _; rw [← HDR.out]; unfold pdecR; rw [HP.out]; simp [hz]
      clear hz
      go_wp2_with fail
      refine HE.out.mono ?_
      rintro r w2 ⟨rfl, b2⟩
      have o2 := objAt_next OR1.out b2
      have B2 := below_trans BB.out b2 BB.out.size
      have k0 := objAt_cell o2 0 rfl
      have f0 := objAt_free o2 0
      have k1 := objAt_cell o2 1 rfl
      have f1 := objAt_free o2 1
      have kl := objAt_lt o2
      have oF := put2 o2 (.int .i64 0) (.int .i64 0)
      have t0 := objAt_cell oF 0 rfl
      have t1 := objAt_cell oF 1 rfl
      have TT := Lib.hid (And.intro t0 t1)
      have BF := Lib.hid (((B2).setCell (p := ⟨w.heap.size, 0, none⟩) (Nat.le_refl _) (.int .i64 0)).setCell (p := ⟨w.heap.size, 1, none⟩) (Nat.le_refl _) (.int .i64 0))
      clear oF t0 t1 x0 x1 xl HE B2 b2 o2
      go_wp2
      obtain ⟨t0, t1⟩ := TT.out
      exact bodyPost_ret (v := .tuple #[.agg #[.int .i64 0, .int .i64 0], .int .i64 4]) (by simp [results, Try.results21, go_sem, t0, t1]) rfl (by rw [HD.out]; exact ⟨rfl, BF.out⟩)
end Go.Proofs.Ytklpmhiaihabaaa
