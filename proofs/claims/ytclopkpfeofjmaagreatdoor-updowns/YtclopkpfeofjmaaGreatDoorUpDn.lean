/- up.Down at every state. -/
import Derived.Test.YtclopkpfeofjmaaGreatDoorUpState
namespace Go.Proofs.YtclopkpfeofjmaaGreatDoor
open Go.RowKit

/-- What Down answers, but for its second word. -/
def dnR (s : StD) (b : Int) : StD × Nat := if checkE V8 s ≠ 0 then (zeroSt, checkE V8 s) else if okV b = true then (dnS b s, 0) else (zeroSt, 1)
theorem dn_lens (b : Int) (s : StD) : (dnS b s).jobs.length = s.jobs.length ∧ (dnS b s).nodes.length = s.nodes.length ∧ (dnS b s).leases = s.leases := by simp [dnS]
theorem valid8_dn {s : StD} (h : checkE V8 s = 0) (b : Int) : checkE V8 (dnS b s) = 0 := (check_zero V8 _).2 (valid_dn ((check_zero V8 s).1 h) v0 b)
theorem valid8_up {s : StD} (h : checkE V8 s = 0) (a b : Int) : checkE V8 (upS a b s) = 0 := (check_zero V8 _).2 (valid_up ((check_zero V8 s).1 h) (v1 45 (by decide)) a b)
theorem fitsR_true {s : StD} {v : Int} (h : checkE V8 s = 0) (hv : 1 ≤ v ∧ v ≤ 3) (hf : fitsD s v = true) : fitsR s v = (true, 0) := by unfold fitsR; rw [if_neg (by simp [h]), if_pos hv, hf]
theorem upR_fit {s : StD} {a b : Int} (h : checkE V8 s = 0) (hab : 1 ≤ a ∧ a ≤ b ∧ b ≤ 3) (hf : fitsD s a = true) : upR s a b = (upS a b s, 0) := by
  have e := fitsR_true h ⟨hab.1, by omega⟩ hf
  exact upR_ok ((okUp_iff a b).2 hab) (by rw [e]) (by rw [e])
theorem upR_dn {s : StD} {b : Int} (h : checkE V8 s = 0) (hb : 1 ≤ b ∧ b ≤ 3) : upR (dnS b s) b 3 = (upS b 3 (dnS b s), 0) := upR_fit (valid8_dn h b) ⟨hb.1, hb.2, by omega⟩ (fits_dn s b)
theorem wState_valid {s : StD} (h : checkE V8 s = 0) : wState s := wState_ok (ok_of_valid (v := 3) ((check_zero V8 s).1 h) (fits_three s))
/-- Three states in blocks, and the block of the result. -/
def DownS (H L R : Nat) (h0 h1 h2 h3 l0 l1 l2 l3 r0 r1 r2 r3 : Value) (W w : World) : Prop :=
  ObjAt H #[h0, h1, h2, h3] 30 w ∧ ObjAt L #[l0, l1, l2, l3] 30 w ∧ ObjAt R #[r0, r1, r2, r3] 30 w ∧ (∃ a0 a1 a2 a3, ObjAt (H + 1) #[a0, a1, a2, a3] 30 w) ∧ Below W.heap.size W w ∧ W.heap.size ≤ H ∧ L ≠ H + 1 ∧ R ≠ H + 1
theorem downS_all {H L R : Nat} {h0 h1 h2 h3 l0 l1 l2 l3 r0 r1 r2 r3 : Value} {W w : World} (h : DownS H L R h0 h1 h2 h3 l0 l1 l2 l3 r0 r1 r2 r3 W w) :
    ((w.cell? ⟨H, 0, none⟩ = some h0 ∧ w.cell? ⟨H, 1, none⟩ = some h1 ∧ w.cell? ⟨H, 2, none⟩ = some h2 ∧ w.cell? ⟨H, 3, none⟩ = some h3) ∧ (w.cell? ⟨L, 0, none⟩ = some l0 ∧ w.cell? ⟨L, 1, none⟩ = some l1 ∧ w.cell? ⟨L, 2, none⟩ = some l2 ∧ w.cell? ⟨L, 3, none⟩ = some l3) ∧
    (w.cell? ⟨R, 0, none⟩ = some r0 ∧ w.cell? ⟨R, 1, none⟩ = some r1 ∧ w.cell? ⟨R, 2, none⟩ = some r2 ∧ w.cell? ⟨R, 3, none⟩ = some r3) ∧ (w.frozen? ⟨H + 1, 0, none⟩ = false ∧ w.frozen? ⟨H + 1, 1, none⟩ = false ∧ w.frozen? ⟨H + 1, 2, none⟩ = false ∧ w.frozen? ⟨H + 1, 3, none⟩ = false)) ∧ DownS H L R h0 h1 h2 h3 l0 l1 l2 l3 r0 r1 r2 r3 W w := by
  obtain ⟨a, b, c, ⟨_, _, _, _, d⟩, _⟩ := id h
  exact ⟨⟨⟨objAt_cell a 0 rfl, objAt_cell a 1 rfl, objAt_cell a 2 rfl, objAt_cell a 3 rfl⟩, ⟨objAt_cell b 0 rfl, objAt_cell b 1 rfl, objAt_cell b 2 rfl, objAt_cell b 3 rfl⟩, ⟨objAt_cell c 0 rfl, objAt_cell c 1 rfl, objAt_cell c 2 rfl, objAt_cell c 3 rfl⟩, ⟨objAt_free d 0, objAt_free d 1, objAt_free d 2, objAt_free d 3⟩⟩, h⟩
theorem downS_drew {H L R : Nat} {h0 h1 h2 h3 l0 l1 l2 l3 r0 r1 r2 r3 : Value} {W w : World} (h : DownS H L R h0 h1 h2 h3 l0 l1 l2 l3 r0 r1 r2 r3 W w) : DownS H L R h0 h1 h2 h3 l0 l1 l2 l3 r0 r1 r2 r3 W w.drew := by
  obtain ⟨a, b, c, ⟨_, _, _, _, d⟩, e, f⟩ := h
  exact ⟨objAt_drew a, objAt_drew b, objAt_drew c, ⟨_, _, _, _, objAt_drew d⟩, e.drew, f⟩
theorem downS_call {H L R : Nat} {h0 h1 h2 h3 l0 l1 l2 l3 r0 r1 r2 r3 : Value} {W w w' : World} (h : DownS H L R h0 h1 h2 h3 l0 l1 l2 l3 r0 r1 r2 r3 W w) (hb : Below w.heap.size w w') : DownS H L R h0 h1 h2 h3 l0 l1 l2 l3 r0 r1 r2 r3 W w' := by
  obtain ⟨a, b, c, ⟨_, _, _, _, d⟩, e, f⟩ := h
  exact ⟨objAt_next a hb, objAt_next b hb, objAt_next c hb, ⟨_, _, _, _, objAt_next d hb⟩, below_trans e hb e.size, f⟩
theorem downS_put {H L R : Nat} {h0 h1 h2 h3 l0 l1 l2 l3 r0 r1 r2 r3 : Value} {W w : World} (h : DownS H L R h0 h1 h2 h3 l0 l1 l2 l3 r0 r1 r2 r3 W w) (x0 x1 x2 x3 : Value) : DownS H L R h0 h1 h2 h3 l0 l1 l2 l3 r0 r1 r2 r3 W ((((w.setCell ⟨H + 1, 0, none⟩ x0).setCell ⟨H + 1, 1, none⟩ x1).setCell ⟨H + 1, 2, none⟩ x2).setCell ⟨H + 1, 3, none⟩ x3) := by
  obtain ⟨a, b, c, ⟨_, _, _, _, d⟩, e, f, g, i⟩ := h
  exact ⟨other_put4 a (by omega) _ _ _ _, other_put4 b g _ _ _ _, other_put4 c i _ _ _ _, ⟨_, _, _, _, obj_put4 d x0 x1 x2 x3⟩, below_put4 e (by omega) _ _ _ _, f, g, i⟩
set_option maxRecDepth 100000 in
set_option maxHeartbeats 4000000 in
theorem down_any (s : StD) (aj an al : Option Addr) (cj cn cl : Nat) (b : Int) (hw : wState s) (w : World) (hT : Tabs w) (hmj : JobsAt w aj s.jobs) (hmn : NodesAt w an s.nodes) (hml : LeasesAt w al s.leases) :
    Calls Tryz.prog 7 #[.agg #[.int .i64 s.rev, .slice aj s.jobs.length cj, .slice an s.nodes.length cn, .slice al s.leases.length cl], .int .i64 b] w fun e w' => ∃ (aj' an' al' : Option Addr) (cj' cn' cl' : Nat) (c : Bool), e = .returned (.tuple #[.agg #[.int .i64 (dnR s b).1.rev, .slice aj' (dnR s b).1.jobs.length cj', .slice an' (dnR s b).1.nodes.length cn', .slice al' (dnR s b).1.leases.length cl'], .bool c, .int .i64 ((dnR s b).2 : Nat)]) ∧ (c = true ↔ (dnR s b).2 = 0 ∧ upS b 3 (dnS b s) = s) ∧ OwnS w.heap.size aj' an' al' cj' cn' cl' (dnR s b).1 w' ∧ Below w.heap.size w w' := by
  obtain ⟨W0, hW0⟩ : ∃ W0, (w.alloc (.cells #[.int .i64 s.rev, .slice aj s.jobs.length cj, .slice an s.nodes.length cn, .slice al s.leases.length cl] 30)).alloc (.cells #[.int .i64 0, .slice none 0 0, .slice none 0 0, .slice none 0 0] 30) = W0 := ⟨_, rfl⟩
  obtain ⟨p0, r0, B0, sz0⟩ := two_new w _ _ _ _ _ W0 hW0
  have HC := check_any s.rev aj an al cj cn cl s.jobs s.nodes s.leases hw W0 (hT.below B0) (jobsAt_next hmj B0) (nodesAt_next hmn B0) (leasesAt_next hml B0)
  have es : (⟨s.rev, s.jobs, s.nodes, s.leases⟩ : StD) = s := rfl
  rw [es] at HC
  have HC := Lib.hid HC
  have HM := Lib.hid (And.intro hmj (And.intro hmn hml))
  have HT := Lib.hid hT
  have c0 := objAt_cell p0 0 rfl
  have c1 := objAt_cell p0 1 rfl
  have c2 := objAt_cell p0 2 rfl
  have c3 := objAt_cell p0 3 rfl
  have P0 := Lib.hid (And.intro p0 (And.intro r0 (And.intro B0 sz0)))
  have HV := Lib.hid (fun w => isVersion_is b w)
  clear hmj hmn hml hT hw es p0 r0 B0 sz0
  by_cases hc : checkE V8 s ≠ 0
  · have hr : dnR s b = (zeroSt, checkE V8 s) := by unfold dnR; rw [if_pos hc]
    rw [hr]
    have hc' : ((checkE V8 s : Int) != 0) = true := by simp; omega
    have HN : Hid (¬ checkE V8 s = 0) := hc
    clear hr hc
    generalize checkE V8 s = c at HC hc' HN ⊢
    go_enter Tryz.func7, Tryz.ntmps7
    go_wp2_with fail
    refine HC.out.mono ?_
    rintro e w1 ⟨rfl, b1⟩
    obtain ⟨p0, r0, B0, sz0⟩ := P0.out
    have r1 := objAt_next r0 b1
    have B1 := below_trans B0 b1 B0.size
    have f0 := objAt_free r1 0
    have f1 := objAt_free r1 1
    have f2 := objAt_free r1 2
    have f3 := objAt_free r1 3
    have m0 := objAt_cell r1 0 rfl
    have m1 := objAt_cell r1 1 rfl
    have m2 := objAt_cell r1 2 rfl
    have m3 := objAt_cell r1 3 rfl
    have oF := obj_put4 r1 (.int .i64 0) (.slice none 0 0) (.slice none 0 0) (.slice none 0 0)
    have BF := Lib.hid (below_put4 B1 (b := w.heap.size + 1) (by omega) (.int .i64 0) (.slice none 0 0) (.slice none 0 0) (.slice none 0 0))
    have t0 := objAt_cell oF 0 rfl
    have t1 := objAt_cell oF 1 rfl
    have t2 := objAt_cell oF 2 rfl
    have t3 := objAt_cell oF 3 rfl
    have TT := Lib.hid (And.intro t0 (And.intro t1 (And.intro t2 t3)))
    clear oF t0 t1 t2 t3 p0 r0 B0 sz0 r1 B1 b1
    go_wp2
    obtain ⟨t0, t1, t2, t3⟩ := TT.out
    exact bodyPost_ret (v := .tuple #[.agg #[.int .i64 0, .slice none 0 0, .slice none 0 0, .slice none 0 0], .bool false, .int .i64 (c : Int)]) (by simp [results, Tryz.results7, go_sem, t0, t1, t2, t3]) rfl ⟨none, none, none, 0, 0, 0, false, rfl, ⟨fun h => (by cases h), fun h => absurd h.1 HN.out⟩, ownS_zero _ _, BF.out⟩
  · have hc0 : checkE V8 s = 0 := by simpa using hc
    rw [hc0] at HC
    cases hv : okV b with
    | false =>
      have hr : dnR s b = (zeroSt, 1) := by unfold dnR; rw [if_neg hc, hv]; rfl
      rw [hr]
      rw [hv] at HV
      clear hr hc hc0 hv
      go_enter Tryz.func7, Tryz.ntmps7
      go_wp2_with fail
      refine HC.out.mono ?_
      rintro e w1 ⟨rfl, b1⟩
      go_wp2_with fail
      refine (HV.out _).mono ?_
      rintro e w' ⟨rfl, rfl⟩
      obtain ⟨p0, r0, B0, sz0⟩ := P0.out
      have r1 := objAt_next r0 b1
      have B1 := below_trans B0 b1 B0.size
      have f0 := objAt_free r1 0
      have f1 := objAt_free r1 1
      have f2 := objAt_free r1 2
      have f3 := objAt_free r1 3
      have m0 := objAt_cell r1 0 rfl
      have m1 := objAt_cell r1 1 rfl
      have m2 := objAt_cell r1 2 rfl
      have m3 := objAt_cell r1 3 rfl
      have oF := obj_put4 r1 (.int .i64 0) (.slice none 0 0) (.slice none 0 0) (.slice none 0 0)
      have BF := Lib.hid (below_put4 B1 (b := w.heap.size + 1) (by omega) (.int .i64 0) (.slice none 0 0) (.slice none 0 0) (.slice none 0 0))
      have t0 := objAt_cell oF 0 rfl
      have t1 := objAt_cell oF 1 rfl
      have t2 := objAt_cell oF 2 rfl
      have t3 := objAt_cell oF 3 rfl
      have TT := Lib.hid (And.intro t0 (And.intro t1 (And.intro t2 t3)))
      clear oF t0 t1 t2 t3 p0 r0 B0 sz0 r1 B1 b1
      go_wp2
      obtain ⟨t0, t1, t2, t3⟩ := TT.out
      exact bodyPost_ret (v := .tuple #[.agg #[.int .i64 0, .slice none 0 0, .slice none 0 0, .slice none 0 0], .bool false, .int .i64 1]) (by simp [results, Tryz.results7, go_sem, t0, t1, t2, t3]) rfl ⟨none, none, none, 0, 0, 0, false, rfl, ⟨fun h => (by cases h), fun h => (by have := h.1; omega)⟩, ownS_zero _ _, BF.out⟩
    | true =>
      have hr : dnR s b = (dnS b s, 0) := by unfold dnR; rw [if_neg hc, if_pos hv]
      rw [hr]
      rw [hv] at HV
      have hb3 := (okV_iff b).1 hv
      have HUR := Lib.hid (upR_dn hc0 hb3)
      have HWD := Lib.hid (wState_valid (valid8_dn hc0 b))
      obtain ⟨hl, _⟩ := small_valid hc0
      have HLN := Lib.hid (show (upS b 3 (dnS b s)).jobs.length ≤ 140737488355328 ∧ (upS b 3 (dnS b s)).nodes.length ≤ 140737488355328 ∧ (upS b 3 (dnS b s)).leases.length ≤ 140737488355328 by
        have e1 := up_lens b 3 (dnS b s)
        have e2 := dn_lens b s
        rw [e1.1, e1.2.1, e1.2.2, e2.1, e2.2.1, e2.2.2]; omega)
      obtain ⟨D, hD⟩ : ∃ D, dnS b s = D := ⟨_, rfl⟩
      rw [hD] at HUR HWD HLN ⊢
      have HD := Lib.hid hD
      obtain ⟨U, hU⟩ : ∃ U, upS b 3 D = U := ⟨_, rfl⟩
      rw [hU] at HUR HLN ⊢
      have HCK := Lib.hid hc0
      clear hr hc hc0 hv hD hU
      go_enter Tryz.func7, Tryz.ntmps7
      go_wp2_with fail
      refine HC.out.mono ?_
      rintro e w1 ⟨rfl, b1⟩
      go_wp2_with fail
      refine (HV.out _).mono ?_
      rintro e w' ⟨rfl, rfl⟩
      obtain ⟨p0, r0, B0, sz0⟩ := P0.out
      have p1 := objAt_next p0 b1
      have r1 := objAt_next r0 b1
      have B1 := below_trans B0 b1 B0.size
      have sz1 : w.heap.size + 2 ≤ w1.heap.size := by have := b1.size; omega
      have HS := Lib.hid (sep_any s aj an al cj cn cl HCK.out w1 (jobsAt_next HM.out.1 B1) (nodesAt_next HM.out.2.1 B1) (leasesAt_next HM.out.2.2 B1))
      clear c0 c1 c2 c3
      have c0 := objAt_cell p1 0 rfl
      have c1 := objAt_cell p1 1 rfl
      have c2 := objAt_cell p1 2 rfl
      have c3 := objAt_cell p1 3 rfl
      have P1 := Lib.hid (And.intro p1 (And.intro r1 (And.intro B1 sz1)))
      clear p0 r0 B0 sz0 p1 r1 B1 sz1 b1 HC
      go_wp2_with fail
      refine HS.out.mono ?_
      rintro e w2 ⟨bj, bn, bl, dj, dn, dl, rfl, ow2, b2⟩
      obtain ⟨p1, r1, B1, sz1⟩ := P1.out
      obtain ⟨L, hL⟩ : ∃ L, w2.heap.size = L := ⟨_, rfl⟩
      obtain ⟨W2, hW2⟩ : ∃ W2, w2.alloc (.cells #[.int .i64 s.rev, .slice bj s.jobs.length dj, .slice bn s.nodes.length dn, .slice bl s.leases.length dl] 30) = W2 := ⟨_, rfl⟩
      have bA := below_one w2 (.cells #[.int .i64 s.rev, .slice bj s.jobs.length dj, .slice bn s.nodes.length dn, .slice bl s.leases.length dl] 30)
      have q3 := objAt_new w2 #[.int .i64 s.rev, .slice bj s.jobs.length dj, .slice bn s.nodes.length dn, .slice bl s.leases.length dl] 30
      rw [hW2] at bA q3
      rw [hL] at q3
      have p3 := objAt_next (objAt_next p1 b2) bA
      have r3 := objAt_next (objAt_next r1 b2) bA
      have B2 := below_trans B1 b2 B1.size
      have B3 := below_trans B2 bA B2.size
      have o3 := ownS_low (B' := w.heap.size) (ownS_next ow2 bA) (by omega)
      have sL : w.heap.size + 2 ≤ L := by have := b2.size; omega
      have P3 := Lib.hid (And.intro p3 (And.intro r3 (And.intro q3 (And.intro B3 o3))))
      clear c0 c1 c2 c3 p1 r1 B1 sz1 p3 r3 q3 B2 B3 o3 bA b2 ow2 HS
      go_wp2
      go_loopw [9] (fun iv wr => ∃ (v : Int) (t : StD) (aj' an' al' : Option Addr) (cj' cn' cl' : Nat), iv = .int .i64 v ∧ b ≤ v ∧ v ≤ 3 ∧ ObjAt w.heap.size #[.int .i64 s.rev, .slice aj s.jobs.length cj, .slice an s.nodes.length cn, .slice al s.leases.length cl] 30 wr ∧ ObjAt (w.heap.size + 1) #[.int .i64 0, .slice none 0 0, .slice none 0 0, .slice none 0 0] 30 wr ∧ ObjAt L #[.int .i64 t.rev, .slice aj' t.jobs.length cj', .slice an' t.nodes.length cn', .slice al' t.leases.length cl'] 30 wr ∧ Below w.heap.size w wr ∧ OwnS w.heap.size aj' an' al' cj' cn' cl' t wr ∧ Hid (t = dnS v s)) (fun iv _ => (intOf iv - b).toNat)
      case atStart =>
        obtain ⟨p3, r3, q3, B3, o3⟩ := P3.out
        exact ⟨3, s, bj, bn, bl, dj, dn, dl, rfl, by omega, by omega, p3, r3, q3, B3, o3, (dn_three s).symm⟩
      case round =>
        clear P3
        obtain ⟨v, t, aj', an', al', cj', cn', cl', rfl, hv1, hv2, p, r, q, B, ow, HE⟩ := hrel
        have sz := objAt_lt q
        by_cases h : b < v
        · have hv : v = 2 ∨ v = 3 := by omega
          have hl' : t.jobs.length ≤ 40 ∧ t.nodes.length ≤ 40 ∧ t.leases.length ≤ 40 := by
            have e := dn_lens v s
            rw [← HE.out] at e
            rw [e.1, e.2.1, e.2.2]; exact hl
          have HR := lower_any v hv t aj' an' al' cj' cn' cl' w.heap.size hl' wr (by omega) ow
          have hn : lowerS v t = dnS (v - 1) s := by rw [HE.out]; exact lower_next (by omega) (by omega)
          rw [hn] at HR
          have HR := Lib.hid HR
          have wv : IntKind.i64.wrap (v - 1) = v - 1 := IntWalk.i64_in _ (by omega)
          have c0 := objAt_cell q 0 rfl
          have c1 := objAt_cell q 1 rfl
          have c2 := objAt_cell q 2 rfl
          have c3 := objAt_cell q 3 rfl
          have P := Lib.hid (And.intro p (And.intro r (And.intro q B)))
          obtain ⟨u, hu⟩ : ∃ u, dnS (v - 1) s = u := ⟨_, rfl⟩
          rw [hu] at HR
          have HU := Lib.hid hu
          clear p r q B ow hn hv hl' hu sz
          go_wp2_with fail
          refine HR.out.mono ?_
          rintro e w3 ⟨ej, en, el, gj, gn, gl, rfl, ow3, b3⟩
          obtain ⟨p, r, q, B⟩ := P.out
          have p4 := objAt_next p b3
          have r4 := objAt_next r b3
          have q4 := objAt_next q b3
          have B4 := below_trans B b3 B.size
          have p5 := other_put4 p4 (b := L) (by omega) (.int .i64 u.rev) (.slice ej u.jobs.length gj) (.slice en u.nodes.length gn) (.slice el u.leases.length gl)
          have r5 := other_put4 r4 (b := L) (by omega) (.int .i64 u.rev) (.slice ej u.jobs.length gj) (.slice en u.nodes.length gn) (.slice el u.leases.length gl)
          have q5 := obj_put4 q4 (.int .i64 u.rev) (.slice ej u.jobs.length gj) (.slice en u.nodes.length gn) (.slice el u.leases.length gl)
          have B5 := below_put4 B4 (b := L) (by omega) (.int .i64 u.rev) (.slice ej u.jobs.length gj) (.slice en u.nodes.length gn) (.slice el u.leases.length gl)
          have o5 := ownS_put4 ow3 q4 (.int .i64 u.rev) (.slice ej u.jobs.length gj) (.slice en u.nodes.length gn) (.slice el u.leases.length gl)
          obtain ⟨W5, hW5⟩ : ∃ W5, (((w3.setCell ⟨L, 0, none⟩ (.int .i64 u.rev)).setCell ⟨L, 1, none⟩ (.slice ej u.jobs.length gj)).setCell ⟨L, 2, none⟩ (.slice en u.nodes.length gn)).setCell ⟨L, 3, none⟩ (.slice el u.leases.length gl) = W5 := ⟨_, rfl⟩
          rw [hW5] at p5 r5 q5 B5 o5
          have e0 := objAt_free q4 0
          have e1 := objAt_free q4 1
          have e2 := objAt_free q4 2
          have e3 := objAt_free q4 3
          have k0 := objAt_cell q4 0 rfl
          have k1 := objAt_cell q4 1 rfl
          have k2 := objAt_cell q4 2 rfl
          have k3 := objAt_cell q4 3 rfl
          have P5 := Lib.hid (And.intro p5 (And.intro r5 (And.intro q5 (And.intro B5 o5))))
          clear c0 c1 c2 c3 p r q B p4 r4 q4 B4 p5 r5 q5 B5 o5 b3 ow3 HR
          go_wp2
          go_roundw
          case rel =>
            obtain ⟨p5, r5, q5, B5, o5⟩ := P5.out
            exact ⟨v - 1, u, ej, en, el, gj, gn, gl, rfl, by omega, by omega, p5, r5, q5, B5, o5, HU.out.symm⟩
          case measure => simp [intOf]; omega
        · obtain rfl : v = b := by omega
          obtain rfl : t = D := by rw [HE.out]; exact HD.out
          have HS := ustate_any t aj' an' al' cj' cn' cl' v 3 HWD.out wr (HT.out.below B) (ownS_at ow).1 (ownS_at ow).2.1 (ownS_at ow).2.2
          rw [HUR.out] at HS
          have HS := Lib.hid HS
          have c0 := objAt_cell q 0 rfl
          have c1 := objAt_cell q 1 rfl
          have c2 := objAt_cell q 2 rfl
          have c3 := objAt_cell q 3 rfl
          have P := Lib.hid (And.intro p (And.intro r (And.intro q (And.intro B ow))))
          clear p r q B ow sz HE
          go_wp2_with fail
          refine HS.out.mono ?_
          rintro e w4 ⟨ej, en, el, gj, gn, gl, rfl, ow4, b4⟩
          obtain ⟨p, r, q, B, ow⟩ := P.out
          obtain ⟨R, hR⟩ : ∃ R, w4.heap.size = R := ⟨_, rfl⟩
          obtain ⟨W4, hW4⟩ : ∃ W4, w4.alloc (.cells #[.int .i64 U.rev, .slice ej U.jobs.length gj, .slice en U.nodes.length gn, .slice el U.leases.length gl] 30) = W4 := ⟨_, rfl⟩
          have bA := below_one w4 (.cells #[.int .i64 U.rev, .slice ej U.jobs.length gj, .slice en U.nodes.length gn, .slice el U.leases.length gl] 30)
          have z5 := objAt_new w4 #[.int .i64 U.rev, .slice ej U.jobs.length gj, .slice en U.nodes.length gn, .slice el U.leases.length gl] 30
          rw [hW4] at bA z5
          rw [hR] at z5
          have p5 := objAt_next (objAt_next p b4) bA
          have r5 := objAt_next (objAt_next r b4) bA
          have q5 := objAt_next (objAt_next q b4) bA
          have B4 := below_trans B b4 B.size
          have B5 := below_trans B4 bA B4.size
          have ow5 := ownS_next (ownS_next ow b4) bA
          have oz5 := ownS_next ow4 bA
          have sR : L < R := by have := objAt_lt q; have := b4.size; omega
          have D0 := downS_drew (⟨p5, q5, z5, ⟨_, _, _, _, r5⟩, B5, Nat.le_refl _, by omega, by omega⟩ : DownS w.heap.size L R _ _ _ _ _ _ _ _ _ _ _ _ w W4)
          have s0 := downS_all D0
          have HSM := Lib.hid (fun x (hb : Below W4.heap.size W4 x) => usame_is U s ej en el aj an al gj gn gl cj cn cl HLN.out x (jobsAt_next (ownS_at oz5).1 hb) (nodesAt_next (ownS_at oz5).2.1 hb) (leasesAt_next (ownS_at oz5).2.2 hb) (jobsAt_next (jobsAt_next HM.out.1 B5) hb) (nodesAt_next (nodesAt_next HM.out.2.1 B5) hb) (leasesAt_next (leasesAt_next HM.out.2.2 B5) hb))
          have HSM1 := Lib.hid (HSM.out W4.drew ((Below.refl _ _).drew))
          have OW5 := Lib.hid (ownS_next ow5 ((Below.refl _ _).drew))
          clear p r q B ow p5 r5 q5 z5 B4 B5 ow5 oz5 sR D0 bA b4 ow4 c0 c1 c2 c3 HSM P
          go_wp2_with fail
          go_region_held3 (fun x => ((x.cell? ⟨w.heap.size, 0, none⟩ = some (.int .i64 s.rev) ∧ x.cell? ⟨w.heap.size, 1, none⟩ = some (.slice aj s.jobs.length cj) ∧ x.cell? ⟨w.heap.size, 2, none⟩ = some (.slice an s.nodes.length cn) ∧ x.cell? ⟨w.heap.size, 3, none⟩ = some (.slice al s.leases.length cl)) ∧ (x.cell? ⟨L, 0, none⟩ = some (.int .i64 t.rev) ∧ x.cell? ⟨L, 1, none⟩ = some (.slice aj' t.jobs.length cj') ∧ x.cell? ⟨L, 2, none⟩ = some (.slice an' t.nodes.length cn') ∧ x.cell? ⟨L, 3, none⟩ = some (.slice al' t.leases.length cl')) ∧ (x.cell? ⟨R, 0, none⟩ = some (.int .i64 U.rev) ∧ x.cell? ⟨R, 1, none⟩ = some (.slice ej U.jobs.length gj) ∧ x.cell? ⟨R, 2, none⟩ = some (.slice en U.nodes.length gn) ∧ x.cell? ⟨R, 3, none⟩ = some (.slice el U.leases.length gl)) ∧ (x.frozen? ⟨w.heap.size + 1, 0, none⟩ = false ∧ x.frozen? ⟨w.heap.size + 1, 1, none⟩ = false ∧ x.frozen? ⟨w.heap.size + 1, 2, none⟩ = false ∧ x.frozen? ⟨w.heap.size + 1, 3, none⟩ = false)) ∧ DownS w.heap.size L R (.int .i64 s.rev) (.slice aj s.jobs.length cj) (.slice an s.nodes.length cn) (.slice al s.leases.length cl) (.int .i64 t.rev) (.slice aj' t.jobs.length cj') (.slice an' t.nodes.length cn') (.slice al' t.leases.length cl') (.int .i64 U.rev) (.slice ej U.jobs.length gj) (.slice en U.nodes.length gn) (.slice el U.leases.length gl) w x)
            (first | assumption | exact s0 | exact downS_all (downS_put (And.right (by assumption)) _ _ _ _))
            (first
              | (go_at_call 22; (with_reducible refine HSM1.out.mono ?_); rintro e x1 ⟨c, rfl, hcc, c1⟩; have s1 := downS_all (downS_call (And.right (by assumption)) c1); obtain ⟨_, _, _, ⟨a0, a1, a2, a3, rr⟩, _⟩ := And.right s1; have m0 := objAt_cell rr 0 rfl; have m1 := objAt_cell rr 1 rfl; have m2 := objAt_cell rr 2 rfl; have m3 := objAt_cell rr 3 rfl))
          all_goals
            have oF := obj_put4 rr (.int .i64 t.rev) (.slice aj' t.jobs.length cj') (.slice an' t.nodes.length cn') (.slice al' t.leases.length cl')
            have BF := Lib.hid (below_put4 s1.2.2.2.2.2.1 (b := w.heap.size + 1) (by omega) (.int .i64 t.rev) (.slice aj' t.jobs.length cj') (.slice an' t.nodes.length cn') (.slice al' t.leases.length cl'))
            have OF := Lib.hid (ownS_put4 (ownS_next OW5.out c1) rr (.int .i64 t.rev) (.slice aj' t.jobs.length cj') (.slice an' t.nodes.length cn') (.slice al' t.leases.length cl'))
            have t0 := objAt_cell oF 0 rfl
            have t1 := objAt_cell oF 1 rfl
            have t2 := objAt_cell oF 2 rfl
            have t3 := objAt_cell oF 3 rfl
            have TT := Lib.hid (And.intro t0 (And.intro t1 (And.intro t2 t3)))
            have HCC := Lib.hid hcc
            clear oF t0 t1 t2 t3 hcc
            go_wp2
            obtain ⟨t0, t1, t2, t3⟩ := TT.out
            exact bodyPost_ret (v := .tuple #[.agg #[.int .i64 t.rev, .slice aj' t.jobs.length cj', .slice an' t.nodes.length cn', .slice al' t.leases.length cl'], .bool c, .int .i64 0]) (by simp [results, Tryz.results7, go_sem, t0, t1, t2, t3]) rfl ⟨_, _, _, _, _, _, c, rfl, ⟨fun h => ⟨(by simp), HCC.out.1 h⟩, fun h => HCC.out.2 h.2⟩, OF.out, BF.out⟩
end Go.Proofs.YtclopkpfeofjmaaGreatDoor
